/-
  OWN WORK. Moments, by the program and by the reference; whether a result is the expected one.
-/
import Derived.Test.YtjneolfkfekdpaaGreatDoorMoC
namespace Go.Proofs.YtjneolfkfekdpaaGreatDoor
open Go Go.Am
noncomputable section

def vecL (S : Int → Int → Int → Int → Int) : List Value → Option Value
  | [.agg a, .int .i64 m] => match a.toList with
    | [.int .i64 x, .int .i64 y, .int .i64 z] => some (gi (S x y z m))
    | _ => none
  | _ => none
theorem vecL_some {S : Int → Int → Int → Int → Int} {l : List Value} {v : Value} (h : vecL S l = some v) : ∃ x y z m, l = [vec x y z, gi m] ∧ v = gi (S x y z m) := by
  unfold vecL at h
  split at h
  · rename_i a m
    split at h
    · rename_i x y z ha
      cases h
      exact ⟨x, y, z, m, by rw [show a = #[gi x, gi y, gi z] from Array.toList_inj.1 ha]; rfl, rfl⟩
    · cases h
  · cases h
def withinL : List Value → Option Value
  | [.int .i64 x, .int .i64 lo, .int .i64 hi] => some (.int .i64 (withinS x lo hi))
  | _ => none
theorem withinL_some {l : List Value} {v : Value} (h : withinL l = some v) : ∃ x lo hi, l = [.int .i64 x, .int .i64 lo, .int .i64 hi] ∧ v = .int .i64 (withinS x lo hi) := by
  unfold withinL at h
  split at h
  · cases h; exact ⟨_, _, _, rfl, rfl⟩
  · cases h
def orm5 : Orc := orElse 13 (flatSpec withinL) (orElse 11 (flatSpec (vecL vecE)) orm4)
set_option maxRecDepth 100000 in
theorem orm5_ok : OrcOk Tryz.prog orm5 := by
  refine flatSpec_ok (fun l v h => ?_) (flatSpec_ok (fun l v h => ?_) orm4_ok)
  · obtain ⟨x, lo, hi, rfl, rfl⟩ := withinL_some h
    refine ⟨rfl, rfl, callC_ok mixed3 orm4_ok (noAsks_ok _) (by
      rw [CheckRange_run]
      unfold withinS whenS
      generalize ilt x lo = b1
      generalize ilt hi x = b2
      cases b1 <;> cases b2 <;> simp)⟩
  · obtain ⟨x, y, z, m, rfl, rfl⟩ := vecL_some h
    exact ⟨rfl, rfl, callC_ok mixed3 orm4_ok (noAsks_ok _) (Eq.mpr (checkVector_run _ _ _ _ _) ⟨rfl, rfl⟩)⟩
theorem CheckVector_run (x y z m : Int) (K : Value → Prop) : callC Tryz.prog (exec Tryz.prog orm5 10) (syOf []) noAsks (noLoops _) 20 6 #[vec x y z, gi m] (emp Tryz.prog) (fun v _ => K v) =
  (gi z = gi z ∧ gi y = gi y ∧ gi z = gi z ∧ K (gi (vecR x y z m))) := by kernel_rfl

def comb (a b c d e : Int) : Int := fwrap .i64 (fwrap .i64 (a + fwrap .i64 (b * c)) - fwrap .i64 (d * e))
def momE (a b c d e f g h i : Int) : Int := firstS [vecE a b c 1000000, vecE d e f 1000000, vecE g h i 10000]
def momR (a b c d e f g h i : Int) : Int := firstS [vecR a b c 1000000, vecR d e f 1000000, vecR g h i 10000]
theorem Moment_run (a b c d e f g h i : Int) (K : Value → Prop) : callC Tryz.prog (exec Tryz.prog orm5 10) (syOf [(18, 1)]) noAsks (noLoops _) 20 4 #[vec a b c, vec d e f, vec g h i] (emp Tryz.prog) (fun v _ => K v) =
  (vec g h i = vec g h i ∧ vec d e f = vec d e f ∧ vec g h i = vec g h i ∧ ((!ieq (momE a b c d e f g h i) 0) = true → K (.tuple #[vec 0 0 0, gi (momE a b c d e f g h i)])) ∧ ((!ieq (momE a b c d e f g h i) 0) = false → K (.tuple #[vec (comb a h f i e) (comb b i d g f) (comb c g e h d), gi 0]))) := by kernel_rfl
theorem RefMoment_run (a b c d e f g h i : Int) (K : Value → Prop) : callC Tryz.prog (exec Tryz.prog orm5 10) (syOf []) noAsks (noLoops _) 20 7 #[vec a b c, vec d e f, vec g h i] (emp Tryz.prog) (fun v _ => K v) =
  K (vec (comb a h f i e) (comb b i d g f) (comb c g e h d)) := by kernel_rfl
def eqv (x y z x' y' z' : Int) : Bool := ieq x x' && (ieq y y' && (ieq z z' && true))
theorem place_run (x y z e n a b c : Int) (K : Value → Prop) : callC Tryz.prog (exec Tryz.prog orm5 10) (syOf [(10, 1), (14, 15), (15, 1)]) noAsks (noLoops _) 20 8 #[vec x y z, gi e, gi n, vec a b c] (emp Tryz.prog) (fun v _ => K v) =
  (((!ieq n 0) = true → (eqv x y z 0 0 0 = true → K (.bool (ieq e n))) ∧ (eqv x y z 0 0 0 = false → K (.bool false))) ∧
   ((!ieq n 0) = false → (eqv x y z a b c = true → K (.bool (ieq e n))) ∧ (eqv x y z a b c = false → K (.bool false)))) := by kernel_rfl
end
end Go.Proofs.YtjneolfkfekdpaaGreatDoor
