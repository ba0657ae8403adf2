/-
  OWN WORK. Vectors: whether they are within a box; moments.
-/
import Derived.Test.YtjneolfkfekdpaaGreatDoorMoB
namespace Go.Proofs.YtjneolfkfekdpaaGreatDoor
open Go Go.Am
noncomputable section

def nearL : List Value → Option Value
  | [.agg a, .agg b] => match a.toList, b.toList with
    | [.int .i64 p, .int .i64 q, .int .i64 r, .int .i64 s, .int .i64 t, .int .i64 u], [.int .i64 x, .int .i64 y, .int .i64 z] => some (vec (clampS x p q) (clampS y r s) (clampS z t u))
    | _, _ => none
  | _ => none
theorem nearL_some {l : List Value} {v : Value} (h : nearL l = some v) : ∃ p q r s t u x y z, l = [boxV p q r s t u, vec x y z] ∧ v = vec (clampS x p q) (clampS y r s) (clampS z t u) := by
  unfold nearL at h
  split at h
  · rename_i a b
    split at h
    · rename_i p q r s t u x y z ha hb
      cases h
      exact ⟨p, q, r, s, t, u, x, y, z, by rw [show a = #[gi p, gi q, gi r, gi s, gi t, gi u] from Array.toList_inj.1 ha, show b = #[gi x, gi y, gi z] from Array.toList_inj.1 hb]; rfl, rfl⟩
    · cases h
  · cases h
def orm3 : Orc := orElse 86 (flatSpec nearL) orm2
set_option maxRecDepth 100000 in
theorem orm3_ok : OrcOk Tryz.prog orm3 := by
  refine flatSpec_ok (fun l v h => ?_) orm2_ok
  obtain ⟨p, q, r, s, t, u, x, y, z, rfl, rfl⟩ := nearL_some h
  exact ⟨rfl, rfl, callC_ok mixed3 orm1_ok (noAsks_ok _) (Eq.mpr (nearest_run _ _ _ _ _ _ _ _ _ _) ⟨rfl, rfl, rfl, rfl, rfl, rfl, rfl⟩)⟩

def hasS (a b c d e f x y z : Int) : Bool := ieq (clampS x a b) x && (ieq (clampS y c d) y && (ieq (clampS z e f) z && true))
theorem has_run (x y z a b c d e f : Int) (K : Value → Prop) : callC Tryz.prog (exec Tryz.prog orm3 10) (syOf [(9, 15)]) noAsks (noLoops _) 20 37 #[boxV a b c d e f, vec x y z] (emp Tryz.prog) (fun v _ => K v) =
  (vec x y z = vec x y z ∧ K (.bool (hasS a b c d e f x y z))) := by kernel_rfl
def hasL : List Value → Option Value
  | [.agg a, .agg b] => match a.toList, b.toList with
    | [.int .i64 p, .int .i64 q, .int .i64 r, .int .i64 s, .int .i64 t, .int .i64 u], [.int .i64 x, .int .i64 y, .int .i64 z] => some (.bool (hasS p q r s t u x y z))
    | _, _ => none
  | _ => none
theorem hasL_some {l : List Value} {v : Value} (h : hasL l = some v) : ∃ p q r s t u x y z, l = [boxV p q r s t u, vec x y z] ∧ v = .bool (hasS p q r s t u x y z) := by
  unfold hasL at h
  split at h
  · rename_i a b
    split at h
    · rename_i p q r s t u x y z ha hb
      cases h
      exact ⟨p, q, r, s, t, u, x, y, z, by rw [show a = #[gi p, gi q, gi r, gi s, gi t, gi u] from Array.toList_inj.1 ha, show b = #[gi x, gi y, gi z] from Array.toList_inj.1 hb]; rfl, rfl⟩
    · cases h
  · cases h
def orm4 : Orc := orElse 37 (flatSpec hasL) orm3
set_option maxRecDepth 100000 in
theorem orm4_ok : OrcOk Tryz.prog orm4 := by
  refine flatSpec_ok (fun l v h => ?_) orm3_ok
  obtain ⟨p, q, r, s, t, u, x, y, z, rfl, rfl⟩ := hasL_some h
  exact ⟨rfl, rfl, callC_ok mixed3 orm3_ok (noAsks_ok _) (Eq.mpr (has_run _ _ _ _ _ _ _ _ _ _) ⟨rfl, rfl⟩)⟩

def inS (x y z m : Int) : Bool := hasS (negS m) m (negS m) m (negS m) m x y z
def vecE (x y z m : Int) : Int := whenS (!inS x y z m) 3
def vecR (x y z m : Int) : Int := firstS [withinS x (fwrap .i64 (0 - m)) m, withinS y (fwrap .i64 (0 - m)) m, withinS z (fwrap .i64 (0 - m)) m]
theorem checkVector_run (x y z m : Int) (K : Value → Prop) : callC Tryz.prog (exec Tryz.prog orm4 10) (syOf []) noAsks (noLoops _) 20 11 #[vec x y z, gi m] (emp Tryz.prog) (fun v _ => K v) =
  (vec x y z = vec x y z ∧ K (gi (vecE x y z m))) := by kernel_rfl
theorem CheckRange_run (x lo hi : Int) (K : Value → Prop) : callC Tryz.prog (exec Tryz.prog orm4 10) (syOf [(9, 1), (13, 1)]) noAsks (noLoops _) 20 13 #[gi x, gi lo, gi hi] (emp Tryz.prog) (fun v _ => K v) =
  ((ilt x lo = true → K (gi 3)) ∧ (ilt x lo = false → (ilt hi x = true → K (gi 3)) ∧ (ilt hi x = false → K (gi 0)))) := by kernel_rfl
end
end Go.Proofs.YtjneolfkfekdpaaGreatDoor
