/-
  OWN WORK. Vectors: the small functions of the program and of the reference.
-/
import Derived.Test.YtjneolfkfekdpaaGreatDoorAw3A
import Derived.Test.YtjneolfkfekdpaaGreatDoorAm5
namespace Go.Proofs.YtjneolfkfekdpaaGreatDoor
open Go Go.Am
noncomputable section

abbrev gi (x : Int) : Value := .int .i64 x
def whenS (b : Bool) (e : Int) : Int := bif b then e else 0
def withinS (x lo hi : Int) : Int := whenS (ilt x lo || ilt hi x) 3
def maxS (a b : Int) : Int := if b > a then b else a
def minS (a b : Int) : Int := if b < a then b else a
def clampS (n lo hi : Int) : Int := minS (maxS n lo) hi
def negS (x : Int) : Int := IntKind.wrap .i64 (0 - x)
def firstS : List Int → Int
  | [] => 0
  | x :: r => bif ieq x 0 then firstS r else x

theorem checkWhen_run (b : Bool) (e : Int) (K : Value → AHeap → Prop) : callC Tryz.prog (exec Tryz.prog pieces3 10) (syOf [(5, 1)]) noAsks (noLoops _) 20 35 #[.bool b, gi e] (emp Tryz.prog) K =
  ((b = true → K (gi e) (emp Tryz.prog)) ∧ (b = false → K (gi 0) (emp Tryz.prog))) := by kernel_rfl
theorem When_run (b : Bool) (e : Int) (K : Value → AHeap → Prop) : callC Tryz.prog (exec Tryz.prog pieces3 10) (syOf [(5, 1)]) noAsks (noLoops _) 20 38 #[.bool b, gi e] (emp Tryz.prog) K =
  ((b = true → K (gi e) (emp Tryz.prog)) ∧ (b = false → K (gi 0) (emp Tryz.prog))) := by kernel_rfl
theorem clamped_run (x a b : Int) (K : Value → Prop) : callC Tryz.prog (exec Tryz.prog pieces3 10) (syOf []) noAsks (noLoops _) 20 136 #[gi x, .agg #[gi a, gi b]] (emp Tryz.prog) (fun v _ => K v) =
  K (gi (clampS x a b)) := by kernel_rfl
theorem cube_run (x : Int) (K : Value → Prop) : callC Tryz.prog (exec Tryz.prog pieces3 10) (syOf []) noAsks (noLoops _) 20 36 #[gi x] (emp Tryz.prog) (fun v _ => K v) =
  K (.agg #[gi (negS x), gi x, gi (negS x), gi x, gi (negS x), gi x]) := by kernel_rfl

def whenL : List Value → Option Value
  | [.bool b, .int .i64 e] => some (.int .i64 (whenS b e))
  | _ => none
theorem whenL_some {l : List Value} {v : Value} (h : whenL l = some v) : ∃ b e, l = [.bool b, .int .i64 e] ∧ v = .int .i64 (whenS b e) := by
  unfold whenL at h
  split at h
  · cases h; exact ⟨_, _, rfl, rfl⟩
  · cases h
def clampL : List Value → Option Value
  | [.int .i64 x, .agg a] => match a.toList with
    | [.int .i64 lo, .int .i64 hi] => some (gi (clampS x lo hi))
    | _ => none
  | _ => none
theorem clampL_some {l : List Value} {v : Value} (h : clampL l = some v) : ∃ x lo hi, l = [gi x, .agg #[gi lo, gi hi]] ∧ v = gi (clampS x lo hi) := by
  unfold clampL at h
  split at h
  · rename_i x a
    split at h
    · rename_i lo hi ha
      cases h
      exact ⟨x, lo, hi, by rw [show a = #[gi lo, gi hi] by rw [← ha]], rfl⟩
    · cases h
  · cases h
def cubeL : List Value → Option Value
  | [.int .i64 x] => some (.agg #[gi (negS x), gi x, gi (negS x), gi x, gi (negS x), gi x])
  | _ => none
def orm1 : Orc := orElse 36 (flatSpec cubeL) (orElse 136 (flatSpec clampL) (orElse 38 (flatSpec whenL) (orElse 35 (flatSpec whenL) pieces3)))
set_option maxRecDepth 100000 in
theorem orm1_ok : OrcOk Tryz.prog orm1 := by
  refine flatSpec_ok (fun l v h => ?_) (flatSpec_ok (fun l v h => ?_) (flatSpec_ok (fun l v h => ?_) (flatSpec_ok (fun l v h => ?_) pieces3_ok)))
  · unfold cubeL at h
    split at h
    · cases h
      exact ⟨rfl, rfl, callC_ok mixed3 pieces3_ok (noAsks_ok _) (Eq.mpr (cube_run _ _) rfl)⟩
    · cases h
  · obtain ⟨x, lo, hi, rfl, rfl⟩ := clampL_some h
    exact ⟨rfl, rfl, callC_ok mixed3 pieces3_ok (noAsks_ok _) (Eq.mpr (clamped_run _ _ _ _) rfl)⟩
  · obtain ⟨b, e, rfl, rfl⟩ := whenL_some h
    refine ⟨rfl, rfl, callC_ok mixed3 pieces3_ok (noAsks_ok _) (by rw [When_run]; cases b <;> simp [whenS])⟩
  · obtain ⟨b, e, rfl, rfl⟩ := whenL_some h
    refine ⟨rfl, rfl, callC_ok mixed3 pieces3_ok (noAsks_ok _) (by rw [checkWhen_run]; cases b <;> simp [whenS])⟩

def vec (x y z : Int) : Value := .agg #[gi x, gi y, gi z]
def boxV (a b c d e f : Int) : Value := .agg #[gi a, gi b, gi c, gi d, gi e, gi f]
theorem nearest_run (x y z a b c d e f : Int) (K : Value → Prop) : callC Tryz.prog (exec Tryz.prog orm1 10) (syOf []) noAsks (noLoops _) 20 86 #[boxV a b c d e f, vec x y z] (emp Tryz.prog) (fun v _ => K v) =
  (Value.agg #[gi e, gi f] = .agg #[gi e, gi f] ∧ gi z = gi z ∧ Value.agg #[gi c, gi d] = .agg #[gi c, gi d] ∧ gi y = gi y ∧ Value.agg #[gi e, gi f] = .agg #[gi e, gi f] ∧ gi z = gi z ∧ K (vec (clampS x a b) (clampS y c d) (clampS z e f))) := by kernel_rfl
end
end Go.Proofs.YtjneolfkfekdpaaGreatDoor
