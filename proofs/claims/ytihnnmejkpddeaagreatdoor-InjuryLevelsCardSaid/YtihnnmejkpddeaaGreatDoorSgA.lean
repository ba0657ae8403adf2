/-
  OWN WORK. Small functions of the program and of the reference.
-/
import Derived.Test.YtihnnmejkpddeaaGreatDoorSgM
namespace Go.Proofs.YtihnnmejkpddeaaGreatDoor
open Go Go.Am
noncomputable section
abbrev goN (i : Nat) : Value := .int .i64 (Int.ofNat i)
def orc0 : Orc := fun _ _ _ => none
theorem orc0_ok : OrcOk Tryz.prog orc0 := fun _ _ _ _ _ h => by cases h

def whenS (b : Bool) (e : Int) : Int := bif b then e else 0
def withinS (x lo hi : Int) : Int := whenS (ilt x lo || ilt hi x) 3
theorem When_run (b : Bool) (e : Int) (K : Value → AHeap → Prop) : callC Tryz.prog (exec Tryz.prog orc0 10) (syOf [(5, 1)]) noAsks (noLoops _) 20 26 #[.bool b, .int .i64 e] (emp Tryz.prog) K =
  ((b = true → K (.int .i64 e) (emp Tryz.prog)) ∧ (b = false → K (.int .i64 0) (emp Tryz.prog))) := by kernel_rfl
def whenL : List Value → Option Value
  | [.bool b, .int .i64 e] => some (.int .i64 (whenS b e))
  | _ => none
theorem whenL_some {l : List Value} {v : Value} (h : whenL l = some v) : ∃ b e, l = [.bool b, .int .i64 e] ∧ v = .int .i64 (whenS b e) := by
  unfold whenL at h
  split at h
  · cases h; exact ⟨_, _, rfl, rfl⟩
  · cases h
def orcA : Orc := orElse 26 (flatSpec whenL) orc0
theorem orcA_ok : OrcOk Tryz.prog orcA := by
  refine flatSpec_ok (fun l v h => ?_) orc0_ok
  obtain ⟨b, e, rfl, rfl⟩ := whenL_some h
  refine ⟨rfl, rfl, callC_ok mixed orc0_ok (noAsks_ok _) (by rw [When_run]; cases b <;> simp [whenS])⟩

theorem CheckRange_run (x lo hi : Int) (K : Value → AHeap → Prop) : callC Tryz.prog (exec Tryz.prog orcA 10) (syOf [(9, 1), (13, 1)]) noAsks (noLoops _) 20 39 #[.int .i64 x, .int .i64 lo, .int .i64 hi] (emp Tryz.prog) K =
  ((ilt x lo = true → K (.int .i64 3) (emp Tryz.prog)) ∧ (ilt x lo = false → (ilt hi x = true → K (.int .i64 3) (emp Tryz.prog)) ∧ (ilt hi x = false → K (.int .i64 0) (emp Tryz.prog)))) := by kernel_rfl
def withinL : List Value → Option Value
  | [.int .i64 x, .int .i64 lo, .int .i64 hi] => some (.int .i64 (withinS x lo hi))
  | _ => none
theorem withinL_some {l : List Value} {v : Value} (h : withinL l = some v) : ∃ x lo hi, l = [.int .i64 x, .int .i64 lo, .int .i64 hi] ∧ v = .int .i64 (withinS x lo hi) := by
  unfold withinL at h
  split at h
  · cases h; exact ⟨_, _, _, rfl, rfl⟩
  · cases h

def orcC : Orc := orElse 39 (flatSpec withinL) orcA
theorem orcC_ok : OrcOk Tryz.prog orcC := by
  refine flatSpec_ok (fun l v h => ?_) orcA_ok
  obtain ⟨x, lo, hi, rfl, rfl⟩ := withinL_some h
  refine ⟨rfl, rfl, callC_ok mixed orcA_ok (noAsks_ok _) (by
    rw [CheckRange_run]
    unfold withinS whenS
    generalize ilt x lo = b1
    generalize ilt hi x = b2
    cases b1 <;> cases b2 <;> simp)⟩
end
end Go.Proofs.YtihnnmejkpddeaaGreatDoor
