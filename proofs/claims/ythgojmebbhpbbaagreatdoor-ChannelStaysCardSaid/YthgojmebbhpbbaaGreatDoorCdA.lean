/-
  OWN WORK. Stage 2: its tables; small functions of the program and of the reference.
-/
import Derived.Test.YthgojmebbhpbbaaGreatDoorAm5
import Derived.Test.YthgojmebbhpbbaaGreatDoorProg
import Derived.KernelRfl
namespace Go.Proofs.YthgojmebbhpbbaaGreatDoor
open Go Go.Am
noncomputable section
def tabs2 : Tabs := [(0, [.string ⟨#[45]⟩, .string ⟨#[120, 121, 122]⟩, .string ⟨#[43, 45]⟩, .string ⟨#[65, 66, 67, 68, 69, 70, 71, 72, 73, 74, 75, 76, 77, 78, 79, 80, 81, 82, 83, 84, 85, 86, 87, 88, 89, 90]⟩]), (3, [.int .u64 1, .int .u64 10, .int .u64 100, .int .u64 1000, .int .u64 10000, .int .u64 100000, .int .u64 1000000, .int .u64 10000000, .int .u64 100000000, .int .u64 1000000000, .int .u64 10000000000, .int .u64 100000000000, .int .u64 1000000000000, .int .u64 10000000000000, .int .u64 100000000000000, .int .u64 1000000000000000, .int .u64 10000000000000000, .int .u64 100000000000000000, .int .u64 1000000000000000000, .int .u64 10000000000000000000])]
theorem mixed : Tryz.prog.follows .mixedOrders = true := by kernel_rfl
theorem tabs2_flat : tabsFlat Tryz.prog.globals.size tabs2 = true := by kernel_rfl
def orc0 : Orc := fun _ _ _ => none
theorem orc0_ok : OrcOk Tryz.prog orc0 := fun _ _ _ _ _ h => by cases h
def whenS (b : Bool) (e : Int) : Int := bif b then e else 0
def withinS (x lo hi : Int) : Int := whenS (ilt x lo || ilt hi x) 3
def letterS (c : Int) : Bool := !ilt c 65 && !ilt 90 c || !ilt c 97 && !ilt 122 c
def digitS (c : Int) : Bool := !ilt c 48 && !ilt 57 c
theorem when_run (b : Bool) (e : Int) (K : Value → AHeap → Prop) : callC Tryz.prog (exec Tryz.prog orc0 10) (syOf [(5, 1)]) noAsks (noLoops _) 20 112 #[.bool b, .int .i64 e] (emp Tryz.prog) K =
 ((b = true → K (.int .i64 e) (emp Tryz.prog)) ∧ (b = false → K (.int .i64 0) (emp Tryz.prog))) := by kernel_rfl
theorem When_run (b : Bool) (e : Int) (K : Value → AHeap → Prop) : callC Tryz.prog (exec Tryz.prog orc0 10) (syOf [(5, 1)]) noAsks (noLoops _) 20 51 #[.bool b, .int .i64 e] (emp Tryz.prog) K =
 ((b = true → K (.int .i64 e) (emp Tryz.prog)) ∧ (b = false → K (.int .i64 0) (emp Tryz.prog))) := by kernel_rfl
def whenL : List Value → Option Value
 | [.bool b, .int .i64 e] => some (.int .i64 (whenS b e))
 | _ => none
theorem whenL_some {l : List Value} {v : Value} (h : whenL l = some v) : ∃ b e, l = [.bool b, .int .i64 e] ∧ v = .int .i64 (whenS b e) := by
 unfold whenL at h
 split at h
 ·cases h; exact ⟨_, _, rfl, rfl⟩
 ·cases h
def orcA : Orc := orElse 51 (flatSpec whenL) (orElse 112 (flatSpec whenL) orc0)
theorem orcA_ok : OrcOk Tryz.prog orcA := by
 refine flatSpec_ok (fun l v h => ?_) (flatSpec_ok (fun l v h => ?_) orc0_ok)
 ·obtain ⟨b, e, rfl, rfl⟩ := whenL_some h
  refine ⟨rfl, rfl, callC_ok mixed orc0_ok (noAsks_ok _) (by rw [When_run]; cases b <;> simp [whenS])⟩
 ·obtain ⟨b, e, rfl, rfl⟩ := whenL_some h
  refine ⟨rfl, rfl, callC_ok mixed orc0_ok (noAsks_ok _) (by rw [when_run]; cases b <;> simp [whenS])⟩
theorem CheckRange_run (x lo hi : Int) (K : Value → AHeap → Prop) : callC Tryz.prog (exec Tryz.prog orcA 10) (syOf [(9, 1), (13, 1)]) noAsks (noLoops _) 20 52 #[.int .i64 x, .int .i64 lo, .int .i64 hi] (emp Tryz.prog) K =
 ((ilt x lo = true → K (.int .i64 3) (emp Tryz.prog)) ∧ (ilt x lo = false → (ilt hi x = true → K (.int .i64 3) (emp Tryz.prog)) ∧ (ilt hi x = false → K (.int .i64 0) (emp Tryz.prog)))) := by kernel_rfl
def withinL : List Value → Option Value
 | [.int .i64 x, .int .i64 lo, .int .i64 hi] => some (.int .i64 (withinS x lo hi))
 | _ => none
theorem withinL_some {l : List Value} {v : Value} (h : withinL l = some v) : ∃ x lo hi, l = [.int .i64 x, .int .i64 lo, .int .i64 hi] ∧ v = .int .i64 (withinS x lo hi) := by
 unfold withinL at h
 split at h
 ·cases h; exact ⟨_, _, _, rfl, rfl⟩
 ·cases h
theorem isLetter_run (c : Int) (K : Value → AHeap → Prop) : callC Tryz.prog (exec Tryz.prog orcA 10) (syOf [(4, 1), (7, 1), (11, 1), (14, 1)]) noAsks (noLoops _) 20 109 #[.int .i32 c] (emp Tryz.prog) K =
 (((!ilt c 65) = true → ((!ilt 90 c) = true → K (.bool true) (emp Tryz.prog)) ∧ ((!ilt 90 c) = false → ((!ilt c 97) = true → ((!ilt 122 c) = true → K (.bool true) (emp Tryz.prog)) ∧ ((!ilt 122 c) = false → K (.bool false) (emp Tryz.prog))) ∧ ((!ilt c 97) = false → K (.bool false) (emp Tryz.prog)))) ∧
  ((!ilt c 65) = false → ((!ilt c 97) = true → ((!ilt 122 c) = true → K (.bool true) (emp Tryz.prog)) ∧ ((!ilt 122 c) = false → K (.bool false) (emp Tryz.prog))) ∧ ((!ilt c 97) = false → K (.bool false) (emp Tryz.prog)))) := by kernel_rfl
theorem isDigit_run (c : Int) (K : Value → AHeap → Prop) : callC Tryz.prog (exec Tryz.prog orcA 10) (syOf [(4, 1), (7, 1)]) noAsks (noLoops _) 20 110 #[.int .i32 c] (emp Tryz.prog) K =
 (((!ilt c 48) = true → ((!ilt 57 c) = true → K (.bool true) (emp Tryz.prog)) ∧ ((!ilt 57 c) = false → K (.bool false) (emp Tryz.prog))) ∧ ((!ilt c 48) = false → K (.bool false) (emp Tryz.prog))) := by kernel_rfl
def letterL : List Value → Option Value
 | [.int .i32 c] => some (.bool (letterS c))
 | _ => none
def digitL : List Value → Option Value
 | [.int .i32 c] => some (.bool (digitS c))
 | _ => none
def orcB : Orc := orElse 110 (flatSpec digitL) (orElse 109 (flatSpec letterL) (orElse 52 (flatSpec withinL) orcA))
theorem orcB_ok : OrcOk Tryz.prog orcB := by
 refine flatSpec_ok (fun l v h => ?_) (flatSpec_ok (fun l v h => ?_) (flatSpec_ok (fun l v h => ?_) orcA_ok))
 ·unfold digitL at h
  split at h
  ·rename_i c
   cases h
   refine ⟨rfl, rfl, callC_ok mixed orcA_ok (noAsks_ok _) (by
    rw [isDigit_run]
    unfold digitS
    generalize (!ilt c 48) = b1
    generalize (!ilt 57 c) = b2
    cases b1 <;> cases b2 <;> simp)⟩
  ·cases h
 ·unfold letterL at h
  split at h
  ·rename_i c
   cases h
   refine ⟨rfl, rfl, callC_ok mixed orcA_ok (noAsks_ok _) (by
    rw [isLetter_run]
    unfold letterS
    generalize (!ilt c 65) = b1
    generalize (!ilt 90 c) = b2
    generalize (!ilt c 97) = b3
    generalize (!ilt 122 c) = b4
    cases b1 <;> cases b2 <;> cases b3 <;> cases b4 <;> simp)⟩
  ·cases h
 ·obtain ⟨x, lo, hi, rfl, rfl⟩ := withinL_some h
  refine ⟨rfl, rfl, callC_ok mixed orcA_ok (noAsks_ok _) (by
   rw [CheckRange_run]
   unfold withinS whenS
   generalize ilt x lo = b1
   generalize ilt hi x = b2
   cases b1 <;> cases b2 <;> simp)⟩
end
end Go.Proofs.YthgojmebbhpbbaaGreatDoor
