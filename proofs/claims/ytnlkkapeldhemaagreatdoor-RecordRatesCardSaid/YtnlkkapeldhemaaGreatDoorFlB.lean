/-
  OWN WORK. What is asked of samples: the calls, carried out.
-/
import Derived.Test.YtnlkkapeldhemaaGreatDoorFlA
namespace Go.Proofs.YtnlkkapeldhemaaGreatDoor
open Go Go.Am

noncomputable def infL : List Value → Option Value
  | [.float .f64 b, .int .i64 z] => match ieq z 0 with
    | true => some (.bool (gtF (absE b) maxF))
    | false => none
  | _ => none
noncomputable def orcFb : Orc := orElse 163 (flatSpec infL) orcFa
set_option maxRecDepth 100000 in
theorem orcFb_ok : OrcOk Tryz.prog orcFb := by
  refine flatSpec_ok (fun l v h => ?_) orcFa_ok
  unfold infL at h
  split at h
  · rename_i b z
    split at h
    · rename_i hz
      rw [ieq_dec] at hz
      obtain rfl : z = 0 := by simpa using hz
      cases h
      exact ⟨rfl, rfl, callC_ok mixed orcFa_ok (noAsks_ok _) (Eq.mpr (isInf_run _ _) rfl)⟩
    · cases h
  · cases h
noncomputable def cvt (x : Nat) : Nat := (floatToFloatBits .f32 x .f64).getD 0
theorem finite_run (x : Nat) (K : Value → AHeap → Prop) : callC Tryz.prog (exec Tryz.prog orcFb 10) (syOf [(5, 11), (7, 1), (10, 1)]) noAsks (noLoops _) 20 143 #[.float .f32 x] (emp Tryz.prog) K =
  ((floatToFloatBits .f32 x .f64).isSome = true ∧ (neF (cvt x) (cvt x) = true → K (gi 1) (emp Tryz.prog)) ∧ (neF (cvt x) (cvt x) = false → (gtF (absE (cvt x)) maxF = true → K (gi 1) (emp Tryz.prog)) ∧ (gtF (absE (cvt x)) maxF = false → K (gi 0) (emp Tryz.prog)))) := by kernel_rfl
theorem finite_nan (x : Nat) (K : Value → AHeap → Prop) : callC Tryz.prog (exec Tryz.prog orcFb 10) (syOf [(5, 20), (7, 1), (10, 1)]) noAsks (noLoops _) 20 143 #[.float .f32 x] (emp Tryz.prog) K =
  ((FloatKind.f32.decode x).isNaN = true ∧ ∀ r, nanOf .f64 r → (neF r r = true → K (gi 1) (emp Tryz.prog)) ∧ (neF r r = false → (gtF (absE r) maxF = true → K (gi 1) (emp Tryz.prog)) ∧ (gtF (absE r) maxF = false → K (gi 0) (emp Tryz.prog)))) := by kernel_rfl
end Go.Proofs.YtnlkkapeldhemaaGreatDoor
