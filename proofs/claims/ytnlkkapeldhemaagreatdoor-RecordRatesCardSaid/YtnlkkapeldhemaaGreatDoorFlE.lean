/-
  OWN WORK. CheckSample of the program and of the reference, known for all samples; the error of samples.
-/
import Derived.Test.YtnlkkapeldhemaaGreatDoorFlD
import Derived.Test.YtnlkkapeldhemaaGreatDoorAm6
namespace Go.Proofs.YtnlkkapeldhemaaGreatDoor
open Go Go.Am

noncomputable def finL : List Value → Option Value
  | [.float .f32 x] => some (gi (finE x))
  | _ => none
noncomputable def sixL : List Value → Option Value
  | [.float .f32 x, .float .f64 m] => match Nat.beq m 4670232813583204352 with
    | true => some (gi (sixE x))
    | false => none
  | _ => none
noncomputable def partL : List Value → Option Value
  | [.float .f32 x, .int .i64 m] => match ieq m 16384 with
    | true => some (gi (smpE x))
    | false => none
  | _ => none
noncomputable def smpL : List Value → Option Value
  | [.float .f32 x] => some (gi (smpE x))
  | _ => none
noncomputable def orcU : Orc := orElse 135 (flatSpec partL) (orElse 144 (flatSpec sixL) (orElse 143 (flatSpec finL) orcR))
set_option maxRecDepth 100000 in
theorem orcU_ok : OrcOk Tryz.prog orcU := by
  refine flatSpec_ok (fun l v h => ?_) (flatSpec_ok (fun l v h => ?_) (flatSpec_ok (fun l v h => ?_) orcR_ok))
  · unfold partL at h
    split at h
    · split at h
      · rename_i x m _ hm
        rw [ieq_dec] at hm
        obtain rfl : m = 16384 := by simpa using hm
        cases h
        exact ⟨rfl, rfl, part_call x⟩
      · cases h
    · cases h
  · unfold sixL at h
    split at h
    · split at h
      · rename_i x m _ hm
        obtain rfl : m = c16 := Nat.eq_of_beq_eq_true hm
        cases h
        exact ⟨rfl, rfl, six_call x⟩
      · cases h
    · cases h
  · unfold finL at h
    split at h
    · cases h
      exact ⟨rfl, rfl, finite_call _⟩
    · cases h
theorem smp_run (x : Nat) (K : Value → Prop) : callC Tryz.prog (exec Tryz.prog orcU 10) (syOf []) noAsks (noLoops _) 20 93 #[.float .f32 x] (emp Tryz.prog) (fun v _ => K v) = K (gi (firstS [finE x, sixE x])) := by kernel_rfl
theorem Smp_run (x : Nat) (K : Value → Prop) : callC Tryz.prog (exec Tryz.prog orcU 10) (syOf []) noAsks (noLoops _) 20 142 #[.float .f32 x] (emp Tryz.prog) (fun v _ => K v) = K (gi (smpE x)) := by kernel_rfl
noncomputable def orcV : Orc := orElse 142 (flatSpec smpL) (orElse 93 (flatSpec smpL) orcU)
set_option maxRecDepth 100000 in
theorem orcV_ok : OrcOk Tryz.prog orcV := by
  refine flatSpec_ok (fun l v h => ?_) (flatSpec_ok (fun l v h => ?_) orcU_ok)
  · unfold smpL at h
    split at h
    · cases h
      exact ⟨rfl, rfl, callC_ok mixed orcU_ok (noAsks_ok _) (Eq.mpr (Smp_run _ _) rfl)⟩
    · cases h
  · unfold smpL at h
    split at h
    · cases h
      exact ⟨rfl, rfl, callC_ok mixed orcU_ok (noAsks_ok _) (Eq.mpr (smp_run _ _) (congrArg gi (first_smp _)))⟩
    · cases h
/-! Samples. -/
noncomputable abbrev gf (x : Nat) : Value := .float .f32 x
noncomputable def dF : Value → Option Nat
  | .float .f32 x => some x
  | _ => none
theorem dF_some (v : Value) (x : Nat) (h : dF v = some x) : v = gf x := by
  unfold dF at h
  split at h
  · cases h; rfl
  · cases h
noncomputable def smpsE (l : List Nat) : Int := firstS (l.map smpE)
theorem float_at {l : List Nat} {j : Nat} (hj : j < l.length) : (l.map gf)[0 + j * 1]? = some (.float .f32 (floatAt (l.map gf) (0 + j * 1))) ∧ floatAt (l.map gf) (0 + j * 1) = l[j] := by
  have e : (l.map gf)[0 + j * 1]? = some (gf l[j]) := by
    rw [Nat.zero_add, Nat.mul_one, List.getElem?_map, List.getElem?_eq_getElem hj]
    rfl
  constructor
  · unfold floatAt; rw [e]
  · unfold floatAt; rw [e]
noncomputable abbrev flS : Value := .func (.func 93) #[] #[]
end Go.Proofs.YtnlkkapeldhemaaGreatDoor
