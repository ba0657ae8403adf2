/-
  OWN WORK. Ratios; what is asked of a permutation.
-/
import Derived.Test.YtmfepbkpojafnaaGreatDoorFnE
namespace Go.Proofs.YtmfepbkpojafnaaGreatDoor
open Go Go.Am

noncomputable def drawE (x y : Int) : Int := firstS [withinS x 0 999999999, withinS y 0 256]
noncomputable def ratioP (x y : Int) : Int := firstS [withinS x (-999999999) 999999999, withinS y 1 999999999, whenS (!ieq (absP (eu x y)) 1) 1]
noncomputable def ratioE (x y : Int) : Int := firstS [withinS x (-999999999) 999999999, withinS y 1 999999999]
noncomputable def ratioR (x y : Int) : Int := bif ieq (ratioE x y) 0 then whenS (!ieq (eu (absS x) (absS y)) 1) 1 else ratioE x y
theorem CheckDraw_run (x y : Int) : callC Tryz.prog (exec Tryz.prog orcE 10) (syOf []) noAsks (noLoops _) 40 11 #[gi x, gi y] (emp Tryz.prog) (fun v _ => v = gi (drawE x y)) = (gi (drawE x y) = gi (drawE x y)) := by kernel_rfl
theorem checkRatio_run (x y : Int) : callC Tryz.prog (exec Tryz.prog orcE 10) (syOf []) noAsks (noLoops _) 40 16 #[.agg #[gi x, gi y]] (emp Tryz.prog) (fun v _ => v = gi (ratioR x y)) =
  (gi y = gi y ∧ gi x = gi x ∧ gi y = gi y ∧ gi y = gi y ∧ gi x = gi x ∧ gi (ratioP x y) = gi (ratioR x y)) := by kernel_rfl
theorem CheckRatio_run (x y : Int) : callC Tryz.prog (exec Tryz.prog orcE 10) (syOf [(13, 1)]) noAsks (noLoops _) 40 17 #[.agg #[gi x, gi y]] (emp Tryz.prog) (fun v _ => v = gi (ratioR x y)) =
  (gi y = gi y ∧ ((!ieq (ratioE x y) 0) = true → gi (ratioE x y) = gi (ratioR x y)) ∧ ((!ieq (ratioE x y) 0) = false → gi (whenS (!ieq (eu (absS x) (absS y)) 1) 1) = gi (ratioR x y))) := by kernel_rfl
theorem withinS_eq (x lo hi : Int) : withinS x lo hi = if lo ≤ x ∧ x ≤ hi then 0 else 3 := by
  unfold withinS whenS
  rw [ilt_eq, ilt_eq]
  by_cases h1 : x < lo
  · rw [if_neg (by omega)]; simp [h1]
  · by_cases h2 : hi < x
    · rw [if_neg (by omega)]; simp [h2]
    · rw [if_pos (by omega)]; simp [h1, h2]
theorem ratio_same (x y : Int) : ratioP x y = ratioR x y := by
  unfold ratioP ratioR ratioE
  simp only [firstS, ieq_dec]
  rw [withinS_eq x, withinS_eq y]
  by_cases h1 : -999999999 ≤ x ∧ x ≤ 999999999
  · by_cases h2 : 1 ≤ y ∧ y ≤ 999999999
    · rw [if_pos h1, if_pos h2, div_same h1.1 h1.2 h2.1 h2.2]
      by_cases h3 : whenS (!decide (eu (absS x) (absS y) = 1)) 1 = 0 <;> simp [h3]
    · rw [if_pos h1, if_neg h2]; simp
  · rw [if_neg h1]; simp
noncomputable def drawEL : List Value → Option Value
  | [.int .i64 x, .int .i64 y] => some (gi (drawE x y))
  | _ => none
noncomputable def ratioL : List Value → Option Value
  | [.agg cs] => match cs.toList with
    | [.int .i64 x, .int .i64 y] => some (gi (ratioR x y))
    | _ => none
  | _ => none
theorem ratioL_some {l : List Value} {v : Value} (h : ratioL l = some v) : ∃ x y, l = [.agg #[gi x, gi y]] ∧ v = gi (ratioR x y) := by
  unfold ratioL at h
  split at h
  · rename_i cs
    split at h
    · rename_i x y e
      cases h
      exact ⟨x, y, by rw [show cs = #[gi x, gi y] from Array.toList_inj.1 e], rfl⟩
    · cases h
  · cases h
noncomputable def orcF : Orc := orElse 17 (flatSpec ratioL) (orElse 16 (flatSpec ratioL) (orElse 11 (flatSpec drawEL) orcE))
set_option maxRecDepth 100000 in
theorem orcF_ok : OrcOk Tryz.prog orcF := by
  refine flatSpec_ok (fun l v h => ?_) (flatSpec_ok (fun l v h => ?_) (flatSpec_ok (fun l v h => ?_) orcE_ok))
  · obtain ⟨x, y, rfl, rfl⟩ := ratioL_some h
    refine ⟨rfl, rfl, callC_ok mixed orcE_ok (noAsks_ok _) (Eq.mpr (CheckRatio_run x y) ⟨rfl, fun h1 => ?_, fun h1 => ?_⟩)⟩
    · rw [ratioR, show ieq (ratioE x y) 0 = false by simpa using h1]; rfl
    · rw [ratioR, show ieq (ratioE x y) 0 = true by simpa using h1]; rfl
  · obtain ⟨x, y, rfl, rfl⟩ := ratioL_some h
    exact ⟨rfl, rfl, callC_ok mixed orcE_ok (noAsks_ok _) (Eq.mpr (checkRatio_run x y) ⟨rfl, rfl, rfl, rfl, rfl, by rw [ratio_same]⟩)⟩
  · unfold drawEL at h
    split at h
    · rename_i x y
      cases h
      exact ⟨rfl, rfl, callC_ok mixed orcE_ok (noAsks_ok _) (Eq.mpr (CheckDraw_run x y) rfl)⟩
    · cases h
end Go.Proofs.YtmfepbkpojafnaaGreatDoor
