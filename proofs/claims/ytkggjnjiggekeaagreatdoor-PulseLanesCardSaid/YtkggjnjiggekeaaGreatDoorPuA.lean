/-
  OWN WORK. Stage 8: errors of intervals, of accelerations, of corridors' elements.
-/
import Derived.Test.YtkggjnjiggekeaaGreatDoorSgD
import Derived.Test.YtkggjnjiggekeaaGreatDoorLsA
namespace Go.Proofs.YtkggjnjiggekeaaGreatDoor
open Go Go.Am

theorem ci_run (a b l h : Int) (K : Value → Prop) : callC Tryz.prog (exec Tryz.prog orcSd 10) (syOf []) askSd (noLoops _) 20 75 #[.agg #[gi a, gi b], gi l, gi h] (emp Tryz.prog) (fun v _ => K v) = (([gi a, gi b][1]? = Option.some (gi b) ∧ [gi a, gi b][0]? = Option.some (gi a) ∧ [gi a, gi b][1]? = Option.some (gi b) ∧ [gi a, gi b][1]? = Option.some (gi b) ∧ [gi a, gi b][0]? = Option.some (gi a) ∧ K (gi (firstS [withinS a l h, withinS b l h, whenS (ilt b a) 11])))) := by kernel_rfl
theorem ce_run (a b l h : Int) (K : Value → Prop) : callC Tryz.prog (exec Tryz.prog orcSd 10) (syOf []) askSd (noLoops _) 20 72 #[.agg #[gi a, gi b], gi l, gi h] (emp Tryz.prog) (fun v _ => K v) = (([gi a, gi b][1]? = Option.some (gi b) ∧ [gi a, gi b][0]? = Option.some (gi a) ∧ [gi a, gi b][1]? = Option.some (gi b) ∧ [gi a, gi b][1]? = Option.some (gi b) ∧ [gi a, gi b][0]? = Option.some (gi a) ∧ K (gi (firstS [withinS a l h, withinS b l h, whenS (ilt b a) 11])))) := by kernel_rfl
noncomputable def itE (a b l h : Int) : Int := firstS [withinS a l h, withinS b l h, whenS (ilt b a) 11]
noncomputable def itL : List Value → Option Value
  | [.agg a, .int .i64 l, .int .i64 h] => match a.toList with
    | [.int .i64 x, .int .i64 y] => some (gi (itE x y l h))
    | _ => none
  | _ => none
theorem agg_eq {a : Array Value} {l : List Value} (h : a.toList = l) : a = ⟨l⟩ := by rw [← h]
noncomputable def orcPa : Orc := orElse 72 (flatSpec itL) (orElse 75 (flatSpec itL) orcSd)
set_option maxRecDepth 100000 in
theorem orcPa_ok : OrcOk Tryz.prog orcPa := by
  refine flatSpec_ok (fun l v h => ?_) (flatSpec_ok (fun l v h => ?_) orcSd_ok)
  · unfold itL at h
    split at h
    · split at h
      · rename_i ha
        cases h
        obtain rfl := agg_eq ha
        exact ⟨rfl, rfl, callC_ok mixed orcSd_ok askSd_ok (Eq.mpr (ce_run _ _ _ _ _) ⟨rfl, rfl, rfl, rfl, rfl, rfl⟩)⟩
      · cases h
    · cases h
  · unfold itL at h
    split at h
    · split at h
      · rename_i ha
        cases h
        obtain rfl := agg_eq ha
        exact ⟨rfl, rfl, callC_ok mixed orcSd_ok askSd_ok (Eq.mpr (ci_run _ _ _ _ _) ⟨rfl, rfl, rfl, rfl, rfl, rfl⟩)⟩
      · cases h
    · cases h
noncomputable def askPa : Asks := skipA 72 (skipA 75 askSd)
theorem askPa_ok : AsksOk orcPa askPa := skipA_ok (skipA_ok askSd_ok)
/-! The closures of the lists' errors. -/
theorem ca_run (x : Int) (K : Value → Prop) : callC Tryz.prog (exec Tryz.prog orcPa 10) (syOf []) askPa (noLoops _) 20 157 #[gi x] (emp Tryz.prog) (fun v _ => K v) = K (gi (withinS x (-100000) 100000)) := by kernel_rfl
theorem cc_run (a b : Int) (K : Value → Prop) : callC Tryz.prog (exec Tryz.prog orcPa 10) (syOf []) askPa (noLoops _) 20 93 #[.agg #[gi a, gi b]] (emp Tryz.prog) (fun v _ => K v) = K (gi (itE a b 0 10000)) := by kernel_rfl
noncomputable def caL : List Value → Option Value
  | [.int .i64 x] => some (gi (withinS x (-100000) 100000))
  | _ => none
noncomputable def ccL : List Value → Option Value
  | [.agg a] => match a.toList with
    | [.int .i64 x, .int .i64 y] => some (gi (itE x y 0 10000))
    | _ => none
  | _ => none
noncomputable def orcPb : Orc := orElse 93 (flatSpec ccL) (orElse 157 (flatSpec caL) orcPa)
set_option maxRecDepth 100000 in
theorem orcPb_ok : OrcOk Tryz.prog orcPb := by
  refine flatSpec_ok (fun l v h => ?_) (flatSpec_ok (fun l v h => ?_) orcPa_ok)
  · unfold ccL at h
    split at h
    · split at h
      · rename_i ha
        cases h
        obtain rfl := agg_eq ha
        exact ⟨rfl, rfl, callC_ok mixed orcPa_ok askPa_ok (Eq.mpr (cc_run _ _ _) rfl)⟩
      · cases h
    · cases h
  · unfold caL at h
    split at h
    · cases h
      exact ⟨rfl, rfl, callC_ok mixed orcPa_ok askPa_ok (Eq.mpr (ca_run _ _) rfl)⟩
    · cases h
noncomputable def askPb : Asks := skipA 93 (skipA 157 askPa)
theorem askPb_ok : AsksOk orcPb askPb := skipA_ok (skipA_ok askPa_ok)
end Go.Proofs.YtkggjnjiggekeaaGreatDoor
