/-
  OWN WORK. Quotients that are rounded up; errors of intervals.
-/
import Derived.Test.YtfkiiacbchbgdaaGreatDoorSgD
namespace Go.Proofs.YtfkiiacbchbgdaaGreatDoor
open Go Go.Am

theorem up_run (a b : Int) (K : Value → Prop) : callC Tryz.prog (exec Tryz.prog orcSd 10) (syOf [(8, 7)]) askSd (noLoops _) 20 56 #[gi a, gi b] (emp Tryz.prog) (fun v _ => K v) = (((ilt 0 b && small (IntKind.wrap .i64 (0 - a))) = true ∧ K (gi (IntKind.wrap .i64 (0 - floorE (IntKind.wrap .i64 (0 - a)) b))))) := by kernel_rfl
theorem Ceil_run (a b : Int) (K : Value → Prop) : callC Tryz.prog (exec Tryz.prog orcSd 10) (syOf [(8, 7)]) askSd (noLoops _) 20 62 #[gi a, gi b] (emp Tryz.prog) (fun v _ => K v) = (((ilt 0 b && small (fwrap IntKind.i64 (0 - a))) = true ∧ K (gi (fwrap IntKind.i64 (0 - floorE (fwrap IntKind.i64 (0 - a)) b))))) := by kernel_rfl
theorem floorE_le {a b : Int} (h1 : -1099511627776 ≤ a) (h2 : a ≤ 1099511627776) : -1099511627777 ≤ floorE a b ∧ floorE a b ≤ 1099511627776 := by
  have := Int.natAbs_tdiv_le_natAbs a b
  unfold floorE
  cases ilt (a.tmod b) 0 <;> simp only [cond_true, cond_false] <;> omega
theorem small_of {a : Int} (h1 : -1099511627776 ≤ a) (h2 : a ≤ 1099511627776) : small a = true := by
  unfold small
  rw [ilt_say, ilt_say, decide_eq_false (by omega), decide_eq_false (by omega)]; rfl
noncomputable def ceilE (a b : Int) : Int := 0 - floorE (0 - a) b
noncomputable def ceilL : List Value → Option (Bool × Value)
  | [.int .i64 a, .int .i64 b] => some (ilt 0 b && small a, gi (ceilE a b))
  | _ => none
theorem ceilL_some {l : List Value} {v : Value} (h : ceilL l = some (true, v)) : ∃ a b, l = [gi a, gi b] ∧ v = gi (ceilE a b) ∧ ilt 0 b = true ∧ -1099511627776 ≤ a ∧ a ≤ 1099511627776 := by
  unfold ceilL at h
  split at h
  · rename_i a b
    injection h with h
    injection h with h1 h2
    rw [Bool.and_eq_true] at h1
    obtain ⟨h3, h4⟩ := small_le h1.2
    exact ⟨a, b, rfl, h2.symm, h1.1, h3, h4⟩
  · cases h
noncomputable def orcTa : Orc := orElse 62 (condO ceilL) (orElse 56 (condO ceilL) orcSd)
set_option maxRecDepth 100000 in
theorem orcTa_ok : OrcOk Tryz.prog orcTa := by
  refine condO_ok (fun l v h => ?_) (condO_ok (fun l v h => ?_) orcSd_ok)
  · obtain ⟨a, b, rfl, rfl, hb, h1, h2⟩ := ceilL_some h
    have w : fwrap IntKind.i64 (0 - a) = 0 - a := fwrap_mid (by omega) (by omega)
    obtain ⟨f1, f2⟩ := floorE_le (a := 0 - a) (b := b) (by omega) (by omega)
    refine ⟨rfl, rfl, callC_ok mixed orcSd_ok askSd_ok (Eq.mpr (Ceil_run a b _) ?_)⟩
    rw [w, fwrap_mid (by omega) (by omega), hb, small_of (by omega) (by omega)]
    exact ⟨rfl, rfl⟩
  · obtain ⟨a, b, rfl, rfl, hb, h1, h2⟩ := ceilL_some h
    have w : IntKind.wrap .i64 (0 - a) = 0 - a := wrap_small (by omega) (by omega)
    obtain ⟨f1, f2⟩ := floorE_le (a := 0 - a) (b := b) (by omega) (by omega)
    refine ⟨rfl, rfl, callC_ok mixed orcSd_ok askSd_ok (Eq.mpr (up_run a b _) ?_)⟩
    rw [w, wrap_small (by omega) (by omega), hb, small_of (by omega) (by omega)]
    exact ⟨rfl, rfl⟩
noncomputable def askTa : Asks := asksF 62 ceilL (asksF 56 ceilL askSd)
theorem askTa_ok : AsksOk orcTa askTa := asksF_ok (asksF_ok askSd_ok)
theorem ci_run (a b l h : Int) (K : Value → Prop) : callC Tryz.prog (exec Tryz.prog orcTa 10) (syOf []) askTa (noLoops _) 20 66 #[.agg #[gi a, gi b], gi l, gi h] (emp Tryz.prog) (fun v _ => K v) = (([gi a, gi b][1]? = Option.some (gi b) ∧ [gi a, gi b][0]? = Option.some (gi a) ∧ [gi a, gi b][1]? = Option.some (gi b) ∧ [gi a, gi b][1]? = Option.some (gi b) ∧ [gi a, gi b][0]? = Option.some (gi a) ∧ K (gi (firstS [withinS a l h, withinS b l h, whenS (ilt b a) 11])))) := by kernel_rfl
theorem ce_run (a b l h : Int) (K : Value → Prop) : callC Tryz.prog (exec Tryz.prog orcTa 10) (syOf []) askTa (noLoops _) 20 60 #[.agg #[gi a, gi b], gi l, gi h] (emp Tryz.prog) (fun v _ => K v) = (([gi a, gi b][1]? = Option.some (gi b) ∧ [gi a, gi b][0]? = Option.some (gi a) ∧ [gi a, gi b][1]? = Option.some (gi b) ∧ [gi a, gi b][1]? = Option.some (gi b) ∧ [gi a, gi b][0]? = Option.some (gi a) ∧ K (gi (firstS [withinS a l h, withinS b l h, whenS (ilt b a) 11])))) := by kernel_rfl
noncomputable def itE (a b l h : Int) : Int := firstS [withinS a l h, withinS b l h, whenS (ilt b a) 11]
noncomputable def itL : List Value → Option Value
  | [.agg a, .int .i64 l, .int .i64 h] => match a.toList with
    | [.int .i64 x, .int .i64 y] => some (gi (itE x y l h))
    | _ => none
  | _ => none
theorem agg_eq {a : Array Value} {l : List Value} (h : a.toList = l) : a = ⟨l⟩ := by rw [← h]
noncomputable def orcTi : Orc := orElse 60 (flatSpec itL) (orElse 66 (flatSpec itL) orcTa)
set_option maxRecDepth 100000 in
theorem orcTi_ok : OrcOk Tryz.prog orcTi := by
  refine flatSpec_ok (fun l v h => ?_) (flatSpec_ok (fun l v h => ?_) orcTa_ok)
  · unfold itL at h
    split at h
    · split at h
      · rename_i ha
        cases h
        obtain rfl := agg_eq ha
        exact ⟨rfl, rfl, callC_ok mixed orcTa_ok askTa_ok (Eq.mpr (ce_run _ _ _ _ _) ⟨rfl, rfl, rfl, rfl, rfl, rfl⟩)⟩
      · cases h
    · cases h
  · unfold itL at h
    split at h
    · split at h
      · rename_i ha
        cases h
        obtain rfl := agg_eq ha
        exact ⟨rfl, rfl, callC_ok mixed orcTa_ok askTa_ok (Eq.mpr (ci_run _ _ _ _ _) ⟨rfl, rfl, rfl, rfl, rfl, rfl⟩)⟩
      · cases h
    · cases h
noncomputable def askTi : Asks := skipA 60 (skipA 66 askTa)
theorem askTi_ok : AsksOk orcTi askTi := skipA_ok (skipA_ok askTa_ok)
end Go.Proofs.YtfkiiacbchbgdaaGreatDoor
