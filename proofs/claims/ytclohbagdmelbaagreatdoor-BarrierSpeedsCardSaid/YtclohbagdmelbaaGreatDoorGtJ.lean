/-
  OWN WORK. Gates: the overlap known; the law, carried out.
-/
import Derived.Test.YtclohbagdmelbaaGreatDoorGtI
import Derived.Test.YtclohbagdmelbaaGreatDoorWk4
namespace Go.Proofs.YtclohbagdmelbaaGreatDoor
open Go Go.Am

noncomputable def ovL : List Value → Option Value
  | [.agg x, .agg y] => match x.toList, y.toList with
    | [.int .i64 a, .int .i64 b], [.int .i64 c, .int .i64 d] => some (ovV a b c d)
    | _, _ => none
  | _ => none
noncomputable def rvL : List Value → Option (Bool × Value)
  | [.agg x, .agg y] => match x.toList, y.toList with
    | [.int .i64 a, .int .i64 b], [.int .i64 c, .int .i64 d] => some (ieq (ovE a b c d) 0, ovV a b c d)
    | _, _ => none
  | _ => none
theorem ov_ask {a b c d : Int} {K : Value → Prop} (h : ovE a b c d = 0) (hk : K (ovV a b c d)) : inI64 (ovM a b c d) = true ∧ ((!(ilt 0 (ovM a b c d))) = true → K (.tuple #[.agg #[gi 0, gi 0], gi 7])) ∧ ((!(ilt 0 (ovM a b c d))) = false → (inI64 (b - a) = true ∧ ratB (ovM a b c d) (b - a) = true ∧ K (.tuple #[ratV (ovM a b c d) (b - a), gi 0]))) := by
  obtain ⟨⟨z1, z2, z3⟩, z4, z5, z6⟩ := ovE_zero h
  obtain ⟨m1, m2⟩ := ovM_le h
  refine ⟨inI64_small (by omega) (by omega), fun q => ?_, fun q => ⟨inI64_small (by omega) (by omega), ?_, ?_⟩⟩
  · rw [ov_n h (not_f q)] at hk; exact hk
  · have q := not_t q
    rw [ilt_say] at q
    exact ratB_of (of_decide_eq_true q) m2 (by omega)
  · rw [ov_v h (not_t q)] at hk; exact hk
noncomputable abbrev ovO (orc : Orc) : Orc := orElse 8 (flatSpec ovL) (orElse 14 (condO rvL) orc)
noncomputable abbrev ovA (A : Asks) : Asks := skipA 8 (asksF 14 rvL A)
set_option maxRecDepth 100000 in
theorem ovO_ok {orc : Orc} (ho : OrcOk Tryz.prog orc) : OrcOk Tryz.prog (ovO orc) := by
  refine flatSpec_ok (fun l v h => ?_) (condO_ok (fun l v h => ?_) ho)
  · unfold ovL at h
    split at h
    · split at h
      · rename_i ha hb
        cases h
        obtain rfl := agg_eq ha
        obtain rfl := agg_eq hb
        refine ⟨rfl, rfl, callC_ok mixed orcTd_ok askTd_ok (Eq.mpr (ov_run _ _ _ _ _) ⟨rfl, fun q => ?_, fun q => ov_ask (K := fun u => u = ovV _ _ _ _) (not_ieq' q) rfl⟩)⟩
        exact (ov_i fun z => by unfold ovE at z; rw [z] at q; cases q).symm
      · cases h
    · cases h
  · unfold rvL at h
    split at h
    · split at h
      · rename_i ha hb
        injection h with h
        injection h with h1 h2
        obtain rfl := agg_eq ha
        obtain rfl := agg_eq hb
        subst h2
        rw [ieq_dec] at h1
        exact ⟨rfl, rfl, callC_ok mixed orcTf_ok (askTf_ok true) (Eq.mpr (rv_run _ _ _ _ _) (ov_ask (K := fun u => u = ovV _ _ _ _) (of_decide_eq_true h1) rfl))⟩
      · cases h
    · cases h
theorem ovA_ok {orc : Orc} {A : Asks} (h : AsksOk orc A) : AsksOk (ovO orc) (ovA A) := skipA_ok (asksF_ok h)
noncomputable def orcTz : Orc := wkO (ovO orcTf)
theorem orcTz_ok : OrcOk Tryz.prog orcTz := wkO_ok (ovO_ok orcTf_ok)
noncomputable def askTz (b : Bool) : Asks := skipA 4 (ovA (askTf b))
theorem askTz_ok (b : Bool) : AsksOk orcTz (askTz b) := skipA_ok (ovA_ok (askTf_ok b))
/-! For gates that are not there. -/
noncomputable def orcTn : Orc := wkO (ovO orcTb)
theorem orcTn_ok : OrcOk Tryz.prog orcTn := wkO_ok (ovO_ok orcTb_ok)
noncomputable def askTn : Asks := skipA 4 (ovA askTb)
theorem askTn_ok : AsksOk orcTn askTn := skipA_ok (ovA_ok askTb_ok)
end Go.Proofs.YtclohbagdmelbaaGreatDoor
