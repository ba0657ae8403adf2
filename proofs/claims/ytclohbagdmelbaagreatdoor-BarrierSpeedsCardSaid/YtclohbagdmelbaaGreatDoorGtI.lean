/-
  OWN WORK. Gates: the overlap of two spans as a known call.
-/
import Derived.Test.YtclohbagdmelbaaGreatDoorGtH
namespace Go.Proofs.YtclohbagdmelbaaGreatDoor
open Go Go.Am

set_option maxRecDepth 100000 in
theorem lo_say {a b : Int} (h : ratB a b = true) : CallJ Tryz.prog 52 #[gi a, gi b] (emp Tryz.prog) (fun v _ => v = ratV a b) := by
  obtain ⟨h1, h2, h3⟩ := ratB_le h
  obtain ⟨g1, g2⟩ := eu_pos h1 h2
  have d1 := Int.natAbs_tdiv_le_natAbs a (eu a b)
  have d2 := Int.natAbs_tdiv_le_natAbs b (eu a b)
  refine callC_ok mixed orcTd_ok askTd_ok (Eq.mpr (lo_run a b _) ?_)
  rw [wrap64 (by omega) (by omega), wrap64 (by omega) (by omega)]
  refine ⟨?_, h, fun h => by omega, fun h => by omega, rfl⟩
  rw [ilt_say, decide_eq_false (by omega)]
noncomputable def orcTf : Orc := orElse 52 (condO ratL) orcTe
theorem orcTf_ok : OrcOk Tryz.prog orcTf := by
  refine condO_ok (fun l v h => ?_) orcTe_ok
  unfold ratL at h
  split at h
  · injection h with h
    injection h with h1 h2
    subst h2
    exact ⟨rfl, rfl, lo_say h1⟩
  · cases h
noncomputable def askTf (b : Bool) : Asks := asksF 52 ratL (askTe b)
theorem askTf_ok (b : Bool) : AsksOk orcTf (askTf b) := asksF_ok (askTe_ok b)
noncomputable def ovE (a b c d : Int) : Int := firstS [acE a b, acE c d]
noncomputable def ovM (a b c d : Int) : Int := (if d < b then d else b) - (if c > a then c else a)
noncomputable def ovB (a b c d : Int) : Bool := ieq (ovE a b c d) 0 && ilt 0 (ovM a b c d)
noncomputable def ovX (a b c d : Int) : Int := bif ovB a b c d then (ovM a b c d).tdiv (eu (ovM a b c d) (b - a)) else 0
noncomputable def ovY (a b c d : Int) : Int := bif ovB a b c d then (b - a).tdiv (eu (ovM a b c d) (b - a)) else 0
noncomputable def ovZ (a b c d : Int) : Int := bif ieq (ovE a b c d) 0 then (bif ilt 0 (ovM a b c d) then 0 else 7) else ovE a b c d
noncomputable abbrev ovV (a b c d : Int) : Value := .tuple #[.agg #[gi (ovX a b c d), gi (ovY a b c d)], gi (ovZ a b c d)]
theorem ov_i {a b c d : Int} (h : ovE a b c d ≠ 0) : ovV a b c d = .tuple #[.agg #[gi 0, gi 0], gi (ovE a b c d)] := by
  unfold ovV ovX ovY ovZ ovB
  rw [ieq_ne h]; rfl
theorem ov_n {a b c d : Int} (h : ovE a b c d = 0) (h2 : ilt 0 (ovM a b c d) = false) : ovV a b c d = .tuple #[.agg #[gi 0, gi 0], gi 7] := by
  unfold ovV ovX ovY ovZ ovB
  rw [h, ieq_self, h2]; rfl
theorem ov_v {a b c d : Int} (h : ovE a b c d = 0) (h2 : ilt 0 (ovM a b c d) = true) : ovV a b c d = .tuple #[ratV (ovM a b c d) (b - a), gi 0] := by
  unfold ovV ovX ovY ovZ ovB
  rw [h, ieq_self, h2]; rfl
theorem acE_zero {a b : Int} (h : acE a b = 0) : 0 ≤ a ∧ a < b ∧ b ≤ 1000000 := by
  have h := when_none (by decide) h
  rw [ilt_say, ilt_say, ilt_say] at h
  simp only [Bool.or_eq_false_iff, Bool.not_eq_false', decide_eq_true_eq, decide_eq_false_iff_not] at h
  omega
theorem ovE_zero {a b c d : Int} (h : ovE a b c d = 0) : (0 ≤ a ∧ a < b ∧ b ≤ 1000000) ∧ 0 ≤ c ∧ c < d ∧ d ≤ 1000000 := by
  have z := firstS_none h
  exact ⟨acE_zero (z _ (.head _)), acE_zero (z _ (.tail _ (.head _)))⟩
theorem ovM_le {a b c d : Int} (h : ovE a b c d = 0) : -1000000 ≤ ovM a b c d ∧ ovM a b c d ≤ b - a := by
  have := ovE_zero h
  unfold ovM
  constructor <;> split <;> split <;> omega
theorem rv_run (a b c d : Int) (K : Value → Prop) : callC Tryz.prog (exec Tryz.prog orcTf 10) (syOf [(17, 33), (19, 1), (26, 33), (27, 7)]) (askTf true) (noLoops _) 20 14 #[.agg #[gi a, gi b], .agg #[gi c, gi d]] (emp Tryz.prog) (fun v _ => K v) = ((inI64 ((if (d : Int) < b then d else b) - (if (c : Int) > a then c else a)) = true ∧ ((!(ilt 0 ((if (d : Int) < b then d else b) - (if (c : Int) > a then c else a)))) = true → K (Value.tuple #[Value.agg (Array.mk (List.take 2 (List.drop 0 ([] ++ ([gi 0, gi 0] ++ []))))), gi 7])) ∧ ((!(ilt 0 ((if (d : Int) < b then d else b) - (if (c : Int) > a then c else a)))) = false → (inI64 (b - a) = true ∧ ratB ((if (d : Int) < b then d else b) - (if (c : Int) > a then c else a)) (b - a) = true ∧ K (Value.tuple #[Value.agg (Array.mk (List.take 2 (List.drop 0 ([] ++ ([gi (Int.tdiv ((if (d : Int) < b then d else b) - (if (c : Int) > a then c else a)) (eu ((if (d : Int) < b then d else b) - (if (c : Int) > a then c else a)) (b - a))), gi (Int.tdiv (b - a) (eu ((if (d : Int) < b then d else b) - (if (c : Int) > a then c else a)) (b - a)))] ++ []))))), gi 0]))))) := by kernel_rfl
end Go.Proofs.YtclohbagdmelbaaGreatDoor
