/-
  OWN WORK. Gates: ratios as known calls.
-/
import Derived.Test.YtclohbagdmelbaaGreatDoorGtF
namespace Go.Proofs.YtclohbagdmelbaaGreatDoor
open Go Go.Am

theorem wrap64 {n : Int} (h1 : -9223372036854775808 ≤ n) (h2 : n < 9223372036854775808) : IntKind.wrap .i64 n = n := by
  simp [IntKind.wrap, IntKind.signed, IntKind.bits]
  split <;> omega
noncomputable def ratB (a b : Int) : Bool := ilt 0 a && (!ilt b a && !ilt 1000000 b)
theorem ratB_le {a b : Int} (h : ratB a b = true) : 0 < a ∧ a ≤ b ∧ b ≤ 1000000 := by
  unfold ratB at h
  rw [ilt_say, ilt_say, ilt_say] at h
  simp only [Bool.and_eq_true, Bool.not_eq_true', decide_eq_true_eq, decide_eq_false_iff_not] at h
  omega
theorem ratB_of {a b : Int} (h1 : 0 < a) (h2 : a ≤ b) (h3 : b ≤ 1000000) : ratB a b = true := by
  unfold ratB
  rw [ilt_say, ilt_say, ilt_say, decide_eq_true h1, decide_eq_false (by omega), decide_eq_false (by omega)]; rfl
noncomputable def dvL : List Value → Option (Bool × Value)
  | [.int .i64 a, .int .i64 b] => some (ratB a b, gi (eu a b))
  | _ => none
noncomputable abbrev ratV (a b : Int) : Value := .agg #[gi (a.tdiv (eu a b)), gi (b.tdiv (eu a b))]
noncomputable def ratL : List Value → Option (Bool × Value)
  | [.int .i64 a, .int .i64 b] => some (ratB a b, ratV a b)
  | _ => none
theorem eu_pos {a b : Int} (h1 : 0 < a) (h2 : a ≤ b) : 0 < eu a b ∧ eu a b ≤ b := by
  have h := eu_gcd a b
  have n := eu_nonneg (a := a) (b := b) (by omega) (by omega)
  have p : 0 < Nat.gcd a.natAbs b.natAbs := Nat.gcd_pos_of_pos_left _ (by omega)
  have q : Nat.gcd a.natAbs b.natAbs ≤ b.natAbs := Nat.gcd_le_right _ (by omega)
  omega
theorem absW {a : Int} (h1 : 0 ≤ a) (h2 : a ≤ 1000000) : (if fwrap .i64 (0 - a) > a then fwrap .i64 (0 - a) else a) = a := by
  rw [fwrap_mid (by omega) (by omega), if_neg (by omega)]
theorem absV {a : Int} (h1 : 0 ≤ a) (h2 : a ≤ 1000000) : (if IntKind.wrap .i64 (0 - a) > a then IntKind.wrap .i64 (0 - a) else a) = a := by
  rw [wrap64 (by omega) (by omega), if_neg (by omega)]
noncomputable def orcTd : Orc := orElse 45 (condO ratL) (orElse 108 (condO dvL) orcTc)
set_option maxRecDepth 100000 in
theorem orcTd_ok : OrcOk Tryz.prog orcTd := by
  refine condO_ok (fun l v h => ?_) (condO_ok (fun l v h => ?_) orcTc_ok)
  · unfold ratL at h
    split at h
    · rename_i a b
      injection h with h
      injection h with h1 h2
      obtain ⟨h3, h4, h5⟩ := ratB_le h1
      obtain ⟨g1, g2⟩ := eu_pos h3 h4
      have e : eu b (a.tmod b) = eu a b := (eu_step (by omega)).symm
      have d1 := Int.natAbs_tdiv_le_natAbs a (eu a b)
      have d2 := Int.natAbs_tdiv_le_natAbs b (eu a b)
      subst h2
      refine ⟨rfl, rfl, callC_ok mixed orcTc_ok (noAsks_ok _) (Eq.mpr (ra_run a b _) ?_)⟩
      rw [e, absV (by omega) (by omega), wrap64 (by omega) (by omega), wrap64 (by omega) (by omega)]
      exact ⟨fun h => by omega, rfl, rfl, rfl, rfl, rfl, rfl, rfl, fun _ => ⟨fun h => by omega, fun h => by omega, rfl⟩⟩
    · cases h
  · unfold dvL at h
    split at h
    · rename_i a b
      injection h with h
      injection h with h1 h2
      obtain ⟨h3, h4, h5⟩ := ratB_le h1
      subst h2
      refine ⟨rfl, rfl, callC_ok mixed orcTc_ok (noAsks_ok _) (Eq.mpr (dv_run a b _) ⟨rfl, rfl, rfl, rfl, fun _ => ?_⟩)⟩
      rw [absW (by omega) (by omega), absW (by omega) (by omega)]
    · cases h
noncomputable def askTd : Asks := asksF 45 ratL (asksF 108 dvL askTc)
theorem askTd_ok : AsksOk orcTd askTd := asksF_ok (asksF_ok askTc_ok)
theorem lo_run (a b : Int) (K : Value → Prop) : callC Tryz.prog (exec Tryz.prog orcTd 10) (syOf [(7, 32), (14, 7), (17, 35), (20, 35)]) askTd (noLoops _) 20 52 #[gi a, gi b] (emp Tryz.prog) (fun v _ => K v) = ((ilt b 0 = false ∧ ratB a b = true ∧ (eu a b = 0 → False) ∧ (eu a b = 0 → False) ∧ K (Value.agg (Array.mk (List.take 2 (List.drop 0 ([] ++ ([gi (IntKind.wrap .i64 (Int.tdiv a (eu a b))), gi (IntKind.wrap .i64 (Int.tdiv b (eu a b)))] ++ [])))))))) := by kernel_rfl
theorem ov_run (a b c d : Int) (K : Value → Prop) : callC Tryz.prog (exec Tryz.prog orcTd 10) (syOf [(15, 1), (28, 33), (30, 1), (37, 33), (38, 7)]) askTd (noLoops _) 20 8 #[.agg #[gi a, gi b], .agg #[gi c, gi d]] (emp Tryz.prog) (fun v _ => K v) = ((Value.agg #[gi c, gi d] = Value.agg #[gi c, gi d] ∧ ((!(ieq (firstS [acE a b, acE c d]) 0)) = true → K (Value.tuple #[Value.agg (Array.mk (List.take 2 (List.drop 0 ([] ++ ([gi 0, gi 0] ++ []))))), gi (firstS [acE a b, acE c d])])) ∧ ((!(ieq (firstS [acE a b, acE c d]) 0)) = false → (inI64 ((if (d : Int) < b then d else b) - (if (c : Int) > a then c else a)) = true ∧ ((!(ilt 0 ((if (d : Int) < b then d else b) - (if (c : Int) > a then c else a)))) = true → K (Value.tuple #[Value.agg (Array.mk (List.take 2 (List.drop 0 ([] ++ ([gi 0, gi 0] ++ []))))), gi 7])) ∧ ((!(ilt 0 ((if (d : Int) < b then d else b) - (if (c : Int) > a then c else a)))) = false → (inI64 (b - a) = true ∧ ratB ((if (d : Int) < b then d else b) - (if (c : Int) > a then c else a)) (b - a) = true ∧ K (Value.tuple #[Value.agg (Array.mk (List.take 2 (List.drop 0 ([] ++ ([gi (Int.tdiv ((if (d : Int) < b then d else b) - (if (c : Int) > a then c else a)) (eu ((if (d : Int) < b then d else b) - (if (c : Int) > a then c else a)) (b - a))), gi (Int.tdiv (b - a) (eu ((if (d : Int) < b then d else b) - (if (c : Int) > a then c else a)) (b - a)))] ++ []))))), gi 0]))))))) := by kernel_rfl
end Go.Proofs.YtclohbagdmelbaaGreatDoor
