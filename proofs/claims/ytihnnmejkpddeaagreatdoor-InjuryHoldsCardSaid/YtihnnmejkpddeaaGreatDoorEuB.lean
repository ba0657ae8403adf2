/-
  OWN WORK. Ratios in lowest terms, as known calls (for any stage).
-/
import Derived.Test.YtihnnmejkpddeaaGreatDoorEuA
import Derived.Test.YtihnnmejkpddeaaGreatDoorJcM
namespace Go.Proofs.YtihnnmejkpddeaaGreatDoor
open Go Go.Am
theorem agg_eq {a : Array Value} {l : List Value} (h : a.toList = l) : a = ⟨l⟩ := by rw [← h]
theorem wrap64 {n : Int} (h1 : -9223372036854775808 ≤ n) (h2 : n < 9223372036854775808) : IntKind.wrap .i64 n = n := by
  simp [IntKind.wrap, IntKind.signed, IntKind.bits]
  split <;> omega
noncomputable def gz (a b : Int) : Int := Int.ofNat (Nat.gcd a.natAbs b.natAbs)
theorem gz_pos {a b : Int} (hb : 0 < b) : 0 < gz a b ∧ gz a b ≤ b := by
  have p : 0 < Nat.gcd a.natAbs b.natAbs := Nat.gcd_pos_of_pos_right _ (by omega)
  have q : Nat.gcd a.natAbs b.natAbs ≤ b.natAbs := Nat.gcd_le_right _ (by omega)
  unfold gz
  simp only [Int.ofNat_eq_natCast]
  omega
theorem gz_eu {a b : Int} (hb : 0 < b) (h : b < 9223372036854775808) : (if (IntKind.wrap .i64 (0 - eu b (a.tmod b)) : Int) > eu b (a.tmod b) then IntKind.wrap .i64 (0 - eu b (a.tmod b)) else eu b (a.tmod b)) = gz a b := by
  have e : eu b (a.tmod b) = eu a b := (eu_step (by omega)).symm
  have g := eu_gcd a b
  obtain ⟨p, q⟩ := gz_pos (a := a) hb
  unfold gz at p q ⊢
  simp only [Int.ofNat_eq_natCast] at p q ⊢
  rw [e, wrap64 (by omega) (by omega)]
  split <;> omega
theorem gz_eu' {a b : Int} (ha : 0 ≤ a) (hb : 0 < b) : eu a b = gz a b := by
  have g := eu_gcd a b
  have n := eu_nonneg (a := a) (b := b) ha (by omega)
  unfold gz
  simp only [Int.ofNat_eq_natCast]
  omega
noncomputable def rqA (a b : Int) : Int := a.tdiv (gz a b)
noncomputable def rqB (a b : Int) : Int := b.tdiv (gz a b)
noncomputable abbrev rqV (a b : Int) : Value := .agg #[gi (rqA a b), gi (rqB a b)]
theorem rq_in {a b : Int} (ha : inI64 a = true) (hb : inI64 b = true) (h : 0 < b) : IntKind.wrap .i64 (a.tdiv (gz a b)) = rqA a b ∧ IntKind.wrap .i64 (b.tdiv (gz a b)) = rqB a b := by
  rw [inI64_iff] at ha hb
  obtain ⟨p, _⟩ := gz_pos (a := a) h
  have d1 := Int.natAbs_tdiv_le_natAbs a (gz a b)
  have d2 := Int.natAbs_tdiv_le_natAbs b (gz a b)
  unfold rqA rqB
  constructor
  · refine wrap64 (by omega) ?_
    by_cases h0 : 0 ≤ a
    · omega
    · have := Int.tdiv_nonneg (a := -a) (b := gz a b) (by omega) (by omega)
      rw [Int.neg_tdiv] at this
      omega
  · exact wrap64 (by omega) (by omega)
noncomputable def ratB (a b : Int) : Bool := inI64 a && (inI64 b && ilt 0 b)
theorem ratB_of {a b : Int} (h1 : inI64 a = true) (h2 : inI64 b = true) (h3 : 0 < b) : ratB a b = true := by
  unfold ratB
  rw [h1, h2, ilt_say, decide_eq_true h3]; rfl
theorem ratB_le {a b : Int} (h : ratB a b = true) : inI64 a = true ∧ inI64 b = true ∧ 0 < b := by
  unfold ratB at h
  rw [ilt_say] at h
  simp only [Bool.and_eq_true, decide_eq_true_eq] at h
  exact h
noncomputable def ratL : List Value → Option (Bool × Value)
  | [.int .i64 a, .int .i64 b] => some (ratB a b, rqV a b)
  | _ => none
noncomputable def dvB (a b : Int) : Bool := !ilt a 0 && (!ilt 4611686018427387904 a && (ilt 0 b && !ilt 4611686018427387904 b))
theorem dvB_of {a b : Int} (h1 : 0 ≤ a) (h2 : a ≤ 4611686018427387904) (h3 : 0 < b) (h4 : b ≤ 4611686018427387904) : dvB a b = true := by
  unfold dvB
  rw [ilt_say, ilt_say, ilt_say, ilt_say, decide_eq_false (by omega), decide_eq_false (by omega), decide_eq_true h3, decide_eq_false (by omega)]; rfl
theorem dvB_le {a b : Int} (h : dvB a b = true) : 0 ≤ a ∧ a ≤ 4611686018427387904 ∧ 0 < b ∧ b ≤ 4611686018427387904 := by
  unfold dvB at h
  rw [ilt_say, ilt_say, ilt_say, ilt_say] at h
  simp only [Bool.and_eq_true, Bool.not_eq_true', decide_eq_true_eq, decide_eq_false_iff_not] at h
  omega
noncomputable def dvL : List Value → Option (Bool × Value)
  | [.int .i64 a, .int .i64 b] => some (dvB a b, gi (gz a b))
  | _ => none
theorem absW {a : Int} (h1 : 0 ≤ a) (h2 : a ≤ 4611686018427387904) : (if fwrap .i64 (0 - a) > a then fwrap .i64 (0 - a) else a) = a := by
  rw [fwrap_mid (by omega) (by omega), if_neg (by omega)]
noncomputable def orcEu : Orc := orElse 154 (condO ratL) (orElse 158 (condO dvL) orcCm)
set_option maxRecDepth 100000 in
theorem orcEu_ok : OrcOk Tryz.prog orcEu := by
  refine condO_ok (fun l v h => ?_) (condO_ok (fun l v h => ?_) orcCm_ok)
  · unfold ratL at h
    split at h
    · rename_i a b
      injection h with h
      injection h with h1 h2
      obtain ⟨h3, h4, h5⟩ := ratB_le h1
      obtain ⟨g1, g2⟩ := gz_pos (a := a) h5
      obtain ⟨w1, w2⟩ := rq_in h3 h4 h5
      subst h2
      refine ⟨rfl, rfl, callC_ok mixed orcCm_ok (noAsks_ok _) (Eq.mpr (ra_run a b _) ?_)⟩
      rw [inI64_iff] at h4
      rw [gz_eu h5 h4.2, w1, w2]
      exact ⟨fun h => by omega, rfl, rfl, rfl, rfl, rfl, rfl, rfl, fun _ => ⟨fun h => by omega, fun h => by omega, rfl⟩⟩
    · cases h
  · unfold dvL at h
    split at h
    · rename_i a b
      injection h with h
      injection h with h1 h2
      obtain ⟨h3, h4, h5, h6⟩ := dvB_le h1
      subst h2
      refine ⟨rfl, rfl, callC_ok mixed orcCm_ok (noAsks_ok _) (Eq.mpr (dv_run a b _) ⟨rfl, rfl, rfl, rfl, fun _ => ?_⟩)⟩
      rw [absW (by omega) (by omega), absW (by omega) (by omega), gz_eu' h3 h5]
    · cases h
noncomputable def askEu : Asks := asksF 154 ratL (asksF 158 dvL noAsks)
theorem askEu_ok : AsksOk orcEu askEu := asksF_ok (asksF_ok (noAsks_ok _))
theorem lo_run (a b : Int) (K : Value → Prop) : callC Tryz.prog (exec Tryz.prog orcEu 10) (syOf [(7, 32), (14, 7), (17, 35), (20, 35)]) askEu (noLoops _) 20 94 #[gi a, gi b] (emp Tryz.prog) (fun v _ => K v) = ((ilt b 0 = false ∧ dvB a b = true ∧ (gz a b = 0 → False) ∧ (gz a b = 0 → False) ∧ K (Value.agg (Array.mk (List.take 2 (List.drop 0 ([] ++ ([gi (IntKind.wrap .i64 (Int.tdiv a (gz a b))), gi (IntKind.wrap .i64 (Int.tdiv b (gz a b)))] ++ [])))))))) := by kernel_rfl
noncomputable def loL : List Value → Option (Bool × Value)
  | [.int .i64 a, .int .i64 b] => some (dvB a b, rqV a b)
  | _ => none
noncomputable def orcEv : Orc := orElse 94 (condO loL) orcEu
set_option maxRecDepth 100000 in
theorem orcEv_ok : OrcOk Tryz.prog orcEv := by
  refine condO_ok (fun l v h => ?_) orcEu_ok
  unfold loL at h
  split at h
  · rename_i a b
    injection h with h
    injection h with h1 h2
    obtain ⟨h3, h4, h5, h6⟩ := dvB_le h1
    obtain ⟨g1, g2⟩ := gz_pos (a := a) h5
    obtain ⟨w1, w2⟩ := rq_in (a := a) (b := b) (inI64_iff.2 ⟨by omega, by omega⟩) (inI64_iff.2 ⟨by omega, by omega⟩) h5
    subst h2
    refine ⟨rfl, rfl, callC_ok mixed orcEu_ok askEu_ok (Eq.mpr (lo_run a b _) ⟨by rw [ilt_say]; exact decide_eq_false (by omega), h1, fun h => by omega, fun h => by omega, ?_⟩)⟩
    show Value.agg #[gi (IntKind.wrap .i64 (Int.tdiv a (gz a b))), gi (IntKind.wrap .i64 (Int.tdiv b (gz a b)))] = rqV a b
    rw [w1, w2]
  · cases h
noncomputable def askEv : Asks := asksF 94 loL askEu
theorem askEv_ok : AsksOk orcEv askEv := asksF_ok askEu_ok
end Go.Proofs.YtihnnmejkpddeaaGreatDoor
