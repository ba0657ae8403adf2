/-
  OWN WORK. Quotients that are rounded; the sample of an integer.
-/
import Derived.Test.YtnlkkapeldhemaaGreatDoorTgI
import Derived.Test.YtnlkkapeldhemaaGreatDoorAmFs
namespace Go.Proofs.YtnlkkapeldhemaaGreatDoor
open Go Go.Am Ieee

theorem floor_run (a b : Int) (K : Value → Prop) : callC Tryz.prog (exec Tryz.prog orcTe 10) (syOf [(8, 35), (11, 6), (12, 1), (14, 33)]) noAsks (noLoops _) 20 149 #[gi a, gi b] (emp Tryz.prog) (fun v _ => K v) = (((b = 0 → False) ∧ (b = 0 → False) ∧ (ilt (Int.tmod a b) 0 = true → (inI64 (IntKind.wrap .i64 (Int.tdiv a b) - 1) = true ∧ K (gi (IntKind.wrap .i64 (Int.tdiv a b) - 1)))) ∧ (ilt (Int.tmod a b) 0 = false → K (gi (IntKind.wrap .i64 (Int.tdiv a b)))))) := by kernel_rfl
theorem Floor_run (a b : Int) (K : Value → Prop) : callC Tryz.prog (exec Tryz.prog orcTe 10) (syOf [(8, 35), (11, 33), (13, 1), (15, 33)]) noAsks (noLoops _) 20 150 #[gi a, gi b] (emp Tryz.prog) (fun v _ => K v) = (((b = 0 → False) ∧ inI64 (IntKind.wrap .i64 (Int.tdiv a b) * b) = true ∧ (ilt a (IntKind.wrap .i64 (Int.tdiv a b) * b) = true → (inI64 (IntKind.wrap .i64 (Int.tdiv a b) - 1) = true ∧ K (gi (IntKind.wrap .i64 (Int.tdiv a b) - 1)))) ∧ (ilt a (IntKind.wrap .i64 (Int.tdiv a b) * b) = false → K (gi (IntKind.wrap .i64 (Int.tdiv a b)))))) := by kernel_rfl
theorem sample_run (u : Int) (K : Value → Prop) : callC Tryz.prog (exec Tryz.prog orcTe 10) (syOf [(5, 12)]) noAsks (noLoops _) 20 134 #[gi u] (emp Tryz.prog) (fun v _ => K v) = ((Option.isSome (floatBits BinOp.quo FloatKind.f32 (Ieee.Format.nearest (FloatKind.format FloatKind.f32) (Decidable.decide ((u : Int) < 0)) (Int.natAbs u) 0) 1098907648) = true ∧ K (gf (Option.getD (floatBits BinOp.quo FloatKind.f32 (Ieee.Format.nearest (FloatKind.format FloatKind.f32) (Decidable.decide ((u : Int) < 0)) (Int.natAbs u) 0) 1098907648) 0)))) := by kernel_rfl
theorem Sample_run (u : Int) (K : Value → Prop) : callC Tryz.prog (exec Tryz.prog orcTe 10) (syOf [(5, 12)]) noAsks (noLoops _) 20 72 #[gi u] (emp Tryz.prog) (fun v _ => K v) = ((Option.isSome (floatBits BinOp.quo FloatKind.f32 (Ieee.Format.nearest (FloatKind.format FloatKind.f32) (Decidable.decide ((u : Int) < 0)) (Int.natAbs u) 0) 1098907648) = true ∧ K (gf (Option.getD (floatBits BinOp.quo FloatKind.f32 (Ieee.Format.nearest (FloatKind.format FloatKind.f32) (Decidable.decide ((u : Int) < 0)) (Int.natAbs u) 0) 1098907648) 0)))) := by kernel_rfl
noncomputable def floorE (a b : Int) : Int := bif ilt (a.tmod b) 0 then a.tdiv b - 1 else a.tdiv b
noncomputable def smI (u : Int) : Option Nat := floatBits BinOp.quo FloatKind.f32 (Ieee.Format.nearest (FloatKind.format FloatKind.f32) (Decidable.decide ((u : Int) < 0)) (Int.natAbs u) 0) 1098907648
noncomputable def sampleE (u : Int) : Nat := (smI u).getD 0
theorem wrap_small {x : Int} (h1 : -4611686018427387904 ≤ x) (h2 : x ≤ 4611686018427387904) : IntKind.wrap .i64 x = x := by
  rw [← fwrap_eq]; exact fwrap_small h1 h2
theorem tdiv_small {a b : Int} (h1 : -4611686018427387904 ≤ a) (h2 : a ≤ 4611686018427387904) : -4611686018427387904 ≤ a.tdiv b ∧ a.tdiv b ≤ 4611686018427387904 := by
  have := Int.natAbs_tdiv_le_natAbs a b
  omega
theorem inI64_small {x : Int} (h1 : -4611686018427387905 ≤ x) (h2 : x ≤ 4611686018427387905) : inI64 x = true := by
  cases x with
  | ofNat m => exact inI64_nat (by simp only [Int.ofNat_eq_natCast] at h2; omega)
  | negSucc m =>
    show Nat.blt m 9223372036854775808 = true
    rw [Nat.blt_eq]; omega
theorem floor_same (a b : Int) : ilt a (a.tdiv b * b) = ilt (a.tmod b) 0 := by
  rw [ilt_dec, ilt_dec]
  congr 1
  have := Int.tmod_def a b
  rw [Int.mul_comm] at this
  rw [eq_iff_iff]
  constructor <;> intro h <;> omega
noncomputable def small (a : Int) : Bool := !ilt a (-1099511627776) && !ilt 1099511627776 a
theorem small_le {a : Int} (h : small a = true) : -1099511627776 ≤ a ∧ a ≤ 1099511627776 := by
  unfold small at h
  rw [ilt_dec, ilt_dec] at h
  simp at h
  omega
noncomputable def floorL : List Value → Option (Bool × Value)
  | [.int .i64 a, .int .i64 b] => some (ilt 0 b && small a, gi (floorE a b))
  | _ => none
theorem floorL_some {l : List Value} {v : Value} (h : floorL l = some (true, v)) : ∃ a b, l = [gi a, gi b] ∧ v = gi (floorE a b) ∧ 0 < b ∧ -1099511627776 ≤ a ∧ a ≤ 1099511627776 := by
  unfold floorL at h
  split at h
  · rename_i a b
    injection h with h
    injection h with h1 h2
    rw [Bool.and_eq_true, ilt_dec] at h1
    obtain ⟨h3, h4⟩ := small_le h1.2
    exact ⟨a, b, rfl, h2.symm, by simpa using h1.1, h3, h4⟩
  · cases h
noncomputable def orcRc : Orc := orElse 150 (condO floorL) (orElse 149 (condO floorL) orcTe)
set_option maxRecDepth 100000 in
theorem orcRc_ok : OrcOk Tryz.prog orcRc := by
  refine condO_ok (fun l v h => ?_) (condO_ok (fun l v h => ?_) orcTe_ok)
  · obtain ⟨a, b, rfl, rfl, hb, h1, h2⟩ := floorL_some h
    obtain ⟨t1, t2⟩ := tdiv_small (a := a) (b := b) (by omega) (by omega)
    have w := wrap_small t1 t2
    have hm : a.tdiv b * b = a - a.tmod b := by
      have := Int.tmod_def a b
      rw [Int.mul_comm] at this
      omega
    have hr : (a.tmod b).natAbs ≤ a.natAbs := by rw [Int.natAbs_tmod]; exact Nat.mod_le _ _
    refine ⟨rfl, rfl, callC_ok mixed orcTe_ok (noAsks_ok _) (Eq.mpr (Floor_run a b _) ?_)⟩
    rw [w, floor_same]
    refine ⟨fun h => by omega, inI64_small (by rw [hm]; omega) (by rw [hm]; omega), fun hc => ⟨inI64_small (by omega) (by omega), ?_⟩, fun hc => ?_⟩
    · unfold floorE; rw [hc]; rfl
    · unfold floorE; rw [hc]; rfl
  · obtain ⟨a, b, rfl, rfl, hb, h1, h2⟩ := floorL_some h
    obtain ⟨t1, t2⟩ := tdiv_small (a := a) (b := b) (by omega) (by omega)
    have w := wrap_small t1 t2
    refine ⟨rfl, rfl, callC_ok mixed orcTe_ok (noAsks_ok _) (Eq.mpr (floor_run a b _) ?_)⟩
    rw [w]
    refine ⟨fun h => by omega, fun h => by omega, fun hc => ⟨inI64_small (by omega) (by omega), ?_⟩, fun hc => ?_⟩
    · unfold floorE; rw [hc]; rfl
    · unfold floorE; rw [hc]; rfl
noncomputable def askRc : Asks := asksF 150 floorL (asksF 149 floorL (askTe true true))
theorem askRc_ok : AsksOk orcRc askRc := asksF_ok (asksF_ok (askTe_ok true true))
theorem near_run (a b : Int) (K : Value → Prop) : callC Tryz.prog (exec Tryz.prog orcRc 10) (syOf [(6, 33), (8, 33), (10, 33), (11, 7)]) askRc (noLoops _) 20 100 #[gi a, gi b] (emp Tryz.prog) (fun v _ => K v) = ((inI64 (2 * a) = true ∧ inI64 ((2 * a) + b) = true ∧ inI64 (2 * b) = true ∧ (ilt 0 (2 * b) && small ((2 * a) + b)) = true ∧ K (gi (floorE ((2 * a) + b) (2 * b))))) := by kernel_rfl
theorem Round_run (a b : Int) (K : Value → Prop) : callC Tryz.prog (exec Tryz.prog orcRc 10) (syOf [(6, 33), (8, 33), (10, 33), (11, 7)]) askRc (noLoops _) 20 101 #[gi a, gi b] (emp Tryz.prog) (fun v _ => K v) = ((inI64 (2 * a) = true ∧ inI64 ((2 * a) + b) = true ∧ inI64 (2 * b) = true ∧ (ilt 0 (2 * b) && small ((2 * a) + b)) = true ∧ K (gi (floorE ((2 * a) + b) (2 * b))))) := by kernel_rfl
noncomputable def nearE (a b : Int) : Int := floorE (2 * a + b) (2 * b)
noncomputable def nearL : List Value → Option (Bool × Value)
  | [.int .i64 a, .int .i64 b] => some ((ilt 0 b && !ilt 16 b) && (!ilt a (-1073741824) && !ilt 1073741824 a), gi (nearE a b))
  | _ => none
theorem nearL_some {l : List Value} {v : Value} (h : nearL l = some (true, v)) : ∃ a b, l = [gi a, gi b] ∧ v = gi (nearE a b) ∧ 0 < b ∧ b ≤ 16 ∧ -1073741824 ≤ a ∧ a ≤ 1073741824 := by
  unfold nearL at h
  split at h
  · rename_i a b
    injection h with h
    injection h with h1 h2
    simp only [Bool.and_eq_true, ilt_dec, decide_eq_true_eq, Bool.not_eq_true', decide_eq_false_iff_not] at h1
    exact ⟨a, b, rfl, h2.symm, h1.1.1, by omega, by omega, by omega⟩
  · cases h
noncomputable def smpI : List Value → Option (Bool × Value)
  | [.int .i64 u] => some (!ilt u (-16384) && !ilt 16384 u, gf (sampleE u))
  | _ => none
theorem smI_some {u : Int} (h1 : -16384 ≤ u) (h2 : u ≤ 16384) : ∃ b, smI u = some b ∧ fin32 b ∧ rv single (b % 2 ^ 31) = u.natAbs * 2 ^ 145 ∧ (b / 2 ^ 31 % 2 == 1) = decide (u < 0) :=
  sample_fin (decide (u < 0)) (n := u.natAbs) (by omega)
theorem smpI_some {l : List Value} {v : Value} (h : smpI l = some (true, v)) : ∃ u, l = [gi u] ∧ v = gf (sampleE u) ∧ -16384 ≤ u ∧ u ≤ 16384 := by
  unfold smpI at h
  split at h
  · rename_i u
    injection h with h
    injection h with h1 h2
    simp only [Bool.and_eq_true, ilt_dec, Bool.not_eq_true', decide_eq_false_iff_not] at h1
    exact ⟨u, rfl, h2.symm, by omega, by omega⟩
  · cases h
noncomputable def orcRd : Orc := orElse 72 (condO smpI) (orElse 134 (condO smpI) (orElse 101 (condO nearL) (orElse 100 (condO nearL) orcRc)))
set_option maxRecDepth 100000 in
theorem orcRd_ok : OrcOk Tryz.prog orcRd := by
  refine condO_ok (fun l v h => ?_) (condO_ok (fun l v h => ?_) (condO_ok (fun l v h => ?_) (condO_ok (fun l v h => ?_) orcRc_ok)))
  · obtain ⟨u, rfl, rfl, h1, h2⟩ := smpI_some h
    obtain ⟨b, hb, _⟩ := smI_some h1 h2
    exact ⟨rfl, rfl, callC_ok mixed orcTe_ok (noAsks_ok _) (Eq.mpr (Sample_run u _) ⟨by rw [show floatBits _ _ _ _ = some b from hb]; rfl, rfl⟩)⟩
  · obtain ⟨u, rfl, rfl, h1, h2⟩ := smpI_some h
    obtain ⟨b, hb, _⟩ := smI_some h1 h2
    exact ⟨rfl, rfl, callC_ok mixed orcTe_ok (noAsks_ok _) (Eq.mpr (sample_run u _) ⟨by rw [show floatBits _ _ _ _ = some b from hb]; rfl, rfl⟩)⟩
  · obtain ⟨a, b, rfl, rfl, h1, h2, h3, h4⟩ := nearL_some h
    refine ⟨rfl, rfl, callC_ok mixed orcRc_ok askRc_ok (Eq.mpr (Round_run a b _) ⟨inI64_small (by omega) (by omega), inI64_small (by omega) (by omega), inI64_small (by omega) (by omega), ?_, rfl⟩)⟩
    unfold small
    simp only [Bool.and_eq_true, ilt_dec, decide_eq_true_eq, Bool.not_eq_true', decide_eq_false_iff_not]
    omega
  · obtain ⟨a, b, rfl, rfl, h1, h2, h3, h4⟩ := nearL_some h
    refine ⟨rfl, rfl, callC_ok mixed orcRc_ok askRc_ok (Eq.mpr (near_run a b _) ⟨inI64_small (by omega) (by omega), inI64_small (by omega) (by omega), inI64_small (by omega) (by omega), ?_, rfl⟩)⟩
    unfold small
    simp only [Bool.and_eq_true, ilt_dec, decide_eq_true_eq, Bool.not_eq_true', decide_eq_false_iff_not]
    omega
noncomputable def askRd : Asks := asksF 72 smpI (asksF 134 smpI (asksF 101 nearL (asksF 100 nearL askRc)))
theorem askRd_ok : AsksOk orcRd askRd := asksF_ok (asksF_ok (asksF_ok (asksF_ok askRc_ok)))
theorem cut_pow {r N e f : Nat} (h : 16 * (r * 2 ^ e) = N * 2 ^ f) (hf : f = 149 + e) : r = N * 2 ^ 145 := by
  subst hf
  rw [Nat.pow_add 2 149 e, ← Nat.mul_assoc, ← Nat.mul_assoc] at h
  have := Nat.eq_of_mul_eq_mul_right (Nat.two_pow_pos e) h
  omega
/-- A valid sample is, as a number, that of its integer. -/
theorem sample_unit {x : Nat} (h : smpE x = 0) : ne32 (sampleE (unitE x)) x = false := by
  obtain ⟨hf, hb⟩ := smp_valid h
  obtain ⟨c, y, h1, _, h3, h4, h5, _⟩ := scaled_fin hf
  have hm : floatBits .mul .f64 d16 (cvt x) = some y := by rw [cvt_eq h1]; exact h3
  have hs : sclE x = y := by unfold sclE; rw [hm]; rfl
  unfold badE at hb
  rw [hs, absE_mod, Bool.or_eq_false_iff] at hb
  obtain ⟨N, n1, n2⟩ := whole_fin h4 hb.1 hb.2
  rw [h5] at n2
  obtain ⟨p, k1, k2⟩ := unit_fin hf n1 n2
  have e1 : floatBits .mul .f32 s16 x = some p := k1
  have e2 : mulE x = p := by unfold mulE; rw [e1]; rfl
  have e3 : unitE x = if (x / 2 ^ 31 % 2 == 1) = true then -(N : Int) else N := by unfold unitE; rw [e2, k2]; rfl
  obtain ⟨u1, u2⟩ := (unit_ok h).2.2
  obtain ⟨b, b1, b2, b3, b4⟩ := smI_some u1 u2
  have hsm : sampleE (unitE x) = b := by unfold sampleE; rw [b1]; rfl
  have hv : rv single (x % 2 ^ 31) = N * 2 ^ 145 := cut_pow n2 (by decide)
  have habs : (unitE x).natAbs = N := by rw [e3]; split <;> omega
  rw [habs] at b3
  have hsv : sv b = sv x := by
    unfold sv
    rw [b3, hv]
    cases hxs : (x / 2 ^ 31 % 2 == 1) with
    | false =>
      have hx1 : ¬ x / 2 ^ 31 % 2 = 1 := by simpa using hxs
      have hu : unitE x = N := by rw [e3, hxs]; rfl
      have hb1 : ¬ b / 2 ^ 31 % 2 = 1 := by
        rw [hu, show decide ((N : Int) < 0) = false by simp] at b4
        simpa using b4
      rw [if_neg hx1, if_neg hb1]
    | true =>
      have hx1 : x / 2 ^ 31 % 2 = 1 := by simpa using hxs
      have hu : unitE x = -(N : Int) := by rw [e3, hxs]; rfl
      rw [if_pos hx1]
      by_cases h0 : N = 0
      · rw [h0]; simp
      · have hb1 : b / 2 ^ 31 % 2 = 1 := by
          rw [hu, show decide (-(N : Int) < 0) = true by simp; omega] at b4
          simpa using b4
        rw [if_pos hb1]
  unfold ne32
  rw [hsm]
  show (single.order b x != some .eq) = false
  rw [sorder_fin b2 hf, hsv]
  simp
end Go.Proofs.YtnlkkapeldhemaaGreatDoor
