/-
  OWN WORK. The sample of an integer, and its error.
-/
import Derived.Test.YtphhcoiclkfimaaGreatDoorSmA
namespace Go.Proofs.YtphhcoiclkfimaaGreatDoor
open Go Go.Am Ieee

theorem sample_run (u : Int) (K : Value → Prop) : callC Tryz.prog (exec Tryz.prog orcSs 10) (syOf [(5, 12)]) noAsks (noLoops _) 20 100 #[gi u] (emp Tryz.prog) (fun v _ => K v) = ((Option.isSome (floatBits BinOp.quo FloatKind.f32 (Ieee.Format.nearest (FloatKind.format FloatKind.f32) (Decidable.decide ((u : Int) < 0)) (Int.natAbs u) 0) 1098907648) = true ∧ K (gf (Option.getD (floatBits BinOp.quo FloatKind.f32 (Ieee.Format.nearest (FloatKind.format FloatKind.f32) (Decidable.decide ((u : Int) < 0)) (Int.natAbs u) 0) 1098907648) 0)))) := by kernel_rfl
theorem Sample_run (u : Int) (K : Value → Prop) : callC Tryz.prog (exec Tryz.prog orcSs 10) (syOf [(5, 12)]) noAsks (noLoops _) 20 78 #[gi u] (emp Tryz.prog) (fun v _ => K v) = ((Option.isSome (floatBits BinOp.quo FloatKind.f32 (Ieee.Format.nearest (FloatKind.format FloatKind.f32) (Decidable.decide ((u : Int) < 0)) (Int.natAbs u) 0) 1098907648) = true ∧ K (gf (Option.getD (floatBits BinOp.quo FloatKind.f32 (Ieee.Format.nearest (FloatKind.format FloatKind.f32) (Decidable.decide ((u : Int) < 0)) (Int.natAbs u) 0) 1098907648) 0)))) := by kernel_rfl
noncomputable def smI (u : Int) : Option Nat := floatBits BinOp.quo FloatKind.f32 (Ieee.Format.nearest (FloatKind.format FloatKind.f32) (Decidable.decide ((u : Int) < 0)) (Int.natAbs u) 0) 1098907648
noncomputable def sampleE (u : Int) : Nat := (smI u).getD 0
theorem wrap_small {x : Int} (h1 : -4611686018427387904 ≤ x) (h2 : x ≤ 4611686018427387904) : IntKind.wrap .i64 x = x := by
  rw [← fwrap_eq]; exact fwrap_small h1 h2
theorem tdiv_small {a b : Int} (h1 : -4611686018427387904 ≤ a) (h2 : a ≤ 4611686018427387904) : -4611686018427387904 ≤ a.tdiv b ∧ a.tdiv b ≤ 4611686018427387904 := by
  have := Int.natAbs_tdiv_le_natAbs a b
  omega
theorem inI64_small {x : Int} (h1 : -4611686018427387905 ≤ x) (h2 : x ≤ 4611686018427387905) : inI64 x = true := by
  cases x with
  | ofNat m => exact inI64_nat (by simp only [Int.ofNat_eq_natCast] at h2; omega)
  | negSucc m =>
    show Nat.blt m 9223372036854775808 = true
    rw [Nat.blt_eq]; omega
noncomputable def smpW : List Value → Option (Bool × Value)
  | [.int .i64 u] => some (!ilt u (-65536) && !ilt 65536 u, gf (sampleE u))
  | _ => none
theorem smI_some {u : Int} (h1 : -65536 ≤ u) (h2 : u ≤ 65536) : ∃ b, smI u = some b ∧ fin32 b ∧ rv single (b % 2 ^ 31) = u.natAbs * 2 ^ 145 ∧ (b / 2 ^ 31 % 2 == 1) = decide (u < 0) :=
  sample_fin (decide (u < 0)) (n := u.natAbs) (by omega)
theorem smpW_some {l : List Value} {v : Value} (h : smpW l = some (true, v)) : ∃ u, l = [gi u] ∧ v = gf (sampleE u) ∧ -65536 ≤ u ∧ u ≤ 65536 := by
  unfold smpW at h
  split at h
  · rename_i u
    injection h with h
    injection h with h1 h2
    simp only [Bool.and_eq_true, ilt_dec, Bool.not_eq_true', decide_eq_false_iff_not] at h1
    exact ⟨u, rfl, h2.symm, by omega, by omega⟩
  · cases h
noncomputable def orcSm : Orc := orElse 78 (condO smpW) (orElse 100 (condO smpW) orcSs)
set_option maxRecDepth 100000 in
theorem orcSm_ok : OrcOk Tryz.prog orcSm := by
  refine condO_ok (fun l v h => ?_) (condO_ok (fun l v h => ?_) orcSs_ok)
  · obtain ⟨u, rfl, rfl, h1, h2⟩ := smpW_some h
    obtain ⟨b, hb, _⟩ := smI_some h1 h2
    exact ⟨rfl, rfl, callC_ok mixed orcSs_ok (noAsks_ok _) (Eq.mpr (Sample_run u _) ⟨by rw [show floatBits _ _ _ _ = some b from hb]; rfl, rfl⟩)⟩
  · obtain ⟨u, rfl, rfl, h1, h2⟩ := smpW_some h
    obtain ⟨b, hb, _⟩ := smI_some h1 h2
    exact ⟨rfl, rfl, callC_ok mixed orcSs_ok (noAsks_ok _) (Eq.mpr (sample_run u _) ⟨by rw [show floatBits _ _ _ _ = some b from hb]; rfl, rfl⟩)⟩
noncomputable def askSm : Asks := asksF 78 smpW (asksF 100 smpW (askSS askZ))
theorem askSm_ok : AsksOk orcSm askSm := asksF_ok (asksF_ok (askSS_ok askZ_ok))
theorem pow_cut (N : Nat) : ∀ e f : Nat, f = 149 + e → 16 * (N * 2 ^ 145 * 2 ^ e) = N * 2 ^ f := fun e f h => by
  subst h
  rw [Nat.pow_add 2 149 e, show (2 : Nat) ^ 149 = 16 * 2 ^ 145 by decide, Nat.mul_assoc, ← Nat.mul_assoc 16, Nat.mul_comm 16 N, Nat.mul_assoc N 16, ← Nat.mul_assoc 16]
/-- The sample of an integer has an error just if the integer is too great. -/
theorem smp_sample {u : Int} (h1 : -65536 ≤ u) (h2 : u ≤ 65536) : smpE (sampleE u) = if -16384 ≤ u ∧ u ≤ 16384 then 0 else 3 := by
  obtain ⟨b, b1, b2, b3, _⟩ := smI_some h1 h2
  have hs : sampleE u = b := by unfold sampleE; rw [b1]; rfl
  obtain ⟨c, y, k1, _, k3, k4, k5, _⟩ := scaled_fin b2
  have hm : floatBits .mul .f64 d16 (cvt b) = some y := by rw [cvt_eq k1]; exact k3
  have hy : sclE b = y := by unfold sclE; rw [hm]; rfl
  have hv : mv (y % 2 ^ 63) = u.natAbs * 2 ^ 1074 := by rw [k5, b3]; exact pow_cut _ 925 1074 (by decide)
  unfold smpE
  rw [hs, finB_iff.2 b2]
  show whenS (badE b) 3 = _
  have hb : badE b = (gtF (y % 2 ^ 63) c16 || neF y (trF y)) := by unfold badE; rw [hy, absE_mod]
  by_cases hu : -16384 ≤ u ∧ u ≤ 16384
  · obtain ⟨g1, g2⟩ := good_fin k4 (N := u.natAbs) (by omega) hv
    rw [if_pos hu, hb, g1, g2]; rfl
  · rw [if_neg hu, hb, bad_fin k4 (N := u.natAbs) (by omega) hv]; rfl
end Go.Proofs.YtphhcoiclkfimaaGreatDoor
