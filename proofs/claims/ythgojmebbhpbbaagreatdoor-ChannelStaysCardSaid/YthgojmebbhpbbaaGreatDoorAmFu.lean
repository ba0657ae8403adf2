/-
  OWN WORK. 'Am': the sixteenths of a whole number, as a check sees them.
-/
import Derived.Test.YthgojmebbhpbbaaGreatDoorAmFs
namespace Go.Am
open Ieee
theorem ofW_fin (s : Bool) {N : Nat} (hN : N ≤ 65536) : fin64 (double.nearest s N 0) ∧ mv (double.nearest s N 0 % 2 ^ 63) = N * 2 ^ 1074 ∧ (double.nearest s N 0 / 2 ^ 63 % 2 == 1) = s := by
 have hlog : N.log2 ≤ 16 := log2_lt_of (by omega)
 obtain ⟨k1, k2, k3⟩ := nearest_fin double s (mag := N) (V := N * 2 ^ 1074) (place := 0) (T := 2045)
  (by rw [show N.log2 - double.fractionBits = 0 by show N.log2 - 52 = 0; omega]; exact Nat.one_dvd _)
  (by rw [show (double.leastPlace - 0).toNat = 0 by rw [d_least]; rfl]; exact Nat.one_dvd _)
  (by rw [show (double.leastPlace - 0).toNat = 0 by rw [d_least]; rfl, show ((0 : Int) - double.leastPlace).toNat = 1074 by rw [d_least]; rfl, Nat.pow_zero, Nat.mul_one])
  (by decide) (by decide) (by right; rw [d_least]; show (0 : Int) + (N.log2 : Int) - (52 : Nat) - -1074 ≤ _; omega)
 have k2 : mv (double.nearest s N 0 % 2 ^ 63) = N * 2 ^ 1074 := k2
 exact ⟨k1, k2, k3⟩
theorem good_fin {y N : Nat} (hy : fin64 y) (hN : N ≤ 16384) (hv : mv (y % 2 ^ 63) = N * 2 ^ 1074) : gtF (y % 2 ^ 63) c16 = false ∧ neF y (trF y) = false := by
 obtain ⟨m, a, r1, r2, _, _⟩ := read_fin hy
 obtain ⟨a1, a2⟩ := abs_fin hy
 refine ⟨?_, ?_⟩
 ·rw [gtF_fin a1 c16_ok.1, a2, c16_ok.2, hv]
  refine decide_eq_false ?_
  generalize 2 ^ 1074 = U
  have : N * U ≤ 16384 * U := Nat.mul_le_mul_right U hN
  omega
 ·obtain ⟨i, h1, _, h3⟩ := trunc_same hy
  have h2 := toInt_exact double (K := 1074) (w := y) d_least r1 (r2.trans hv)
  rw [h1] at h2
  injection h2 with h2
  rw [h3]
  have hab : i.natAbs = N := by rw [h2]; split <;> omega
  obtain ⟨k1, k2, k3⟩ := ofW_fin (decide (i < 0)) (N := N) (by omega)
  have ho : ofI i = double.nearest (decide (i < 0)) N 0 := by unfold ofI; rw [hab]
  rw [ho, neF_fin k1 hy]
  have : dv (double.nearest (decide (i < 0)) N 0) = dv y := by
   unfold dv
   rw [k2, hv]
   generalize 2 ^ 1074 = U
   by_cases hs : y / 2 ^ 63 % 2 = 1
   ·rw [if_pos hs]
    by_cases h0 : N = 0
    ·rw [h0]; simp
    ·have hi : decide (i < 0) = true := by
      rw [h2, if_pos (by simp [hs])]
      exact decide_eq_true (by omega)
     rw [hi] at k3
     rw [hi, if_pos (by simpa using k3)]
   ·rw [if_neg hs]
    have hi : decide (i < 0) = false := by
     rw [h2, if_neg (by simp [hs])]
     exact decide_eq_false (by omega)
    rw [hi] at k3
    rw [hi, if_neg (by simpa using k3)]
  rw [this]
  simp
end Go.Am
