/-
  OWN WORK. 'Am': floats of 32 bits: sixteenths of integers, exactly; orders.
-/
import Derived.Test.YthgojmebbhpbbaaGreatDoorAmFm
namespace Go.Am
open Ieee
theorem ofN_fin (s : Bool) {n : Nat} (hn : n ≤ 65536) : fin32 (single.nearest s n 0) ∧ rv single (single.nearest s n 0 % 2 ^ 31) = n * 2 ^ 149 ∧ (single.nearest s n 0 / 2 ^ 31 % 2 == 1) = s := by
 have hl : n.log2 ≤ 16 := log2_lt_of (by omega)
 refine nearest_fin single s (mag := n) (place := 0) (V := n * 2 ^ 149) (T := 142) ?_ ?_ ?_ (by decide) (by decide) ?_
 ·rw [show n.log2 - single.fractionBits = 0 by show n.log2 - 23 = 0; omega]; exact Nat.one_dvd _
 ·exact Nat.one_dvd _
 ·show n * 2 ^ ((0 : Int) - (-149)).toNat = n * 2 ^ 149 * 2 ^ ((-149 : Int) - 0).toNat
  simp
 ·right
  show (0 : Int) + n.log2 - (23 : Nat) - (-149) ≤ (142 : Nat)
  omega
theorem div16 {c m a n : Nat} {s : Bool} (hc : single.read c = .number s m (-149 + (a : Int))) (hv : m * 2 ^ a = n * 2 ^ 149) (hm : m < 2 ^ 24) (hn : n ≤ 65536) :
  ∃ b, single.div c s16 = some b ∧ fin32 b ∧ rv single (b % 2 ^ 31) = n * 2 ^ 145 ∧ (b / 2 ^ 31 % 2 == 1) = s := by
 have hlm : m.log2 ≤ 23 := log2_lt_of hm
 obtain ⟨q, hq⟩ : ∃ q, 48 - m.log2 = q + 25 := ⟨23 - m.log2, by omega⟩
 have hdiv : (m <<< (q + 25)) / 2 ^ 23 = m * 2 ^ (q + 2) := by
  rw [Nat.shiftLeft_eq, show q + 25 = (q + 2) + 23 by omega, Nat.pow_add, ← Nat.mul_assoc, Nat.mul_div_cancel _ (Nat.two_pow_pos 23)]
 have hmod : (m <<< (q + 25)) % 2 ^ 23 = 0 := by
  rw [Nat.shiftLeft_eq, show q + 25 = (q + 2) + 23 by omega, Nat.pow_add, ← Nat.mul_assoc, Nat.mul_mod_left]
 have hd : single.div c s16 = some (single.nearest s (m * 2 ^ (q + 3)) ((a : Int) - q - 156)) := by
  unfold Format.div
  rw [hc, s16_read]
  simp only [Datum.quotient]
  rw [if_neg (by decide)]
  simp only [Option.map_some]
  rw [show single.fractionBits + 2 + (2 ^ 23 : Nat).log2 - m.log2 = q + 25 by
   rw [show (2 ^ 23 : Nat).log2 = 23 by decide]; show 23 + 2 + 23 - m.log2 = q + 25; omega]
  rw [hdiv, hmod]
  have e1 : 2 * (m * 2 ^ (q + 2)) + ((0 : Nat) != 0).toNat = m * 2 ^ (q + 3) := by
   simp only [bne_self_eq_false, Bool.toNat_false, Nat.add_zero]
   rw [show q + 3 = (q + 2) + 1 by omega, Nat.pow_succ (n := 2) (m := q + 2), Nat.mul_left_comm, Nat.mul_comm 2]
  rw [e1]
  have e2 : (-149 + (a : Int) - (4 - 23) - ((q + 25 : Nat) : Int) - 1) = (a : Int) - q - 156 := by omega
  rw [Bool.xor_false, e2]
  rfl
 refine ⟨_, hd, ?_⟩
 have ex : ((a : Int) - q - 156 - (-149)).toNat = a - (q + 7) := by omega
 have ey : ((-149 : Int) - ((a : Int) - q - 156)).toNat = q + 7 - a := by omega
 have key : m * 2 ^ (q + 3) * 2 ^ (a - (q + 7)) = n * 2 ^ 145 * 2 ^ (q + 7 - a) := by
  refine Nat.eq_of_mul_eq_mul_right (Nat.two_pow_pos a) ?_
  have l1 : m * 2 ^ (q + 3) * 2 ^ (a - (q + 7)) * 2 ^ a = m * 2 ^ a * 2 ^ (q + 3 + (a - (q + 7))) := by
   rw [Nat.pow_add 2 (q + 3), Nat.mul_assoc, Nat.mul_assoc, Nat.mul_assoc]
   congr 1
   rw [Nat.mul_comm (2 ^ a), Nat.mul_assoc]
  have l2 : n * 2 ^ 145 * 2 ^ (q + 7 - a) * 2 ^ a = n * 2 ^ 149 * 2 ^ (q + 3 + (a - (q + 7))) := by
   rw [Nat.mul_assoc, Nat.mul_assoc, Nat.mul_assoc, ← Nat.pow_add, ← Nat.pow_add, ← Nat.pow_add]
   congr 2
   omega
  rw [l1, l2, hv]
 have hlog : m ≠ 0 → (m * 2 ^ (q + 3)).log2 = 26 ∧ (a : Int) - q - 4 ≤ 140 := fun h0 => by
  refine ⟨?_, ?_⟩
  ·rw [Nat.mul_comm, log2_mul_pow (by omega)]; omega
  ·have h1 : 2 ^ (m.log2 + a) ≤ 2 ^ 165 := by
    rw [Nat.pow_add]
    refine Nat.le_trans (Nat.mul_le_mul_right _ (Nat.log2_self_le h0)) ?_
    rw [hv, show (165 : Nat) = 16 + 149 by rfl, Nat.pow_add 2 16]
    exact Nat.mul_le_mul_right _ (by simpa using hn)
   have := (Nat.pow_le_pow_iff_right (by decide : 1 < 2)).1 h1
   omega
 refine nearest_fin single s (mag := m * 2 ^ (q + 3)) (place := (a : Int) - q - 156) (V := n * 2 ^ 145) (T := 140) ?_ ?_ ?_ (by decide) (by decide) ?_
 ·by_cases h0 : m = 0
  ·rw [h0, Nat.zero_mul]; exact Nat.dvd_zero _
  ·rw [(hlog h0).1, show 26 - single.fractionBits = 3 by rfl]
   exact Nat.dvd_trans (Nat.pow_dvd_pow 2 (by omega)) (Nat.dvd_mul_left _ _)
 ·show 2 ^ ((-149 : Int) - ((a : Int) - q - 156)).toNat ∣ _
  rw [ey]
  by_cases h : q + 7 ≤ a
  ·rw [show q + 7 - a = 0 by omega]; exact Nat.one_dvd _
  ·have hm' : m = n * 2 ^ (149 - a) := by
    refine Nat.eq_of_mul_eq_mul_right (Nat.two_pow_pos a) ?_
    rw [hv, Nat.mul_assoc, ← Nat.pow_add, show 149 - a + a = 149 by omega]
   rw [hm', Nat.mul_assoc, ← Nat.pow_add]
   exact Nat.dvd_trans (Nat.pow_dvd_pow 2 (by omega)) (Nat.dvd_mul_left _ _)
 ·show m * 2 ^ (q + 3) * 2 ^ ((a : Int) - q - 156 - (-149)).toNat = n * 2 ^ 145 * 2 ^ ((-149 : Int) - ((a : Int) - q - 156)).toNat
  rw [ex, ey, key]
 ·by_cases h0 : m = 0
  ·left; rw [h0, Nat.zero_mul]
  ·right
   rw [(hlog h0).1]
   show (a : Int) - q - 156 + (26 : Nat) - (23 : Nat) - (-149) ≤ (140 : Nat)
   have := (hlog h0).2
   omega
theorem sample_fin (s : Bool) {n : Nat} (hn : n ≤ 65536) : ∃ b, floatBits .quo .f32 (Format.nearest (FloatKind.format .f32) s n 0) s16 = some b ∧ fin32 b ∧ rv single (b % 2 ^ 31) = n * 2 ^ 145 ∧ (b / 2 ^ 31 % 2 == 1) = s := by
 obtain ⟨h1, h2, h3⟩ := ofN_fin s hn
 obtain ⟨m, a, e1, e2, e3, _⟩ := sread_fin h1
 rw [h3] at e1
 exact div16 e1 (e2.trans h2) e3 hn
def sv (b : Nat) : Int := if b / 2 ^ 31 % 2 = 1 then -(rv single (b % 2 ^ 31) : Int) else rv single (b % 2 ^ 31)
theorem signed_sv {b m a : Nat} (h : m * 2 ^ a = rv single (b % 2 ^ 31)) : signed (b / 2 ^ 31 % 2 == 1) m a = sv b := by
 unfold sv signed
 rw [Nat.shiftLeft_eq, h]
 by_cases hb : b / 2 ^ 31 % 2 = 1 <;> simp [hb]
theorem sorder_fin {x y : Nat} (hx : fin32 x) (hy : fin32 y) : single.order x y = some (compare (sv x) (sv y)) := by
 obtain ⟨m, a, h1, h2, _, _⟩ := sread_fin hx
 obtain ⟨n, c, h3, h4, _, _⟩ := sread_fin hy
 unfold Format.order
 rw [h1, h3]
 simp only [Datum.order, Option.some.injEq]
 have e1 : (-149 + (a : Int) - min (-149 + (a : Int)) (-149 + (c : Int))).toNat = a - min a c := by omega
 have e2 : (-149 + (c : Int) - min (-149 + (a : Int)) (-149 + (c : Int))).toNat = c - min a c := by omega
 rw [e1, e2, ← signed_sv h2, ← signed_sv h4]
 have s1 : signed (x / 2 ^ 31 % 2 == 1) m a = signed (x / 2 ^ 31 % 2 == 1) m (a - min a c) * (2 ^ min a c : Nat) := by
  rw [← signed_mul]
  congr 1
  omega
 have s2 : signed (y / 2 ^ 31 % 2 == 1) n c = signed (y / 2 ^ 31 % 2 == 1) n (c - min a c) * (2 ^ min a c : Nat) := by
  rw [← signed_mul]
  congr 1
  omega
 rw [s1, s2, compare_mul (Nat.two_pow_pos _)]
end Go.Am
