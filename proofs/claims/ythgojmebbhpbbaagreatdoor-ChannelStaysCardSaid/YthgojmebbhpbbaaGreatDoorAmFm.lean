/-
  OWN WORK. 'Am', on floats (AmFm): what is written exactly; values of floats of both kinds in their least units.
-/
import Derived.Test.YthgojmebbhpbbaaGreatDoorAmFl
namespace Go.Am
open Ieee
theorem cut_even {s : Bool} {n d : Nat} (hn : 0 < n) (hd : 2 ^ d ∣ n) : Toward.cut .even s n d = n / 2 ^ d := by
 have hle : 2 ^ d ≤ n := Nat.le_of_dvd hn hd
 have hlog : d ≤ n.log2 := (Nat.le_log2 (by omega)).2 hle
 unfold Toward.cut
 rw [Nat.min_eq_left (by omega), Nat.shiftLeft_eq, Nat.one_mul]
 have hr : n % 2 ^ d = 0 := Nat.mod_eq_zero_of_dvd hd
 have hp : 0 < 2 ^ d := Nat.two_pow_pos _
 simp only [hr]
 have : ¬ (2 ^ d = 0) := by omega
 simp
def rv (f : Format) (r : Nat) : Nat := if r < 2 ^ f.fractionBits then r else (2 ^ f.fractionBits + r % 2 ^ f.fractionBits) * 2 ^ (r / 2 ^ f.fractionBits - 1)
theorem rv_mk (f : Format) {t k : Nat} (h1 : k < 2 * 2 ^ f.fractionBits) (h2 : t = 0 ∨ 2 ^ f.fractionBits ≤ k) : rv f (t * 2 ^ f.fractionBits + k) = k * 2 ^ t := by
 unfold rv
 have hp : 0 < 2 ^ f.fractionBits := Nat.two_pow_pos _
 generalize 2 ^ f.fractionBits = B at h1 h2 hp
 by_cases hk : k < B
 ·have : t = 0 := by rcases h2 with h | h <;> omega
  subst this
  simp [hk]
 ·have e : t * B + k = (t + 1) * B + (k - B) := by rw [Nat.add_mul]; omega
  have hge : ¬ (t * B + k < B) := by
   have := Nat.zero_le (t * B)
   omega
  rw [if_neg hge, e]
  have hm : ((t + 1) * B + (k - B)) % B = k - B := by
   rw [Nat.mul_comm, Nat.mul_add_mod]
   exact Nat.mod_eq_of_lt (by omega)
  have hd : ((t + 1) * B + (k - B)) / B = t + 1 := by
   rw [Nat.mul_comm, Nat.mul_add_div hp, Nat.div_eq_of_lt (by omega)]
  rw [hm, hd]
  congr 1
  omega
theorem nearest_exact (f : Format) (s : Bool) {mag : Nat} {place : Int} (h0 : 0 < mag) (h1 : 2 ^ (mag.log2 - f.fractionBits) ∣ mag) (h2 : 2 ^ (f.leastPlace - place).toNat ∣ mag) :
  ∃ k t : Nat, f.nearest s mag place = f.word s (min (t * 2 ^ f.fractionBits + k) f.infRung) ∧ k < 2 * 2 ^ f.fractionBits ∧ (t = 0 ∨ 2 ^ f.fractionBits ≤ k) ∧
   k * 2 ^ t * 2 ^ (f.leastPlace - place).toNat = mag * 2 ^ (place - f.leastPlace).toNat ∧ t = (max (place + mag.log2 - f.fractionBits) f.leastPlace - f.leastPlace).toNat := by
 have hlo : 2 ^ mag.log2 ≤ mag := Nat.log2_self_le (by omega)
 have hhi : mag < 2 ^ (mag.log2 + 1) := Nat.lt_log2_self
 have hN : f.nearest s mag place = f.word s (min ((max (place + mag.log2 - f.fractionBits) f.leastPlace - f.leastPlace).toNat * 2 ^ f.fractionBits + Toward.even.cut s (mag <<< (place - max (place + mag.log2 - f.fractionBits) f.leastPlace).toNat) (max (place + mag.log2 - f.fractionBits) f.leastPlace - place).toNat) f.infRung) := by
  unfold Format.nearest
  rw [if_neg (by omega)]
  rfl
 rw [hN]
 generalize hlast : max (place + mag.log2 - f.fractionBits) f.leastPlace = last
 generalize f.leastPlace = L at *
 generalize f.fractionBits = F at *
 generalize mag.log2 = g at *
 have hdv : 2 ^ (last - place).toNat ∣ mag <<< (place - last).toNat := by
  rw [Nat.shiftLeft_eq]
  refine Nat.dvd_mul_right_of_dvd ?_ _
  by_cases hc : place + (g : Int) - (F : Int) ≤ L
  ·rw [show last = L by omega]; exact h2
  ·rw [show (last - place).toNat = g - F by omega]; exact h1
 have hpos : 0 < mag <<< (place - last).toNat := by rw [Nat.shiftLeft_eq]; exact Nat.mul_pos h0 (Nat.two_pow_pos _)
 rw [cut_even hpos hdv]
 rw [Nat.shiftLeft_eq] at hdv ⊢
 obtain ⟨k, hk⟩ := hdv
 have hkk : mag * 2 ^ (place - last).toNat / 2 ^ (last - place).toNat = k := by rw [hk]; exact Nat.mul_div_cancel_left _ (Nat.two_pow_pos _)
 rw [hkk]
 refine ⟨k, _, rfl, ?_, ?_, ?_, rfl⟩
 ·by_cases hc : place ≤ last
  ·rw [show (place - last).toNat = 0 by omega, Nat.pow_zero, Nat.mul_one] at hk
   have : 2 ^ (last - place).toNat * k < 2 ^ (last - place).toNat * (2 * 2 ^ F) := by
    rw [← hk]
    refine Nat.lt_of_lt_of_le hhi ?_
    rw [← Nat.pow_succ', ← Nat.pow_add]
    exact Nat.pow_le_pow_right (by decide) (by omega)
   exact Nat.lt_of_mul_lt_mul_left this
  ·rw [show (last - place).toNat = 0 by omega, Nat.pow_zero, Nat.one_mul] at hk
   rw [← hk]
   have : mag * 2 ^ (place - last).toNat < 2 ^ (g + 1) * 2 ^ (place - last).toNat := Nat.mul_lt_mul_of_pos_right hhi (Nat.two_pow_pos _)
   refine Nat.lt_of_lt_of_le this ?_
   rw [← Nat.pow_succ', ← Nat.pow_add]
   exact Nat.pow_le_pow_right (by decide) (by omega)
 ·by_cases ht : last = L
  ·left; omega
  ·right
   have hl : last = place + (g : Int) - (F : Int) := by omega
   by_cases hc : place ≤ last
   ·rw [show (place - last).toNat = 0 by omega, Nat.pow_zero, Nat.mul_one] at hk
    have : 2 ^ (last - place).toNat * 2 ^ F ≤ 2 ^ (last - place).toNat * k := by
     rw [← hk, ← Nat.pow_add, show (last - place).toNat + F = g by omega]
     exact hlo
    exact Nat.le_of_mul_le_mul_left this (Nat.two_pow_pos _)
   ·rw [show (last - place).toNat = 0 by omega, Nat.pow_zero, Nat.one_mul] at hk
    rw [← hk]
    refine Nat.le_trans ?_ (Nat.mul_le_mul_right _ hlo)
    rw [← Nat.pow_add]
    exact Nat.pow_le_pow_right (by decide) (by omega)
 ·by_cases hc : place ≤ last
  ·rw [show (place - last).toNat = 0 by omega, Nat.pow_zero, Nat.mul_one] at hk
   rw [hk, Nat.mul_assoc, ← Nat.pow_add, Nat.mul_comm (2 ^ _) k, Nat.mul_assoc, ← Nat.pow_add]
   congr 2
   omega
  ·rw [show (last - place).toNat = 0 by omega, Nat.pow_zero, Nat.one_mul] at hk
   rw [← hk, Nat.mul_assoc, Nat.mul_assoc, ← Nat.pow_add, ← Nat.pow_add]
   congr 2
   omega
theorem word_mod (f : Format) (s : Bool) {r : Nat} (h : r < f.signWeight) : f.word s r % f.signWeight = r ∧ (f.word s r / f.signWeight % 2 == 1) = s := by
 unfold Format.word
 have hp : 0 < f.signWeight := by omega
 cases s with
 | false =>
  simp only [Bool.false_eq_true, if_false]
  refine ⟨Nat.mod_eq_of_lt h, ?_⟩
  rw [Nat.div_eq_of_lt h]
  rfl
 | true =>
  simp only [if_true]
  refine ⟨by rw [Nat.add_mod_left]; exact Nat.mod_eq_of_lt h, ?_⟩
  rw [Nat.add_div_left _ hp, Nat.div_eq_of_lt h]
  rfl
theorem nearest_fin (f : Format) (s : Bool) {mag V : Nat} {place : Int} (h1 : 2 ^ (mag.log2 - f.fractionBits) ∣ mag) (h2 : 2 ^ (f.leastPlace - place).toNat ∣ mag) (hV : mag * 2 ^ (place - f.leastPlace).toNat = V * 2 ^ (f.leastPlace - place).toNat)
  {T : Nat} (hT : (T + 2) * 2 ^ f.fractionBits ≤ f.infRung) (hS : f.infRung ≤ f.signWeight) (ht : mag = 0 ∨ place + mag.log2 - f.fractionBits - f.leastPlace ≤ (T : Int)) :
  f.nearest s mag place % f.signWeight < f.infRung ∧ rv f (f.nearest s mag place % f.signWeight) = V ∧ (f.nearest s mag place / f.signWeight % 2 == 1) = s := by
 have hB : 0 < 2 ^ f.fractionBits := Nat.two_pow_pos _
 have hI : 2 * 2 ^ f.fractionBits ≤ f.infRung := by
  refine Nat.le_trans ?_ hT
  exact Nat.mul_le_mul_right _ (by omega)
 by_cases h0 : mag = 0
 ·subst h0
  have : f.nearest s 0 place = f.word s 0 := by unfold Format.nearest; rw [if_pos rfl]
  rw [this]
  obtain ⟨q1, q2⟩ := word_mod f s (r := 0) (by omega)
  rw [q1, q2]
  refine ⟨by omega, ?_, rfl⟩
  rw [Nat.zero_mul] at hV
  have := Nat.two_pow_pos (f.leastPlace - place).toNat
  have hV0 : V = 0 := by
   rcases Nat.mul_eq_zero.1 hV.symm with h | h
   ·exact h
   ·omega
  subst hV0
  unfold rv
  rw [if_pos hB]
 ·obtain ⟨k, t, e, hk, htk, hv, htt⟩ := nearest_exact f s (mag := mag) (place := place) (by omega) h1 h2
  have ht : place + mag.log2 - f.fractionBits - f.leastPlace ≤ (T : Int) := by
   rcases ht with h | h
   ·exact absurd h h0
   ·exact h
  have htT : t ≤ T := by omega
  have hlt : t * 2 ^ f.fractionBits + k < f.infRung := by
   refine Nat.lt_of_lt_of_le ?_ hT
   rw [Nat.add_mul]
   have := Nat.mul_le_mul_right (2 ^ f.fractionBits) htT
   omega
  rw [e, Nat.min_eq_left (by omega)]
  obtain ⟨q1, q2⟩ := word_mod f s (r := t * 2 ^ f.fractionBits + k) (by omega)
  rw [q1, q2, rv_mk f hk htk]
  refine ⟨hlt, ?_, rfl⟩
  rw [hV] at hv
  exact Nat.eq_of_mul_eq_mul_right (Nat.two_pow_pos _) hv
theorem log2_mul_pow {m F : Nat} (hm : 0 < m) : (2 ^ F * m).log2 = F + m.log2 := by
 have h1 : 2 ^ m.log2 ≤ m := Nat.log2_self_le (by omega)
 have h2 : m < 2 ^ (m.log2 + 1) := Nat.lt_log2_self
 have hp : 0 < 2 ^ F := Nat.two_pow_pos _
 refine (Nat.log2_eq_iff (by have := Nat.mul_pos hp hm; omega)).2 ⟨?_, ?_⟩
 ·rw [Nat.pow_add]; exact Nat.mul_le_mul_left _ h1
 ·rw [Nat.add_assoc, Nat.pow_add]; exact Nat.mul_lt_mul_of_pos_left h2 hp
theorem mul16 (f : Format) {c w m a T : Nat} {s : Bool} (hF : 4 ≤ f.fractionBits) (hc : f.read c = .number false (2 ^ f.fractionBits) (4 - (f.fractionBits : Int))) (hw : f.read w = .number s m (f.leastPlace + (a : Int))) (hm : m < 2 * 2 ^ f.fractionBits)
  (hT : (T + 2) * 2 ^ f.fractionBits ≤ f.infRung) (hS : f.infRung ≤ f.signWeight) (ht : m = 0 ∨ a + m.log2 + 4 ≤ f.fractionBits + T) :
  ∃ y, f.mul c w = some y ∧ y % f.signWeight < f.infRung ∧ rv f (y % f.signWeight) = 16 * (m * 2 ^ a) ∧ (y / f.signWeight % 2 == 1) = s := by
 refine ⟨f.nearest s (2 ^ f.fractionBits * m) (4 - (f.fractionBits : Int) + (f.leastPlace + (a : Int))), ?_, ?_⟩
 ·unfold Format.mul
  rw [hc, hw]
  simp [Datum.product, Format.write]
 ·generalize hL : f.leastPlace = L at *
  have hlog : m.log2 ≤ f.fractionBits := by
   by_cases h0 : m = 0
   ·subst h0; simp
   ·have : m.log2 < f.fractionBits + 1 := (Nat.log2_lt h0).2 (by rw [Nat.pow_succ]; omega)
    omega
  have key := nearest_fin f s (mag := 2 ^ f.fractionBits * m) (V := 16 * (m * 2 ^ a)) (place := 4 - (f.fractionBits : Int) + (f.leastPlace + (a : Int))) ?_ ?_ ?_ hT hS ?_
  ·rw [hL] at key; exact key
  ·by_cases h0 : m = 0
   ·subst h0; simp
   ·rw [log2_mul_pow (by omega), show f.fractionBits + m.log2 - f.fractionBits = m.log2 by omega]
    exact Nat.dvd_mul_right_of_dvd (Nat.pow_dvd_pow 2 hlog) _
  ·exact Nat.dvd_mul_right_of_dvd (Nat.pow_dvd_pow 2 (by omega)) _
  ·rw [show (f.leastPlace - (4 - (f.fractionBits : Int) + (f.leastPlace + (a : Int)))).toNat = f.fractionBits - 4 - a by omega, show (4 - (f.fractionBits : Int) + (f.leastPlace + (a : Int)) - f.leastPlace).toNat = a + 4 - f.fractionBits by omega]
   rw [show 16 = 2 ^ 4 by rfl]
   have e : 2 ^ f.fractionBits * 2 ^ (a + 4 - f.fractionBits) = 2 ^ 4 * 2 ^ a * 2 ^ (f.fractionBits - 4 - a) := by
    rw [← Nat.pow_add, ← Nat.pow_add, ← Nat.pow_add]
    congr 1
    omega
   calc 2 ^ f.fractionBits * m * 2 ^ (a + 4 - f.fractionBits) = m * (2 ^ f.fractionBits * 2 ^ (a + 4 - f.fractionBits)) := by ac_rfl
    _ = m * (2 ^ 4 * 2 ^ a * 2 ^ (f.fractionBits - 4 - a)) := by rw [e]
    _ = _ := by ac_rfl
  ·by_cases h0 : m = 0
   ·left; subst h0; simp
   ·right
    rw [log2_mul_pow (by omega)]
    rcases ht with h | h
    ·exact absurd h h0
    ·rw [hL]; omega
theorem cut_zero_exact {s : Bool} {n d N : Nat} (h : n = N * 2 ^ d) : Toward.cut .zero s n d = N := by
 rw [cut_zero]
 by_cases h0 : N = 0
 ·subst h0; subst h; simp
 ·have hpos : 0 < 2 ^ d := Nat.two_pow_pos _
  have hle : 2 ^ d ≤ n := by rw [h]; exact Nat.le_mul_of_pos_left _ (by omega)
  have hlog : d ≤ n.log2 := (Nat.le_log2 (by omega)).2 hle
  rw [Nat.min_eq_left (by omega), h]
  exact Nat.mul_div_cancel _ hpos
theorem toInt_exact (f : Format) {w m a K N : Nat} {s : Bool} (hL : f.leastPlace = -(K : Int)) (hw : f.read w = .number s m (f.leastPlace + (a : Int))) (hv : m * 2 ^ a = N * 2 ^ K) : (f.read w).toInt .zero = some (if s then -(N : Int) else N) := by
 rw [hw, hL]
 simp only [Datum.toInt, Datum.integral]
 have : Toward.cut .zero s (m <<< (-(K : Int) + (a : Int)).toNat) (-(-(K : Int) + (a : Int))).toNat = N := by
  refine cut_zero_exact ?_
  rw [Nat.shiftLeft_eq]
  have e : m * 2 ^ a * 2 ^ (a - K) * 2 ^ (K - a) = m * 2 ^ a * 2 ^ (a - K) * 2 ^ (K - a) := rfl
  by_cases hc : K ≤ a
  ·rw [show (-(K : Int) + (a : Int)).toNat = a - K by omega, show (-(-(K : Int) + (a : Int))).toNat = 0 by omega, Nat.pow_zero, Nat.mul_one]
   have : m * 2 ^ (a - K) * 2 ^ K = N * 2 ^ K := by rw [Nat.mul_assoc, ← Nat.pow_add, show a - K + K = a by omega, hv]
   exact Nat.eq_of_mul_eq_mul_right (Nat.two_pow_pos _) this
  ·rw [show (-(K : Int) + (a : Int)).toNat = 0 by omega, show (-(-(K : Int) + (a : Int))).toNat = K - a by omega, Nat.pow_zero, Nat.mul_one]
   have : m * 2 ^ a = N * 2 ^ (K - a) * 2 ^ a := by rw [Nat.mul_assoc, ← Nat.pow_add, show K - a + a = K by omega, hv]
   exact Nat.eq_of_mul_eq_mul_right (Nat.two_pow_pos _) this
 rw [this]
 unfold signed
 cases s <;> simp
def fin32 (x : Nat) : Prop := x % 2 ^ 31 < 255 * 2 ^ 23
def inf32 (x : Nat) : Prop := x % 2 ^ 31 = 255 * 2 ^ 23
theorem sread_eq (b : Nat) : single.read b = if b % 2 ^ 31 < 2 ^ 23 then .number (b / 2 ^ 31 % 2 == 1) (b % 2 ^ 31) (-149) else if b % 2 ^ 31 < 255 * 2 ^ 23 then .number (b / 2 ^ 31 % 2 == 1) (2 ^ 23 + b % 2 ^ 31 % 2 ^ 23) (-149 + ((b % 2 ^ 31 / 2 ^ 23 - 1 : Nat) : Int)) else if b % 2 ^ 31 = 255 * 2 ^ 23 then .infinity (b / 2 ^ 31 % 2 == 1) else .nan (b / 2 ^ 31 % 2 == 1) (b % 2 ^ 31 - 255 * 2 ^ 23) := rfl
theorem rv_single (r : Nat) : rv single r = if r < 2 ^ 23 then r else (2 ^ 23 + r % 2 ^ 23) * 2 ^ (r / 2 ^ 23 - 1) := rfl
theorem sread_fin {b : Nat} (h : fin32 b) : ∃ m a : Nat, single.read b = .number (b / 2 ^ 31 % 2 == 1) m (-149 + (a : Int)) ∧ m * 2 ^ a = rv single (b % 2 ^ 31) ∧ m < 2 ^ 24 ∧ a ≤ 253 := by
 unfold fin32 at h
 rw [sread_eq, rv_single]
 by_cases h1 : b % 2 ^ 31 < 2 ^ 23
 ·rw [if_pos h1, if_pos h1]
  exact ⟨b % 2 ^ 31, 0, by simp, by simp, by omega, by omega⟩
 ·rw [if_neg h1, if_pos h, if_neg h1]
  have h2 : b % 2 ^ 31 % 2 ^ 23 < 2 ^ 23 := Nat.mod_lt _ (by decide)
  have h3 : b % 2 ^ 31 / 2 ^ 23 < 255 := (Nat.div_lt_iff_lt_mul (by decide)).2 h
  exact ⟨2 ^ 23 + b % 2 ^ 31 % 2 ^ 23, b % 2 ^ 31 / 2 ^ 23 - 1, rfl, rfl, by omega, by omega⟩
theorem sread_inf {b : Nat} (h : inf32 b) : single.read b = .infinity (b / 2 ^ 31 % 2 == 1) := by
 unfold inf32 at h
 rw [sread_eq, if_neg (by omega), if_neg (by omega), if_pos h]
theorem log2_lt_of {m k : Nat} (h : m < 2 ^ (k + 1)) : m.log2 ≤ k := by
 by_cases h0 : m = 0
 ·subst h0; simp
 ·have := (Nat.log2_lt h0).2 h
  omega
theorem cvt_fin {x : Nat} (h : fin32 x) : ∃ c m a : Nat, floatToFloatBits .f32 x .f64 = some c ∧ fin64 c ∧ double.read c = .number (x / 2 ^ 31 % 2 == 1) m (-1074 + (a : Int)) ∧ m < 2 ^ 53 ∧ m * 2 ^ a = rv single (x % 2 ^ 31) * 2 ^ 925 ∧ (m = 0 ∨ a + m.log2 ≤ 1201) := by
 obtain ⟨m, a, h1, h2, h3, h4⟩ := sread_fin h
 have hlog : m.log2 ≤ 23 := log2_lt_of h3
 have key := nearest_fin double (x / 2 ^ 31 % 2 == 1) (mag := m) (V := m * 2 ^ a * 2 ^ 925) (place := -149 + (a : Int)) (T := 2045) ?_ ?_ ?_ (by decide) (by decide) ?_
 ·obtain ⟨k1, k2, k3⟩ := key
  have hc : fin64 (double.nearest (x / 2 ^ 31 % 2 == 1) m (-149 + (a : Int))) := k1
  obtain ⟨n, b, r1, r2, r3, r4⟩ := read_fin hc
  refine ⟨double.nearest (x / 2 ^ 31 % 2 == 1) m (-149 + (a : Int)), n, b, ?_, hc, ?_, r3, ?_, ?_⟩
  ·unfold floatToFloatBits
   rw [if_neg (by decide), show FloatKind.decode .f32 x = single.read x from rfl, h1]
   simp only
   rw [show FloatKind.decode .f64 (FloatKind.encode .f64 (.number (x / 2 ^ 31 % 2 == 1) m (-149 + (a : Int)))) = double.read (double.nearest (x / 2 ^ 31 % 2 == 1) m (-149 + (a : Int))) from rfl, r1]
   rfl
  ·rw [r1]
   congr 1
  ·rw [r2, ← h2, ← k2]
   rfl
  ·by_cases h0 : n = 0
   ·exact .inl h0
   ·right
    have e : n * 2 ^ b = m * 2 ^ a * 2 ^ 925 := by rw [r2, ← k2]; rfl
    have l1 : 2 ^ n.log2 ≤ n := Nat.log2_self_le h0
    have l2 : 2 ^ (n.log2 + b) ≤ m * 2 ^ a * 2 ^ 925 := by rw [← e, Nat.pow_add]; exact Nat.mul_le_mul_right _ l1
    have l3 : m * 2 ^ a * 2 ^ 925 < 2 ^ (24 + a + 925) := by
     rw [Nat.pow_add, Nat.pow_add]
     exact Nat.mul_lt_mul_of_pos_right (Nat.mul_lt_mul_of_pos_right h3 (Nat.two_pow_pos _)) (Nat.two_pow_pos 925)
    have := (Nat.pow_lt_pow_iff_right (by decide)).1 (Nat.lt_of_le_of_lt l2 l3)
    omega
 ·rw [show m.log2 - double.fractionBits = 0 by show m.log2 - 52 = 0; omega]
  exact Nat.one_dvd _
 ·rw [show (double.leastPlace - (-149 + (a : Int))).toNat = 0 by rw [d_least]; omega]
  exact Nat.one_dvd _
 ·rw [show (double.leastPlace - (-149 + (a : Int))).toNat = 0 by rw [d_least]; omega, show (-149 + (a : Int) - double.leastPlace).toNat = a + 925 by rw [d_least]; omega, Nat.pow_zero, Nat.mul_one, Nat.pow_add, Nat.mul_assoc]
 ·right
  rw [d_least]
  show -149 + (a : Int) + (m.log2 : Int) - (52 : Nat) - -1074 ≤ _
  omega
theorem cvt_inf {x : Nat} (h : inf32 x) : ∃ c, floatToFloatBits .f32 x .f64 = some c ∧ inf64 c := by
 refine ⟨double.word (x / 2 ^ 31 % 2 == 1) double.infRung, ?_, ?_⟩
 ·unfold floatToFloatBits
  rw [if_neg (by decide), show FloatKind.decode .f32 x = single.read x from rfl, sread_inf h]
  rfl
 ·exact (word_mod double _ (r := double.infRung) (by decide)).1
def d16 : Nat := 4625196817309499392
def s16 : Nat := 1098907648
theorem d16_read : double.read d16 = .number false (2 ^ 52) (4 - (52 : Int)) := by decide +kernel
theorem s16_read : single.read s16 = .number false (2 ^ 23) (4 - (23 : Int)) := by decide +kernel
theorem scaled_fin {x : Nat} (h : fin32 x) : ∃ c y, floatToFloatBits .f32 x .f64 = some c ∧ fin64 c ∧ double.mul d16 c = some y ∧ fin64 y ∧ mv (y % 2 ^ 63) = 16 * (rv single (x % 2 ^ 31) * 2 ^ 925) ∧ (y / 2 ^ 63 % 2 == 1) = (x / 2 ^ 31 % 2 == 1) := by
 obtain ⟨c, m, a, h1, h2, h3, h4, h5, h6⟩ := cvt_fin h
 obtain ⟨y, k1, k2, k3, k4⟩ := mul16 double (c := d16) (w := c) (m := m) (a := a) (T := 2045) (s := (x / 2 ^ 31 % 2 == 1)) (by decide) d16_read h3 (by show m < 2 * 2 ^ 52; omega) (by decide) (by decide) (by
  rcases h6 with h | h
  ·exact .inl h
  ·right; show a + m.log2 + 4 ≤ 52 + 2045; omega)
 refine ⟨c, y, h1, h2, k1, k2, ?_, k4⟩
 rw [← h5]
 exact k3
theorem scaled_inf {x : Nat} (h : inf32 x) : ∃ c y, floatToFloatBits .f32 x .f64 = some c ∧ inf64 c ∧ double.mul d16 c = some y ∧ inf64 y := by
 obtain ⟨c, h1, h2⟩ := cvt_inf h
 refine ⟨c, double.word (c / 2 ^ 63 % 2 == 1) double.infRung, h1, h2, ?_, (word_mod double _ (r := double.infRung) (by decide)).1⟩
 unfold Format.mul
 rw [d16_read, read_inf h2]
 generalize (c / 2 ^ 63 % 2 == 1) = s
 cases s <;> rfl
theorem whole_fin {y : Nat} (hy : fin64 y) (h1 : gtF (y % 2 ^ 63) c16 = false) (h2 : neF y (trF y) = false) : ∃ N : Nat, N ≤ 16384 ∧ mv (y % 2 ^ 63) = N * 2 ^ 1074 := by
 obtain ⟨m, a, r1, r2, _, _⟩ := read_fin hy
 obtain ⟨a1, a2⟩ := abs_fin hy
 have hle := cut_le (y / 2 ^ 63 % 2 == 1) m a
 rw [r2] at hle
 rw [gtF_fin a1 c16_ok.1, a2, c16_ok.2] at h1
 have h1 := of_decide_eq_false h1
 unfold trF at h2
 rw [r1] at h2
 simp only [Datum.integral, Format.write] at h2
 generalize hN : Toward.cut .zero (y / 2 ^ 63 % 2 == 1) (m <<< (-1074 + (a : Int)).toNat) (-(-1074 + (a : Int))).toNat = N at hle h2
 have hU : 0 < 2 ^ 1074 := Nat.two_pow_pos 1074
 have hbound : N ≤ 16384 := by
  have : N * 2 ^ 1074 ≤ 16384 * 2 ^ 1074 := by
   refine Nat.le_trans hle ?_
   generalize 2 ^ 1074 = U at *
   omega
  generalize 2 ^ 1074 = U at this hU
  exact Nat.le_of_mul_le_mul_right this hU
 refine ⟨N, hbound, ?_⟩
 have hlog : N.log2 ≤ 14 := log2_lt_of (by omega)
 obtain ⟨k1, k2, k3⟩ := nearest_fin double (y / 2 ^ 63 % 2 == 1) (mag := N) (V := N * 2 ^ 1074) (place := 0) (T := 2045)
  (by rw [show N.log2 - double.fractionBits = 0 by show N.log2 - 52 = 0; omega]; exact Nat.one_dvd _)
  (by rw [show (double.leastPlace - 0).toNat = 0 by rw [d_least]; rfl]; exact Nat.one_dvd _)
  (by rw [show (double.leastPlace - 0).toNat = 0 by rw [d_least]; rfl, show ((0 : Int) - double.leastPlace).toNat = 1074 by rw [d_least]; rfl, Nat.pow_zero, Nat.mul_one])
  (by decide) (by decide) (by right; rw [d_least]; show (0 : Int) + (N.log2 : Int) - (52 : Nat) - -1074 ≤ _; omega)
 have hf : fin64 (double.nearest (y / 2 ^ 63 % 2 == 1) N 0) := k1
 rw [neF_fin hy hf] at h2
 have h2 : dv y = dv (double.nearest (y / 2 ^ 63 % 2 == 1) N 0) := by simpa using h2
 have k2 : mv (double.nearest (y / 2 ^ 63 % 2 == 1) N 0 % 2 ^ 63) = N * 2 ^ 1074 := k2
 have k3 : (double.nearest (y / 2 ^ 63 % 2 == 1) N 0 / 2 ^ 63 % 2 == 1) = (y / 2 ^ 63 % 2 == 1) := k3
 unfold dv at h2
 rw [k2] at h2
 by_cases hs : y / 2 ^ 63 % 2 = 1
 ·have hs' : double.nearest (y / 2 ^ 63 % 2 == 1) N 0 / 2 ^ 63 % 2 = 1 := by rw [show (y / 2 ^ 63 % 2 == 1) = true by simp [hs]] at k3 ⊢; simpa using k3
  rw [if_pos hs, if_pos hs'] at h2
  omega
 ·have hs' : ¬ double.nearest (y / 2 ^ 63 % 2 == 1) N 0 / 2 ^ 63 % 2 = 1 := by rw [show (y / 2 ^ 63 % 2 == 1) = false by simp [hs]] at k3 ⊢; simpa using k3
  rw [if_neg hs, if_neg hs'] at h2
  omega
theorem unit_fin {x N : Nat} (h : fin32 x) (hN : N ≤ 16384) (hv : 16 * (rv single (x % 2 ^ 31) * 2 ^ 925) = N * 2 ^ 1074) :
  ∃ p, single.mul s16 x = some p ∧ floatToIntVal .f32 p .i64 = some (if (x / 2 ^ 31 % 2 == 1) = true then -(N : Int) else N) := by
 obtain ⟨m, a, h1, h2, h3, h4⟩ := sread_fin h
 have hval : 16 * (m * 2 ^ a) = N * 2 ^ 149 := by
  rw [h2]
  have : 16 * rv single (x % 2 ^ 31) * 2 ^ 925 = N * 2 ^ 149 * 2 ^ 925 := by
   have key : ∀ a b c : Nat, c = a + b → N * 2 ^ c = N * 2 ^ a * 2 ^ b := fun a b c h => by rw [h, Nat.mul_assoc, ← Nat.pow_add]
   rw [Nat.mul_assoc, hv]
   exact key 149 925 1074 rfl
  exact Nat.eq_of_mul_eq_mul_right (Nat.two_pow_pos 925) this
 obtain ⟨p, k1, k2, k3, k4⟩ := mul16 single (c := s16) (w := x) (m := m) (a := a) (T := 253) (s := (x / 2 ^ 31 % 2 == 1)) (by decide) s16_read h1 (by show m < 2 * 2 ^ 23; omega) (by decide) (by decide) (by
  by_cases h0 : m = 0
  ·exact .inl h0
  ·right
   show a + m.log2 + 4 ≤ 23 + 253
   have l1 : 2 ^ m.log2 ≤ m := Nat.log2_self_le h0
   have l2 : 2 ^ (4 + (m.log2 + a)) ≤ 16 * (m * 2 ^ a) := by
    rw [Nat.pow_add 2 4, Nat.pow_add]
    exact Nat.mul_le_mul_left _ (Nat.mul_le_mul_right _ l1)
   have l3 : N * 2 ^ 149 ≤ 2 ^ (14 + 149) := by
    rw [Nat.pow_add]
    exact Nat.mul_le_mul_right _ (by omega)
   rw [hval] at l2
   have := (Nat.pow_le_pow_iff_right (by decide)).1 (Nat.le_trans l2 l3)
   omega)
 have hp : fin32 p := k2
 refine ⟨p, k1, ?_⟩
 obtain ⟨n, b, r1, r2, _, _⟩ := sread_fin hp
 have hr : rv single (p % 2 ^ 31) = N * 2 ^ 149 := by rw [← hval]; exact k3
 have e := toInt_exact single (K := 149) (w := p) (by decide) r1 (r2.trans hr)
 have k4 : (p / 2 ^ 31 % 2 == 1) = (x / 2 ^ 31 % 2 == 1) := k4
 rw [k4] at e
 unfold floatToIntVal
 rw [show FloatKind.decode .f32 p = single.read p from rfl, e]
 simp only
 rw [if_pos]
 rw [show IntKind.i64.min = -9223372036854775808 by decide, show IntKind.i64.max = 9223372036854775807 by decide]
 split <;> omega
theorem sub_self {x : Nat} (h : fin32 x) : single.sub x x = some 0 := by
 obtain ⟨m, a, h1, _, _, _⟩ := sread_fin h
 unfold Format.sub
 rw [h1]
 simp only [Datum.opposite, Datum.sum, Int.min_self, Int.sub_self, Option.map_some]
 have : signed (x / 2 ^ 31 % 2 == 1) m (0 : Int).toNat + signed (!(x / 2 ^ 31 % 2 == 1)) m (0 : Int).toNat = 0 := by
  unfold signed
  cases (x / 2 ^ 31 % 2 == 1) <;> simp <;> omega
 rw [this]
 cases (x / 2 ^ 31 % 2 == 1) <;> rfl
theorem sub_inf {x : Nat} (h : inf32 x) : single.sub x x = none := by
 unfold Format.sub
 rw [sread_inf h]
 cases (x / 2 ^ 31 % 2 == 1) <;> rfl
theorem nan32_iff {x : Nat} (h1 : ¬ fin32 x) (h2 : ¬ inf32 x) : (single.read x).isNaN = true := by
 unfold fin32 at h1
 unfold inf32 at h2
 rw [sread_eq, if_neg (by omega), if_neg h1, if_neg h2]
 rfl
theorem sub_nan {x y : Nat} (h : (single.read x).isNaN = true) : single.sub x y = none := by
 unfold Format.sub
 cases hx : single.read x with
 | nan s t => rfl
 | _ => rw [hx] at h; cases h
theorem mul_nan {x c : Nat} (h : (double.read x).isNaN = true) : double.mul c x = none := by
 unfold Format.mul
 cases hx : double.read x with
 | nan s t => cases double.read c <;> rfl
 | _ => rw [hx] at h; cases h
theorem neF_nan {x y : Nat} (h : (double.read x).isNaN = true) : neF x y = true := by
 unfold neF Format.order
 cases hx : double.read x with
 | nan s t => rfl
 | _ => rw [hx] at h; cases h
end Go.Am
