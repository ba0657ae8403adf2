/-
  OWN WORK. 'Am', on doubles (AmFl): finite ones as whole numbers of the least unit; comparisons; numbers made whole.
-/
import Derived.Laws.FloatArith
namespace Go.Am
open Ieee

/-- The magnitude of a rung, in units of 2 ^ -1074. -/
def mv (r : Nat) : Nat := if r < 2 ^ 52 then r else (2 ^ 52 + r % 2 ^ 52) * 2 ^ (r / 2 ^ 52 - 1)
/-- A finite double, in the same units. -/
def dv (b : Nat) : Int := if b / 2 ^ 63 % 2 = 1 then -(mv (b % 2 ^ 63) : Int) else mv (b % 2 ^ 63)
def fin64 (b : Nat) : Prop := b % 2 ^ 63 < 2047 * 2 ^ 52
def inf64 (b : Nat) : Prop := b % 2 ^ 63 = 2047 * 2 ^ 52

theorem d_sign : double.signWeight = 2 ^ 63 := rfl
theorem d_binade : double.binade = 2 ^ 52 := rfl
theorem d_inf : double.infRung = 2047 * 2 ^ 52 := rfl
theorem d_least : double.leastPlace = -1074 := rfl
theorem read_eq (b : Nat) : double.read b = if b % 2 ^ 63 < 2 ^ 52 then .number (b / 2 ^ 63 % 2 == 1) (b % 2 ^ 63) (-1074) else if b % 2 ^ 63 < 2047 * 2 ^ 52 then .number (b / 2 ^ 63 % 2 == 1) (2 ^ 52 + b % 2 ^ 63 % 2 ^ 52) (-1074 + ((b % 2 ^ 63 / 2 ^ 52 - 1 : Nat) : Int)) else if b % 2 ^ 63 = 2047 * 2 ^ 52 then .infinity (b / 2 ^ 63 % 2 == 1) else .nan (b / 2 ^ 63 % 2 == 1) (b % 2 ^ 63 - 2047 * 2 ^ 52) := rfl
/-- What a finite double reads as. -/
theorem read_fin {b : Nat} (h : fin64 b) : ∃ m a : Nat, double.read b = .number (b / 2 ^ 63 % 2 == 1) m (-1074 + (a : Int)) ∧ m * 2 ^ a = mv (b % 2 ^ 63) ∧ m < 2 ^ 53 ∧ a ≤ 2045 := by
  unfold fin64 at h
  rw [read_eq]
  unfold mv
  by_cases h1 : b % 2 ^ 63 < 2 ^ 52
  · rw [if_pos h1, if_pos h1]
    exact ⟨b % 2 ^ 63, 0, by simp, by simp, by omega, by omega⟩
  · rw [if_neg h1, if_pos h, if_neg h1]
    have h2 : b % 2 ^ 63 % 2 ^ 52 < 2 ^ 52 := Nat.mod_lt _ (by decide)
    have h3 : b % 2 ^ 63 / 2 ^ 52 < 2047 := (Nat.div_lt_iff_lt_mul (by decide)).2 h
    exact ⟨2 ^ 52 + b % 2 ^ 63 % 2 ^ 52, b % 2 ^ 63 / 2 ^ 52 - 1, rfl, rfl, by omega, by omega⟩
theorem read_inf {b : Nat} (h : inf64 b) : double.read b = .infinity (b / 2 ^ 63 % 2 == 1) := by
  unfold inf64 at h
  rw [read_eq, if_neg (by omega), if_neg (by omega), if_pos h]
theorem signed_mul (s : Bool) (m a c : Nat) : signed s m (a + c) = signed s m a * (2 ^ c : Nat) := by
  unfold signed
  rw [Nat.shiftLeft_eq, Nat.shiftLeft_eq, Nat.pow_add, ← Nat.mul_assoc]
  cases s <;> simp [Int.neg_mul]
theorem compare_mul {p q : Int} {k : Nat} (hk : 0 < k) : compare (p * (k : Int)) (q * (k : Int)) = compare p q := by
  have hk' : (0 : Int) < (k : Int) := by omega
  have h1 : p * (k : Int) < q * (k : Int) ↔ p < q := Int.mul_lt_mul_right hk'
  have h2 : p * (k : Int) = q * (k : Int) ↔ p = q := Int.mul_eq_mul_right_iff (by omega)
  unfold compare
  simp only [instOrdInt, compareOfLessAndEq, h1, h2]
theorem signed_dv {b m a : Nat} (h : m * 2 ^ a = mv (b % 2 ^ 63)) : signed (b / 2 ^ 63 % 2 == 1) m a = dv b := by
  unfold signed dv
  rw [Nat.shiftLeft_eq, h]
  by_cases hs : b / 2 ^ 63 % 2 = 1 <;> simp [hs]
/-- Finite doubles compare as their numbers of units. -/
theorem order_fin {x y : Nat} (hx : fin64 x) (hy : fin64 y) : double.order x y = some (compare (dv x) (dv y)) := by
  obtain ⟨m, a, h1, h2, _, _⟩ := read_fin hx
  obtain ⟨n, c, h3, h4, _, _⟩ := read_fin hy
  unfold Format.order
  rw [h1, h3]
  simp only [Datum.order, Option.some.injEq]
  have e1 : (-1074 + (a : Int) - min (-1074 + (a : Int)) (-1074 + (c : Int))).toNat = a - min a c := by omega
  have e2 : (-1074 + (c : Int) - min (-1074 + (a : Int)) (-1074 + (c : Int))).toNat = c - min a c := by omega
  rw [e1, e2, ← signed_dv h2, ← signed_dv h4]
  have s1 : signed (x / 2 ^ 63 % 2 == 1) m a = signed (x / 2 ^ 63 % 2 == 1) m (a - min a c) * (2 ^ min a c : Nat) := by
    rw [← signed_mul]
    congr 1
    omega
  have s2 : signed (y / 2 ^ 63 % 2 == 1) n c = signed (y / 2 ^ 63 % 2 == 1) n (c - min a c) * (2 ^ min a c : Nat) := by
    rw [← signed_mul]
    congr 1
    omega
  rw [s1, s2, compare_mul (Nat.two_pow_pos _)]
theorem order_inf_fin {x y : Nat} (hx : inf64 x) (hy : fin64 y) : double.order x y = some (if (x / 2 ^ 63 % 2 == 1) = true then .lt else .gt) := by
  obtain ⟨n, c, h3, _, _, _⟩ := read_fin hy
  unfold Format.order
  rw [read_inf hx, h3]
  rfl
theorem order_fin_inf {x y : Nat} (hx : fin64 x) (hy : inf64 y) : double.order x y = some (if (y / 2 ^ 63 % 2 == 1) = true then .gt else .lt) := by
  obtain ⟨n, c, h3, _, _, _⟩ := read_fin hx
  unfold Format.order
  rw [read_inf hy, h3]
  rfl
/-! What is compared in the program and in the reference. -/
def gtF (x y : Nat) : Bool := double.order x y == some .gt
def ltF (x y : Nat) : Bool := double.order x y == some .lt
def neF (x y : Nat) : Bool := double.order x y != some .eq
theorem compare_gt {p q : Int} : (compare p q == .gt) = decide (q < p) := by
  unfold compare
  simp only [instOrdInt, compareOfLessAndEq]
  by_cases h1 : p < q
  · rw [if_pos h1]
    rw [decide_eq_false (by omega)]
    rfl
  · rw [if_neg h1]
    by_cases h2 : p = q
    · rw [if_pos h2, decide_eq_false (by omega)]
      rfl
    · rw [if_neg h2, decide_eq_true (by omega)]
      rfl
theorem compare_lt {p q : Int} : (compare p q == .lt) = decide (p < q) := by
  unfold compare
  simp only [instOrdInt, compareOfLessAndEq]
  by_cases h1 : p < q
  · rw [if_pos h1, decide_eq_true h1]
    rfl
  · rw [if_neg h1, decide_eq_false h1]
    by_cases h2 : p = q
    · rw [if_pos h2]
      rfl
    · rw [if_neg h2]
      rfl
theorem compare_eq' {p q : Int} : (compare p q == .eq) = decide (p = q) := by
  unfold compare
  simp only [instOrdInt, compareOfLessAndEq]
  by_cases h1 : p < q
  · rw [if_pos h1, decide_eq_false (by omega)]
    rfl
  · rw [if_neg h1]
    by_cases h2 : p = q
    · rw [if_pos h2, decide_eq_true h2]
      rfl
    · rw [if_neg h2, decide_eq_false h2]
      rfl
theorem gtF_fin {x y : Nat} (hx : fin64 x) (hy : fin64 y) : gtF x y = decide (dv y < dv x) := by
  unfold gtF
  rw [order_fin hx hy, ← compare_gt]
  cases compare (dv x) (dv y) <;> rfl
theorem ltF_fin {x y : Nat} (hx : fin64 x) (hy : fin64 y) : ltF x y = decide (dv x < dv y) := by
  unfold ltF
  rw [order_fin hx hy, ← compare_lt]
  cases compare (dv x) (dv y) <;> rfl
theorem neF_fin {x y : Nat} (hx : fin64 x) (hy : fin64 y) : neF x y = !decide (dv x = dv y) := by
  unfold neF
  rw [order_fin hx hy, ← compare_eq']
  cases compare (dv x) (dv y) <;> rfl
theorem neF_inf_fin {x y : Nat} (hx : inf64 x) (hy : fin64 y) : neF x y = true := by
  unfold neF
  rw [order_inf_fin hx hy]
  by_cases h : (x / 2 ^ 63 % 2 == 1) = true
  · rw [if_pos h]; rfl
  · rw [if_neg h]; rfl
theorem neF_fin_inf {x y : Nat} (hx : fin64 x) (hy : inf64 y) : neF x y = true := by
  unfold neF
  rw [order_fin_inf hx hy]
  by_cases h : (y / 2 ^ 63 % 2 == 1) = true
  · rw [if_pos h]; rfl
  · rw [if_neg h]; rfl
/-- It does not matter in which order two are compared. -/
theorem neF_comm {x y : Nat} (hx : fin64 x) (hy : fin64 y ∨ inf64 y) : neF x y = neF y x := by
  rcases hy with hy | hy
  · rw [neF_fin hx hy, neF_fin hy hx]
    congr 1
    exact decide_eq_decide.2 ⟨Eq.symm, Eq.symm⟩
  · rw [neF_fin_inf hx hy, neF_inf_fin hy hx]
/-- What is written is finite, or infinite. -/
theorem nearest_ok (s : Bool) (m : Nat) (e : Int) : fin64 (double.nearest s m e) ∨ inf64 (double.nearest s m e) := by
  have word : ∀ r : Nat, r ≤ 2047 * 2 ^ 52 → fin64 (double.word s r) ∨ inf64 (double.word s r) := fun r hr => by
    unfold Format.word fin64 inf64
    rw [d_sign]
    cases s with
    | false => simp only [Bool.false_eq_true, if_false]; omega
    | true => simp only [if_true]; omega
  unfold Format.nearest
  split
  · exact word 0 (Nat.zero_le _)
  · refine word _ ?_
    rw [d_inf]
    exact Nat.min_le_right _ _
/-- The absolute value, by bits. -/
theorem abs_fin {y : Nat} (h : fin64 y) : fin64 (y % 2 ^ 63) ∧ dv (y % 2 ^ 63) = (mv (y % 2 ^ 63) : Int) := by
  unfold fin64 dv at *
  have h1 : y % 2 ^ 63 % 2 ^ 63 = y % 2 ^ 63 := Nat.mod_mod _ _
  have h2 : y % 2 ^ 63 / 2 ^ 63 = 0 := Nat.div_eq_of_lt (Nat.mod_lt _ (by decide))
  rw [h1, h2]
  exact ⟨h, by simp⟩
theorem dv_abs (y : Nat) : dv y = mv (y % 2 ^ 63) ∨ dv y = -(mv (y % 2 ^ 63) : Int) := by
  unfold dv
  split
  · exact .inr rfl
  · exact .inl rfl
/-! Made whole. -/
def trF (y : Nat) : Nat := double.write ((double.read y).integral .zero)
def ofI (i : Int) : Nat := double.nearest (decide (i < 0)) i.natAbs 0
theorem cut_zero (s : Bool) (n drop : Nat) : Toward.cut .zero s n drop = n / 2 ^ min drop (n.log2 + 2) := by
  unfold Toward.cut
  simp [Nat.shiftLeft_eq]
theorem cut_le_at (K : Nat) (s : Bool) (m a : Nat) : Toward.cut .zero s (m <<< (-(K : Int) + (a : Int)).toNat) (-(-(K : Int) + (a : Int))).toNat * 2 ^ K ≤ m * 2 ^ a := by
  rw [cut_zero]
  by_cases h : K ≤ a
  · rw [show (-(-(K : Int) + (a : Int))).toNat = 0 by omega, show (-(K : Int) + (a : Int)).toNat = a - K by omega, Nat.zero_min, Nat.pow_zero, Nat.div_one, Nat.shiftLeft_eq, Nat.mul_assoc, ← Nat.pow_add, show a - K + K = a by omega]
    exact Nat.le_refl _
  · rw [show (-(K : Int) + (a : Int)).toNat = 0 by omega, show (-(-(K : Int) + (a : Int))).toNat = K - a by omega, Nat.shiftLeft_zero]
    by_cases h2 : K - a ≤ m.log2 + 2
    · rw [Nat.min_eq_left h2, show 2 ^ K = 2 ^ (K - a) * 2 ^ a by rw [← Nat.pow_add]; congr 1; omega, ← Nat.mul_assoc]
      exact Nat.mul_le_mul_right _ (Nat.div_mul_le_self _ _)
    · rw [Nat.min_eq_right (by omega)]
      have : m < 2 ^ (m.log2 + 2) := Nat.lt_of_lt_of_le Nat.lt_log2_self (Nat.pow_le_pow_right (by decide) (by omega))
      rw [Nat.div_eq_of_lt this, Nat.zero_mul]
      exact Nat.zero_le _
theorem cut_le (s : Bool) (m a : Nat) : Toward.cut .zero s (m <<< (-1074 + (a : Int)).toNat) (-(-1074 + (a : Int))).toNat * 2 ^ 1074 ≤ m * 2 ^ a :=
  cut_le_at 1074 s m a
theorem zero_word (s : Bool) : fin64 (double.nearest s 0 0) ∧ dv (double.nearest s 0 0) = 0 := by
  cases s <;> exact ⟨show double.nearest _ 0 0 % 2 ^ 63 < 2047 * 2 ^ 52 by decide +kernel, by decide +kernel⟩
theorem trunc_same {y : Nat} (hy : fin64 y) : ∃ i : Int, (double.read y).toInt .zero = some i ∧ i.natAbs * 2 ^ 1074 ≤ mv (y % 2 ^ 63) ∧ neF y (trF y) = neF (ofI i) y := by
  obtain ⟨m, a, h1, h2, _, _⟩ := read_fin hy
  have hle := cut_le (y / 2 ^ 63 % 2 == 1) m a
  rw [h2] at hle
  unfold trF
  rw [h1]
  simp only [Datum.toInt, Datum.integral, Format.write]
  generalize Toward.cut .zero (y / 2 ^ 63 % 2 == 1) (m <<< (-1074 + (a : Int)).toNat) (-(-1074 + (a : Int))).toNat = N at hle ⊢
  generalize (y / 2 ^ 63 % 2 == 1) = s
  refine ⟨signed s N 0, rfl, ?_, ?_⟩
  · have : (signed s N 0).natAbs = N := by
      unfold signed
      cases s <;> simp
    rw [this]
    exact hle
  · by_cases hN : N = 0
    · subst hN
      have e : ofI (signed s 0 0) = double.nearest false 0 0 := by cases s <;> rfl
      rw [e, neF_fin hy (zero_word s).1, neF_fin (zero_word false).1 hy, (zero_word s).2, (zero_word false).2]
      congr 1
      exact decide_eq_decide.2 ⟨Eq.symm, Eq.symm⟩
    · have e : ofI (signed s N 0) = double.nearest s N 0 := by
        unfold ofI signed
        rw [Nat.shiftLeft_zero]
        cases s with
        | false =>
          simp only [Bool.false_eq_true, if_false]
          rw [decide_eq_false (by omega), Int.natAbs_natCast]
        | true =>
          simp only [if_true]
          rw [decide_eq_true (by omega), Int.natAbs_neg, Int.natAbs_natCast]
      rw [e]
      exact neF_comm hy (nearest_ok _ _ _)
/-- 16384, and the opposite. -/
def c16 : Nat := 4670232813583204352
def m16 : Nat := 13893604850437980160
theorem c16_ok : fin64 c16 ∧ dv c16 = 16384 * ((2 ^ 1074 : Nat) : Int) := ⟨show c16 % 2 ^ 63 < 2047 * 2 ^ 52 by decide +kernel, by decide +kernel⟩
theorem m16_ok : fin64 m16 ∧ dv m16 = -(16384 * ((2 ^ 1074 : Nat) : Int)) := ⟨show m16 % 2 ^ 63 < 2047 * 2 ^ 52 by decide +kernel, by decide +kernel⟩
/-- Both ask the same of a number: whether it is no integer up to 16384. -/
theorem part_same {y : Nat} (hy : fin64 y) : ∃ i : Int, (double.read y).toInt .zero = some i ∧ (gtF (y % 2 ^ 63) c16 = false → i.natAbs ≤ 16384) ∧
    (gtF (y % 2 ^ 63) c16 || neF y (trF y)) = (ltF y m16 || (gtF y c16 || neF (ofI i) y)) := by
  obtain ⟨i, h1, h2, h3⟩ := trunc_same hy
  obtain ⟨a1, a2⟩ := abs_fin hy
  have c2 := c16_ok.2
  have m2 := m16_ok.2
  have hU : 0 < 2 ^ 1074 := Nat.two_pow_pos 1074
  generalize 2 ^ 1074 = U at h2 c2 m2 hU
  refine ⟨i, h1, fun hg => ?_, ?_⟩
  · rw [gtF_fin a1 c16_ok.1, a2, c2] at hg
    have hg := of_decide_eq_false hg
    have : i.natAbs * U ≤ 16384 * U := by omega
    exact Nat.le_of_mul_le_mul_right this hU
  · rw [gtF_fin a1 c16_ok.1, a2, c2, ltF_fin hy m16_ok.1, m2, gtF_fin hy c16_ok.1, c2, h3]
    have hnn : (0 : Int) ≤ mv (y % 2 ^ 63) := by omega
    have hUU : (0 : Int) < (U : Int) := by omega
    have hd := dv_abs y
    generalize (mv (y % 2 ^ 63) : Int) = M at hd hnn ⊢
    by_cases hg : (16384 * (U : Int)) < M
    · rw [decide_eq_true hg, Bool.true_or]
      rcases hd with e | e
      · rw [e, decide_eq_true hg, Bool.true_or, Bool.or_true]
      · rw [e, decide_eq_true (by omega), Bool.true_or]
    · rw [decide_eq_false hg, Bool.false_or]
      rcases hd with e | e
      · rw [e, decide_eq_false hg, decide_eq_false (by omega), Bool.false_or, Bool.false_or]
      · rw [e, decide_eq_false (by omega), decide_eq_false (by omega), Bool.false_or, Bool.false_or]
theorem part_inf {y : Nat} (hy : inf64 y) : gtF (y % 2 ^ 63) c16 = true ∧ (ltF y m16 || gtF y c16) = true := by
  have h1 : y % 2 ^ 63 % 2 ^ 63 = y % 2 ^ 63 := Nat.mod_mod _ _
  have h2 : y % 2 ^ 63 / 2 ^ 63 = 0 := Nat.div_eq_of_lt (Nat.mod_lt _ (by decide))
  have ha : inf64 (y % 2 ^ 63) := by unfold inf64 at *; rw [h1]; exact hy
  constructor
  · unfold gtF
    rw [order_inf_fin ha c16_ok.1, h2]
    rfl
  · unfold ltF gtF
    rw [order_inf_fin hy m16_ok.1, order_inf_fin hy c16_ok.1]
    by_cases h : (y / 2 ^ 63 % 2 == 1) = true
    · rw [if_pos h]; rfl
    · rw [if_neg h]; rfl
end Go.Am
