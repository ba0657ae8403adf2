/-
  OWN WORK. Stage 6, arithmetic: how ratios compare; the greatest one of some, and the first place that has it.
-/
import Derived.Test.YtihnnmejkpddeaaGreatDoorSgC
namespace Go.Proofs.YtihnnmejkpddeaaGreatDoor
open Go Go.Am

theorem inI64_iff {x : Int} : inI64 x = true ↔ -9223372036854775808 ≤ x ∧ x < 9223372036854775808 := by
  cases x with
  | ofNat m =>
    show Nat.blt m 9223372036854775808 = true ↔ _
    rw [Nat.blt_eq]; simp only [Int.ofNat_eq_natCast]; omega
  | negSucc m =>
    show Nat.blt m 9223372036854775808 = true ↔ _
    rw [Nat.blt_eq]; omega
theorem fwrap_in {x : Int} (h : inI64 x = true) : fwrap .i64 x = x := by
  simp only [fwrap, h]
/-- How two integers compare. -/
noncomputable def cpE (x y : Int) : Int := bif ilt x y then -1 else bif ilt y x then 1 else 0
/-- How two ratios compare, by products of 64 bits. -/
noncomputable def cpR (x y : P2) : Int := cpE (fwrap .i64 (x.1 * y.2)) (fwrap .i64 (y.1 * x.2))
noncomputable def gtR (x y : P2) : Bool := ilt 0 (cpR x y)
def okR (x : P2) : Prop := (0 ≤ x.1 ∧ x.1 ≤ 5000000000000) ∧ 0 < x.2 ∧ x.2 ≤ 1000000
theorem prod_in {a b : Int} (h1 : 0 ≤ a) (h2 : a ≤ 5000000000000) (h3 : 0 < b) (h4 : b ≤ 1000000) : inI64 (a * b) = true := by
  rw [inI64_iff]
  have l := Int.mul_nonneg h1 (Int.le_of_lt h3)
  have u : a * b ≤ 5000000000000 * 1000000 := Int.mul_le_mul h2 h4 (Int.le_of_lt h3) (by decide)
  omega
theorem ilt0_cp (p q : Int) : ilt 0 (cpE p q) = decide (q < p) := by
  unfold cpE
  rw [ilt_say, ilt_say p q, ilt_say q p]
  by_cases h1 : p < q
  · rw [decide_eq_true h1, decide_eq_false (show ¬ q < p by omega)]; rfl
  · rw [decide_eq_false h1]
    by_cases h2 : q < p
    · rw [decide_eq_true h2]; rfl
    · rw [decide_eq_false h2]; rfl
theorem gtR_say {x y : P2} (hx : okR x) (hy : okR y) : gtR x y = decide (y.1 * x.2 < x.1 * y.2) := by
  obtain ⟨⟨a1, a2⟩, a3, a4⟩ := hx
  obtain ⟨⟨b1, b2⟩, b3, b4⟩ := hy
  unfold gtR cpR
  rw [fwrap_in (prod_in a1 a2 b3 b4), fwrap_in (prod_in b1 b2 a3 a4), ilt0_cp]
theorem gtR_self (x : P2) : gtR x x = false := by
  unfold gtR cpR
  rw [ilt0_cp]
  exact decide_eq_false (by omega)
theorem gtR_trans {x m y : P2} (hx : okR x) (hm : okR m) (hy : okR y) (h1 : gtR x m = true) (h2 : gtR y m = false) : gtR x y = true := by
  rw [gtR_say hx hm] at h1
  rw [gtR_say hy hm] at h2
  rw [gtR_say hx hy]
  have h1 := of_decide_eq_true h1
  have h2 := of_decide_eq_false h2
  refine decide_eq_true ?_
  have e1 : m.1 * x.2 * y.2 < x.1 * m.2 * y.2 := Int.mul_lt_mul_of_pos_right h1 hy.2.1
  have e2 : y.1 * m.2 * x.2 ≤ m.1 * y.2 * x.2 := Int.mul_le_mul_of_nonneg_right (by omega) (Int.le_of_lt hx.2.1)
  have a1 : m.1 * x.2 * y.2 = m.1 * y.2 * x.2 := by rw [Int.mul_assoc, Int.mul_comm x.2, ← Int.mul_assoc]
  have a2 : x.1 * m.2 * y.2 = x.1 * y.2 * m.2 := by rw [Int.mul_assoc, Int.mul_comm m.2, ← Int.mul_assoc]
  have a3 : y.1 * m.2 * x.2 = y.1 * x.2 * m.2 := by rw [Int.mul_assoc, Int.mul_comm m.2, ← Int.mul_assoc]
  rw [a1, a2] at e1
  rw [a3] at e2
  exact Int.lt_of_mul_lt_mul_right (Int.lt_of_le_of_lt e2 e1) (Int.le_of_lt hm.2.1)
noncomputable def mxF : P2 → List P2 → P2
  | m, [] => m
  | m, x :: l => mxF (bif gtR x m then x else m) l
noncomputable def eqP (v x : P2) : Bool := ieq v.1 x.1 && (ieq v.2 x.2 && true)
noncomputable def idxB {α : Type} (f : α → Bool) : List α → Nat → Int
  | [], _ => -1
  | x :: r, i => bif f x then Int.ofNat i else idxB f r (i + 1)
theorem idxB_drop {α : Type} {f : α → Bool} {l : List α} {j : Nat} (hj : j < l.length) : idxB f (l.drop j) j = bif f l[j] then Int.ofNat j else idxB f (l.drop (j + 1)) (j + 1) := by
  rw [List.drop_eq_getElem_cons hj]; rfl
theorem idxB_end {α : Type} {f : α → Bool} {l : List α} {j : Nat} (hj : l.length ≤ j) : idxB f (l.drop j) j = -1 := by
  rw [List.drop_eq_nil_of_le hj]; rfl
noncomputable def bsF : Nat → P2 → Nat → List P2 → P2 × Nat
  | _, m, a, [] => (m, a)
  | i, m, a, x :: l => bif gtR x m then bsF (i + 1) x i l else bsF (i + 1) m a l
theorem bs_mx : ∀ (l : List P2) (i : Nat) (m : P2) (a : Nat), (bsF i m a l).1 = mxF m l
  | [], _, _, _ => rfl
  | x :: l, i, m, a => by
    show (bif gtR x m then bsF (i + 1) x i l else bsF (i + 1) m a l).1 = mxF (bif gtR x m then x else m) l
    cases gtR x m with
    | true => exact bs_mx l (i + 1) x i
    | false => exact bs_mx l (i + 1) m a
theorem eqP_iff {v x : P2} : eqP v x = true ↔ v = x := by
  unfold eqP
  rw [ieq_dec, ieq_dec]
  simp only [Bool.and_true, Bool.and_eq_true, decide_eq_true_eq]
  exact ⟨fun ⟨h1, h2⟩ => Prod.ext h1 h2, fun h => by rw [h]; exact ⟨rfl, rfl⟩⟩
theorem ix_at (v : P2) : ∀ (l : List P2) (k i : Nat), l[k]? = some v → (∀ j, j < k → ∀ y, l[j]? = some y → y ≠ v) → idxB (eqP v) l i = Int.ofNat (i + k)
  | [], k, i, h, _ => by simp at h
  | x :: l, 0, i, h, _ => by
    have h : x = v := by simpa using h
    show (bif eqP v x then Int.ofNat i else _) = Int.ofNat (i + 0)
    rw [eqP_iff.2 h.symm]; rfl
  | x :: l, k + 1, i, h, hn => by
    have hx : x ≠ v := hn 0 (by omega) x rfl
    show (bif eqP v x then Int.ofNat i else idxB (eqP v) l (i + 1)) = _
    rw [show eqP v x = false by
      cases q : eqP v x with
      | false => rfl
      | true => exact absurd (eqP_iff.1 q).symm hx]
    show idxB (eqP v) l (i + 1) = _
    rw [ix_at v l k (i + 1) (by simpa using h) fun j hj y hy => hn (j + 1) (by omega) y (by simpa using hy), show i + 1 + k = i + (k + 1) by omega]
theorem bs_ix : ∀ (l pre : List P2) (m : P2) (a : Nat), (∀ y ∈ pre ++ l, okR y) → pre[a]? = some m → (∀ j, j < a → ∀ y, pre[j]? = some y → gtR m y = true) → (∀ y ∈ pre, gtR y m = false) →
    (pre ++ l)[(bsF pre.length m a l).2]? = some (bsF pre.length m a l).1 ∧ ∀ j, j < (bsF pre.length m a l).2 → ∀ y, (pre ++ l)[j]? = some y → gtR (bsF pre.length m a l).1 y = true
  | [], pre, m, a, _, ha, hb, _ => by
    rw [List.append_nil]
    exact ⟨ha, hb⟩
  | x :: l, pre, m, a, hok, ha, hb, hm => by
    have e : pre ++ x :: l = (pre ++ [x]) ++ l := by simp
    have el : (pre ++ [x]).length = pre.length + 1 := by simp
    have okx : okR x := hok x (by simp)
    have okm : okR m := hok m (List.mem_append_left _ (List.mem_of_getElem? ha))
    cases g : gtR x m with
    | true =>
      have q : bsF pre.length m a (x :: l) = bsF (pre ++ [x]).length x pre.length l := by
        show (bif gtR x m then bsF (pre.length + 1) x pre.length l else _) = _
        rw [g, el]; rfl
      rw [q, e]
      refine bs_ix l (pre ++ [x]) x pre.length (by rw [← e]; exact hok) (by simp) ?_ ?_
      · intro j hj y hy
        rw [List.getElem?_append_left hj] at hy
        have hym := List.mem_of_getElem? hy
        exact gtR_trans okx okm (hok y (List.mem_append_left _ hym)) g (hm y hym)
      · intro y hy
        rcases List.mem_append.1 hy with hy | hy
        · have oky := hok y (List.mem_append_left _ hy)
          have t := gtR_trans okx okm oky g (hm y hy)
          rw [gtR_say okx oky] at t
          rw [gtR_say oky okx]
          have t := of_decide_eq_true t
          exact decide_eq_false (by omega)
        · simp only [List.mem_cons, List.not_mem_nil, or_false] at hy
          rw [hy]; exact gtR_self x
    | false =>
      have q : bsF pre.length m a (x :: l) = bsF (pre ++ [x]).length m a l := by
        show (bif gtR x m then _ else bsF (pre.length + 1) m a l) = _
        rw [g, el]; rfl
      have la : a < pre.length := (List.getElem?_eq_some_iff.1 ha).1
      rw [q, e]
      refine bs_ix l (pre ++ [x]) m a (by rw [← e]; exact hok) (by rw [List.getElem?_append_left la]; exact ha) ?_ ?_
      · intro j hj y hy
        rw [List.getElem?_append_left (by omega)] at hy
        exact hb j hj y hy
      · intro y hy
        rcases List.mem_append.1 hy with hy | hy
        · exact hm y hy
        · simp only [List.mem_cons, List.not_mem_nil, or_false] at hy
          rw [hy]; exact g
/-- The reference's way and the program's way to the greatest ratio meet. -/
theorem bs_all {x : P2} {l : List P2} (hok : ∀ y ∈ x :: l, okR y) : (bsF 1 x 0 l).1 = mxF x l ∧ idxB (eqP (mxF x l)) (x :: l) 0 = Int.ofNat (bsF 1 x 0 l).2 := by
  have h := bs_ix l [x] x 0 hok rfl (fun j hj => absurd hj (by omega)) (fun y hy => by
    simp only [List.mem_cons, List.not_mem_nil, or_false] at hy
    rw [hy]; exact gtR_self x)
  have e := bs_mx l 1 x 0
  refine ⟨e, ?_⟩
  rw [← e]
  have := ix_at (bsF 1 x 0 l).1 (x :: l) (bsF 1 x 0 l).2 0 h.1 fun j hj y hy hyv => by
    have := h.2 j hj y hy
    rw [hyv] at this
    rw [show gtR (bsF [x].length x 0 l).1 (bsF 1 x 0 l).1 = gtR (bsF 1 x 0 l).1 (bsF 1 x 0 l).1 from rfl, gtR_self] at this
    cases this
  rw [this, Nat.zero_add]
end Go.Proofs.YtihnnmejkpddeaaGreatDoor
