/-
  OWN WORK. Stage 6, arithmetic: the longest span is one and none is longer; what is held is held and no more.
-/
import Derived.Test.YtihnnmejkpddeaaGreatDoorLvO
namespace Go.Proofs.YtihnnmejkpddeaaGreatDoor
open Go Go.Am
theorem rn_all (v : Int) : ∀ (l : List Int) (j : Nat), j < rnN v l → ∃ x, l[j]? = some x ∧ v ≤ x
  | [], j, h => absurd h (Nat.not_lt_zero _)
  | x :: l, j, h => by
    have h : j < bif ilt x v then 0 else rnN v l + 1 := h
    cases hx : ilt x v with
    | true => rw [hx] at h; exact absurd h (Nat.not_lt_zero _)
    | false =>
      rw [hx, cond_false] at h
      rw [ilt_say] at hx
      have hx := of_decide_eq_false hx
      cases j with
      | zero => exact ⟨x, rfl, by omega⟩
      | succ j => exact rn_all v l j (by omega)
theorem rn_max (v : Int) : ∀ (l : List Int) (k : Nat), k ≤ l.length → (∀ j x, j < k → l[j]? = some x → v ≤ x) → k ≤ rnN v l
  | [], k, h, _ => h
  | x :: l, 0, _, _ => Nat.zero_le _
  | x :: l, k + 1, h, ha => by
    show k + 1 ≤ bif ilt x v then 0 else rnN v l + 1
    have hx : v ≤ x := ha 0 x (by omega) rfl
    rw [ilt_say, decide_eq_false (show ¬ x < v by omega), cond_false]
    exact Nat.succ_le_succ (rn_max v l k (by rw [List.length_cons] at h; omega) fun j y hj hy => ha (j + 1) y (by omega) hy)
theorem bsn_max (v : Int) (l : List Int) : ∀ j i, i < j → rnD v l i ≤ (bsN v l j).2 - (bsN v l j).1
  | 0, i, h => absurd h (Nat.not_lt_zero _)
  | j + 1, i, h => by
    show rnD v l i ≤ (upN (bsN v l j) j (rnD v l j)).2 - (upN (bsN v l j) j (rnD v l j)).1
    by_cases e : i = j
    · subst e; exact upN_le _ _ _
    · have ih := bsn_max v l j i (by omega)
      have : (bsN v l j).2 - (bsN v l j).1 ≤ (upN (bsN v l j) j (rnD v l j)).2 - (upN (bsN v l j) j (rnD v l j)).1 := by
        unfold upN
        cases hb : Nat.blt ((bsN v l j).2 - (bsN v l j).1) (rnD v l j) with
        | true => rw [cond_true]; have := blt_true hb; show _ ≤ j + rnD v l j - j; omega
        | false => rw [cond_false]; exact Nat.le_refl _
      omega
theorem bsn_all (v : Int) (l : List Int) : ∀ j q, (bsN v l j).1 ≤ q → q < (bsN v l j).2 → ∃ x, l[q]? = some x ∧ v ≤ x
  | 0, q, h, h' => absurd h' (Nat.not_lt_zero _)
  | j + 1, q, h, h' => by
    have h : (upN (bsN v l j) j (rnD v l j)).1 ≤ q := h
    have h' : q < (upN (bsN v l j) j (rnD v l j)).2 := h'
    unfold upN at h h'
    cases hb : Nat.blt ((bsN v l j).2 - (bsN v l j).1) (rnD v l j) with
    | true =>
      rw [hb, cond_true] at h h'
      have h : j ≤ q := h
      have h' : q < j + rnD v l j := h'
      obtain ⟨x, hx, hv⟩ := rn_all v (l.drop j) (q - j) (by show q - j < rnD v l j; omega)
      rw [List.getElem?_drop, show j + (q - j) = q by omega] at hx
      exact ⟨x, hx, hv⟩
    | false =>
      rw [hb, cond_false] at h h'
      exact bsn_all v l j q h h'
theorem lg_ok (v : Int) (l : List Int) : (lgE v l).1 ≤ (lgE v l).2 ∧ (lgE v l).2 ≤ l.length := by
  rw [← lgR_end]; exact bsN_ok v l _ (Nat.le_refl _)
theorem lg_all (v : Int) (l : List Int) {q : Nat} (h : (lgE v l).1 ≤ q) (h' : q < (lgE v l).2) : ∃ x, l[q]? = some x ∧ v ≤ x := by
  rw [← lgR_end] at h h'; exact bsn_all v l _ q h h'
theorem lg_max (v : Int) (l : List Int) {p q : Nat} (hq : q ≤ l.length) (ha : ∀ j x, p ≤ j → j < q → l[j]? = some x → v ≤ x) : q - p ≤ (lgE v l).2 - (lgE v l).1 := by
  by_cases hp : p < q
  · have h1 : q - p ≤ rnD v l p := rn_max v (l.drop p) (q - p) (by rw [List.length_drop]; omega) fun j x hj hx => ha (p + j) x (by omega) (by omega) (by rw [List.getElem?_drop] at hx; exact hx)
    have h2 := bsn_max v l l.length p (by omega)
    rw [lgR_end] at h2
    omega
  · omega
theorem mn_le (f : Nat → Int) : ∀ k j, j ≤ k → mnJ f k ≤ f j
  | 0, j, h => by obtain rfl : j = 0 := by omega
                  exact Int.le_refl _
  | k + 1, j, h => by
    show (if (f (k + 1) : Int) < mnJ f k then f (k + 1) else mnJ f k) ≤ f j
    by_cases e : j = k + 1
    · subst e; split <;> omega
    · have ih := mn_le f k j (by omega)
      split <;> omega
theorem wn_le {l : List Int} {p s j : Nat} {x : Int} (h1 : p ≤ j) (h2 : j < p + s) (hx : l[j]? = some x) : wnF (l.map gi) p s ≤ x := by
  have q := mn_le (fnI (l.map gi) (0 + p * 1)) (s - 1) (j - p) (by omega)
  have e : fnI (l.map gi) (0 + p * 1) (j - p) = fnI (l.map gi) 0 j := by
    show intAt (l.map gi) (0 + p * 1 + (j - p) * 1) = intAt (l.map gi) (0 + j * 1)
    rw [show 0 + p * 1 + (j - p) * 1 = 0 + j * 1 by omega]
  rw [e, fn_get hx] at q
  exact q
theorem wn_ge {l : List Int} {p s : Nat} {b : Int} (h0 : 0 < s) (hs : p + s ≤ l.length) (ha : ∀ j x, p ≤ j → j < p + s → l[j]? = some x → b ≤ x) : b ≤ wnF (l.map gi) p s := by
  refine mn_ge _ b (s - 1) fun j hj => ?_
  have hl : p + j < l.length := by omega
  have hx := List.getElem?_eq_getElem hl
  have e : fnI (l.map gi) (0 + p * 1) j = fnI (l.map gi) 0 (p + j) := by
    show intAt (l.map gi) (0 + p * 1 + j * 1) = intAt (l.map gi) (0 + (p + j) * 1)
    rw [show 0 + p * 1 + j * 1 = 0 + (p + j) * 1 by omega]
  rw [e, fn_get hx]
  exact ha (p + j) _ (by omega) (by omega) hx
theorem rh_max (c : List Value) (s : Nat) : ∀ j i, i < j → wnF c i s ≤ (rhS c s j).1
  | 0, i, h => absurd h (Nat.not_lt_zero _)
  | j + 1, i, h => by
    show wnF c i s ≤ (bif ilt (rhS c s j).1 (wnF c j s) then (wnF c j s, (j, j + s)) else rhS c s j).1
    by_cases e : i = j
    · subst e
      cases hb : ilt (rhS c s i).1 (wnF c i s) with
      | true => exact Int.le_refl _
      | false =>
        rw [ilt_say] at hb
        have := of_decide_eq_false hb
        show _ ≤ (rhS c s i).1
        omega
    · have ih := rh_max c s j i (by omega)
      cases hb : ilt (rhS c s j).1 (wnF c j s) with
      | true =>
        rw [ilt_say] at hb
        have := of_decide_eq_true hb
        show _ ≤ wnF c j s
        omega
      | false => exact ih
theorem rh_at (c : List Value) (s : Nat) (h0 : -16385 < wnF c 0 s) : ∀ j, (rhS c s (j + 1)).1 = wnF c (rhS c s (j + 1)).2.1 s ∧ (rhS c s (j + 1)).2.2 = (rhS c s (j + 1)).2.1 + s ∧ (rhS c s (j + 1)).2.1 ≤ j
  | 0 => by
    have e : rhS c s 1 = (wnF c 0 s, (0, 0 + s)) := by
      show (bif ilt (-16385) (wnF c 0 s) then (wnF c 0 s, (0, 0 + s)) else (-16385, (0, 0))) = _
      rw [ilt_say, decide_eq_true h0]; rfl
    rw [e]
    exact ⟨rfl, rfl, Nat.le_refl _⟩
  | j + 1 => by
    have ih := rh_at c s h0 j
    have e : rhS c s (j + 2) = bif ilt (rhS c s (j + 1)).1 (wnF c (j + 1) s) then (wnF c (j + 1) s, (j + 1, j + 1 + s)) else rhS c s (j + 1) := rfl
    rw [e]
    cases ilt (rhS c s (j + 1)).1 (wnF c (j + 1) s) with
    | true => exact ⟨rfl, rfl, Nat.le_refl _⟩
    | false => exact ⟨ih.1, ih.2.1, Nat.le_succ_of_le ih.2.2⟩
noncomputable def hdL (l : List Int) (s : Nat) : Int := (rhS (l.map gi) s (l.length + 1 - s)).1
noncomputable def hdF1 (l : List Int) (s : Nat) : Nat := (rhS (l.map gi) s (l.length + 1 - s)).2.1
section
variable {l : List Int} {s : Nat} (h1 : 0 < s) (hs : s ≤ l.length) (h0 : -16385 < wnF (l.map gi) 0 s)
include h1 hs h0
omit h1 in
theorem hd_at : hdL l s = wnF (l.map gi) (hdF1 l s) s ∧ (rhS (l.map gi) s (l.length + 1 - s)).2.2 = hdF1 l s + s ∧ hdF1 l s + s ≤ l.length := by
  obtain ⟨t, ht⟩ : ∃ t, l.length + 1 - s = t + 1 := ⟨l.length - s, by omega⟩
  have q := rh_at (l.map gi) s h0 t
  unfold hdL hdF1
  rw [ht]
  exact ⟨q.1, q.2.1, by have := q.2.2; omega⟩
omit h1 in
theorem hd_all {j : Nat} {x : Int} (h : hdF1 l s ≤ j) (h' : j < hdF1 l s + s) (hx : l[j]? = some x) : hdL l s ≤ x := by
  rw [(hd_at hs h0).1]
  exact wn_le h h' hx
omit h0 h1 in
theorem hd_max {p : Nat} (hp : p + s ≤ l.length) : wnF (l.map gi) p s ≤ hdL l s := rh_max (l.map gi) s (l.length + 1 - s) p (by omega)
theorem hd_own : s ≤ (lgE (hdL l s) l).2 - (lgE (hdL l s) l).1 := by
  obtain ⟨_, _, e⟩ := hd_at hs h0
  have q := lg_max (hdL l s) l (p := hdF1 l s) (q := hdF1 l s + s) e fun j x hj hj' hx => hd_all hs h0 hj hj' hx
  omega
omit h0 in
theorem hd_above {v : Int} (hv : hdL l s < v) : (lgE v l).2 - (lgE v l).1 < s := by
  have ok := lg_ok v l
  have hlen : ¬ s ≤ (lgE v l).2 - (lgE v l).1 := fun hc => by
    have w := wn_ge (l := l) (p := (lgE v l).1) (b := v) h1 (by omega) fun j x hj hj' hx => by
      obtain ⟨y, hy, hvy⟩ := lg_all v l hj (by omega)
      rw [hx] at hy
      cases hy
      exact hvy
    have m := hd_max hs (p := (lgE v l).1) (by omega)
    omega
  omega
omit h0 in
theorem hd_less (hs' : s + 1 ≤ l.length) (h0' : -16385 < wnF (l.map gi) 0 (s + 1)) : hdL l (s + 1) ≤ hdL l s := by
  obtain ⟨e1, _, e3⟩ := hd_at (s := s + 1) hs' h0'
  rw [e1]
  refine Int.le_trans ?_ (hd_max hs (p := hdF1 l (s + 1)) (by omega))
  refine wn_ge h1 (by omega) fun j x hj hj' hx => wn_le hj (by omega) hx
end
noncomputable def tlN (v : Int) (l : List Int) : Nat → Nat
  | 0 => 0
  | j + 1 => bif ilt (fnI (l.map gi) 0 j) v then 0 else tlN v l j + 1
theorem tl_ok (v : Int) (l : List Int) : ∀ j, j ≤ l.length → tlN v l j ≤ j ∧ ∀ q x, j - tlN v l j ≤ q → q < j → l[q]? = some x → v ≤ x
  | 0, _ => ⟨Nat.le_refl _, fun q x _ h => absurd h (Nat.not_lt_zero _)⟩
  | j + 1, h => by
    obtain ⟨i1, i2⟩ := tl_ok v l j (by omega)
    have hj : j < l.length := by omega
    have hx := List.getElem?_eq_getElem hj
    have e : tlN v l (j + 1) = bif ilt l[j] v then 0 else tlN v l j + 1 := by
      show (bif ilt (fnI (l.map gi) 0 j) v then 0 else tlN v l j + 1) = _
      rw [fn_get hx]
    rw [e]
    cases hb : ilt l[j] v with
    | true => exact ⟨Nat.zero_le _, fun q x h1 h2 => absurd (show j + 1 - 0 ≤ q from h1) (by omega)⟩
    | false =>
      rw [ilt_say] at hb
      have hb := of_decide_eq_false hb
      refine ⟨Nat.succ_le_succ i1, fun q x h1 h2 hq => ?_⟩
      have h1 : j + 1 - (tlN v l j + 1) ≤ q := h1
      by_cases e : q = j
      · subst e
        rw [hx] at hq
        cases hq
        omega
      · exact i2 q x (by omega) (by omega) hq
theorem tl_le (v : Int) (l : List Int) {j : Nat} (h : j ≤ l.length) : tlN v l j ≤ (lgE v l).2 - (lgE v l).1 := by
  obtain ⟨t1, t2⟩ := tl_ok v l j h
  have := lg_max v l (p := j - tlN v l j) (q := j) h t2
  omega
theorem lg_out (v : Int) (l : List Int) {j : Nat} {x : Int} (hx : l[j]? = some x) (hv : x < v) : ¬ ((lgE v l).1 ≤ j ∧ j < (lgE v l).2) := by
  rintro ⟨h1, h2⟩
  obtain ⟨y, hy, hvy⟩ := lg_all v l h1 h2
  rw [hx] at hy
  cases hy
  omega
end Go.Proofs.YtihnnmejkpddeaaGreatDoor
