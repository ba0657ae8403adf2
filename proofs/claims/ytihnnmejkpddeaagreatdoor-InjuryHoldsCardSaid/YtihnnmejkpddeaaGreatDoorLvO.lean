/-
  OWN WORK. Stage 6, arithmetic: the program's way and the reference's way to what a series holds meet.
-/
import Derived.Test.YtihnnmejkpddeaaGreatDoorLvKN
namespace Go.Proofs.YtihnnmejkpddeaaGreatDoor
open Go Go.Am
noncomputable def wL (c : List Value) (s : Nat) : Nat → List Int
  | 0 => []
  | j + 1 => wL c s j ++ [wnF c j s]
theorem wL_len (c : List Value) (s : Nat) : ∀ j, (wL c s j).length = j
  | 0 => rfl
  | j + 1 => by
    show (wL c s j ++ [wnF c j s]).length = j + 1
    rw [List.length_append, wL_len c s j]; rfl
theorem allL_w (c : List Value) (s n : Nat) : ∀ j, allL c s n j = wL c s (min j (n + 1 - s))
  | 0 => by rw [Nat.zero_min]; rfl
  | j + 1 => by
    show allL c s n j ++ wsL c j s (min (j + s) n + 1 - (j + s)) = _
    rw [allL_w c s n j]
    by_cases h : j + s ≤ n
    · rw [Nat.min_eq_left h, show j + s + 1 - (j + s) = 1 by omega, Nat.min_eq_left (show j ≤ n + 1 - s by omega), Nat.min_eq_left (show j + 1 ≤ n + 1 - s by omega)]; rfl
    · rw [show min (j + s) n + 1 - (j + s) = 0 by omega, Nat.min_eq_right (show n + 1 - s ≤ j by omega), Nat.min_eq_right (show n + 1 - s ≤ j + 1 by omega)]
      exact List.append_nil _
theorem allL_all (c : List Value) (s n : Nat) (h1 : 0 < s) : allL c s n n = wL c s (n + 1 - s) := by
  rw [allL_w, Nat.min_eq_right (by omega)]
theorem bsI_app : ∀ (l : List Int) (i : Nat) (m : Int) (a : Nat) (x : Int), bsI i m a (l ++ [x]) = bif ilt (bsI i m a l).1 x then (x, i + l.length) else bsI i m a l
  | [], i, m, a, x => by
    show (bif ilt m x then bsI (i + 1) x i [] else bsI (i + 1) m a []) = bif ilt m x then (x, i + 0) else (m, a)
    rfl
  | y :: l, i, m, a, x => by
    show (bif ilt m y then bsI (i + 1) y i (l ++ [x]) else bsI (i + 1) m a (l ++ [x])) = bif ilt (bif ilt m y then bsI (i + 1) y i l else bsI (i + 1) m a l).1 x then (x, i + (l.length + 1)) else (bif ilt m y then bsI (i + 1) y i l else bsI (i + 1) m a l)
    cases ilt m y with
    | true =>
      rw [cond_true, cond_true, bsI_app l, show i + 1 + l.length = i + (l.length + 1) by omega]
    | false =>
      rw [cond_false, cond_false, bsI_app l, show i + 1 + l.length = i + (l.length + 1) by omega]
theorem rhS_bs (c : List Value) (s : Nat) (h0 : -16385 < wnF c 0 s) : ∀ j, rhS c s (j + 1) = ((bsI 0 (-16385) 0 (wL c s (j + 1))).1, ((bsI 0 (-16385) 0 (wL c s (j + 1))).2, (bsI 0 (-16385) 0 (wL c s (j + 1))).2 + s))
  | 0 => by
    show (bif ilt (-16385) (wnF c 0 s) then (wnF c 0 s, (0, 0 + s)) else (-16385, (0, 0))) = _
    have e : bsI 0 (-16385) 0 (wL c s 1) = (wnF c 0 s, 0) := by
      show (bif ilt (-16385) (wnF c 0 s) then (wnF c 0 s, 0) else (-16385, 0)) = _
      rw [ilt_say, decide_eq_true h0]; rfl
    rw [e, ilt_say, decide_eq_true h0]; rfl
  | j + 1 => by
    have ih := rhS_bs c s h0 j
    have e : bsI 0 (-16385) 0 (wL c s (j + 2)) = bif ilt (bsI 0 (-16385) 0 (wL c s (j + 1))).1 (wnF c (j + 1) s) then (wnF c (j + 1) s, 0 + (wL c s (j + 1)).length) else bsI 0 (-16385) 0 (wL c s (j + 1)) := bsI_app _ _ _ _ _
    show (bif ilt (rhS c s (j + 1)).1 (wnF c (j + 1) s) then (wnF c (j + 1) s, (j + 1, j + 1 + s)) else rhS c s (j + 1)) = _
    rw [e, ih, wL_len, Nat.zero_add]
    cases ilt (bsI 0 (-16385) 0 (wL c s (j + 1))).1 (wnF c (j + 1) s) <;> rfl
theorem fn_get {l : List Int} {j : Nat} {x : Int} (h : l[j]? = some x) : fnI (l.map gi) 0 j = x := by
  have := (cell_at h).2
  exact this
theorem mx_list : ∀ (r pre : List Int) (x : Int) (j : Nat), pre.length = j + 1 → mxJ (fnI ((pre ++ r).map gi) 0) j = x → mxJ (fnI ((pre ++ r).map gi) 0) (j + r.length) = mxI x r
  | [], pre, x, j, hp, h => h
  | y :: r, pre, x, j, hp, h => by
    have e : pre ++ y :: r = (pre ++ [y]) ++ r := by simp
    have hy : fnI ((pre ++ y :: r).map gi) 0 (j + 1) = y := fn_get (by rw [List.getElem?_append_right (by omega), hp, Nat.sub_self]; rfl)
    have st : mxJ (fnI ((pre ++ y :: r).map gi) 0) (j + 1) = if y > x then y else x := by
      show (if (fnI ((pre ++ y :: r).map gi) 0 (j + 1) : Int) > mxJ (fnI ((pre ++ y :: r).map gi) 0) j then _ else _) = _
      rw [hy, h]
    rw [e] at st ⊢
    have := mx_list r (pre ++ [y]) (if y > x then y else x) (j + 1) (by rw [List.length_append, hp]; rfl) st
    rw [show j + (y :: r).length = j + 1 + r.length by rw [List.length_cons]; omega]
    exact this
theorem mx_same (x : Int) (r : List Int) : mxJ (fnI ((x :: r).map gi) 0) r.length = mxI x r := by
  have := mx_list r [x] x 0 rfl (show fnI (([x] ++ r).map gi) 0 0 = x from fn_get rfl)
  rw [Nat.zero_add] at this
  exact this
theorem ix_list (v : Int) : ∀ (r pre : List Int) (q : Nat), ixI v r pre.length = pre.length + q → q < r.length → ixJ (fnI ((pre ++ r).map gi) 0) v r.length pre.length = Int.ofNat (pre.length + q)
  | [], pre, q, _, h => absurd h (Nat.not_lt_zero _)
  | y :: r, pre, q, hq, hl => by
    have hy : fnI ((pre ++ y :: r).map gi) 0 pre.length = y := fn_get (by rw [List.getElem?_append_right (Nat.le_refl _), Nat.sub_self]; rfl)
    show (bif ieq v (fnI ((pre ++ y :: r).map gi) 0 pre.length) then Int.ofNat pre.length else ixJ _ v r.length (pre.length + 1)) = _
    have hq : (bif ieq v y then pre.length else ixI v r (pre.length + 1)) = pre.length + q := hq
    rw [hy]
    cases e : ieq v y with
    | true =>
      rw [e, cond_true] at hq
      rw [cond_true, ← hq]
    | false =>
      rw [e, cond_false] at hq
      rw [cond_false]
      have el : (pre ++ [y]).length = pre.length + 1 := by simp
      have e2 : pre ++ y :: r = (pre ++ [y]) ++ r := by simp
      have ge : ∀ (l : List Int) (i : Nat), i ≤ ixI v l i := by
        intro l
        induction l with
        | nil => exact fun i => Nat.le_refl _
        | cons z l ih =>
          intro i
          show i ≤ bif ieq v z then i else ixI v l (i + 1)
          cases ieq v z with
          | true => exact Nat.le_refl _
          | false => exact Nat.le_trans (Nat.le_succ i) (ih (i + 1))
      have g1 := ge r (pre.length + 1)
      obtain ⟨q', rfl⟩ : ∃ q', q = q' + 1 := ⟨q - 1, by omega⟩
      have ih := ix_list v r (pre ++ [y]) q' (by rw [el, hq]; omega) (by rw [List.length_cons] at hl; omega)
      rw [el] at ih
      rw [e2, ih, show pre.length + 1 + q' = pre.length + (q' + 1) by omega]
theorem ix_same (v x : Int) (r : List Int) {q : Nat} (h : ixI v (x :: r) 0 = q) (hl : q < (x :: r).length) : ixJ (fnI ((x :: r).map gi) 0) v (r.length + 1) 0 = Int.ofNat q := by
  have := ix_list v (x :: r) [] q (by rw [List.length_nil, Nat.zero_add]; exact h) hl
  rw [List.length_nil, Nat.zero_add] at this
  exact this
theorem bsI_lt : ∀ (l : List Int) (i : Nat) (m : Int) (a : Nat), a < i → (bsI i m a l).2 < i + l.length
  | [], i, m, a, h => h
  | x :: l, i, m, a, h => by
    show (bif ilt m x then bsI (i + 1) x i l else bsI (i + 1) m a l).2 < i + (l.length + 1)
    cases ilt m x with
    | true => have := bsI_lt l (i + 1) x i (Nat.lt_succ_self _); rw [cond_true]; omega
    | false => have := bsI_lt l (i + 1) m a (by omega); rw [cond_false]; omega
theorem held_same {c : List Value} {s n : Nat} {x : Int} {r : List Int} (h1 : 0 < s) (hs : s ≤ n) (h0 : -16385 < wnF c 0 s) (hx : allL c s n n = x :: r) :
    mxJ (fnI ((x :: r).map gi) 0) r.length = (rhS c s (n + 1 - s)).1 ∧ ixJ (fnI ((x :: r).map gi) 0) (mxJ (fnI ((x :: r).map gi) 0) r.length) (r.length + 1) 0 = Int.ofNat (rhS c s (n + 1 - s)).2.1 ∧ (rhS c s (n + 1 - s)).2.2 = (rhS c s (n + 1 - s)).2.1 + s ∧ (rhS c s (n + 1 - s)).2.1 ≤ n := by
  rw [allL_all c s n h1] at hx
  obtain ⟨t, ht⟩ : ∃ t, n + 1 - s = t + 1 := ⟨n - s, by omega⟩
  rw [ht] at hx ⊢
  have rb := rhS_bs c s h0 t
  have x0 : x = wnF c 0 s := by
    have hg : (wL c s (t + 1))[0]? = some x := by rw [hx]; rfl
    have first : ∀ j, (wL c s (j + 1))[0]? = some (wnF c 0 s) := by
      intro j
      induction j with
      | zero => rfl
      | succ j ih =>
        show (wL c s (j + 1) ++ [wnF c (j + 1) s])[0]? = _
        rw [List.getElem?_append_left (by rw [wL_len]; omega)]
        exact ih
    rw [first t] at hg
    exact (Option.some.inj hg).symm
  have b0 : bsI 0 (-16385) 0 (x :: r) = bsI 1 x 0 r := by
    show (bif ilt (-16385) x then bsI 1 x 0 r else bsI 1 (-16385) 0 r) = _
    rw [x0, ilt_say, decide_eq_true h0]; rfl
  rw [hx, b0] at rb
  obtain ⟨a1, a2⟩ := bsI_all x r
  have lt := bsI_lt r 1 x 0 (by omega)
  have lenr : r.length = t := by
    have := congrArg List.length hx
    rw [wL_len, List.length_cons] at this
    omega
  rw [rb, mx_same, ← a1]
  rw [← a1] at a2
  have ln : (bsI 1 x 0 r).2 ≤ n := by omega
  exact ⟨rfl, ix_same (q := (bsI 1 x 0 r).2) _ x r a2 (by rw [List.length_cons]; omega), rfl, ln⟩
theorem mn_ge (f : Nat → Int) (b : Int) : ∀ k, (∀ j, j ≤ k → b ≤ f j) → b ≤ mnJ f k
  | 0, h => h 0 (Nat.le_refl _)
  | k + 1, h => by
    show b ≤ if (f (k + 1) : Int) < mnJ f k then f (k + 1) else mnJ f k
    split
    · exact h (k + 1) (Nat.le_refl _)
    · exact mn_ge f b k fun j hj => h j (by omega)
end Go.Proofs.YtihnnmejkpddeaaGreatDoor
