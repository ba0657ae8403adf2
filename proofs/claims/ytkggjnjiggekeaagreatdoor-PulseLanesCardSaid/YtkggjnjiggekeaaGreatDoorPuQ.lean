/-
  OWN WORK. Stage 8: what is beyond, and the greatest of it, both ways.
-/
import Derived.Test.YtkggjnjiggekeaaGreatDoorPuP
namespace Go.Proofs.YtkggjnjiggekeaaGreatDoor
open Go Go.Am

theorem ilt_no {a b : Int} (h : b ≤ a) : ilt a b = false := by rw [ilt_say]; exact decide_eq_false (by omega)
theorem ilt_yes {a b : Int} (h : a < b) : ilt a b = true := by rw [ilt_say]; exact decide_eq_true h
theorem isO_bey (x : T3) : isO (beyP x) = !(inB x) := by
  unfold isO beyP inB mx0
  simp only [ieq_dec, ilt_say, Bool.and_true]
  by_cases h1 : x.2.2 < x.1
  · rw [if_pos (by omega)]
    have : ¬ (x.1 - x.2.2 = 0) := by omega
    simp [h1, this]
  · rw [if_neg (by omega)]
    by_cases h2 : x.2.1 < x.2.2
    · rw [if_pos (by omega)]
      have : ¬ (x.2.2 - x.2.1 = 0) := by omega
      simp [h1, h2, this]
    · rw [if_neg (by omega)]
      simp [h1, h2]
theorem idx_ins : ∀ (T : List T3) (i : Nat), ilt (idxB isO (T.map beyP) i) 0 = insB T
  | [], _ => rfl
  | x :: T, i => by
    show ilt (bif isO (beyP x) then Int.ofNat i else idxB isO (T.map beyP) (i + 1)) 0 = (inB x && insB T)
    rw [isO_bey]
    cases h : inB x with
    | true => exact idx_ins T (i + 1)
    | false => exact ilt_no (by simp)
theorem mx_two (a b : Int) : (if b > (if a > 0 then a else 0) then b else (if a > 0 then a else 0)) = (if (if b > 0 then b else 0) > (if a > 0 then a else 0) then (if b > 0 then b else 0) else (if a > 0 then a else 0)) := by
  by_cases h1 : a > 0 <;> by_cases h2 : b > 0 <;> simp only [h1, h2, if_true, if_false] <;> repeat' split
  all_goals omega
theorem exN_eq (x : T3) : exN x = mxP (beyP x) := mx_two (x.1 - x.2.2) (x.2.2 - x.2.1)
noncomputable def exS (E : List Int) : Nat → Int × Int
  | 0 => (0, 0)
  | j + 1 => bif ilt (exS E j).1 (E.getD j 0) then (E.getD j 0, Int.ofNat j) else exS E j
theorem mxP0 : mxP (beyP (0, 0, 0)) = 0 := rfl
theorem exAt_eq (T : List T3) : ∀ j, exAt T j = exS ((T.map beyP).map mxP) j
  | 0 => rfl
  | j + 1 => by
    have e : exN (T.getD j (0, 0, 0)) = ((T.map beyP).map mxP).getD j 0 := by
      rw [exN_eq, List.getD_eq_getElem?_getD, List.getD_eq_getElem?_getD, List.getElem?_map, List.getElem?_map]
      cases T[j]? <;> rfl
    show (bif ilt (exAt T j).1 (exN (T.getD j (0, 0, 0))) then (exN (T.getD j (0, 0, 0)), Int.ofNat j) else exAt T j) = _
    rw [e, exAt_eq T j]; rfl
theorem exS_inv (E : List Int) (hE : ∀ i, 0 ≤ E.getD i 0) : ∀ j, (∀ i, i < j → E.getD i 0 ≤ (exS E j).1) ∧ (((exS E j).1 = 0 ∧ (exS E j).2 = 0) ∨ ∃ a : Nat, a < j ∧ (exS E j).2 = Int.ofNat a ∧ E.getD a 0 = (exS E j).1 ∧ 0 < (exS E j).1 ∧ ∀ i, i < a → E.getD i 0 < (exS E j).1)
  | 0 => ⟨fun i h => absurd h (by omega), .inl ⟨rfl, rfl⟩⟩
  | j + 1 => by
    obtain ⟨h1, h2⟩ := exS_inv E hE j
    have h0 : 0 ≤ (exS E j).1 := by
      rcases h2 with ⟨h, _⟩ | ⟨a, _, _, _, h, _⟩ <;> omega
    have es : exS E (j + 1) = bif ilt (exS E j).1 (E.getD j 0) then (E.getD j 0, Int.ofNat j) else exS E j := rfl
    by_cases hlt : (exS E j).1 < E.getD j 0
    · rw [ilt_yes hlt] at es
      rw [es]
      refine ⟨fun i hi => ?_, .inr ⟨j, by omega, rfl, rfl, by show 0 < E.getD j 0; omega, fun i hi => ?_⟩⟩
      · show E.getD i 0 ≤ E.getD j 0
        by_cases e : i = j
        · rw [e]; exact Int.le_refl _
        · have := h1 i (by omega); omega
      · show E.getD i 0 < E.getD j 0
        have := h1 i hi; omega
    · rw [ilt_no (by omega)] at es
      rw [es]
      refine ⟨fun i hi => ?_, ?_⟩
      · show E.getD i 0 ≤ (exS E j).1
        by_cases e : i = j
        · rw [e]; omega
        · exact h1 i (by omega)
      · rcases h2 with h2 | ⟨a, g1, g2⟩
        · exact .inl h2
        · exact .inr ⟨a, by omega, g2⟩
theorem mxL_le : ∀ (l : List Int) (M : Int), M ≤ mxL M l ∧ ∀ i, i < l.length → l.getD i 0 ≤ mxL M l
  | [], M => ⟨Int.le_refl M, fun i h => absurd h (by simp)⟩
  | x :: r, M => by
    obtain ⟨h1, h2⟩ := mxL_le r (if x > M then x else M)
    have e : mxL M (x :: r) = mxL (if x > M then x else M) r := rfl
    have h3 : M ≤ (if x > M then x else M) ∧ x ≤ (if x > M then x else M) := by split <;> omega
    rw [e]
    refine ⟨by omega, fun i hi => ?_⟩
    match i, hi with
    | 0, _ => show x ≤ _; omega
    | i + 1, hi => exact h2 i (by simpa using hi)
theorem mxL_in : ∀ (l : List Int) (M : Int), mxL M l = M ∨ ∃ i, i < l.length ∧ l.getD i 0 = mxL M l
  | [], M => .inl rfl
  | x :: r, M => by
    have e : mxL M (x :: r) = mxL (if x > M then x else M) r := rfl
    rw [e]
    rcases mxL_in r (if x > M then x else M) with h | ⟨i, h1, h2⟩
    · by_cases hx : x > M
      · rw [if_pos hx] at h ⊢
        exact .inr ⟨0, by simp, h.symm⟩
      · rw [if_neg hx] at h ⊢
        exact .inl h
    · exact .inr ⟨i + 1, by simpa using h1, h2⟩
theorem idx_at (M : Int) : ∀ (l : List Int) (i a : Nat), a < l.length → l.getD a 0 = M → (∀ b, b < a → l.getD b 0 ≠ M) → idxB (ieq M) l i = Int.ofNat (i + a)
  | [], _, _, h, _, _ => absurd h (by simp)
  | x :: r, i, 0, _, h, _ => by
    show (bif ieq M x then Int.ofNat i else _) = _
    have h : x = M := h
    rw [h, ieq_self]; rfl
  | x :: r, i, a + 1, h1, h2, h3 => by
    show (bif ieq M x then Int.ofNat i else idxB (ieq M) r (i + 1)) = _
    have hx : x ≠ M := h3 0 (by omega)
    have e : ieq M x = false := by rw [ieq_dec]; exact decide_eq_false fun h => hx h.symm
    rw [e]
    show idxB (ieq M) r (i + 1) = _
    rw [idx_at M r (i + 1) a (by simpa using h1) h2 fun b hb => h3 (b + 1) (by omega), show i + 1 + a = i + (a + 1) by omega]
theorem ex_both (E : List Int) (h0 : 0 < E.length) (hE : ∀ i, 0 ≤ E.getD i 0) : mxH E = (exS E E.length).1 ∧ idxB (ieq (mxH E)) E 0 = (exS E E.length).2 := by
  obtain ⟨h1, h2⟩ := exS_inv E hE E.length
  have hle : ∀ i, i < E.length → E.getD i 0 ≤ mxH E := by
    match E, h0 with
    | y :: l, _ =>
      intro i hi
      obtain ⟨g1, g2⟩ := mxL_le l y
      match i, hi with
      | 0, _ => exact g1
      | i + 1, hi => exact g2 i (by simpa using hi)
  have hin : ∃ i, i < E.length ∧ E.getD i 0 = mxH E := by
    match E, h0 with
    | y :: l, _ =>
      rcases mxL_in l y with h | ⟨i, g1, g2⟩
      · exact ⟨0, by simp, h.symm⟩
      · exact ⟨i + 1, by simpa using g1, g2⟩
  obtain ⟨i, i1, i2⟩ := hin
  rcases h2 with ⟨m0, a0⟩ | ⟨a, a1, a2, a3, a4, a5⟩
  · have hz : ∀ b, b < E.length → E.getD b 0 = 0 := fun b hb => by
      have := h1 b hb; have := hE b; omega
    have hM : mxH E = 0 := by rw [← i2]; exact hz i i1
    refine ⟨by rw [hM, m0], ?_⟩
    rw [a0, hM, idx_at 0 E 0 0 h0 (hz 0 h0) fun b hb => absurd hb (by omega)]
    rfl
  · have hM : mxH E = (exS E E.length).1 := by
      have := hle a a1
      have := h1 i i1
      omega
    refine ⟨hM, ?_⟩
    rw [hM, a2, idx_at _ E 0 a a1 a3 fun b hb => by have := a5 b hb; omega, Nat.zero_add]
theorem mx_nn (a b : Int) : 0 ≤ (if (if b > 0 then b else 0) > (if a > 0 then a else 0) then (if b > 0 then b else 0) else (if a > 0 then a else 0)) := by
  by_cases h1 : a > 0 <;> by_cases h2 : b > 0 <;> simp only [h1, h2, if_true, if_false] <;> repeat' split
  all_goals omega
theorem mxP_nn (x : T3) : 0 ≤ mxP (beyP x) := mx_nn (x.1 - x.2.2) (x.2.2 - x.2.1)
theorem ex_same (T : List T3) (h0 : 0 < T.length) : mxH ((T.map beyP).map mxP) = (exAt T T.length).1 ∧ idxB (ieq (mxH ((T.map beyP).map mxP))) ((T.map beyP).map mxP) 0 = (exAt T T.length).2 := by
  have hl : ((T.map beyP).map mxP).length = T.length := by simp
  have q := ex_both ((T.map beyP).map mxP) (by omega) fun i => by
    rw [List.getD_eq_getElem?_getD, List.getElem?_map, List.getElem?_map]
    cases T[i]? with
    | none => exact Int.le_refl 0
    | some x => exact mxP_nn x
  rw [hl, ← exAt_eq] at q
  exact q
end Go.Proofs.YtkggjnjiggekeaaGreatDoor
