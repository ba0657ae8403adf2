/-
  OWN WORK. Farther walls: how runs, stopping points and tables change.
-/
import Derived.Test.YtfkiiacbchbgdaaGreatDoorFaB
namespace Go.Proofs.YtfkiiacbchbgdaaGreatDoor
open Go Go.Am

theorem ia_get {L : List Int} {j : Nat} (h : j < L.length) : intAt (L.map gi) (0 + j * 1) = L.getD j 0 := by
  rw [(gi_at h).2, List.getD_eq_getElem?_getD, List.getElem?_eq_getElem h]; rfl
theorem nA_get {L : List Int} {j : Nat} (h : j < L.length) : nA L j = L.getD j 0 := ia_get h
theorem rn_zero (f s : Int) (l : List Int) : (rnL f s l).getD 0 0 = s := by cases l <;> rfl
theorem rn_step (f : Int) : ∀ (l : List Int) (s : Int) (j : Nat), j < l.length → (rnL f s l).getD (j + 1) 0 = mxN ((rnL f s l).getD j 0) (l.getD j 0) f
  | [], _, _, h => absurd h (by simp)
  | x :: l, s, 0, _ => rn_zero f (mxN s x f) l
  | x :: l, s, j + 1, h => rn_step f l (mxN s x f) j (by simpa using h)
theorem rn_app (f y : Int) : ∀ (l : List Int) (s : Int) (j : Nat), j ≤ l.length → (rnL f s (l ++ [y])).getD j 0 = (rnL f s l).getD j 0
  | [], _, 0, _ => rfl
  | [], _, j + 1, h => absurd h (by simp)
  | x :: l, s, 0, _ => rfl
  | x :: l, s, j + 1, h => rn_app f y l (mxN s x f) j (by simpa using h)
theorem rn_mono (f : Int) : ∀ (l l' : List Int) (s s' : Int) (j : Nat), l.length = l'.length → (∀ i : Nat, l.getD i 0 ≤ l'.getD i 0) → s ≤ s' → (rnL f s l).getD j 0 ≤ (rnL f s' l').getD j 0
  | [], [], _, _, 0, _, _, h => h
  | [], [], _, _, _ + 1, _, _, _ => Int.le_refl 0
  | [], _ :: _, _, _, _, h, _, _ => absurd h (by simp)
  | _ :: _, [], _, _, _, h, _, _ => absurd h (by simp)
  | _ :: _, _ :: _, _, _, 0, _, _, h => h
  | x :: l, x' :: l', s, s', j + 1, hl, hi, hs => by
    refine rn_mono f l l' (mxN s x f) (mxN s' x' f) j (by simpa using hl) (fun i => hi (i + 1)) ?_
    have h0 : x ≤ x' := hi 0
    unfold mxN
    split <;> split <;> omega
theorem rn_bd {f : Int} (hf : 0 ≤ f) : ∀ (l : List Int) (s : Int) (j : Nat), (∀ x ∈ l, 0 ≤ x ∧ x ≤ 100000) → 0 ≤ s → 0 ≤ (rnL f s l).getD j 0 ∧ (rnL f s l).getD j 0 ≤ s + 100000 * (l.length : Int)
  | [], s, 0, _, h => ⟨h, by show s ≤ _; simp⟩
  | [], s, _ + 1, _, h => ⟨Int.le_refl 0, by show (0 : Int) ≤ _; simp; exact h⟩
  | x :: l, s, 0, _, h => ⟨h, by show s ≤ _; omega⟩
  | x :: l, s, j + 1, hx, h => by
    have hx0 := hx x (.head _)
    have e : ((x :: l).length : Int) = (l.length : Int) + 1 := by simp
    have hm : 0 ≤ mxN s x f ∧ mxN s x f ≤ s + 100000 := by unfold mxN; split <;> omega
    obtain ⟨q1, q2⟩ := rn_bd hf l (mxN s x f) j (fun z hz => hx z (.tail _ hz)) hm.1
    refine ⟨q1, ?_⟩
    rw [e]
    show (rnL f (mxN s x f) l).getD j 0 ≤ _
    omega
theorem sq_get {l : List Int} {f : Int} {j : Nat} (h : j ≤ l.length) : sqA l f (Int.ofNat j) = (rnL f 0 l).getD j 0 := by
  show intAt ((rnL f 0 l).map gi) (0 + j * 1) = _
  exact ia_get (by rw [rnL_len]; omega)
/-! Errors that are none. -/
theorem firstS_nil : ∀ {l : List Int}, (∀ x ∈ l, x = 0) → firstS l = 0
  | [], _ => rfl
  | x :: l, h => by
    show (bif ieq x 0 then firstS l else x) = 0
    rw [h x (.head _)]
    exact firstS_nil fun y hy => h y (.tail _ hy)
theorem firstE_all {α : Type} {f : α → Int} : ∀ {l : List α}, (∀ x ∈ l, f x = 0) → firstE f l = 0
  | [], _ => rfl
  | x :: l, h => by
    show (bif ieq (f x) 0 then firstE f l else f x) = 0
    rw [h x (.head _)]
    exact firstE_all fun y hy => h y (.tail _ hy)
theorem ilt_no {a b : Int} (h : b ≤ a) : ilt a b = false := by rw [ilt_say]; exact decide_eq_false (by omega)
theorem ilt_yes {a b : Int} (h : a < b) : ilt a b = true := by rw [ilt_say]; exact decide_eq_true h
theorem within_of {x lo hi : Int} (h1 : lo ≤ x) (h2 : x ≤ hi) : withinS x lo hi = 0 := by
  unfold withinS whenS
  rw [ilt_no h1, ilt_no h2]; rfl
theorem ieq_not {a b : Int} (h : a ≠ b) : ieq a b = false := by rw [ieq_dec]; exact decide_eq_false h
theorem ct_of {l : List Int} {a b c d w : Int} (h0 : 0 < l.length) (h1 : l.length ≤ 64) (hl : ∀ x ∈ l, 0 ≤ x ∧ x ≤ 100000) (ha : 0 ≤ a ∧ a ≤ b ∧ b ≤ 100000) (hc : 0 ≤ c ∧ c ≤ d ∧ d ≤ 100000) (hw : 1 ≤ w ∧ w ≤ l.length) : ctE l.length l (a, b, c, d, w) = 0 := by
  have hit : ∀ {p q : Int}, 0 ≤ p ∧ p ≤ q ∧ q ≤ 100000 → itE p q 0 100000 = 0 := fun {p q} h => by
    refine firstS_nil fun x hx => ?_
    simp only [List.mem_cons, List.not_mem_nil, or_false] at hx
    rcases hx with rfl | rfl | rfl
    · exact within_of h.1 (by omega)
    · exact within_of (by omega) h.2.2
    · unfold whenS; rw [ilt_no h.2.1]; rfl
  refine firstS_nil fun x hx => ?_
  simp only [List.mem_cons, List.not_mem_nil, or_false] at hx
  rcases hx with rfl | rfl | rfl | rfl | rfl | rfl
  · unfold whenS; rw [ieq_not (by simp only [Int.ofNat_eq_natCast]; omega)]; rfl
  · unfold whenS; rw [ilt_no (by simp only [Int.ofNat_eq_natCast]; omega)]; rfl
  · exact firstE_all fun y hy => within_of (hl y hy).1 (hl y hy).2
  · exact hit ha
  · exact hit hc
  · exact within_of hw.1 (by simp only [Int.ofNat_eq_natCast]; exact hw.2)
theorem te_of {tab : List Int} {W : Nat} (hW : W ≤ 64) (hl : tab.length = W + 1) (hr : ∀ y ∈ tab, 0 ≤ y ∧ y ≤ 100000000) : tE tab (Int.ofNat W) = 0 := by
  refine firstS_nil fun x hx => ?_
  simp only [List.mem_cons, List.not_mem_nil, or_false] at hx
  rcases hx with rfl | rfl
  · unfold whenS
    rw [fwrap_w (by simp) (by simp; omega), hl, ieq_dec, decide_eq_true (by simp)]; rfl
  · exact firstE_all fun y hy => within_of (hr y hy).1 (hr y hy).2
theorem ce_of {W j : Nat} (h : j ≤ W) : ceE (Int.ofNat W) (Int.ofNat j) = 0 := by
  unfold ceE whenS
  rw [ilt_no (by simp), ilt_no (by simp; omega)]; rfl
theorem ke_of {l tab : List Int} {a b c d : Int} {W j : Nat} (hc : ctE l.length l (a, b, c, d, Int.ofNat W) = 0) (hW : W ≤ 64) (hl : tab.length = W + 1) (hr : ∀ y ∈ tab, 0 ≤ y ∧ y ≤ 100000000) (hj : j ≤ W) : kV l tab (a, b, c, d, Int.ofNat W) (Int.ofNat j) = whenS (!(pvB l tab (a, b, c, d, Int.ofNat W) (Int.ofNat j))) 19 := by
  have e : kE l tab (a, b, c, d, Int.ofNat W) (Int.ofNat j) = 0 := by
    refine firstS_nil fun x hx => ?_
    simp only [List.mem_cons, List.not_mem_nil, or_false] at hx
    rcases hx with rfl | rfl | rfl
    · exact hc
    · exact te_of hW hl hr
    · exact ce_of hj
  unfold kV
  rw [e]; rfl
/-! All of them. -/
theorem allB_iff' {f : Nat → Bool} : ∀ {k i : Nat}, allB f k i = true ↔ ∀ j, i ≤ j → j < i + k → f j = true
  | 0, i => ⟨fun _ j h1 h2 => by omega, fun _ => rfl⟩
  | k + 1, i => by
    show (f i && allB f k (i + 1)) = true ↔ _
    rw [Bool.and_eq_true, allB_iff']
    constructor
    · rintro ⟨h1, h2⟩ j k1 k2
      by_cases e : j = i
      · rw [e]; exact h1
      · exact h2 j (by omega) (by omega)
    · intro h
      exact ⟨h i (by omega) (by omega), fun j k1 k2 => h j (by omega) (by omega)⟩
theorem allB_no {f : Nat → Bool} {k j : Nat} (h : j < k) (hf : f j = false) : allB f k 0 = false := by
  cases e : allB f k 0 with
  | false => rfl
  | true => rw [allB_iff'.1 e j (Nat.zero_le _) (by omega)] at hf; cases hf
/-! The last stopping point. -/
theorem last_ge (sf : Int → Bool) : ∀ (k i : Nat) (L : Int), L ≤ Int.ofNat i → L ≤ lastS sf k i L
  | 0, _, _, _ => Int.le_refl _
  | k + 1, i, L, h => by
    show L ≤ (bif sf (Int.ofNat i) then lastS sf k (i + 1) (Int.ofNat i) else L)
    cases sf (Int.ofNat i) with
    | false => exact Int.le_refl _
    | true => exact Int.le_trans h (last_ge sf k (i + 1) (Int.ofNat i) (by simp only [Int.ofNat_eq_natCast]; omega))
theorem last_mono {sf sf' : Int → Bool} : ∀ (k k' i : Nat) (L : Int), k ≤ k' → (∀ j : Nat, i ≤ j → j < i + k → sf (Int.ofNat j) = true → sf' (Int.ofNat j) = true) → L ≤ Int.ofNat i → lastS sf k i L ≤ lastS sf' k' i L
  | 0, k', i, L, _, _, hL => last_ge sf' k' i L hL
  | k + 1, 0, _, _, h, _, _ => absurd h (by omega)
  | k + 1, k' + 1, i, L, h, hs, hL => by
    show (bif sf (Int.ofNat i) then lastS sf k (i + 1) (Int.ofNat i) else L) ≤ lastS sf' (k' + 1) i L
    cases e : sf (Int.ofNat i) with
    | false => exact last_ge sf' (k' + 1) i L hL
    | true =>
      rw [lastS_t (hs i (by omega) (by omega) e)]
      exact last_mono k k' (i + 1) (Int.ofNat i) (by omega) (fun j h1 h2 => hs j (by omega) (by omega)) (by simp only [Int.ofNat_eq_natCast]; omega)
end Go.Proofs.YtfkiiacbchbgdaaGreatDoor
