/-
  OWN WORK. Stage 6: sums of the first integers, and all windows.
-/
import Derived.Test.YtihnnmejkpddeaaGreatDoorLvJO
import Derived.Test.YtihnnmejkpddeaaGreatDoorEuM
/-! (OWN WORK. Stage 6, arithmetic: the sums of the first integers of a series, as a map.) -/
namespace Go.Proofs.YtihnnmejkpddeaaGreatDoor
open Go Go.Am
noncomputable def smC (c : List Value) : Nat → Int
 | 0 => 0
 | j + 1 => smC c j + intAt c (0 + j * 1)
noncomputable def mpN (c : List Value) (q : Nat) : MapEntry := { key := goN q, val := gi (smC c q), born := q }
noncomputable def mpE (c : List Value) (j : Nat) : List MapEntry := (List.range (j + 1)).map (mpN c)
theorem mpE_succ (c : List Value) (j : Nat) : mpE c (j + 1) = mpE c j ++ [mpN c (j + 1)] := by
 show (List.range (j + 1 + 1)).map (mpN c) = _
 rw [List.range_succ, List.map_append]; rfl
theorem mpE_int (c : List Value) (j : Nat) : MapInt (mpE c j) := by
 intro e he
 obtain ⟨q, _, rfl⟩ := List.mem_map.1 he
 exact ⟨_, _, rfl, rfl⟩
theorem mpE_flat (c : List Value) (j : Nat) : ∀ e ∈ mpE c j, flat 3 e.val = true := by
 intro e he
 obtain ⟨q, _, rfl⟩ := List.mem_map.1 he
 rfl
theorem mpE_no (c : List Value) {j q : Nat} (h : j < q) : MapNo (mpE c j) (Int.ofNat q) := by
 intro e he hk
 obtain ⟨p, hp, rfl⟩ := List.mem_map.1 he
 rw [List.mem_range] at hp
 have hk : Value.int .i64 (Int.ofNat p) = .int .i64 (Int.ofNat q) := hk
 injection hk with _ hk
 simp only [Int.ofNat_eq_natCast] at hk
 omega
theorem mapAt_map (c : List Value) (q : Nat) : ∀ L : List Nat, q ∈ L → mapAt (L.map (mpN c)) (Int.ofNat q) = smC c q
 | [], h => by cases h
 | x :: L, h => by
  show (bif ieq (Int.ofNat q) (Int.ofNat x) then smC c x else mapAt (L.map (mpN c)) (Int.ofNat q)) = smC c q
  rw [ieq_dec]
  by_cases e : q = x
  ·subst e; rw [decide_eq_true rfl]; rfl
  ·rw [decide_eq_false (by simp only [Int.ofNat_eq_natCast]; omega)]
   rcases List.mem_cons.1 h with rfl | h
   ·exact absurd rfl e
   ·exact mapAt_map c q L h
theorem mpE_at (c : List Value) {j q : Nat} (h : q ≤ j) : mapAt (mpE c j) (Int.ofNat q) = smC c q := mapAt_map c q _ (List.mem_range.2 (by omega))
end Go.Proofs.YtihnnmejkpddeaaGreatDoor
/-! (OWN WORK. Stage 6, arithmetic: all windows with their worths, and the best one of them.) -/
namespace Go.Proofs.YtihnnmejkpddeaaGreatDoor
open Go Go.Am
abbrev W4 := Int × Int × P2
noncomputable def w4 (x : W4) : List Value := [gi x.1, gi x.2.1, gi x.2.2.1, gi x.2.2.2]
noncomputable def cells4 (l : List W4) : List Value := l.flatMap w4
theorem cells4_flat (l : List W4) : (cells4 l).all (flat 3) = true := by
 induction l with
 | nil => rfl
 | cons x l ih => show ((w4 x ++ cells4 l).all (flat 3)) = true; rw [List.all_append, ih]; rfl
theorem cells4_app (a b : List W4) : cells4 (a ++ b) = cells4 a ++ cells4 b := by unfold cells4; rw [List.flatMap_append]
theorem cells4_len (l : List W4) : (cells4 l).length = l.length * 4 := by
 induction l with
 | nil => rfl
 | cons x l ih => show (w4 x ++ cells4 l).length = (l.length + 1) * 4; rw [List.length_append, ih]; show 4 + l.length * 4 = _; omega
theorem cells4_at {l : List W4} {j : Nat} {x : W4} (h : l[j]? = some x) : (cells4 l)[j * 4]? = some (gi x.1) ∧ (cells4 l)[j * 4 + 1]? = some (gi x.2.1) ∧ (cells4 l)[j * 4 + 2]? = some (gi x.2.2.1) ∧ (cells4 l)[j * 4 + 3]? = some (gi x.2.2.2) := by
 induction l generalizing j with
 | nil => simp at h
 | cons y l ih =>
  cases j with
  | zero => cases h; exact ⟨rfl, rfl, rfl, rfl⟩
  | succ j =>
   obtain ⟨h1, h2, h3, h4⟩ := ih (j := j) (by simpa using h)
   have e : ∀ t, t < 4 → (cells4 (y :: l))[(j + 1) * 4 + t]? = (cells4 l)[j * 4 + t]? := fun t _ => by
    show (w4 y ++ cells4 l)[(j + 1) * 4 + t]? = _
    rw [List.getElem?_append_right (by show 4 ≤ (j + 1) * 4 + t; omega)]
    show (cells4 l)[(j + 1) * 4 + t - 4]? = _
    rw [show (j + 1) * 4 + t - 4 = j * 4 + t by omega]
   refine ⟨(e 0 (by omega)).trans h1, by rw [e 1 (by omega)]; exact h2, by rw [e 2 (by omega)]; exact h3, by rw [e 3 (by omega)]; exact h4⟩
noncomputable def sm0 (c : List Value) (p q : Nat) : Int := bif ilt 0 (smC c q - smC c p) then smC c q - smC c p else 0
noncomputable def wtP (c : List Value) (p q : Nat) : P2 := (rqA (sm0 c p q * sm0 c p q) (Int.ofNat (q - p)), rqB (sm0 c p q * sm0 c p q) (Int.ofNat (q - p)))
noncomputable def wnW (c : List Value) (p q : Nat) : W4 := (Int.ofNat p, Int.ofNat q, wtP c p q)
noncomputable def rwL (c : List Value) (p t : Nat) : Nat → List W4
 | 0 => []
 | j + 1 => rwL c p t j ++ [wnW c p (t + j)]
theorem rwL_len (c : List Value) (p t : Nat) : ∀ j, (rwL c p t j).length = j
 | 0 => rfl
 | j + 1 => by
  show (rwL c p t j ++ [wnW c p (t + j)]).length = j + 1
  rw [List.length_append, rwL_len c p t j]; rfl
noncomputable def rwN (lo hi n p : Nat) : Nat := min (p + hi) n + 1 - (p + lo)
noncomputable def alW (c : List Value) (lo hi n : Nat) : Nat → List W4
 | 0 => []
 | p + 1 => alW c lo hi n p ++ rwL c p (p + lo) (rwN lo hi n p)
theorem alW_len (c : List Value) (lo hi n : Nat) : ∀ p, (alW c lo hi n p).length ≤ p * (n + 1)
 | 0 => Nat.zero_le _
 | p + 1 => by
  have := alW_len c lo hi n p
  show (alW c lo hi n p ++ rwL c p (p + lo) (rwN lo hi n p)).length ≤ (p + 1) * (n + 1)
  rw [List.length_append, rwL_len]
  have : rwN lo hi n p ≤ n + 1 := by unfold rwN; have := Nat.min_le_right (p + hi) n; omega
  rw [Nat.succ_mul]; omega
noncomputable def orE (a b : Int) : Int := bif ieq a 0 then b else a
noncomputable def cmpW (x m : W4) : Int := orE (cpR x.2.2 m.2.2) (orE (cpE m.1 x.1) (cpE m.2.1 x.2.1))
noncomputable def gtW (x m : W4) : Bool := ilt 0 (cmpW x m)
noncomputable def mxW : W4 → List W4 → W4
 | m, [] => m
 | m, x :: l => mxW (bif gtW x m then x else m) l
noncomputable def upW (o : Option W4) (x : W4) : Option W4 := match o with
 | none => some x
 | some m => some (bif gtR x.2.2 m.2.2 then x else m)
noncomputable def bsW : Option W4 → List W4 → Option W4
 | o, [] => o
 | o, x :: l => bsW (upW o x) l
theorem bsW_app : ∀ (a b : List W4) (o : Option W4), bsW o (a ++ b) = bsW (bsW o a) b
 | [], _, _ => rfl
 | x :: a, b, o => bsW_app a b (upW o x)
def ltW (m x : W4) : Prop := m.1 < x.1 ∨ (m.1 = x.1 ∧ m.2.1 < x.2.1)
theorem gtW_lt {x m : W4} (h : ltW m x) : gtW x m = gtR x.2.2 m.2.2 := by
 have e : orE (cpE m.1 x.1) (cpE m.2.1 x.2.1) = -1 := by
  unfold orE cpE
  rcases h with h | ⟨h, h'⟩
  ·rw [ilt_say, decide_eq_true h]; rfl
  ·rw [h, ilt_say x.1 x.1, decide_eq_false (Int.lt_irrefl _), ilt_say m.2.1, decide_eq_true h']; rfl
 unfold gtW cmpW gtR
 rw [e]
 unfold orE
 cases hz : ieq (cpR x.2.2 m.2.2) 0 with
 | false => rfl
 | true =>
  rw [ieq_dec] at hz
  rw [of_decide_eq_true hz]; rfl
theorem mx_bs : ∀ (l : List W4) (m : W4), (∀ x ∈ l, ltW m x) → l.Pairwise ltW → bsW (some m) l = some (mxW m l)
 | [], _, _, _ => rfl
 | x :: l, m, hm, hp => by
  obtain ⟨h1, h2⟩ := List.pairwise_cons.1 hp
  show bsW (some (bif gtR x.2.2 m.2.2 then x else m)) l = some (mxW (bif gtW x m then x else m) l)
  rw [gtW_lt (hm x (.head _))]
  refine mx_bs l _ (fun y hy => ?_) h2
  cases gtR x.2.2 m.2.2 with
  | true => exact h1 y hy
  | false => exact hm y (.tail _ hy)
theorem rwL_mem {c : List Value} {p t : Nat} {x : W4} : ∀ {j}, x ∈ rwL c p t j → ∃ i, i < j ∧ x = wnW c p (t + i)
 | 0, h => by cases h
 | j + 1, h => by
  have h : x ∈ rwL c p t j ++ [wnW c p (t + j)] := h
  rcases List.mem_append.1 h with h | h
  ·obtain ⟨i, hi, rfl⟩ := rwL_mem h
   exact ⟨i, by omega, rfl⟩
  ·rw [List.mem_singleton] at h
   exact ⟨j, by omega, h⟩
theorem rwL_pw (c : List Value) (p t : Nat) : ∀ j, (rwL c p t j).Pairwise ltW
 | 0 => .nil
 | j + 1 => by
  show (rwL c p t j ++ [wnW c p (t + j)]).Pairwise ltW
  refine List.pairwise_append.2 ⟨rwL_pw c p t j, List.pairwise_singleton _ _, fun a ha b hb => ?_⟩
  obtain ⟨i, hi, rfl⟩ := rwL_mem ha
  rw [List.mem_singleton] at hb
  subst hb
  exact .inr ⟨rfl, by show Int.ofNat (t + i) < Int.ofNat (t + j); simp only [Int.ofNat_eq_natCast]; omega⟩
theorem alW_mem {c : List Value} {lo hi n : Nat} {x : W4} : ∀ {p}, x ∈ alW c lo hi n p → ∃ i j, i < p ∧ j < rwN lo hi n i ∧ x = wnW c i (i + lo + j)
 | 0, h => by cases h
 | p + 1, h => by
  have h : x ∈ alW c lo hi n p ++ rwL c p (p + lo) (rwN lo hi n p) := h
  rcases List.mem_append.1 h with h | h
  ·obtain ⟨i, j, hi, hj, rfl⟩ := alW_mem h
   exact ⟨i, j, by omega, hj, rfl⟩
  ·obtain ⟨i, hi, rfl⟩ := rwL_mem h
   exact ⟨p, i, by omega, hi, rfl⟩
theorem alW_pw (c : List Value) (lo hi n : Nat) : ∀ p, (alW c lo hi n p).Pairwise ltW
 | 0 => .nil
 | p + 1 => by
  show (alW c lo hi n p ++ rwL c p (p + lo) (rwN lo hi n p)).Pairwise ltW
  refine List.pairwise_append.2 ⟨alW_pw c lo hi n p, rwL_pw _ _ _ _, fun a ha b hb => ?_⟩
  obtain ⟨i, j, hi, _, rfl⟩ := alW_mem ha
  obtain ⟨j', _, rfl⟩ := rwL_mem hb
  exact .inl (by show Int.ofNat i < Int.ofNat p; simp only [Int.ofNat_eq_natCast]; omega)
noncomputable def bstW (c : List Value) (lo hi n : Nat) : W4 := match alW c lo hi n n with
 | [] => (0, 0, (0, 0))
 | x :: l => mxW x l
theorem bs_best {c : List Value} {lo hi n : Nat} {x : W4} {l : List W4} (h : alW c lo hi n n = x :: l) : bsW none (alW c lo hi n n) = some (bstW c lo hi n) := by
 have hp := alW_pw c lo hi n n
 unfold bstW
 rw [h] at hp ⊢
 obtain ⟨h1, h2⟩ := List.pairwise_cons.1 hp
 exact mx_bs l x h1 h2
theorem alW_ne {c : List Value} {lo hi n : Nat} (h1 : 0 < lo) (h2 : lo ≤ hi) (h3 : lo ≤ n) : ∃ x l, alW c lo hi n n = x :: l := by
 have key : ∀ p, 0 < p → ∃ x l, alW c lo hi n p = x :: l := by
  intro p
  induction p with
  | zero => intro h; omega
  | succ p ih =>
   intro _
   show ∃ x l, alW c lo hi n p ++ rwL c p (p + lo) (rwN lo hi n p) = x :: l
   by_cases hp : 0 < p
   ·obtain ⟨x, l, e⟩ := ih hp
    exact ⟨x, l ++ rwL c p (p + lo) (rwN lo hi n p), by rw [e]; rfl⟩
   ·obtain rfl : p = 0 := by omega
    have hn : rwN lo hi n 0 = (rwN lo hi n 0 - 1) + 1 := by
     have : lo ≤ min (0 + hi) n := by rw [Nat.le_min]; omega
     unfold rwN; omega
    have : (rwL c 0 (0 + lo) (rwN lo hi n 0)).length = (rwN lo hi n 0 - 1) + 1 := by rw [rwL_len]; exact hn
    show ∃ x l, rwL c 0 (0 + lo) (rwN lo hi n 0) = x :: l
    generalize rwL c 0 (0 + lo) (rwN lo hi n 0) = L at this
    cases L with
    | nil => simp at this
    | cons x l => exact ⟨x, l, rfl⟩
 exact key n (by omega)
theorem alW_nil {c : List Value} {lo hi n : Nat} (h : n < lo) : ∀ p, alW c lo hi n p = []
 | 0 => rfl
 | p + 1 => by
  show alW c lo hi n p ++ rwL c p (p + lo) (rwN lo hi n p) = []
  rw [alW_nil h p, show rwN lo hi n p = 0 by unfold rwN; have := Nat.min_le_right (p + hi) n; omega]; rfl
end Go.Proofs.YtihnnmejkpddeaaGreatDoor
