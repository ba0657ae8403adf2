/-
  OWN WORK. Stage 6: bounds of the best window, known; what is held of a part.
-/
import Derived.Test.YtihnnmejkpddeaaGreatDoorBsYZ
import Derived.Test.YtihnnmejkpddeaaGreatDoorBnDG
/-! (OWN WORK. Stage 6, arithmetic: what holds of the best window.) -/
namespace Go.Proofs.YtihnnmejkpddeaaGreatDoor
open Go Go.Am
def leR (x y : P2) : Prop := x.1 * y.2 ≤ y.1 * x.2
theorem leR_refl (x : P2) : leR x x := Int.le_refl _
theorem leR_tot (x y : P2) : leR x y ∨ leR y x := Int.le_total _ _
theorem leR_trans {x m y : P2} (hx : 0 < x.2) (hm : 0 < m.2) (hy : 0 < y.2) (h1 : leR x m) (h2 : leR m y) : leR x y := by
 have e1 : x.1 * m.2 * y.2 ≤ m.1 * x.2 * y.2 := Int.mul_le_mul_of_nonneg_right h1 (Int.le_of_lt hy)
 have e2 : m.1 * y.2 * x.2 ≤ y.1 * m.2 * x.2 := Int.mul_le_mul_of_nonneg_right h2 (Int.le_of_lt hx)
 have a1 : x.1 * m.2 * y.2 = x.1 * y.2 * m.2 := by rw [Int.mul_assoc, Int.mul_comm m.2, ← Int.mul_assoc]
 have a2 : m.1 * x.2 * y.2 = m.1 * y.2 * x.2 := by rw [Int.mul_assoc, Int.mul_comm x.2, ← Int.mul_assoc]
 have a3 : y.1 * m.2 * x.2 = y.1 * x.2 * m.2 := by rw [Int.mul_assoc, Int.mul_comm m.2, ← Int.mul_assoc]
 rw [a1, a2] at e1
 rw [a3] at e2
 exact Int.le_of_mul_le_mul_right (Int.le_trans e1 e2) hm
theorem ltW_irr (x : W4) : ¬ ltW x x := by unfold ltW; omega
theorem ltW_as {x y : W4} (h : ltW x y) : ¬ ltW y x := by unfold ltW at h ⊢; omega
def beats (M y : W4) : Prop := leR y.2.2 M.2.2 ∧ (ltW y M → ¬ leR M.2.2 y.2.2)
theorem mxW_ok : ∀ (l : List W4) (m : W4) (pre : List W4), (∀ y ∈ pre ++ l, okR y.2.2) → m ∈ pre → (∀ y ∈ pre, beats m y) → (∀ x ∈ l, ltW m x) → l.Pairwise ltW → mxW m l ∈ pre ++ l ∧ ∀ y ∈ pre ++ l, beats (mxW m l) y
 | [], m, pre, _, hm, hb, _, _ => by rw [List.append_nil]; exact ⟨hm, hb⟩
 | x :: l, m, pre, ho, hm, hb, hl, hp => by
  obtain ⟨p1, p2⟩ := List.pairwise_cons.1 hp
  have hx := hl x (.head _)
  have e : pre ++ x :: l = (pre ++ [x]) ++ l := by simp
  have ox := ho x (by simp)
  have om := ho m (List.mem_append_left _ hm)
  show mxW (bif gtW x m then x else m) l ∈ _ ∧ ∀ y ∈ _, beats (mxW (bif gtW x m then x else m) l) y
  rw [gtW_lt hx, e]
  rw [e] at ho
  cases g : gtR x.2.2 m.2.2 with
  | true =>
   rw [gtR_say ox om] at g
   have g := of_decide_eq_true g
   refine mxW_ok l x (pre ++ [x]) ho (by simp) (fun y hy => ?_) p1 p2
   rcases List.mem_append.1 hy with hy | hy
   ·have oy := ho y (by simp [hy])
    have h1 := (hb y hy).1
    have no : ¬ leR x.2.2 y.2.2 := fun h => by
     have := leR_trans ox.2.1 oy.2.1 om.2.1 h h1
     unfold leR at this; omega
    exact ⟨(leR_tot y.2.2 x.2.2).resolve_right no, fun _ => no⟩
   ·rw [List.mem_singleton] at hy; subst hy
    exact ⟨leR_refl _, fun h => absurd h (ltW_irr _)⟩
  | false =>
   rw [gtR_say ox om] at g
   have g := of_decide_eq_false g
   refine mxW_ok l m (pre ++ [x]) ho (by simp [hm]) (fun y hy => ?_) (fun y hy => hl y (.tail _ hy)) p2
   rcases List.mem_append.1 hy with hy | hy
   ·exact hb y hy
   ·rw [List.mem_singleton] at hy; subst hy
    exact ⟨by unfold leR; omega, fun h => absurd h (ltW_as hx)⟩
theorem al_mem {c : List Value} {lo hi n : Nat} (h0 : 0 < lo) {y : W4} (h : y ∈ alW c lo hi n n) : ∃ p q, y = wnW c p q ∧ p < q ∧ q ≤ n ∧ p + lo ≤ q ∧ q ≤ p + hi := by
 obtain ⟨i, j, hi', hj, rfl⟩ := alW_mem h
 unfold rwN at hj
 have m1 := Nat.min_le_left (i + hi) n
 have m2 := Nat.min_le_right (i + hi) n
 exact ⟨i, i + lo + j, rfl, by omega, by omega, by omega, by omega⟩
theorem rw_in {c : List Value} {p t : Nat} : ∀ {N j : Nat}, j < N → wnW c p (t + j) ∈ rwL c p t N
 | N + 1, j, h => by
  show wnW c p (t + j) ∈ rwL c p t N ++ [wnW c p (t + N)]
  by_cases e : j = N
  ·subst e; simp
  ·exact List.mem_append_left _ (rw_in (by omega))
theorem al_up {c : List Value} {lo hi n i : Nat} {x : W4} (h : x ∈ rwL c i (i + lo) (rwN lo hi n i)) : ∀ {P : Nat}, i < P → x ∈ alW c lo hi n P
 | P + 1, hp => by
  show x ∈ alW c lo hi n P ++ rwL c P (P + lo) (rwN lo hi n P)
  by_cases e : i = P
  ·subst e; exact List.mem_append_right _ h
  ·exact List.mem_append_left _ (al_up h (by omega))
theorem al_in {c : List Value} {lo hi n p q : Nat} (h : p < q) (hq : q ≤ n) (h1 : p + lo ≤ q) (h2 : q ≤ p + hi) : wnW c p q ∈ alW c lo hi n n := by
 refine al_up (i := p) ?_ (by omega)
 have hm : q ≤ min (p + hi) n := Nat.le_min.2 ⟨h2, hq⟩
 have := rw_in (c := c) (p := p) (t := p + lo) (N := rwN lo hi n p) (j := q - (p + lo)) (by unfold rwN; omega)
 rwa [show p + lo + (q - (p + lo)) = q by omega] at this
structure Best (c : List Value) (lo hi n a b : Nat) : Prop where
 e : bstW c lo hi n = wnW c a b
 h1 : a < b
 h2 : b ≤ n
 h3 : a + lo ≤ b
 h4 : b ≤ a + hi
 le : ∀ p q, p < q → q ≤ n → p + lo ≤ q → q ≤ p + hi → leR (wtP c p q) (wtP c a b)
 lt : ∀ p q, p < q → q ≤ n → p + lo ≤ q → q ≤ p + hi → (p < a ∨ (p = a ∧ q < b)) → ¬ leR (wtP c a b) (wtP c p q)
theorem best_at {c : List Value} {row n k lo hi : Nat} (C : BsOk c row n k) (h1 : 0 < lo) (h2 : lo ≤ hi) (h3 : lo ≤ n) : ∃ a b, Best c lo hi n a b := by
 have key : bstW c lo hi n ∈ alW c lo hi n n ∧ ∀ y ∈ alW c lo hi n n, beats (bstW c lo hi n) y := by
  obtain ⟨x, l, e⟩ := alW_ne (c := c) h1 h2 h3
  have hp := alW_pw c lo hi n n
  have ho : ∀ y ∈ alW c lo hi n n, okR y.2.2 := fun y hy => by
   obtain ⟨p, q, rfl, g1, g2, _, _⟩ := al_mem h1 hy
   exact wt_ok C g1 g2
  unfold bstW
  rw [e] at hp ho ⊢
  obtain ⟨p1, p2⟩ := List.pairwise_cons.1 hp
  exact mxW_ok l x [x] ho (by simp) (fun y hy => by rw [List.mem_singleton] at hy; subst hy; exact ⟨leR_refl _, fun h => absurd h (ltW_irr _)⟩) p1 p2
 obtain ⟨k1, k2⟩ := key
 obtain ⟨a, b, e, g1, g2, g3, g4⟩ := al_mem h1 k1
 rw [e] at k2
 refine ⟨a, b, e, g1, g2, g3, g4, fun p q i1 i2 i3 i4 => (k2 _ (al_in i1 i2 i3 i4)).1, fun p q i1 i2 i3 i4 i5 => (k2 _ (al_in i1 i2 i3 i4)).2 ?_⟩
 unfold ltW wnW
 simp only [Int.ofNat_eq_natCast]
 omega
theorem rq_low {a b : Int} (hb : 0 < b) : gz (rqA a b) (rqB a b) = 1 := by
 have p : 0 < Nat.gcd a.natAbs b.natAbs := Nat.gcd_pos_of_pos_right _ (by omega)
 show Int.ofNat (Nat.gcd (a.tdiv (Int.ofNat (Nat.gcd a.natAbs b.natAbs))).natAbs (b.tdiv (Int.ofNat (Nat.gcd a.natAbs b.natAbs))).natAbs) = 1
 rw [Int.natAbs_tdiv, Int.natAbs_tdiv]
 show Int.ofNat (Nat.gcd (a.natAbs / Nat.gcd a.natAbs b.natAbs) (b.natAbs / Nat.gcd a.natAbs b.natAbs)) = 1
 rw [Nat.gcd_div (Nat.gcd_dvd_left _ _) (Nat.gcd_dvd_right _ _), Nat.div_self p]; rfl
theorem low_eq {x y : P2} (hx : okR x) (hy : okR y) (gx : gz x.1 x.2 = 1) (gy : gz y.1 y.2 = 1) (h1 : leR x y) (h2 : leR y x) : x = y := by
 obtain ⟨a, b⟩ := x
 obtain ⟨c, d⟩ := y
 obtain ⟨⟨a0, _⟩, b0, _⟩ := hx
 obtain ⟨⟨c0, _⟩, d0, _⟩ := hy
 have h : a * d = c * b := Int.le_antisymm h1 h2
 have a0 : 0 ≤ a := a0
 have b0 : 0 < b := b0
 have c0 : 0 ≤ c := c0
 have d0 : 0 < d := d0
 obtain ⟨a, rfl⟩ := Int.eq_ofNat_of_zero_le a0
 obtain ⟨b, rfl⟩ := Int.eq_ofNat_of_zero_le (Int.le_of_lt b0)
 obtain ⟨c, rfl⟩ := Int.eq_ofNat_of_zero_le c0
 obtain ⟨d, rfl⟩ := Int.eq_ofNat_of_zero_le (Int.le_of_lt d0)
 have gx : Nat.Coprime a b := by have gx : Int.ofNat (Nat.gcd a b) = Int.ofNat 1 := gx; injection gx
 have gy : Nat.Coprime c d := by have gy : Int.ofNat (Nat.gcd c d) = Int.ofNat 1 := gy; injection gy
 have h : a * d = c * b := by exact_mod_cast h
 have e1 : b ∣ d := Nat.Coprime.dvd_of_dvd_mul_left gx.symm (by rw [h]; exact Nat.dvd_mul_left _ _)
 have e2 : d ∣ b := Nat.Coprime.dvd_of_dvd_mul_left gy.symm (by rw [← h]; exact Nat.dvd_mul_left _ _)
 have e := Nat.dvd_antisymm e1 e2
 subst e
 have := Nat.eq_of_mul_eq_mul_right (by omega) h
 rw [this]
theorem sm0_say (c : List Value) (p q : Nat) : sm0 c p q = if 0 < smC c q - smC c p then smC c q - smC c p else 0 := by
 unfold sm0
 rw [ilt_say]
 by_cases h : 0 < smC c q - smC c p
 ·rw [decide_eq_true h, if_pos h]; rfl
 ·rw [decide_eq_false h, if_neg h]; rfl
theorem wt_low {c : List Value} {p q : Nat} (h : p < q) : gz (wtP c p q).1 (wtP c p q).2 = 1 := rq_low (by simp only [Int.ofNat_eq_natCast]; omega)
end Go.Proofs.YtihnnmejkpddeaaGreatDoor
/-! (OWN WORK. Stage 6, arithmetic: the bounds of the best window: both sides have the same.) -/
namespace Go.Proofs.YtihnnmejkpddeaaGreatDoor
open Go Go.Am
noncomputable abbrev lsWL (l : List V4) : List Value := List.map gi (List.map lsF l)
noncomputable abbrev hiWL (l : List V4) : List Value := List.map gi (List.map hiF l)
theorem itW {f : V4 → Int} {l : List V4} {j : Nat} (hj : j < l.length) : intAt (List.map gi (List.map f l)) j = f l[j] := by
 have hj' : j < (List.map f l).length := by rw [List.length_map]; exact hj
 have h := (first_at hj').2
 rw [show 0 + j * 1 = j by omega] at h
 rw [h, List.getElem_map]
theorem bsOfW {L : List Int} {n : Nat} (hl : L.length = n) (h0 : 0 < n) (h1 : n ≤ 128) (hb : ∀ x ∈ L, -2097152 ≤ x ∧ x ≤ 16384) (row k : Nat) : BsOk (L.map gi) row n k where
 cf := flat_ints L
 n0 := h0
 n1 := h1
 at_ := fun j hj => by
  have hj : j < L.length := by omega
  have g := List.getElem?_eq_getElem (l := L.map gi) (i := j) (by rw [List.length_map]; exact hj)
  have q := (cell_at (l := L) (List.getElem?_eq_getElem hj)).2
  rw [show 0 + j * 1 = j by omega] at q
  have b := hb _ (List.getElem_mem hj)
  rw [q, g, List.getElem_map]
  exact ⟨rfl, by omega, by omega⟩
def okW (l : List V4) : Prop := ∀ q ∈ l, (-16384 ≤ q.1 ∧ q.1 ≤ 16384) ∧ -16384 ≤ q.2.1 ∧ q.2.1 ≤ 16384
theorem lsW_ok {l : List V4} (h : okW l) : ∀ x ∈ List.map lsF l, -2097152 ≤ x ∧ x ≤ 16384 := by
 intro x hx
 obtain ⟨q, hq, rfl⟩ := List.mem_map.1 hx
 obtain ⟨⟨h1, h2⟩, _⟩ := h q hq
 unfold lsF
 cases q.2.2.1 with
 | true => show -2097152 ≤ (-2097152 : Int) ∧ (-2097152 : Int) ≤ 16384; omega
 | false => show -2097152 ≤ q.1 ∧ q.1 ≤ 16384; omega
theorem loW_ok {l : List V4} (h : okW l) : ∀ x ∈ List.map loF l, -2097152 ≤ x ∧ x ≤ 16384 := by
 intro x hx
 obtain ⟨q, hq, rfl⟩ := List.mem_map.1 hx
 obtain ⟨⟨h1, h2⟩, _⟩ := h q hq
 unfold loF
 omega
theorem hiW_ok {l : List V4} (h : okW l) : ∀ x ∈ List.map hiF l, -2097152 ≤ x ∧ x ≤ 16384 := by
 intro x hx
 obtain ⟨q, hq, rfl⟩ := List.mem_map.1 hx
 obtain ⟨_, h1, h2⟩ := h q hq
 unfold hiF
 omega
theorem un_sum {l : List V4} (h : okW l) {p : Nat} : ∀ {j : Nat}, p + j ≤ l.length → smC (lsWL l) (p + j) - smC (lsWL l) p ≤ 16384 * (j : Int) ∧ (unR l p j = true → smC (lsWL l) (p + j) - smC (lsWL l) p ≤ 16384 * (j : Int) - 2097152) ∧ (unR l p j = false → smC (lsWL l) (p + j) - smC (lsWL l) p = smC (loWL l) (p + j) - smC (loWL l) p)
 | 0, _ => ⟨by simp, fun h => (by cases h), fun _ => by simp⟩
 | j + 1, hj => by
  obtain ⟨i1, i2, i3⟩ := un_sum h (p := p) (j := j) (by omega)
  have hj' : p + j < l.length := by omega
  have e1 : smC (lsWL l) (p + (j + 1)) = smC (lsWL l) (p + j) + lsF l[p + j] := by
   show smC (lsWL l) (p + j) + intAt (lsWL l) (0 + (p + j) * 1) = _
   rw [show 0 + (p + j) * 1 = p + j by omega, itW hj']
  have e2 : smC (loWL l) (p + (j + 1)) = smC (loWL l) (p + j) + loF l[p + j] := by
   show smC (loWL l) (p + j) + intAt (loWL l) (0 + (p + j) * 1) = _
   rw [show 0 + (p + j) * 1 = p + j by omega, itW hj']
  have eu : unR l p (j + 1) = (unR l p j || l[p + j].2.2.1) := by
   show (unR l p j || unAt l (p + j)) = _
   unfold unAt
   rw [List.getElem?_eq_getElem hj']
  have hb := h _ (List.getElem_mem hj')
  rw [e1, e2, eu]
  simp only [Int.natCast_add, Int.natCast_one]
  unfold lsF loF
  cases hu : l[p + j].2.2.1 with
  | true =>
   refine ⟨by simp only [cond_true]; omega, fun _ => by simp only [cond_true]; omega, fun hx => ?_⟩
   rw [Bool.or_true] at hx; cases hx
  | false =>
   rw [Bool.or_false]
   refine ⟨by simp only [cond_false]; omega, fun hx => ?_, fun hx => ?_⟩
   ·have := i2 hx; simp only [cond_false]; omega
   ·have := i3 hx; simp only [cond_false]; omega
theorem wt_un {l : List V4} (h : okW l) {p q : Nat} (hl : l.length ≤ 100) (hp : p < q) (hq : q ≤ l.length) (hu : unR l p (q - p) = true) : wtP (lsWL l) p q = (0, 1) := by
 have s := (un_sum h (p := p) (j := q - p) (by omega)).2.1 hu
 rw [show p + (q - p) = q by omega] at s
 have e : sm0 (lsWL l) p q = 0 := by rw [sm0_say, if_neg (by omega)]
 have g := gz_zero (Int.ofNat (q - p)) (by simp only [Int.ofNat_eq_natCast]; omega)
 unfold wtP
 rw [e, show (0 : Int) * 0 = 0 from rfl, g.1, g.2]
theorem wt_nu {l : List V4} (h : okW l) {p q : Nat} (hp : p < q) (hq : q ≤ l.length) (hu : unR l p (q - p) = false) : wtP (loWL l) p q = wtP (lsWL l) p q := by
 have s := (un_sum h (p := p) (j := q - p) (by omega)).2.2 hu
 rw [show p + (q - p) = q by omega] at s
 unfold wtP
 rw [sm0_say, sm0_say, s]
def Wn (n lo hi p q : Nat) : Prop := p < q ∧ q ≤ n ∧ p + lo ≤ q ∧ q ≤ p + hi
def goodW (l : List V4) (lo hi : Nat) (y : P2) : Prop := y = (0, 1) ∨ ∃ p q, Wn l.length lo hi p q ∧ y = wtP (lsWL l) p q
section
variable {l : List V4} (h : okW l) (h0 : 0 < l.length) (hl : l.length ≤ 100)
include h h0 hl
theorem good_ok {lo hi : Nat} {y : P2} (g : goodW l lo hi y) : okR y ∧ gz y.1 y.2 = 1 := by
 have C := bsOfW (List.length_map lsF) h0 (by omega) (lsW_ok h) 0 0
 rcases g with rfl | ⟨p, q, ⟨h1, h2, _⟩, rfl⟩
 ·exact ⟨⟨⟨by decide, by decide⟩, by decide, by decide⟩, by unfold gz; rfl⟩
 ·exact ⟨wt_ok C h1 h2, wt_low h1⟩
theorem nbU_ok {lo hi p q : Nat} {y : P2} (g : goodW l lo hi y) (w : Wn l.length lo hi p q) : goodW l lo hi (nbU l y p q) ∧ leR y (nbU l y p q) ∧ leR (wtP (lsWL l) p q) (nbU l y p q) := by
 have C := bsOfW (List.length_map lsF) h0 (by omega) (lsW_ok h) 0 0
 obtain ⟨oy, _⟩ := good_ok h h0 hl g
 have ow := wt_ok C w.1 w.2.1
 cases hu : unR l p (q - p) with
 | true =>
  have e : nbU l y p q = y := by unfold nbU; rw [hu]; rfl
  rw [e, wt_un h hl w.1 w.2.1 hu]
  exact ⟨g, leR_refl _, by show 0 * y.2 ≤ y.1 * 1; have := oy.1.1; omega⟩
 | false =>
  have ew := wt_nu h w.1 w.2.1 hu
  have e : nbU l y p q = bif gtR (wtP (lsWL l) p q) y then wtP (lsWL l) p q else y := by unfold nbU; rw [hu, ew]; rfl
  rw [e]
  cases hg : gtR (wtP (lsWL l) p q) y with
  | true =>
   rw [gtR_say ow oy] at hg
   have hg := of_decide_eq_true hg
   exact ⟨.inr ⟨p, q, w, rfl⟩, Int.le_of_lt hg, leR_refl _⟩
  | false =>
   rw [gtR_say ow oy] at hg
   have hg := of_decide_eq_false hg
   exact ⟨g, leR_refl _, Int.not_lt.1 hg⟩
theorem nbI_ok {lo hi p : Nat} (lo0 : 0 < lo) {y : P2} (g : goodW l lo hi y) : ∀ j, j ≤ rwN lo hi l.length p → goodW l lo hi (nbI l y p (p + lo) j) ∧ leR y (nbI l y p (p + lo) j) ∧ ∀ i, i < j → leR (wtP (lsWL l) p (p + lo + i)) (nbI l y p (p + lo) j)
 | 0, _ => ⟨g, leR_refl _, fun i hi => absurd hi (Nat.not_lt_zero _)⟩
 | j + 1, hj => by
  have C := bsOfW (List.length_map lsF) h0 (by omega) (lsW_ok h) 0 0
  obtain ⟨i1, i2, i3⟩ := nbI_ok (p := p) lo0 g j (by omega)
  have w : ∀ i, i < rwN lo hi l.length p → Wn l.length lo hi p (p + lo + i) := fun i hi' => by
   unfold rwN at hi'
   have m1 := Nat.min_le_left (p + hi) l.length
   have m2 := Nat.min_le_right (p + hi) l.length
   exact ⟨by omega, by omega, by omega, by omega⟩
  obtain ⟨u1, u2, u3⟩ := nbU_ok h h0 hl i1 (w j (by omega))
  have oy := (good_ok h h0 hl g).1
  have oz := (good_ok h h0 hl i1).1
  have ou := (good_ok h h0 hl u1).1
  refine ⟨u1, leR_trans oy.2.1 oz.2.1 ou.2.1 i2 u2, fun i hi => ?_⟩
  by_cases e : i = j
  ·subst e; exact u3
  ·have ww := w i (by omega)
   exact leR_trans (wt_ok C ww.1 ww.2.1).2.1 oz.2.1 ou.2.1 (i3 i (by omega)) u2
theorem nbO_ok {lo hi : Nat} (lo0 : 0 < lo) : ∀ P, P ≤ l.length → goodW l lo hi (nbO l lo hi l.length P) ∧ ∀ p q, p < P → Wn l.length lo hi p q → leR (wtP (lsWL l) p q) (nbO l lo hi l.length P)
 | 0, _ => ⟨.inl rfl, fun _ _ hp => absurd hp (Nat.not_lt_zero _)⟩
 | P + 1, hP => by
  have C := bsOfW (List.length_map lsF) h0 (by omega) (lsW_ok h) 0 0
  obtain ⟨i1, i2⟩ := nbO_ok (hi := hi) lo0 P (by omega)
  obtain ⟨j1, j2, j3⟩ := nbI_ok h h0 hl (p := P) lo0 i1 (rwN lo hi l.length P) (Nat.le_refl _)
  have o1 := (good_ok h h0 hl i1).1
  have o2 := (good_ok h h0 hl j1).1
  refine ⟨j1, fun p q hp w => ?_⟩
  by_cases e : p = P
  ·subst e
   have hm : q ≤ min (p + hi) l.length := Nat.le_min.2 ⟨w.2.2.2, w.2.1⟩
   have w3 := w.2.2.1
   have := j3 (q - (p + lo)) (by unfold rwN; omega)
   rwa [show p + lo + (q - (p + lo)) = q by omega] at this
  ·exact leR_trans (wt_ok C w.1 w.2.1).2.1 o1.2.1 o2.2.1 (i2 p q (by omega) w) j2
theorem nb_same {lo hi : Nat} (lo0 : 0 < lo) (lo1 : lo ≤ hi) (lon : lo ≤ l.length) : nbO l lo hi l.length l.length = (bstW (lsWL l) lo hi l.length).2.2 := by
 have C := bsOfW (List.length_map lsF) h0 (by omega) (lsW_ok h) 0 0
 obtain ⟨a, b, B⟩ := best_at C lo0 lo1 lon
 obtain ⟨i1, i2⟩ := nbO_ok h h0 hl (hi := hi) lo0 l.length (Nat.le_refl _)
 obtain ⟨o1, g1⟩ := good_ok h h0 hl i1
 have e : (bstW (lsWL l) lo hi l.length).2.2 = wtP (lsWL l) a b := by rw [B.e]; rfl
 rw [e]
 have b1 := B.h1
 have b2 := B.h2
 refine low_eq o1 (wt_ok C b1 b2) g1 (wt_low b1) ?_ (i2 a b (by omega) ⟨b1, b2, B.h3, B.h4⟩)
 rcases i1 with h' | ⟨p, q, w, h'⟩
 ·rw [h']
  show 0 * _ ≤ (wtP (lsWL l) a b).1 * 1
  rw [Int.zero_mul, Int.mul_one]
  exact (wt_ok C b1 b2).1.1
 ·rw [h']
  exact B.le p q w.1 w.2.1 w.2.2.1 w.2.2.2
end
end Go.Proofs.YtihnnmejkpddeaaGreatDoor
/-! (OWN WORK. Stage 6: the bounds of the best window: known calls.) -/
namespace Go.Proofs.YtihnnmejkpddeaaGreatDoor
open Go Go.Am
theorem tra_okW {l : List V4} (h : traE l = 0) : okW l := by
 have h2 : firstE ctF l = 0 := firstS_none h _ (.tail _ (.head _))
 have all : ∀ {l : List V4}, firstE ctF l = 0 → ∀ x ∈ l, ctF x = 0 := by
  intro l
  induction l with
  | nil => intro _ x hx; cases hx
  | cons y l ih =>
   intro h x hx
   have h : (bif ieq (ctF y) 0 then firstE ctF l else ctF y) = 0 := h
   cases hy : ieq (ctF y) 0 with
   | true =>
    rw [hy, cond_true] at h
    rcases List.mem_cons.1 hx with rfl | hx
    ·exact ieq_zero hy
    ·exact ih h x hx
   | false =>
    rw [hy, cond_false] at h
    rw [h] at hy
    cases hy
 intro q hq
 have hc := all h2 q hq
 have c1 : withinS q.1 (-16384) 16384 = 0 := firstS_none hc _ (.head _)
 have c2 : withinS q.2.1 (-16384) 16384 = 0 := firstS_none hc _ (.tail _ (.head _))
 exact ⟨within_zero c1, within_zero c2⟩
noncomputable def zB5 : Value := .agg #[gi 0, gi 0, gi 0, gi 0, .bool false]
noncomputable def pbE (l : List V4) (n : Nat) (a b : Int) : Int := firstS [traE l, lnE a b, whenS (ilt (Int.ofNat n) a) 16]
noncomputable def bb5 (l : List V4) (n lo hi : Nat) : Value := .agg #[gi (bstW (lsWL l) lo hi n).2.2.1, gi (bstW (lsWL l) lo hi n).2.2.2, gi (bstW (hiWL l) lo hi n).2.2.1, gi (bstW (hiWL l) lo hi n).2.2.2, .bool (ovR l l.length)]
noncomputable def pbV (w : Bool) (l : List V4) (n : Nat) (a b : Int) : Value := bif w then .tuple #[bb5 l n a.toNat b.toNat, gi 0] else .tuple #[zB5, gi (pbE l n a b)]
def pbC (l : List V4) (r : List Value) : Prop := r = [rt2 (agI r)] ∧ (ieq (pbE l l.length (agI r).1 (agI r).2) 0 = true → l.length ≤ 40)
noncomputable abbrev pbO (n : Nat) (l : List V4) (r : List Value) : Out := .plain (pbV (ieq (pbE l n (agI r).1 (agI r).2) 0) l n (agI r).1 (agI r).2)
def rbC' (l : List V4) (r : List Value) : Prop := r = [agW (agN r).1 (agN r).2] ∧ okW l ∧ l.length ≤ 40 ∧ 0 < (agN r).1 ∧ (agN r).1 ≤ (agN r).2 ∧ (agN r).2 ≤ 128
noncomputable def rbV' (f : Bool) (l : List V4) (n lo hi : Nat) : Value := bif f then .tuple #[bb5 l n lo hi, .bool true] else .tuple #[zB5, .bool false]
noncomputable abbrev rbO' (n : Nat) (l : List V4) (r : List Value) : Out := .plain (rbV' (Nat.ble (agN r).1 n) l n (agN r).1 (agN r).2)
noncomputable def orcN3 : Orc := orElse 50 (s1O tvT pbC pbO) (orElse 54 (s1O tvT rbC' rbO') orcN2)
set_option maxRecDepth 100000 in
set_option maxHeartbeats 4000000 in
theorem orcN3_ok : OrcOk Tryz.prog orcN3 := by
 refine s1O_ok (s1O_ok orcN2_ok (fun n l r _ => ?_) ?_) (fun n l r _ => ?_) ?_
 ·show flat 3 (rbV' _ _ _ _ _) = true
  cases Nat.ble (agN r).1 n <;> rfl
 ·rintro l m k e row r hl h1 ⟨hr, h2, h40, g1, g2, g3⟩
  rw [hr] at g1 g2 g3 ⊢
  generalize agN r = R at g1 g2 g3 ⊢
  obtain ⟨lo, hi⟩ := R
  have g1 : 0 < lo := g1
  have g2 : lo ≤ hi := g2
  have g3 : hi ≤ 128 := g3
  have f1 : List.all (cellsV l) (flat 3) = true := cellsV_flat l
  have f2 := okV hl h1
  have fh : List.all (hiWL l) (flat 3) = true := flat_ints _
  have Ch := bsOfW (row := 2) (k := m + 1) (List.length_map hiF) (by omega) (by omega) (hiW_ok h2)
  have Cl := bsOfW (row := 2) (k := m + 1) (List.length_map loF) (by omega) (by omega) (loW_ok h2)
  rw [hl] at Ch Cl
  show CallJ Tryz.prog 54 #[liP (m + 1) k, agW lo hi] (liH (cellsV l) e row) (fun v _ => v = rbV' (Nat.ble lo (m + 1)) l (m + 1) lo hi)
  have ro : roOk (hiWL l) 2 (m + 1) (m + 1) lo hi := ⟨Ch, g1, by omega, by omega⟩
  by_cases hx : lo ≤ m + 1
  ·have e1 : Nat.ble lo (m + 1) = true := by rw [Nat.ble_eq]; exact hx
   have eo := bso_some (c := hiWL l) g1 g2 hx
   rw [e1]
   refine callC_ok mixed orcN2_ok (askN2_ok 0 0 lo hi) (Eq.mpr (rbo_y l m k e row lo hi (bstW (hiWL l) lo hi (m + 1)).2.2.1 (bstW (hiWL l) lo hi (m + 1)).2.2.2 _) ⟨rfl, rfl, rfl, ⟨f1, trivial⟩, f2, ⟨rfl, by rw [decW]; exact h40⟩, fun L hL => ?_⟩)
   obtain rfl : l = L := by rw [← hL, decW]
   refine ⟨rfl, rfl, rfl, ⟨fh, trivial⟩, ⟨rfl, ro⟩, rfl, rfl, by rw [eo]; rfl, rfl, rfl, rfl, rfl, rfl, rfl, rfl, ⟨⟨rfl, rfl, rfl, rfl⟩, ⟨rfl, rfl, rfl, rfl⟩, ⟨rfl, rfl, rfl, rfl⟩, ⟨by rw [eo]; rfl, rfl, rfl, rfl⟩, rfl, rfl, rfl, rfl⟩, ⟨hl, by omega, g1, by omega, by omega, Cl⟩, fun _ => ⟨⟨f1, trivial⟩, f2, rfl, fun L hL => ?_⟩⟩
   obtain rfl : l = L := by rw [← hL, decW]
   refine ⟨rfl, rfl, ?_⟩
   have es := nb_same h2 (by omega) (by omega) (lo := lo) (hi := hi) g1 g2 (by omega)
   rw [hl] at es
   rw [es]; rfl
  ·have e1 : Nat.ble lo (m + 1) = false := by rw [Bool.eq_false_iff, ne_eq, Nat.ble_eq]; exact hx
   have eo := bso_none (c := hiWL l) (hi := hi) (show m + 1 < lo by omega)
   rw [e1]
   refine callC_ok mixed orcN2_ok (askN2_ok 0 0 lo hi) (Eq.mpr (rbo_n l m k e row lo hi _) ⟨rfl, rfl, rfl, ⟨f1, trivial⟩, f2, ⟨rfl, by rw [decW]; exact h40⟩, fun L hL => ?_⟩)
   obtain rfl : l = L := by rw [← hL, decW]
   exact ⟨rfl, rfl, rfl, ⟨fh, trivial⟩, ⟨rfl, ro⟩, rfl, rfl, by rw [eo]; rfl, rfl⟩
 ·show flat 3 (pbV _ _ _ _ _) = true
  cases ieq (pbE l n (agI r).1 (agI r).2) 0 <;> rfl
 ·rintro l m k e row r hl h1 ⟨hr, h40⟩
  rw [hr] at h40 ⊢
  generalize agI r = R at h40 ⊢
  obtain ⟨a, b⟩ := R
  have f1 : List.all (cellsV l) (flat 3) = true := cellsV_flat l
  have f2 := okV hl h1
  have h40 : ieq (pbE l l.length a b) 0 = true → l.length ≤ 40 := h40
  rw [hl] at h40
  show CallJ Tryz.prog 50 #[liP (m + 1) k, rt2 (a, b)] (liH (cellsV l) e row) (fun v _ => v = pbV (ieq (pbE l (m + 1) a b) 0) l (m + 1) a b)
  cases hz : ieq (pbE l (m + 1) a b) 0 with
  | false =>
   refine callC_ok mixed orcN2_ok (askN2_ok 0 0 0 0) (Eq.mpr (pbb_e l m k e row a b _) ⟨⟨f1, trivial⟩, f2, rfl, rfl, rfl, rfl, rfl, rfl, ?_, ?_⟩)
   ·rw [decW, show ieq (firstS [traE l, lnE a b, whenS (ilt (Int.ofNat (m + 1)) a) 16]) 0 = false from hz]; rfl
   ·rw [decW]; rfl
  | true =>
   have z := ieq_zero hz
   have z1 : traE l = 0 := firstS_none z _ (.head _)
   obtain ⟨lo, hi, rfl, rfl, g1, g2, g3⟩ := ln_zero (firstS_none z (lnE a b) (.tail _ (.head _)))
   have z5 := when_none (by decide) (firstS_none z (whenS (ilt (Int.ofNat (m + 1)) (Int.ofNat lo)) 16) (.tail _ (.tail _ (.head _))))
   rw [ilt_say] at z5
   have z5 := of_decide_eq_false z5
   simp only [Int.ofNat_eq_natCast] at z5
   have h2 := tra_okW z1
   have h40 := h40 hz
   have Ch := bsOfW (row := 2) (k := m + 1) (List.length_map hiF) (by omega) (by omega) (hiW_ok h2)
   have Cl := bsOfW (row := 2) (k := m + 1) (List.length_map lsF) (by omega) (by omega) (lsW_ok h2)
   rw [hl] at Ch Cl
   have d40 : (TellT.dec tvT (cellsV l)).length ≤ 40 := by rw [decW, hl]; exact h40
   refine callC_ok mixed orcN2_ok (askN2_ok 0 0 lo hi) (Eq.mpr (pbb_k l m k e row lo hi _) ⟨⟨f1, trivial⟩, f2, rfl, rfl, rfl, rfl, rfl, rfl, ?_, ⟨f1, trivial⟩, f2, d40, fun L hL => ?_⟩)
   ·rw [decW, show ieq (firstS [traE l, lnE (Int.ofNat lo) (Int.ofNat hi), whenS (Nat.blt (m + 1) lo) 16]) 0 = true from hz]; rfl
   obtain rfl : l = L := by rw [← hL, decW]
   refine ⟨rfl, rfl, ⟨flat_ints _, trivial⟩, ⟨rfl, Cl, g1, g2, by omega, by omega⟩, rfl, ⟨f1, trivial⟩, f2, d40, fun L hL => ?_⟩
   obtain rfl : l = L := by rw [← hL, decW]
   refine ⟨rfl, ⟨flat_ints _, trivial⟩, ⟨rfl, Ch, g1, g2, by omega, by omega⟩, ⟨f1, trivial⟩, f2, rfl, fun L hL => ?_⟩
   obtain rfl : l = L := by rw [← hL, decW]
   rfl
noncomputable def pbY (w : Bool) (vs : List Value) (B : List Cells) (K : Out → Prop) : Prop := s1Y False (fun cs n r => okT tvT cs n ∧ pbC (TellT.dec tvT cs) r ∧ ∀ L : List V4, TellT.dec tvT cs = L → ∀ a b : Int, r = [.agg #[gi a, gi b]] → ieq (pbE L n a b) 0 = w ∧ K (.plain (pbV w L n a b))) vs B
theorem pbY_ok (w : Bool) (vs : List Value) (B : List Cells) (K : Out → Prop) (h : pbY w vs B K) : ∃ o, s1X tvT pbC pbO vs B = some o ∧ K o := by
 unfold pbY at h
 rcases s1Y_inv (z := False) (f := fun cs n r => okT tvT cs n ∧ pbC (TellT.dec tvT cs) r ∧ ∀ L : List V4, TellT.dec tvT cs = L → ∀ a b : Int, r = [.agg #[gi a, gi b]] → ieq (pbE L n a b) 0 = w ∧ K (.plain (pbV w L n a b))) (vs := vs) (B := B) with q | ⟨cs, n, k, e, row, r, rfl, rfl⟩
 ·rw [q] at h; exact h.elim
 ·rw [s1Y_at] at h
  obtain ⟨h1, h2, h3⟩ := h
  obtain ⟨h4, h5⟩ := h3 _ rfl (agI r).1 (agI r).2 h2.1
  unfold s1X
  rw [s1Y_at, if_pos ⟨h1, h2⟩]
  exact ⟨_, rfl, by rw [← h4] at h5; exact h5⟩
noncomputable def rbbQY (f : Bool) (lo hi : Nat) (vs : List Value) (B : List Cells) (K : Out → Prop) : Prop := s1Y False (fun cs n r => okT tvT cs n ∧ r = [agW lo hi] ∧ rbC' (TellT.dec tvT cs) r ∧ Nat.ble lo n = f ∧ ∀ L : List V4, TellT.dec tvT cs = L → K (.plain (rbV' f L n lo hi))) vs B
theorem rbbQ_ok (f : Bool) (lo hi : Nat) (vs : List Value) (B : List Cells) (K : Out → Prop) (h : rbbQY f lo hi vs B K) : ∃ o, s1X tvT rbC' rbO' vs B = some o ∧ K o := by
 unfold rbbQY at h
 rcases s1Y_inv (z := False) (f := fun cs n r => okT tvT cs n ∧ r = [agW lo hi] ∧ rbC' (TellT.dec tvT cs) r ∧ Nat.ble lo n = f ∧ ∀ L : List V4, TellT.dec tvT cs = L → K (.plain (rbV' f L n lo hi))) (vs := vs) (B := B) with q | ⟨cs, n, k, e, row, r, rfl, rfl⟩
 ·rw [q] at h; exact h.elim
 ·rw [s1Y_at] at h
  obtain ⟨h1, rfl, h2, rfl, h3⟩ := h
  unfold s1X
  rw [s1Y_at, if_pos ⟨h1, h2⟩]
  exact ⟨_, rfl, h3 _ rfl⟩
noncomputable def askN3 (w f : Bool) (p q lo hi : Nat) : Asks := asksV Tryz.prog.globals.size 50 (pbY w) (asksV Tryz.prog.globals.size 54 (rbbQY f lo hi) (askN2 p q lo hi))
theorem askN3_ok (w f : Bool) (p q lo hi : Nat) : AsksOk orcN3 (askN3 w f p q lo hi) := asksV_ok (pbY_ok w) (asksV_ok (rbbQ_ok f lo hi) (askN2_ok p q lo hi))
end Go.Proofs.YtihnnmejkpddeaaGreatDoor
/-! (OWN WORK. Stage 6: what the reference holds of one whole part of a series.) -/
namespace Go.Proofs.YtihnnmejkpddeaaGreatDoor
open Go Go.Am
theorem hp_in (c : List Value) (e row o n k q x y : Nat) (b m : Int) (g : Nat → Value) (Q : Exit → List Value → AHeap → Prop) : execC Tryz.prog (exec Tryz.prog orcLa 10) (syOf [(29, 1), (35, 2), (36, 3)]) askLa (noLoops _) 40 (loopOf Tryz.prog 34 2) (stOf 49 [(0, slT o n k), (1, goN n), (5, ptN 1), (6, gi b), (7, ptN 2), (8, goN 0), (9, gi m), (10, goN q)] g) (h3 c e row x y) (told 49 [0, 1, 5, 6, 7, 8, 9, 10] Q) = (((ilt (Int.ofNat q) (fwrap IntKind.i64 (0 + Int.ofNat n)) = true → (Nat.blt q n = true ∧ c[(o + (q * 1))]? = Option.some (gi (intAt c (o + (q * 1)))) ∧ Q .normal [slT o n k, goN n, ptN 1, gi b, ptN 2, goN 0, gi (if (intAt c (o + (q * 1)) : Int) < m then intAt c (o + (q * 1)) else m), gi (fwrap IntKind.i64 (Int.ofNat (q + 1)))] (h3 c e row x y))) ∧ (ilt (Int.ofNat q) (fwrap IntKind.i64 (0 + Int.ofNat n)) = false → Q (.exit 2) [slT o n k, goN n, ptN 1, gi b, ptN 2, goN 0, gi m, goN q] (h3 c e row x y)))) := by kernel_rfl
theorem mn_step (f : Nat → Int) : ∀ j, (if f j < mnJ f (j - 1) then f j else mnJ f (j - 1)) = mnJ f (j + 1 - 1)
 | 0 => by show (if f 0 < f 0 then f 0 else f 0) = f 0; split <;> rfl
 | j + 1 => by show (if f (j + 1) < mnJ f j then f (j + 1) else mnJ f j) = mnJ f (j + 1); rfl
set_option maxRecDepth 100000 in
theorem hp_loop {c : List Value} {o n : Nat} (hc : okPs c o n) (e row k x y : Nat) (b : Int) : ∀ a : AAct, a.n = 49 → a.marks = [] → [0, 1, 5, 6, 7, 8, 9, 10].map a.tmp = [slT o n k, goN n, ptN 1, gi b, ptN 2, goN 0, gi (intAt c (o + 0 * 1)), goN 0] →
  J Tryz.prog (.loop (loopOf Tryz.prog 34 2)) a (h3 c e row x y) (told 49 [0, 1, 5, 6, 7, 8, 9, 10] fun ex vs h => ex = .exit 2 ∧ vs = [slT o n k, goN n, ptN 1, gi b, ptN 2, goN 0, gi (mnJ (fnI c o) (n - 1)), goN n] ∧ h = h3 c e row x y) := by
 obtain ⟨h0, h1, h2⟩ := hc
 refine scan_rule _ (fun j => [slT o n k, goN n, ptN 1, gi b, ptN 2, goN 0, gi (mnJ (fnI c o) (j - 1)), goN j]) (fun _ => True) n trivial _ ?_ ?_
 ·intro j hj _ g
  refine execC_ok mixed orcLa_ok askLa_ok (noLoops _) (Eq.mpr (hp_in c e row o n k j x y b _ g _) ⟨fun _ => ⟨by rw [Nat.blt_eq]; exact hj, h2 j hj, trivial, ?_, rfl⟩, fun hge => ?_⟩)
  ·have := mn_step (fnI c o) j
   rw [fwrap_nat (by omega)]
   exact congrArg (fun z => [slT o n k, goN n, ptN 1, gi b, ptN 2, goN 0, gi z, goN (j + 1)]) this
  ·rw [ilt_say] at hge
   have := of_decide_eq_false hge
   rw [Int.zero_add, fwrap_nat (m := n) (by omega)] at this
   simp only [Int.ofNat_eq_natCast] at this
   omega
 ·intro _ g
  refine execC_ok mixed orcLa_ok askLa_ok (noLoops _) (Eq.mpr (hp_in c e row o n k n x y b _ g _) ⟨fun hlt => ?_, fun _ => ⟨rfl, rfl, rfl⟩⟩)
  rw [ilt_say] at hlt
  have := of_decide_eq_true hlt
  rw [Int.zero_add, fwrap_nat (m := n) (by omega)] at this
  simp only [Int.ofNat_eq_natCast] at this
  omega
noncomputable def hpL (c : List Value) (e row o n k x y : Nat) (b : Int) : Loops Tryz.prog where
 body := fun _ => loopOf Tryz.prog 34 2
 spec := fun _ a h q => entry a 49 [(0, slT o n k), (1, goN n), (5, ptN 1), (6, gi b), (7, ptN 2), (8, goN 0), (9, gi (intAt c (o + 0 * 1))), (10, goN 0)] (h = h3 c e row x y ∧ okPs c o n ∧
  ∀ g, q (.exit 2) (stOf 49 [(0, slT o n k), (1, goN n), (5, ptN 1), (6, gi b), (7, ptN 2), (8, goN 0), (9, gi (mnJ (fnI c o) (n - 1)))] g) (h3 c e row x y))
 ok := fun i a h q w => by
  obtain ⟨h1, h2, h3', rfl, hc, h5⟩ := entry_facts w
  refine J.of_told (hp_loop hc e row k x y b a h1 h2 ?_) ?_
  ·simp only [List.map_cons, List.map_nil]
   rw [h3' (0, slT o n k) (by simp), h3' (1, goN n) (by simp), h3' (5, ptN 1) (by simp), h3' (6, gi b) (by simp), h3' (7, ptN 2) (by simp), h3' (8, goN 0) (by simp), h3' (9, gi (intAt c (o + 0 * 1))) (by simp), h3' (10, goN 0) (by simp)]
  ·rintro ex vs h' g ⟨rfl, rfl, rfl⟩
   exact h5 (ov [(10, goN n)] g)
theorem hp_out0 (c : List Value) (e row o n k : Nat) (g : Nat → Value) (Q : Exit → List Value → AHeap → Prop) : execC Tryz.prog (exec Tryz.prog orcLa 10) (syOf [(17, 31), (22, 2), (23, 3), (40, 31)]) askLa (hpL c e row o n k 0 0 (-16385)) 40 (loopOf Tryz.prog 34 0) (stOf 49 [(0, slT o n k), (1, goN n), (5, ptN 1), (6, gi (-16385)), (7, ptN 2), (8, goN 0)] g) (h3 c e row 0 0) (told 49 [0, 1, 5, 6, 7, 8] Q) = (((!(ilt (Int.ofNat n) (fwrap IntKind.i64 (0 + Int.ofNat n)))) = true ∧ ahasIndex 0 n = true ∧ c[(o + 0)]? = Option.some (gi (intAt c (o + 0))) ∧ loopOf Tryz.prog 34 2 = loopOf Tryz.prog 34 2 ∧ slT o n k = slT o n k ∧ goN n = goN n ∧ ptN 1 = ptN 1 ∧ gi (-16385) = gi (-16385) ∧ ptN 2 = ptN 2 ∧ goN 0 = goN 0 ∧ gi (intAt c (o + 0)) = gi (intAt c (o + 0)) ∧ goN 0 = goN 0 ∧ h3 c e row 0 0 = h3 c e row 0 0 ∧ okPs c o n ∧ (∀ _ : Nat → Value, (ilt (-16385) (mnJ (fnI c o) (n - 1)) = true ∧ Q .normal [slT o n k, goN n, ptN 1, gi (mnJ (fnI c o) (n - 1)), ptN 2, gi 1] ((h3 c e row 0 0).set (nG1 + 2) (.cells ([] ++ ([goN 0, gi (fwrap IntKind.i64 (0 + Int.ofNat n))] ++ [])) 24 0 false)))))) := by kernel_rfl
theorem hp_out1 (c : List Value) (e row o n k : Nat) (b : Int) (g : Nat → Value) (Q : Exit → List Value → AHeap → Prop) : execC Tryz.prog (exec Tryz.prog orcLa 10) (syOf [(17, 32)]) askLa (hpL c e row o n k 0 n b) 40 (loopOf Tryz.prog 34 0) (stOf 49 [(0, slT o n k), (1, goN n), (5, ptN 1), (6, gi b), (7, ptN 2), (8, goN 1)] g) (h3 c e row 0 n) (told 49 [0, 1, 5, 6, 7, 8] Q) = (((!(ilt (Int.ofNat n) (fwrap IntKind.i64 (1 + Int.ofNat n)))) = false ∧ Q (.exit 0) [slT o n k, goN n, ptN 1, gi b, ptN 2, goN 1] (h3 c e row 0 n))) := by kernel_rfl
end Go.Proofs.YtihnnmejkpddeaaGreatDoor
/-! (OWN WORK. Stage 6: what the reference holds of one whole part of a series, known; rounds of its bounds.) -/
namespace Go.Proofs.YtihnnmejkpddeaaGreatDoor
open Go Go.Am
def okPl (c : List Value) (o n : Nat) : Prop := okPs c o n ∧ -16385 < mnJ (fnI c o) (n - 1)
noncomputable def hpH (c : List Value) (e row n : Nat) : Nat → AHeap
 | 0 => h3 c e row 0 0
 | _ + 1 => h3 c e row 0 n
noncomputable def hpV (c : List Value) (o n k : Nat) : Nat → List Value
 | 0 => [slT o n k, goN n, ptN 1, gi (-16385), ptN 2, goN 0]
 | _ + 1 => [slT o n k, goN n, ptN 1, gi (mnJ (fnI c o) (n - 1)), ptN 2, goN 1]
set_option maxRecDepth 100000 in
theorem hp_outer {c : List Value} {o n : Nat} (hc : okPl c o n) (e row k : Nat) : ∀ a : AAct, a.n = 49 → a.marks = [] → [0, 1, 5, 6, 7, 8].map a.tmp = hpV c o n k 0 →
  J Tryz.prog (.loop (loopOf Tryz.prog 34 0)) a (hpH c e row n 0) (told 49 [0, 1, 5, 6, 7, 8] fun ex vs h => ex = .exit 0 ∧ vs = hpV c o n k 1 ∧ h = hpH c e row n 1) := by
 obtain ⟨hc, hl⟩ := hc
 obtain ⟨h0, h1, h2⟩ := hc
 refine heap_rule (hpH c e row n) (hpV c o n k) (fun _ => True) 1 trivial _ ?_ ?_
 ·intro j hj _ g
  obtain rfl : j = 0 := by omega
  refine execC_ok mixed orcLa_ok askLa_ok (hpL c e row o n k 0 0 (-16385)) (Eq.mpr (hp_out0 c e row o n k g _) ⟨?_, ?_, h2 0 h0, rfl, rfl, rfl, rfl, rfl, rfl, rfl, rfl, rfl, rfl, ⟨h0, h1, h2⟩, fun _ => ⟨?_, trivial, rfl, ?_⟩⟩)
  ·rw [Int.zero_add, fwrap_nat (m := n) (by omega), ilt_say, decide_eq_false (Int.lt_irrefl _)]; rfl
  ·show Nat.blt 0 n = true
   rw [Nat.blt_eq]; exact h0
  ·rw [ilt_say]; exact decide_eq_true hl
  ·rw [Int.zero_add, fwrap_nat (m := n) (by omega)]
   show _ = h3 c e row 0 n
   kernel_rfl
 ·intro _ g
  refine execC_ok mixed orcLa_ok askLa_ok (hpL c e row o n k 0 n (mnJ (fnI c o) (n - 1))) (Eq.mpr (hp_out1 c e row o n k _ g _) ⟨?_, rfl, rfl, rfl⟩)
  have e1 : (1 : Int) + Int.ofNat n = Int.ofNat (n + 1) := by simp only [Int.ofNat_eq_natCast]; omega
  rw [e1, fwrap_nat (by omega), ilt_say, decide_eq_true (by simp only [Int.ofNat_eq_natCast]; omega)]; rfl
noncomputable def hpOL (c : List Value) (e row o n k : Nat) : Loops Tryz.prog where
 body := fun _ => loopOf Tryz.prog 34 0
 spec := fun _ a h q => entry a 49 [(0, slT o n k), (1, goN n), (5, ptN 1), (6, gi (-16385)), (7, ptN 2), (8, goN 0)] (h = h3 c e row 0 0 ∧ okPl c o n ∧
  ∀ g, q (.exit 0) (stOf 49 [(5, ptN 1), (6, gi (mnJ (fnI c o) (n - 1))), (7, ptN 2)] g) (h3 c e row 0 n))
 ok := fun i a h q w => by
  obtain ⟨h1, h2, h3', rfl, hc, h5⟩ := entry_facts w
  refine J.of_told (hp_outer hc e row k a h1 h2 ?_) ?_
  ·simp only [List.map_cons, List.map_nil]
   rw [h3' (0, slT o n k) (by simp), h3' (1, goN n) (by simp), h3' (5, ptN 1) (by simp), h3' (6, gi (-16385)) (by simp), h3' (7, ptN 2) (by simp), h3' (8, goN 0) (by simp)]
   rfl
  ·rintro ex vs h' g ⟨rfl, rfl, rfl⟩
   exact h5 (ov [(0, slT o n k), (1, goN n), (8, goN 1)] g)
theorem hp_run (c : List Value) (e row o m k : Nat) (K : Value → Prop) : callC Tryz.prog (exec Tryz.prog orcLa 10) (syOf []) askLa (hpOL c e row o (m + 1) k) 40 34 #[slT o (m + 1) k, goN (m + 1)] (liH c e row) (fun v _ => K v) = ((loopOf Tryz.prog 34 0 = loopOf Tryz.prog 34 0 ∧ slT o (m + 1) k = slT o (m + 1) k ∧ goN (m + 1) = goN (m + 1) ∧ Value.pointer (some ⟨nG1 + 1, 0, none⟩) = ptN 1 ∧ gi (-16385) = gi (-16385) ∧ Value.pointer (some ⟨nG1 + 2, 0, none⟩) = ptN 2 ∧ gi 0 = goN 0 ∧ (((liH c e row).push (.cells [gi 0, gi 0] 24 0 false)).push (.cells [gi 0, gi 0] 24 0 false)).set (nG1 + 2) (.cells ([] ++ ([gi 0, gi 0] ++ [])) 24 0 false) = h3 c e row 0 0 ∧ okPl c o (m + 1) ∧ (∀ _ : Nat → Value, K (Value.tuple #[gi (mnJ (fnI c o) ((m + 1) - 1)), Value.agg (Array.mk (List.take 2 (List.drop 0 ([] ++ ([goN 0, goN (m + 1)] ++ [])))))])))) := by kernel_rfl
end Go.Proofs.YtihnnmejkpddeaaGreatDoor
/-! (OWN WORK. Stage 6: the reference's bounds of what is held: rounds.) -/
namespace Go.Proofs.YtihnnmejkpddeaaGreatDoor
open Go Go.Am
noncomputable abbrev hqF (cs : List Value) (o n : Nat) : Value := .tuple #[gi (mnJ (fnI cs o) (n - 1)), .agg #[goN 0, goN n]]
open Classical in
noncomputable def hqX (vs : List Value) (B : List Cells) : Option Out := p1Y none (fun cs o n r => if r = [goN n] ∧ okPl cs o n then some (.plain (hqF cs o n)) else none) vs B
noncomputable def hqAY (vs : List Value) (B : List Cells) (K : Out → Prop) : Prop := p1Y False (fun cs o n r => (r = [goN n] ∧ okPl cs o n) ∧ K (.plain (hqF cs o n))) vs B
theorem hqA_ok (vs : List Value) (B : List Cells) (K : Out → Prop) (h : hqAY vs B K) : ∃ o, hqX vs B = some o ∧ K o := by
 unfold hqAY at h
 rcases p1Y_inv (z := False) (f := fun cs o n r => (r = [goN n] ∧ okPl cs o n) ∧ K (.plain (hqF cs o n))) (vs := vs) (B := B) with q | ⟨cs, o, n, k, e, row, r, rfl, rfl⟩
 ·rw [q] at h; exact h.elim
 ·rw [p1Y_at] at h
  obtain ⟨h1, h2⟩ := h
  unfold hqX
  rw [p1Y_at, if_pos h1]
  exact ⟨_, rfl, h2⟩
noncomputable def orcNp : Orc := orElse 34 (anyO Tryz.prog.globals.size hqX) orcN3
set_option maxRecDepth 100000 in
theorem orcNp_ok : OrcOk Tryz.prog orcNp := by
 refine anyO_ok globs_pos orcN3_ok fun vs B o h _ => ?_
 rcases p1Y_inv (z := (none : Option Out)) (f := fun cs o n r => open Classical in if r = [goN n] ∧ okPl cs o n then some (.plain (hqF cs o n)) else none) (vs := vs) (B := B) with q | ⟨cs, o', n, k, e, row, r, rfl, rfl⟩
 ·unfold hqX at h; rw [q] at h; cases h
 ·unfold hqX at h
  rw [p1Y_at] at h
  split at h
  ·rename_i hc
   cases h
   obtain ⟨rfl, h2⟩ := hc
   obtain ⟨m, rfl⟩ : ∃ m, n = m + 1 := ⟨n - 1, by have := h2.1.1; omega⟩
   exact ⟨rfl, callC_ok mixed orcLa_ok askLa_ok (Eq.mpr (hp_run cs e row o' m k _) ⟨rfl, rfl, rfl, rfl, rfl, rfl, rfl, by kernel_rfl, h2, fun _ => rfl⟩)⟩
  ·cases h
noncomputable def askNp (w f : Bool) (lo hi : Nat) : Asks := asksV Tryz.prog.globals.size 34 hqAY (askN3 w f 0 0 lo hi)
theorem askNp_ok (w f : Bool) (lo hi : Nat) : AsksOk orcNp (askNp w f lo hi) := asksV_ok hqA_ok (askN3_ok w f 0 0 lo hi)
noncomputable abbrev rhC2 (l : List V4) (e row : Nat) : List Blk := [(cellsV l, e, row, true), ([gi 0, gi 0, gi 0, gi 0, .bool false], 98, 0, false)]
noncomputable abbrev rhH2 (l : List V4) (e row : Nat) : AHeap := canonT [] (fun _ => 0) Tryz.prog.globals.size (rhC2 l e row)
theorem rhb_in (l : List V4) (e row m k s p : Nat) (H x : Int) (g : Nat → Value) (Q : Exit → List Value → AHeap → Prop) : execC Tryz.prog (exec Tryz.prog orcNp 10) (syOf [(23, 1), (28, 7), (33, 53), (35, 7), (44, 7), (45, 1)]) (askNp true true 0 0) (noLoops _) 40 (loopOf Tryz.prog 55 0) (stOf 57 [(0, liP (m + 1) k), (1, goN s), (4, ptN 1), (5, gi H), (7, gi x), (8, goN p)] g) (rhH2 l e row) (told 57 [0, 1, 4, 5, 7, 8] Q) = ((((!(ilt (Int.ofNat (m + 1)) (fwrap IntKind.i64 (Int.ofNat (p + s))))) = true → ((List.all (cellsV l) (flat 3) = true ∧ True) ∧ okT tvT (cellsV l) (m + 1) ∧ s40C (TellT.dec tvT (cellsV l)) [] ∧ (∀ y1 : List V4, (TellT.dec tvT (cellsV l) = y1 → ((0 : Int) ≤ Int.ofNat p ∧ (Int.ofNat p : Int) ≤ fwrap IntKind.i64 (Int.ofNat (p + s)) ∧ (fwrap IntKind.i64 (Int.ofNat (p + s)) : Int) ≤ Int.ofNat (m + 1) ∧ (Int.ofNat p : Int) < Int.ofNat (m + 1) ∧ (false || true) = true ∧ (∃ x2 : Nat, ((Int.toNat (fwrap IntKind.i64 (Int.ofNat (p + s))) - p) = (x2 + 1) ∧ (List.all (List.map gi (List.map loF y1)) (flat 3) = true ∧ True) ∧ ([goN s] = [goN (x2 + 1)] ∧ okPl (List.map gi (List.map loF y1)) (0 + (p * 1)) (x2 + 1)) ∧ (List.all (cellsV l) (flat 3) = true ∧ True) ∧ okT tvT (cellsV l) (m + 1) ∧ unC (TellT.dec tvT (cellsV l)) [Value.agg #[goN p, gi (fwrap IntKind.i64 (Int.ofNat (p + s)))]] ∧ (∀ y3 : List V4, (TellT.dec tvT (cellsV l) = y3 → (((!(unR y3 p (Int.toNat (fwrap IntKind.i64 (Int.ofNat (p + s))) - p))) = true → Q .normal [liP (m + 1) k, goN s, ptN 1, gi H, gi (if (mnJ (fnI (List.map gi (List.map loF y1)) (0 + (p * 1))) ((x2 + 1) - 1) : Int) > x then mnJ (fnI (List.map gi (List.map loF y1)) (0 + (p * 1))) ((x2 + 1) - 1) else x), gi (fwrap IntKind.i64 (Int.ofNat (p + 1)))] ((((rhH2 l e row).push (.cells (List.map gi (List.map loF y1)) 3 2 false)).push (.cells [gi 0, gi 0] 24 0 false)).set (nG1 + 3) (.cells ([] ++ ([goN 0, goN (x2 + 1)] ++ [])) 24 0 false))) ∧ ((!(unR y3 p (Int.toNat (fwrap IntKind.i64 (Int.ofNat (p + s))) - p))) = false → Q .normal [liP (m + 1) k, goN s, ptN 1, gi H, gi x, gi (fwrap IntKind.i64 (Int.ofNat (p + 1)))] ((((rhH2 l e row).push (.cells (List.map gi (List.map loF y1)) 3 2 false)).push (.cells [gi 0, gi 0] 24 0 false)).set (nG1 + 3) (.cells ([] ++ ([goN 0, goN (x2 + 1)] ++ [])) 24 0 false))))))))))))) ∧ ((!(ilt (Int.ofNat (m + 1)) (fwrap IntKind.i64 (Int.ofNat (p + s))))) = false → Q (.exit 0) [liP (m + 1) k, goN s, ptN 1, gi H, gi x, goN p] (rhH2 l e row)))) := by kernel_rfl
end Go.Proofs.YtihnnmejkpddeaaGreatDoor
