/-
  OWN WORK. Stage 6: risk tables: their cells, their errors and their risks (arithmetic).
-/
import Derived.Test.YtihnnmejkpddeaaGreatDoorEuB
import Derived.Test.YtihnnmejkpddeaaGreatDoorLsA
namespace Go.Proofs.YtihnnmejkpddeaaGreatDoor
open Go Go.Am

abbrev P3 := Int × Int × Int
noncomputable def st3 (q : P3) : List Value := [gi q.1, gi q.2.1, gi q.2.2]
noncomputable abbrev ag3 (q : P3) : Value := .agg #[gi q.1, gi q.2.1, gi q.2.2]
noncomputable def cells3 : List P3 → List Value
  | [] => []
  | q :: l => gi q.1 :: gi q.2.1 :: gi q.2.2 :: cells3 l
theorem cells3_flat : ∀ l : List P3, (cells3 l).all (flat 3) = true
  | [] => rfl
  | _ :: l => cells3_flat l
noncomputable def dec3 : List Value → List P3
  | a :: b :: c :: r => (intOf a, intOf b, intOf c) :: dec3 r
  | _ => []
theorem dec3_cells : ∀ l : List P3, dec3 (cells3 l) = l
  | [] => rfl
  | q :: l => by
    show (q.1, q.2.1, q.2.2) :: dec3 (cells3 l) = q :: l
    rw [dec3_cells l]
noncomputable def ts3 : TellT P3 := ⟨cells3, dec3, dec3_cells, cells3_flat⟩
theorem cells3_len : ∀ l : List P3, (cells3 l).length = l.length * 3
  | [] => rfl
  | _ :: l => by
    show (cells3 l).length + 1 + 1 + 1 = (l.length + 1) * 3
    rw [cells3_len l]; omega
theorem cells3_at : ∀ {l : List P3} {j : Nat} (hj : j < l.length), (cells3 l)[0 + j * 3]? = some (gi l[j].1) ∧ (cells3 l)[0 + j * 3 + 1]? = some (gi l[j].2.1) ∧ (cells3 l)[0 + j * 3 + 2]? = some (gi l[j].2.2)
  | q :: l, 0, _ => ⟨rfl, rfl, rfl⟩
  | q :: l, j + 1, h => by
    have ih := cells3_at (l := l) (j := j) (by simpa using h)
    rw [show 0 + (j + 1) * 3 = 0 + j * 3 + 3 by omega]
    exact ih
theorem cells3_app : ∀ (a b : List P3), cells3 (a ++ b) = cells3 a ++ cells3 b
  | [], _ => rfl
  | q :: a, b => by
    show _ :: _ :: _ :: cells3 (a ++ b) = _
    rw [cells3_app a b]; rfl
theorem cells3_first {l : List P3} {j : Nat} (hj : j < l.length) : ((cells3 l)[0 + j * 3]? = some (gi (intAt (cells3 l) (0 + j * 3))) ∧ (cells3 l)[0 + j * 3 + 1]? = some (gi (intAt (cells3 l) (0 + j * 3 + 1))) ∧ (cells3 l)[0 + j * 3 + 1 + 1]? = some (gi (intAt (cells3 l) (0 + j * 3 + 1 + 1)))) ∧
    intAt (cells3 l) (0 + j * 3) = l[j].1 ∧ intAt (cells3 l) (0 + j * 3 + 1) = l[j].2.1 ∧ intAt (cells3 l) (0 + j * 3 + 1 + 1) = l[j].2.2 := by
  obtain ⟨e0, e1, e2⟩ := cells3_at hj
  have i0 : intAt (cells3 l) (0 + j * 3) = l[j].1 := by unfold intAt; rw [e0]
  have i1 : intAt (cells3 l) (0 + j * 3 + 1) = l[j].2.1 := by unfold intAt; rw [e1]
  have i2 : intAt (cells3 l) (0 + j * 3 + 1 + 1) = l[j].2.2 := by unfold intAt; rw [e2]
  rw [i0, i1, i2]
  exact ⟨⟨e0, e1, e2⟩, rfl, rfl, rfl⟩
theorem cells3_take {l : List P3} {j : Nat} (hj : j < l.length) : cells3 (l.take (j + 1)) = cells3 (l.take j) ++ [gi l[j].1, gi l[j].2.1, gi l[j].2.2] := by
  rw [List.take_add_one, List.getElem?_eq_getElem hj, cells3_app]; rfl
theorem cells3_nil' {l : List P3} {j : Nat} (hj : j ≤ l.length) (h : cells3 (l.take j) = []) : j = 0 := by
  have := congrArg List.length h
  rw [cells3_len, List.length_take, Nat.min_eq_left hj] at this
  simp at this
  omega
/-! Sizes. -/
noncomputable def szE (a b : Int) : Int := firstS [withinS a 0 5000000000000, withinS b 1 1000000, whenS (ilt 0 b && !eqP (rqA a b, rqB a b) (a, b)) 1]
noncomputable def okI (a b : Int) : Bool := inI64 a && inI64 b
theorem okI_le {a b : Int} (h : okI a b = true) : inI64 a = true ∧ inI64 b = true := by
  unfold okI at h
  rwa [Bool.and_eq_true] at h
theorem okI_of {a b : Int} (h1 : inI64 a = true) (h2 : inI64 b = true) : okI a b = true := by
  unfold okI
  rw [h1, h2]; rfl
theorem szE_ok {a b : Int} (h : szE a b = 0) : okR (a, b) := by
  have h1 := within_zero (firstS_none h _ (.head _))
  have h2 := within_zero (firstS_none h _ (.tail _ (.head _)))
  exact ⟨⟨h1.1, h1.2⟩, by show 0 < b; omega, h2.2⟩
/-! Tables. -/
noncomputable abbrev frP (q : P3) : P2 := (q.1, q.2.1)
noncomputable def stA (p : P3) : Int := firstS [szE p.1 p.2.1, withinS p.2.2 0 1000]
noncomputable def stE (b p : P3) : Int := firstS [szE p.1 p.2.1, withinS p.2.2 0 1000, whenS (!(ilt 0 (cpR (frP p) (frP b))) || ilt p.2.2 b.2.2) 11]
noncomputable def rdE (b p : P3) : Int := bif ieq (stA p) 0 then whenS (!(ilt (cpR (frP b) (frP p)) 0) || ilt p.2.2 b.2.2) 11 else stA p
theorem cp_lt (p q : Int) : ilt (cpE p q) 0 = decide (p < q) := by
  unfold cpE
  rw [ilt_say p q, ilt_say q p]
  by_cases h1 : p < q
  · rw [decide_eq_true h1]; rfl
  · rw [decide_eq_false h1]
    by_cases h2 : q < p
    · rw [decide_eq_true h2]; rfl
    · rw [decide_eq_false h2]; rfl
theorem cp_swap (x y : P2) : ilt (cpR x y) 0 = gtR y x := by
  unfold gtR cpR
  rw [cp_lt, ilt0_cp]
theorem rd_eq (b p : P3) : rdE b p = stE b p := by
  unfold rdE stE
  rw [cp_swap]
  show (bif ieq (stA p) 0 then whenS (!gtR (frP p) (frP b) || ilt p.2.2 b.2.2) 11 else stA p) = firstS [szE p.1 p.2.1, withinS p.2.2 0 1000, whenS (!gtR (frP p) (frP b) || ilt p.2.2 b.2.2) 11]
  unfold stA firstS firstS firstS firstS
  cases h1 : ieq (szE p.1 p.2.1) 0 with
  | false => simp only [cond_false, h1]
  | true =>
    simp only [cond_true]
    cases h2 : ieq (withinS p.2.2 0 1000) 0 with
    | false => simp only [cond_false, h2]
    | true =>
      simp only [cond_true]
      cases (!gtR (frP p) (frP b) || ilt p.2.2 b.2.2) <;> rfl
noncomputable def tbE : P3 → List P3 → Int
  | _, [] => 0
  | b, p :: r => bif ieq (stE b p) 0 then tbE p r else stE b p
theorem st_a {b p : P3} (h : stE b p = 0) : okR (frP p) ∧ (0 ≤ p.2.2 ∧ p.2.2 ≤ 1000) ∧ gtR (frP p) (frP b) = true := by
  have h1 := szE_ok (firstS_none h _ (.head _))
  have h2 := within_zero (firstS_none h _ (.tail _ (.head _)))
  have h3 := when_none (by decide) (firstS_none h _ (.tail _ (.tail _ (.head _))))
  rw [Bool.or_eq_false_iff] at h3
  exact ⟨h1, h2, not_t h3.1⟩
theorem st_first (p : P3) : stE (-1, 1, 0) p = stA p := by
  cases h : ieq (stA p) 0 with
  | false =>
    rw [← rd_eq]
    unfold rdE
    rw [h]; rfl
  | true =>
    rw [← rd_eq]
    unfold rdE
    rw [h]
    rw [ieq_dec] at h
    have h : stA p = 0 := of_decide_eq_true h
    have h1 := szE_ok (firstS_none h _ (.head _))
    have h2 := within_zero (firstS_none h _ (.tail _ (.head _)))
    rw [h, cp_swap, gtR]
    unfold cpR
    obtain ⟨⟨a1, a2⟩, a3, a4⟩ := h1
    have a1 : 0 ≤ p.1 := a1
    have a2 : p.1 ≤ 5000000000000 := a2
    have a3 : 0 < p.2.1 := a3
    have a4 : p.2.1 ≤ 1000000 := a4
    show whenS (!(ilt 0 (cpE (fwrap .i64 (p.1 * 1)) (fwrap .i64 (-1 * p.2.1)))) || ilt p.2.2 0) 11 = 0
    rw [fwrap_mid (x := p.1 * 1) (by omega) (by omega), fwrap_mid (x := -1 * p.2.1) (by omega) (by omega), ilt0_cp, decide_eq_true (by omega), ilt_say, decide_eq_false (by omega)]
    rfl
/-- A table whose elements ascend, from one on. -/
def ordT : P3 → List P3 → Prop
  | _, [] => True
  | b, p :: r => gtR (frP p) (frP b) = true ∧ ordT p r
theorem tb_ok : ∀ {l : List P3} {b : P3}, tbE b l = 0 → (∀ p ∈ l, okR (frP p)) ∧ ordT b l
  | [], _, _ => ⟨fun _ h => (by cases h), trivial⟩
  | p :: r, b, h => by
    have h : (bif ieq (stE b p) 0 then tbE p r else stE b p) = 0 := h
    cases e : ieq (stE b p) 0 with
    | false =>
      rw [e] at h
      rw [ieq_dec] at e
      exact absurd h (of_decide_eq_false e)
    | true =>
      rw [e] at h
      rw [ieq_dec] at e
      obtain ⟨h1, h2, h3⟩ := st_a (of_decide_eq_true e)
      obtain ⟨g1, g2⟩ := tb_ok (l := r) h
      refine ⟨fun q hq => ?_, h3, g2⟩
      rcases List.mem_cons.1 hq with rfl | hq
      · exact h1
      · exact g1 q hq
theorem gtR_asym {x y : P2} (hx : okR x) (hy : okR y) (h : gtR x y = true) : gtR y x = false := by
  rw [gtR_say hx hy] at h
  rw [gtR_say hy hx]
  have h := of_decide_eq_true h
  exact decide_eq_false (by omega)
theorem gtR_tr {x m y : P2} (hx : okR x) (hm : okR m) (hy : okR y) (h1 : gtR x m = true) (h2 : gtR m y = true) : gtR x y = true :=
  gtR_trans hx hm hy h1 (gtR_asym hm hy h2)
/-- All that comes later is greater. -/
theorem ord_all : ∀ {l : List P3} {b : P3}, okR (frP b) → (∀ p ∈ l, okR (frP p)) → ordT b l → ∀ p ∈ l, gtR (frP p) (frP b) = true
  | [], _, _, _, _, _, h => (by cases h)
  | q :: r, b, hb, hok, ho, p, hp => by
    obtain ⟨h1, h2⟩ := ho
    rcases List.mem_cons.1 hp with rfl | hp
    · exact h1
    · have := ord_all (hok q (.head _)) (fun p hp => hok p (.tail _ hp)) h2 p hp
      exact gtR_tr (hok p (.tail _ hp)) (hok q (.head _)) hb this h1
theorem ord_at : ∀ {l : List P3} {b : P3}, (∀ p ∈ l, okR (frP p)) → ordT b l → ∀ {i j : Nat} {p q : P3}, i < j → l[i]? = some p → l[j]? = some q → gtR (frP q) (frP p) = true
  | [], _, _, _, i, j, p, q, _, h, _ => by simp at h
  | x :: r, b, hok, ho, 0, j + 1, p, q, hij, hi, hj => by
    have hi : x = p := by simpa using hi
    have hj : r[j]? = some q := by simpa using hj
    rw [← hi]
    exact ord_all (hok x (.head _)) (fun p hp => hok p (.tail _ hp)) ho.2 q (List.mem_of_getElem? hj)
  | x :: r, b, hok, ho, i + 1, j + 1, p, q, hij, hi, hj =>
    ord_at (fun p hp => hok p (.tail _ hp)) ho.2 (i := i) (j := j) (by omega) (by simpa using hi) (by simpa using hj)
  | x :: r, b, hok, ho, i, 0, p, q, hij, hi, hj => by omega
/-! Risks. -/
noncomputable def rkF (x : P2) : Int → List P3 → Int
  | a, [] => a
  | a, p :: r => rkF x (bif !(ilt 0 (cpR (frP p) x)) then p.2.2 else a) r
noncomputable def rkAt (l : List P3) : Nat → Int
  | 0 => 0
  | i + 1 => (l.getD i (0, 0, 0)).2.2
theorem rk_none {x : P2} : ∀ {l : List P3} (a : Int), (∀ p ∈ l, gtR (frP p) x = true) → rkF x a l = a
  | [], _, _ => rfl
  | p :: r, a, h => by
    show rkF x (bif !gtR (frP p) x then p.2.2 else a) r = a
    rw [h p (.head _)]
    exact rk_none a fun q hq => h q (.tail _ hq)
theorem rk_at {x : P2} : ∀ {l : List P3} (a : Int) (n : Nat), n < l.length → (∀ i p, i ≤ n → l[i]? = some p → gtR (frP p) x = false) → (∀ i p, n < i → l[i]? = some p → gtR (frP p) x = true) → rkF x a l = (l.getD n (0, 0, 0)).2.2
  | [], _, _, h, _, _ => by simp at h
  | p :: r, a, 0, _, h1, h2 => by
    show rkF x (bif !gtR (frP p) x then p.2.2 else a) r = p.2.2
    rw [h1 0 p (Nat.le_refl _) rfl]
    refine rk_none _ fun q hq => ?_
    obtain ⟨i, hi⟩ := List.getElem?_of_mem hq
    exact h2 (i + 1) q (by omega) (by simpa using hi)
  | p :: r, a, n + 1, hn, h1, h2 => by
    show rkF x (bif !gtR (frP p) x then p.2.2 else a) r = (r.getD n (0, 0, 0)).2.2
    exact rk_at _ n (by simpa using hn) (fun i q hi hq => h1 (i + 1) q (by omega) (by simpa using hq)) fun i q hi hq => h2 (i + 1) q (by omega) (by simpa using hq)
theorem rk_cnt {x : P2} {l : List P3} {n : Nat} (hn : n ≤ l.length) (h1 : ∀ i p, i < n → l[i]? = some p → gtR (frP p) x = false) (h2 : ∀ i p, n ≤ i → l[i]? = some p → gtR (frP p) x = true) : rkF x 0 l = rkAt l n := by
  cases n with
  | zero =>
    refine rk_none _ fun q hq => ?_
    obtain ⟨i, hi⟩ := List.getElem?_of_mem hq
    exact h2 i q (by omega) hi
  | succ n => exact rk_at 0 n (by omega) (fun i p hi => h1 i p (by omega)) fun i p hi => h2 i p (by omega)
/-- The way of a search by halves. -/
noncomputable def bY (c : Nat → Int) (K : Nat → Prop) : Nat → Nat → Nat → Prop
  | 0, i, _ => K i
  | f + 1, i, j => match Nat.blt i j with
    | true => (ilt (c ((i + j) / 2)) 0 = true → bY c K f ((i + j) / 2 + 1) j) ∧ (ilt (c ((i + j) / 2)) 0 = false → bY c K f i ((i + j) / 2))
    | false => K i
theorem bY_ok {c : Nat → Int} {K : Nat → Prop} {n : Nat} (hm : ∀ i j, i < j → j < n → ilt (c j) 0 = true → ilt (c i) 0 = true) (hK : ∀ t, t ≤ n → (∀ i, i < t → ilt (c i) 0 = true) → (∀ i, t ≤ i → i < n → ilt (c i) 0 = false) → K t) :
    ∀ (f i j : Nat), i ≤ j → j ≤ n → j < i + 2 ^ f → (∀ k, k < i → ilt (c k) 0 = true) → (∀ k, j ≤ k → k < n → ilt (c k) 0 = false) → bY c K f i j
  | 0, i, j, h1, h2, h3, h4, h5 => hK i (by omega) h4 fun k hk => h5 k (by omega)
  | f + 1, i, j, h1, h2, h3, h4, h5 => by
    unfold bY
    cases hb : Nat.blt i j with
    | false =>
      have := blt_false hb
      exact hK i (by omega) h4 fun k hk => h5 k (by omega)
    | true =>
      have hij := blt_true hb
      have hp : 2 ^ (f + 1) = 2 ^ f + 2 ^ f := by rw [Nat.pow_succ]; omega
      refine ⟨fun h => ?_, fun h => ?_⟩
      · refine bY_ok hm hK f ((i + j) / 2 + 1) j (by omega) h2 (by omega) (fun k hk => ?_) h5
        by_cases e : k = (i + j) / 2
        · rw [e]; exact h
        · exact hm k ((i + j) / 2) (by omega) (by omega) h
      · refine bY_ok hm hK f i ((i + j) / 2) (by omega) (by omega) (by omega) h4 fun k hk hkn => ?_
        cases q : ilt (c k) 0 with
        | false => rfl
        | true =>
          by_cases e : k = (i + j) / 2
          · rw [← e, q] at h; exact h
          · rw [hm ((i + j) / 2) k (by omega) hkn q] at h; exact h
/-- What is done with the place that was found. -/
noncomputable def fY (n : Nat) (c : Nat → Int) (K : Nat → Prop) (i : Nat) : Prop := match Nat.blt i n with
  | true => (ieq (c i) 0 = true → K (i + 1)) ∧ (ieq (c i) 0 = false → K i)
  | false => (false = true → False) ∧ (false = false → K i)
noncomputable abbrev cAt (l : List P3) (x : P2) (i : Nat) : Int := cpR (frP (l.getD i (0, 0, 0))) x
theorem getD_some {l : List P3} {i : Nat} {p : P3} (h : l[i]? = some p) : l.getD i (0, 0, 0) = p := by
  rw [List.getD_eq_getElem?_getD, h]; rfl
theorem cp_zero {x y : P2} (h1 : ilt (cpR x y) 0 = false) : ieq (cpR x y) 0 = !gtR x y := by
  unfold gtR cpR at *
  rw [ilt0_cp]
  rw [cp_lt] at h1
  have h1 := of_decide_eq_false h1
  unfold cpE
  rw [ilt_say, ilt_say, decide_eq_false h1]
  by_cases h2 : fwrap .i64 (y.1 * x.2) < fwrap .i64 (x.1 * y.2)
  · rw [decide_eq_true h2]; rfl
  · rw [decide_eq_false h2]; rfl
theorem search_ok {l : List P3} {b : P3} {x : P2} {f : Nat} (hx : okR x) (hl : tbE b l = 0) (hf : l.length < 2 ^ f) {K : Nat → Prop} (hK : ∀ n, rkF x 0 l = rkAt l n → K n) : bY (cAt l x) (fY l.length (cAt l x) K) f 0 l.length := by
  obtain ⟨hok, ho⟩ := tb_ok hl
  have get : ∀ i, i < l.length → ∃ p, l[i]? = some p ∧ p ∈ l ∧ cAt l x i = cpR (frP p) x := fun i hi =>
    ⟨l[i], List.getElem?_eq_getElem hi, List.getElem_mem hi, by unfold cAt; rw [getD_some (List.getElem?_eq_getElem hi)]⟩
  refine bY_ok (fun i j hij hj h => ?_) (fun t ht h1 h2 => ?_) f 0 l.length (Nat.zero_le _) (Nat.le_refl _) (by omega) (fun k hk => absurd hk (by omega)) fun k hk hk' => absurd hk' (by omega)
  · obtain ⟨p, hp, mp, ep⟩ := get i (by omega)
    obtain ⟨q, hq, mq, eq⟩ := get j hj
    rw [eq, cp_swap] at h
    rw [ep, cp_swap]
    exact gtR_tr hx (hok q mq) (hok p mp) h (ord_at hok ho hij hp hq)
  · have lo : ∀ i p, i < t → l[i]? = some p → gtR (frP p) x = false := fun i p hi hp => by
      have mp := List.mem_of_getElem? hp
      have := h1 i hi
      unfold cAt at this
      rw [getD_some hp, cp_swap] at this
      exact gtR_asym hx (hok p mp) this
    unfold fY
    cases hb : Nat.blt t l.length with
    | false =>
      have := blt_false hb
      refine ⟨fun h => (by cases h), fun _ => hK t (rk_cnt ht lo fun i p hi hp => ?_)⟩
      have := (List.getElem?_eq_some_iff.1 hp).1
      omega
    | true =>
      have htl := blt_true hb
      obtain ⟨q, hq, mq, eq⟩ := get t htl
      have nl := h2 t (Nat.le_refl _) htl
      rw [eq] at nl
      show (ieq (cAt l x t) 0 = true → K (t + 1)) ∧ (ieq (cAt l x t) 0 = false → K t)
      rw [eq, cp_zero nl]
      refine ⟨fun h => hK _ (rk_cnt htl (fun i p hi hp => ?_) fun i p hi hp => ?_), fun h => hK _ (rk_cnt ht lo fun i p hi hp => ?_)⟩
      · by_cases e : i = t
        · rw [e, hq] at hp
          cases hp
          exact not_f h
        · exact lo i p (by omega) hp
      · have mp := List.mem_of_getElem? hp
        have g := ord_at hok ho (show t < i by omega) hq hp
        have nl : gtR x (frP q) = false := by rw [← cp_swap]; exact nl
        exact gtR_trans (hok p mp) (hok q mq) hx g nl
      · have h := not_t h
        by_cases e : i = t
        · rw [e, hq] at hp
          cases hp
          exact h
        · have mp := List.mem_of_getElem? hp
          have g := ord_at hok ho (show t < i by omega) hq hp
          exact gtR_tr (hok p mp) (hok q mq) hx g h
end Go.Proofs.YtihnnmejkpddeaaGreatDoor
