/-
  OWN WORK. Stage 6: the law of windows.
-/
import Derived.Test.YtihnnmejkpddeaaGreatDoorBsY
/-! (OWN WORK. Stage 6: the law of windows: true for all series, windows, lengths and worths.) -/
namespace Go.Proofs.YtihnnmejkpddeaaGreatDoor
open Go Go.Am
theorem fs_cons (x : Int) (r : List Int) : firstS (x :: r) = bif ieq x 0 then firstS r else x := rfl
theorem fs_nil : firstS [] = 0 := rfl
theorem wh_t (e : Int) : whenS true e = e := rfl
theorem wh_f (e : Int) : whenS false e = 0 := rfl
theorem toNat_w (n : Nat) : (Int.ofNat n).toNat = n := rfl
theorem all2 {P : Int → Int → Prop} {a b : Int} : (∀ x y : Int, [Value.agg #[gi a, gi b]] = [Value.agg #[gi x, gi y]] → P x y) = P a b := by
  refine propext ⟨fun h => h a b rfl, fun h x y e => ?_⟩
  injection e with e _
  injection e with e
  have e : [gi a, gi b] = [gi x, gi y] := congrArg Array.toList e
  injection e with e1 e
  injection e with e2 _
  injection e1 with _ e1
  injection e2 with _ e2
  rw [← e1, ← e2]; exact h
theorem all6 {P : Int → Int → Int → Int → Int → Int → Prop} {a b c d u v : Int} : (∀ y1 y2 y3 y4 y5 y6 : Int, [Value.agg #[gi a, gi b], Value.agg #[gi c, gi d], Value.agg #[gi u, gi v]] = [Value.agg #[gi y1, gi y2], Value.agg #[gi y3, gi y4], Value.agg #[gi y5, gi y6]] → P y1 y2 y3 y4 y5 y6) = P a b c d u v := by
  refine propext ⟨fun h => h a b c d u v rfl, fun h y1 y2 y3 y4 y5 y6 e => ?_⟩
  injection e with ea e
  injection e with eb e
  injection e with ec _
  have two : ∀ {a b x y : Int}, Value.agg #[gi a, gi b] = Value.agg #[gi x, gi y] → a = x ∧ b = y := fun {a b x y} e => by
    injection e with e
    have e : [gi a, gi b] = [gi x, gi y] := congrArg Array.toList e
    injection e with e1 e
    injection e with e2 _
    injection e1 with _ e1
    injection e2 with _ e2
    exact ⟨e1, e2⟩
  obtain ⟨rfl, rfl⟩ := two ea
  obtain ⟨rfl, rfl⟩ := two eb
  obtain ⟨rfl, rfl⟩ := two ec
  exact h
theorem shW_zero {m : Nat} (h : shBv (m + 1) = true) : m + 1 ≤ 40 ∨ m + 1 = 129 := by
  unfold shBv at h
  rw [ilt_say, ieq_dec] at h
  by_cases h1 : m + 1 ≤ 40
  · exact .inl h1
  · rw [decide_eq_true (show (40 : Int) < Int.ofNat (m + 1) by simp only [Int.ofNat_eq_natCast]; omega)] at h
    have h := of_decide_eq_true h
    simp only [Int.ofNat_eq_natCast] at h
    exact .inr (by omega)
theorem b2 (x y : Int) : Value.bool (ieq x x && (ieq y y && true)) = Value.bool true := by rw [ieq_self, ieq_self]; rfl
theorem bt {b : Bool} (h : b = true) : Value.bool b = Value.bool true := by rw [h]
theorem ieq_comm (a b : Int) : ieq a b = ieq b a := by
  rw [ieq_dec, ieq_dec]
  by_cases h : a = b
  · subst h; rfl
  · rw [decide_eq_false h, decide_eq_false fun e => h e.symm]
theorem eqW_say (W : W4) (x y u v : Int) : eqW W x y u v = ((ieq W.1 x && (ieq W.2.1 y && true)) && (ieq W.2.2.1 u && (ieq W.2.2.2 v && true))) := by
  unfold eqW
  rw [ieq_comm x, ieq_comm y, ieq_comm u, ieq_comm v, Bool.and_true (ieq W.2.2.1 u && (ieq W.2.2.2 v && true))]
theorem bso_some {c : List Value} {lo hi n : Nat} (h1 : 0 < lo) (h2 : lo ≤ hi) (h3 : lo ≤ n) : bsO c lo hi n n = some (bstW c lo hi n) := by
  obtain ⟨x, l, e⟩ := alW_ne (c := c) h1 h2 h3
  exact bs_best e
theorem bso_none {c : List Value} {lo hi n : Nat} (h : n < lo) : bsO c lo hi n n = none := by
  unfold bsO
  rw [alW_nil h n]; rfl
theorem oX_some (x : W4) : oX (some x) = x := rfl
theorem oX_none : oX none = z4 := rfl
theorem oB_some (x : W4) : oB (some x) = true := rfl
theorem oB_none : oB none = false := rfl
end Go.Proofs.YtihnnmejkpddeaaGreatDoor
/-! (OWN WORK. Stage 6: the law of windows: true for all series that are not empty.) -/
namespace Go.Proofs.YtihnnmejkpddeaaGreatDoor
open Go Go.Am
theorem ieq_00 : ieq 0 0 = true := rfl
theorem ieq_16 : ieq 16 0 = false := rfl
set_option maxHeartbeats 8000000 in
set_option maxRecDepth 100000 in
theorem win_f (es : Nat → TypeId) (l : List Int) (k e row : Nat) (a b c d u v : Int) (h0 : 0 < l.length) (hI : okI u v = true) : CallJ Tryz.prog 3 #[liP l.length k, seV a b c d u v] ((wB6 es).push (.cells (l.map gi) e row true)) (fun v _ => v = .bool true) := by
  obtain ⟨m, hm⟩ : ∃ m, l.length = m + 1 := ⟨l.length - 1, by omega⟩
  rw [hm]
  cases hsh : shBv (m + 1) with
  | false => exact callC_ok mixed orcWn_ok (askWn_ok _ _ _ _ _ _ _) (Eq.mpr (wn_l es l m k e row a b c d u v _) ⟨⟨flat_ints l, trivial⟩, by rw [hsh]; rfl, rfl⟩)
  | true =>
  have f0 : (!(shBv (m + 1))) = false := by rw [hsh]; rfl
  have h1 : m + 1 ≤ 65536 := by rcases shW_zero hsh with h | h <;> omega
  have f1 : List.all (l.map gi) (flat 3) = true := flat_ints l
  have f2 : okT tiT (l.map gi) (m + 1) := okIv hm h1
  have f3 : clCv l [] := rfl
  have f4 : nonC l [] := rfl
  cases hs : ieq (serE l) 0 with
  | false =>
    have q0 : chkC l [.agg #[gi c, gi d], .agg #[gi a, gi b], .agg #[gi u, gi v]] := ⟨rfl, hI⟩
    have q1 : ieq (worE l (m + 1) a b) 0 = false := by simp only [worE, fs_cons, fs_nil, hs, cond_false]
    have q2 : ieq (besE l (m + 1) c d) 0 = false := by simp only [besE, fs_cons, fs_nil, hs, cond_false]
    have q3 : ieq (chkE l (m + 1) c d a b u v) 0 = false := by simp only [chkE, fs_cons, fs_nil, hs, cond_false]
    have q4 : ieq (firstS [serE l, cwE (Int.ofNat (m + 1)) a b]) 0 = false := by simp only [fs_cons, fs_nil, hs, cond_false]
    have q5 : ieq (firstS [serE l, lnE c d]) 0 = false := by simp only [fs_cons, fs_nil, hs, cond_false]
    have q6 : ieq (firstS [firstS [serE l, lnE c d], cwE (Int.ofNat (m + 1)) a b, szE u v]) 0 = false := by simp only [fs_cons, fs_nil, hs, cond_false]
    have q7 : ieq (worE l (m + 1) a b) (firstS [serE l, cwE (Int.ofNat (m + 1)) a b]) = true := by simp only [worE, fs_cons, fs_nil, hs, cond_false, ieq_self]
    have q8 : ieq (besE l (m + 1) c d) (firstS [serE l, lnE c d]) = true := by simp only [besE, fs_cons, fs_nil, hs, cond_false, ieq_self]
    have q9 : Value.bool (ieq (chkE l (m + 1) c d a b u v) (firstS [firstS [serE l, lnE c d], cwE (Int.ofNat (m + 1)) a b, szE u v])) = Value.bool true := bt (by simp only [chkE, fs_cons, fs_nil, hs, cond_false, ieq_self])
    refine callC_ok mixed orcWn_ok (askWn_ok _ _ _ _ _ _ _) (Eq.mpr (wn_A es l m k e row a b c d u v _) ?_)
    simp only [decTv, all2, all6, forall_eq', and_true, true_and]
    repeat' (first | assumption | exact rfl | exact trivial | apply And.intro | intro _)
  | true =>
  have C := bs_of hm (Nat.succ_pos m) (ieq_zero hs) row k
  cases ht : ieq (lnE c d) 0 with
  | false =>
    cases hw : ieq (cwE (Int.ofNat (m + 1)) a b) 0 with
    | false =>
      have q0 : chkC l [.agg #[gi c, gi d], .agg #[gi a, gi b], .agg #[gi u, gi v]] := ⟨rfl, hI⟩
      have q1 : ieq (worE l (m + 1) a b) 0 = false := by simp only [worE, fs_cons, fs_nil, hs, hw, cond_true, cond_false]
      have q2 : ieq (besE l (m + 1) c d) 0 = false := by simp only [besE, fs_cons, fs_nil, hs, ht, cond_true, cond_false]
      have q3 : ieq (chkE l (m + 1) c d a b u v) 0 = false := by simp only [chkE, fs_cons, fs_nil, hs, ht, hw, cond_true, cond_false]
      have q4 : ieq (firstS [serE l, cwE (Int.ofNat (m + 1)) a b]) 0 = false := by simp only [fs_cons, fs_nil, hs, hw, cond_true, cond_false]
      have q5 : ieq (firstS [serE l, lnE c d]) 0 = false := by simp only [fs_cons, fs_nil, hs, ht, cond_true, cond_false]
      have q6 : ieq (firstS [firstS [serE l, lnE c d], cwE (Int.ofNat (m + 1)) a b, szE u v]) 0 = false := by simp only [fs_cons, fs_nil, hs, ht, hw, cond_true, cond_false]
      have q7 : ieq (worE l (m + 1) a b) (firstS [serE l, cwE (Int.ofNat (m + 1)) a b]) = true := by simp only [worE, fs_cons, fs_nil, hs, hw, cond_true, cond_false, ieq_self]
      have q8 : ieq (besE l (m + 1) c d) (firstS [serE l, lnE c d]) = true := by simp only [besE, fs_cons, fs_nil, hs, ht, cond_true, cond_false, ieq_self]
      have q9 : Value.bool (ieq (chkE l (m + 1) c d a b u v) (firstS [firstS [serE l, lnE c d], cwE (Int.ofNat (m + 1)) a b, szE u v])) = Value.bool true := bt (by simp only [chkE, fs_cons, fs_nil, hs, ht, hw, cond_true, cond_false, ieq_self])
      refine callC_ok mixed orcWn_ok (askWn_ok _ _ _ _ _ _ _) (Eq.mpr (wn_A es l m k e row a b c d u v _) ?_)
      simp only [decTv, all2, all6, forall_eq', and_true, true_and]
      repeat' (first | assumption | exact rfl | exact trivial | apply And.intro | intro _)
    | true =>
      obtain ⟨p, q, rfl, rfl, g1, g2⟩ := cw_zero (ieq_zero hw)
      have q0 : chkC l [.agg #[gi c, gi d], .agg #[gi (Int.ofNat p), gi (Int.ofNat q)], .agg #[gi u, gi v]] := ⟨rfl, hI⟩
      have q1 : ieq (worE l (m + 1) (Int.ofNat p) (Int.ofNat q)) 0 = true := by simp only [worE, fs_cons, fs_nil, hs, hw, cond_true, ieq_self]
      have q2 : ieq (besE l (m + 1) c d) 0 = false := by simp only [besE, fs_cons, fs_nil, hs, ht, cond_true, cond_false]
      have q3 : ieq (chkE l (m + 1) c d (Int.ofNat p) (Int.ofNat q) u v) 0 = false := by simp only [chkE, fs_cons, fs_nil, hs, ht, hw, cond_true, cond_false]
      have q4 : ieq (firstS [serE l, cwE (Int.ofNat (m + 1)) (Int.ofNat p) (Int.ofNat q)]) 0 = true := by simp only [fs_cons, fs_nil, hs, hw, cond_true, ieq_self]
      have q5 : ieq (firstS [serE l, lnE c d]) 0 = false := by simp only [fs_cons, fs_nil, hs, ht, cond_true, cond_false]
      have q6 : ieq (firstS [firstS [serE l, lnE c d], cwE (Int.ofNat (m + 1)) (Int.ofNat p) (Int.ofNat q), szE u v]) 0 = false := by simp only [fs_cons, fs_nil, hs, ht, hw, cond_true, cond_false]
      have q7 : ieq 0 (firstS [serE l, cwE (Int.ofNat (m + 1)) (Int.ofNat p) (Int.ofNat q)]) = true := by simp only [fs_cons, fs_nil, hs, hw, cond_true, ieq_self]
      have q8 : ieq (besE l (m + 1) c d) (firstS [serE l, lnE c d]) = true := by simp only [besE, fs_cons, fs_nil, hs, ht, cond_true, cond_false, ieq_self]
      have q9 : Value.bool (ieq (chkE l (m + 1) c d (Int.ofNat p) (Int.ofNat q) u v) (firstS [firstS [serE l, lnE c d], cwE (Int.ofNat (m + 1)) (Int.ofNat p) (Int.ofNat q), szE u v])) = Value.bool true := bt (by simp only [chkE, fs_cons, fs_nil, hs, ht, hw, cond_true, cond_false, ieq_self])
      have q11 : rwOk (l.map gi) row (m + 1) k p q := ⟨C, g1, g2⟩
      have q12 := b2 (rqA (sm0 (l.map gi) p q * sm0 (l.map gi) p q) (Int.ofNat (q - p))) (rqB (sm0 (l.map gi) p q * sm0 (l.map gi) p q) (Int.ofNat (q - p)))
      refine callC_ok mixed orcWn_ok (askWn_ok _ _ _ _ _ _ _) (Eq.mpr (wn_B es l m k e row p q c d u v _) ?_)
      simp only [decTv, all2, all6, forall_eq', toNat_w, and_true, true_and]
      repeat' (first | assumption | exact rfl | exact trivial | apply And.intro | intro _)
  | true =>
    obtain ⟨lo, hi, rfl, rfl, g3, g4, g5⟩ := ln_zero (ieq_zero ht)
    cases hw : ieq (cwE (Int.ofNat (m + 1)) a b) 0 with
    | false =>
      cases hx : ilt (Int.ofNat (m + 1)) (Int.ofNat lo) with
      | false =>
        have q0 : chkC l [.agg #[gi (Int.ofNat lo), gi (Int.ofNat hi)], .agg #[gi a, gi b], .agg #[gi u, gi v]] := ⟨rfl, hI⟩
        have q1 : ieq (worE l (m + 1) a b) 0 = false := by simp only [worE, fs_cons, fs_nil, hs, hw, cond_true, cond_false]
        have q2 : ieq (besE l (m + 1) (Int.ofNat lo) (Int.ofNat hi)) 0 = true := by simp only [besE, fs_cons, fs_nil, hs, ht, hx, cond_true, ieq_self, wh_f]
        have q3 : ieq (chkE l (m + 1) (Int.ofNat lo) (Int.ofNat hi) a b u v) 0 = false := by simp only [chkE, fs_cons, fs_nil, hs, ht, hw, hx, cond_true, cond_false, ieq_self, wh_f]
        have q4 : ieq (firstS [serE l, cwE (Int.ofNat (m + 1)) a b]) 0 = false := by simp only [fs_cons, fs_nil, hs, hw, cond_true, cond_false]
        have q5 : ieq (firstS [serE l, lnE (Int.ofNat lo) (Int.ofNat hi)]) 0 = true := by simp only [fs_cons, fs_nil, hs, ht, cond_true, ieq_self]
        have q6 : ieq (firstS [firstS [serE l, lnE (Int.ofNat lo) (Int.ofNat hi)], cwE (Int.ofNat (m + 1)) a b, szE u v]) 0 = false := by simp only [fs_cons, fs_nil, hs, ht, hw, cond_true, cond_false, ieq_self]
        have q7 : ieq (worE l (m + 1) a b) (firstS [serE l, cwE (Int.ofNat (m + 1)) a b]) = true := by simp only [worE, fs_cons, fs_nil, hs, hw, cond_true, cond_false, ieq_self]
        have q8 : ieq 0 (whenS (!true) 16) = true := rfl
        have q9 : Value.bool (ieq (chkE l (m + 1) (Int.ofNat lo) (Int.ofNat hi) a b u v) (firstS [firstS [serE l, lnE (Int.ofNat lo) (Int.ofNat hi)], cwE (Int.ofNat (m + 1)) a b, szE u v])) = Value.bool true := bt (by simp only [chkE, fs_cons, fs_nil, hs, ht, hw, hx, cond_true, cond_false, ieq_self, wh_f])
        have q13 : roOk (l.map gi) row (m + 1) k lo hi := ⟨C, g3, by omega, by omega⟩
        have hx' : lo ≤ m + 1 := by rw [ilt_say] at hx; have := of_decide_eq_false hx; simp only [Int.ofNat_eq_natCast] at this; omega
        have eo := bso_some (c := l.map gi) g3 g4 hx'
        generalize bstW (l.map gi) lo hi (m + 1) = W at eo
        have q14 := b2 W.1 W.2.1
        have q15 := b2 W.2.2.1 W.2.2.2
        refine callC_ok mixed orcWn_ok (askWn_ok _ _ _ _ _ _ _) (Eq.mpr (wn_C1 es l m k e row lo hi a b u v _) ?_)
        have eW : bstW (l.map gi) lo hi (m + 1) = W := by have := bso_some (c := l.map gi) g3 g4 hx'; rw [eo] at this; exact (Option.some.inj this).symm
        simp only [decTv, all2, all6, forall_eq', toNat_w, and_true, true_and, eo, oX_some, oB_some, eW]
        repeat' (first | assumption | exact rfl | exact trivial | apply And.intro | intro _)
      | true =>
        have q0 : chkC l [.agg #[gi (Int.ofNat lo), gi (Int.ofNat hi)], .agg #[gi a, gi b], .agg #[gi u, gi v]] := ⟨rfl, hI⟩
        have q1 : ieq (worE l (m + 1) a b) 0 = false := by simp only [worE, fs_cons, fs_nil, hs, hw, cond_true, cond_false]
        have q2 : ieq (besE l (m + 1) (Int.ofNat lo) (Int.ofNat hi)) 0 = false := by simp only [besE, fs_cons, fs_nil, hs, ht, hx, cond_true, cond_false, wh_t, ieq_16]
        have q3 : ieq (chkE l (m + 1) (Int.ofNat lo) (Int.ofNat hi) a b u v) 0 = false := by simp only [chkE, fs_cons, fs_nil, hs, ht, hw, hx, cond_true, cond_false, wh_t, ieq_16]
        have q4 : ieq (firstS [serE l, cwE (Int.ofNat (m + 1)) a b]) 0 = false := by simp only [fs_cons, fs_nil, hs, hw, cond_true, cond_false]
        have q5 : ieq (firstS [serE l, lnE (Int.ofNat lo) (Int.ofNat hi)]) 0 = true := by simp only [fs_cons, fs_nil, hs, ht, cond_true, ieq_self]
        have q6 : ieq (firstS [firstS [serE l, lnE (Int.ofNat lo) (Int.ofNat hi)], cwE (Int.ofNat (m + 1)) a b, szE u v]) 0 = false := by simp only [fs_cons, fs_nil, hs, ht, hw, cond_true, cond_false, ieq_self]
        have q7 : ieq (worE l (m + 1) a b) (firstS [serE l, cwE (Int.ofNat (m + 1)) a b]) = true := by simp only [worE, fs_cons, fs_nil, hs, hw, cond_true, cond_false, ieq_self]
        have q8 : ieq (besE l (m + 1) (Int.ofNat lo) (Int.ofNat hi)) (whenS (!false) 16) = true := by show ieq (besE l (m + 1) (Int.ofNat lo) (Int.ofNat hi)) 16 = true; simp only [besE, fs_cons, fs_nil, hs, ht, hx, cond_true, cond_false, ieq_self, wh_t, ieq_16]
        have q9 : Value.bool (ieq (chkE l (m + 1) (Int.ofNat lo) (Int.ofNat hi) a b u v) (firstS [firstS [serE l, lnE (Int.ofNat lo) (Int.ofNat hi)], cwE (Int.ofNat (m + 1)) a b, szE u v])) = Value.bool true := bt (by simp only [chkE, fs_cons, fs_nil, hs, ht, hw, hx, cond_true, cond_false, ieq_self, wh_t, ieq_16])
        have q13 : roOk (l.map gi) row (m + 1) k lo hi := ⟨C, g3, by omega, by omega⟩
        have hx' : m + 1 < lo := by rw [ilt_say] at hx; have := of_decide_eq_true hx; simp only [Int.ofNat_eq_natCast] at this; omega
        have eo := bso_none (c := l.map gi) (hi := hi) hx'
        refine callC_ok mixed orcWn_ok (askWn_ok _ _ _ _ _ _ _) (Eq.mpr (wn_C0 es l m k e row lo hi a b u v _) ?_)
        simp only [decTv, all2, all6, forall_eq', and_true, true_and, eo, oX_none, oB_none]
        repeat' (first | assumption | exact rfl | exact trivial | apply And.intro | intro _)
    | true =>
      obtain ⟨p, q, rfl, rfl, g1, g2⟩ := cw_zero (ieq_zero hw)
      cases hz : ieq (szE u v) 0 with
      | false =>
        cases hx : ilt (Int.ofNat (m + 1)) (Int.ofNat lo) with
        | false =>
          have q0 : chkC l [.agg #[gi (Int.ofNat lo), gi (Int.ofNat hi)], .agg #[gi (Int.ofNat p), gi (Int.ofNat q)], .agg #[gi u, gi v]] := ⟨rfl, hI⟩
          have q1 : ieq (worE l (m + 1) (Int.ofNat p) (Int.ofNat q)) 0 = true := by simp only [worE, fs_cons, fs_nil, hs, hw, cond_true, ieq_self]
          have q2 : ieq (besE l (m + 1) (Int.ofNat lo) (Int.ofNat hi)) 0 = true := by simp only [besE, fs_cons, fs_nil, hs, ht, hx, cond_true, ieq_self, wh_f]
          have q3 : ieq (chkE l (m + 1) (Int.ofNat lo) (Int.ofNat hi) (Int.ofNat p) (Int.ofNat q) u v) 0 = false := by simp only [chkE, fs_cons, fs_nil, hs, ht, hw, hz, hx, cond_true, cond_false, ieq_self, wh_f]
          have q4 : ieq (firstS [serE l, cwE (Int.ofNat (m + 1)) (Int.ofNat p) (Int.ofNat q)]) 0 = true := by simp only [fs_cons, fs_nil, hs, hw, cond_true, ieq_self]
          have q5 : ieq (firstS [serE l, lnE (Int.ofNat lo) (Int.ofNat hi)]) 0 = true := by simp only [fs_cons, fs_nil, hs, ht, cond_true, ieq_self]
          have q6 : ieq (firstS [firstS [serE l, lnE (Int.ofNat lo) (Int.ofNat hi)], cwE (Int.ofNat (m + 1)) (Int.ofNat p) (Int.ofNat q), szE u v]) 0 = false := by simp only [fs_cons, fs_nil, hs, ht, hw, hz, cond_true, cond_false, ieq_self]
          have q7 : ieq 0 (firstS [serE l, cwE (Int.ofNat (m + 1)) (Int.ofNat p) (Int.ofNat q)]) = true := by simp only [fs_cons, fs_nil, hs, hw, cond_true, ieq_self]
          have q8 : ieq 0 (whenS (!true) 16) = true := rfl
          have q9 : Value.bool (ieq (chkE l (m + 1) (Int.ofNat lo) (Int.ofNat hi) (Int.ofNat p) (Int.ofNat q) u v) (firstS [firstS [serE l, lnE (Int.ofNat lo) (Int.ofNat hi)], cwE (Int.ofNat (m + 1)) (Int.ofNat p) (Int.ofNat q), szE u v])) = Value.bool true := bt (by simp only [chkE, fs_cons, fs_nil, hs, ht, hw, hz, hx, cond_true, cond_false, ieq_self, wh_f])
          have q11 : rwOk (l.map gi) row (m + 1) k p q := ⟨C, g1, g2⟩
          have q12 := b2 (rqA (sm0 (l.map gi) p q * sm0 (l.map gi) p q) (Int.ofNat (q - p))) (rqB (sm0 (l.map gi) p q * sm0 (l.map gi) p q) (Int.ofNat (q - p)))
          have q13 : roOk (l.map gi) row (m + 1) k lo hi := ⟨C, g3, by omega, by omega⟩
          have hx' : lo ≤ m + 1 := by rw [ilt_say] at hx; have := of_decide_eq_false hx; simp only [Int.ofNat_eq_natCast] at this; omega
          have eo := bso_some (c := l.map gi) g3 g4 hx'
          generalize bstW (l.map gi) lo hi (m + 1) = W at eo
          have q14 := b2 W.1 W.2.1
          have q15 := b2 W.2.2.1 W.2.2.2
          refine callC_ok mixed orcWn_ok (askWn_ok _ _ _ _ _ _ _) (Eq.mpr (wn_D1 es l m k e row p q lo hi u v _) ?_)
          have eW : bstW (l.map gi) lo hi (m + 1) = W := by have := bso_some (c := l.map gi) g3 g4 hx'; rw [eo] at this; exact (Option.some.inj this).symm
          simp only [decTv, all2, all6, forall_eq', toNat_w, and_true, true_and, eo, oX_some, oB_some, eW]
          repeat' (first | assumption | exact rfl | exact trivial | apply And.intro | intro _)
        | true =>
          have q0 : chkC l [.agg #[gi (Int.ofNat lo), gi (Int.ofNat hi)], .agg #[gi (Int.ofNat p), gi (Int.ofNat q)], .agg #[gi u, gi v]] := ⟨rfl, hI⟩
          have q1 : ieq (worE l (m + 1) (Int.ofNat p) (Int.ofNat q)) 0 = true := by simp only [worE, fs_cons, fs_nil, hs, hw, cond_true, ieq_self]
          have q2 : ieq (besE l (m + 1) (Int.ofNat lo) (Int.ofNat hi)) 0 = false := by simp only [besE, fs_cons, fs_nil, hs, ht, hx, cond_true, cond_false, wh_t, ieq_16]
          have q3 : ieq (chkE l (m + 1) (Int.ofNat lo) (Int.ofNat hi) (Int.ofNat p) (Int.ofNat q) u v) 0 = false := by simp only [chkE, fs_cons, fs_nil, hs, ht, hw, hz, hx, cond_true, cond_false, wh_t, ieq_16]
          have q4 : ieq (firstS [serE l, cwE (Int.ofNat (m + 1)) (Int.ofNat p) (Int.ofNat q)]) 0 = true := by simp only [fs_cons, fs_nil, hs, hw, cond_true, ieq_self]
          have q5 : ieq (firstS [serE l, lnE (Int.ofNat lo) (Int.ofNat hi)]) 0 = true := by simp only [fs_cons, fs_nil, hs, ht, cond_true, ieq_self]
          have q6 : ieq (firstS [firstS [serE l, lnE (Int.ofNat lo) (Int.ofNat hi)], cwE (Int.ofNat (m + 1)) (Int.ofNat p) (Int.ofNat q), szE u v]) 0 = false := by simp only [fs_cons, fs_nil, hs, ht, hw, hz, cond_true, cond_false, ieq_self]
          have q7 : ieq 0 (firstS [serE l, cwE (Int.ofNat (m + 1)) (Int.ofNat p) (Int.ofNat q)]) = true := by simp only [fs_cons, fs_nil, hs, hw, cond_true, ieq_self]
          have q8 : ieq (besE l (m + 1) (Int.ofNat lo) (Int.ofNat hi)) (whenS (!false) 16) = true := by show ieq (besE l (m + 1) (Int.ofNat lo) (Int.ofNat hi)) 16 = true; simp only [besE, fs_cons, fs_nil, hs, ht, hx, cond_true, cond_false, ieq_self, wh_t, ieq_16]
          have q9 : Value.bool (ieq (chkE l (m + 1) (Int.ofNat lo) (Int.ofNat hi) (Int.ofNat p) (Int.ofNat q) u v) (firstS [firstS [serE l, lnE (Int.ofNat lo) (Int.ofNat hi)], cwE (Int.ofNat (m + 1)) (Int.ofNat p) (Int.ofNat q), szE u v])) = Value.bool true := bt (by simp only [chkE, fs_cons, fs_nil, hs, ht, hw, hz, hx, cond_true, cond_false, ieq_self, wh_t, ieq_16])
          have q11 : rwOk (l.map gi) row (m + 1) k p q := ⟨C, g1, g2⟩
          have q12 := b2 (rqA (sm0 (l.map gi) p q * sm0 (l.map gi) p q) (Int.ofNat (q - p))) (rqB (sm0 (l.map gi) p q * sm0 (l.map gi) p q) (Int.ofNat (q - p)))
          have q13 : roOk (l.map gi) row (m + 1) k lo hi := ⟨C, g3, by omega, by omega⟩
          have hx' : m + 1 < lo := by rw [ilt_say] at hx; have := of_decide_eq_true hx; simp only [Int.ofNat_eq_natCast] at this; omega
          have eo := bso_none (c := l.map gi) (hi := hi) hx'
          refine callC_ok mixed orcWn_ok (askWn_ok _ _ _ _ _ _ _) (Eq.mpr (wn_D0 es l m k e row p q lo hi u v _) ?_)
          simp only [decTv, all2, all6, forall_eq', toNat_w, and_true, true_and, eo, oX_none, oB_none]
          repeat' (first | assumption | exact rfl | exact trivial | apply And.intro | intro _)
      | true =>
        cases hx : ilt (Int.ofNat (m + 1)) (Int.ofNat lo) with
        | false =>
          have q0 : chkC l [.agg #[gi (Int.ofNat lo), gi (Int.ofNat hi)], .agg #[gi (Int.ofNat p), gi (Int.ofNat q)], .agg #[gi u, gi v]] := ⟨rfl, hI⟩
          have q1 : ieq (worE l (m + 1) (Int.ofNat p) (Int.ofNat q)) 0 = true := by simp only [worE, fs_cons, fs_nil, hs, hw, cond_true, ieq_self]
          have q2 : ieq (besE l (m + 1) (Int.ofNat lo) (Int.ofNat hi)) 0 = true := by simp only [besE, fs_cons, fs_nil, hs, ht, hx, cond_true, ieq_self, wh_f]
          have q3 : ieq (chkE l (m + 1) (Int.ofNat lo) (Int.ofNat hi) (Int.ofNat p) (Int.ofNat q) u v) 0 = true := by simp only [chkE, fs_cons, fs_nil, hs, ht, hw, hz, hx, cond_true, ieq_self, wh_f]
          have q4 : ieq (firstS [serE l, cwE (Int.ofNat (m + 1)) (Int.ofNat p) (Int.ofNat q)]) 0 = true := by simp only [fs_cons, fs_nil, hs, hw, cond_true, ieq_self]
          have q5 : ieq (firstS [serE l, lnE (Int.ofNat lo) (Int.ofNat hi)]) 0 = true := by simp only [fs_cons, fs_nil, hs, ht, cond_true, ieq_self]
          have q6 : ieq (firstS [firstS [serE l, lnE (Int.ofNat lo) (Int.ofNat hi)], cwE (Int.ofNat (m + 1)) (Int.ofNat p) (Int.ofNat q), szE u v]) 0 = true := by simp only [fs_cons, fs_nil, hs, ht, hw, hz, cond_true, ieq_self]
          have q7 : ieq 0 (firstS [serE l, cwE (Int.ofNat (m + 1)) (Int.ofNat p) (Int.ofNat q)]) = true := by simp only [fs_cons, fs_nil, hs, hw, cond_true, ieq_self]
          have q8 : ieq 0 (whenS (!true) 16) = true := rfl
          have q11 : rwOk (l.map gi) row (m + 1) k p q := ⟨C, g1, g2⟩
          have q12 := b2 (rqA (sm0 (l.map gi) p q * sm0 (l.map gi) p q) (Int.ofNat (q - p))) (rqB (sm0 (l.map gi) p q * sm0 (l.map gi) p q) (Int.ofNat (q - p)))
          have q13 : roOk (l.map gi) row (m + 1) k lo hi := ⟨C, g3, by omega, by omega⟩
          have hx' : lo ≤ m + 1 := by rw [ilt_say] at hx; have := of_decide_eq_false hx; simp only [Int.ofNat_eq_natCast] at this; omega
          have eo := bso_some (c := l.map gi) g3 g4 hx'
          generalize bstW (l.map gi) lo hi (m + 1) = W at eo
          have q14 := b2 W.1 W.2.1
          have q15 := b2 W.2.2.1 W.2.2.2
          refine callC_ok mixed orcWn_ok (askWn_ok _ _ _ _ _ _ _) (Eq.mpr (wn_E1 es l m k e row p q lo hi u v _) ?_)
          have eW : bstW (l.map gi) lo hi (m + 1) = W := by have := bso_some (c := l.map gi) g3 g4 hx'; rw [eo] at this; exact (Option.some.inj this).symm
          simp only [decTv, all2, all6, forall_eq', toNat_w, and_true, true_and, eo, oX_some, oB_some, eW]
          have r1 : (!(ieq W.1 (Int.ofNat p) && (ieq W.2.1 (Int.ofNat q) && true))) = true → Value.bool (ieq (whenS (!(eqW W (Int.ofNat p) (Int.ofNat q) u v)) 19) (firstS [whenS (!true) 16, 19])) = Value.bool true := fun h => by rw [eqW_say, not_f h]; rfl
          have r2 : (!(ieq W.1 (Int.ofNat p) && (ieq W.2.1 (Int.ofNat q) && true))) = false → (!(ieq W.2.2.1 u && (ieq W.2.2.2 v && true))) = true → Value.bool (ieq (whenS (!(eqW W (Int.ofNat p) (Int.ofNat q) u v)) 19) (firstS [whenS (!true) 16, 19])) = Value.bool true := fun h h' => by rw [eqW_say, not_t h, not_f h']; rfl
          have r3 : (!(ieq W.1 (Int.ofNat p) && (ieq W.2.1 (Int.ofNat q) && true))) = false → (!(ieq W.2.2.1 u && (ieq W.2.2.2 v && true))) = false → Value.bool (ieq (whenS (!(eqW W (Int.ofNat p) (Int.ofNat q) u v)) 19) (firstS [whenS (!true) 16, 0])) = Value.bool true := fun h h' => by rw [eqW_say, not_t h, not_t h']; rfl
          repeat' (first | assumption | exact rfl | exact trivial | exact r1 (by assumption) | exact r2 (by assumption) (by assumption) | exact r3 (by assumption) (by assumption) | apply And.intro | intro _)
        | true =>
          have q0 : chkC l [.agg #[gi (Int.ofNat lo), gi (Int.ofNat hi)], .agg #[gi (Int.ofNat p), gi (Int.ofNat q)], .agg #[gi u, gi v]] := ⟨rfl, hI⟩
          have q1 : ieq (worE l (m + 1) (Int.ofNat p) (Int.ofNat q)) 0 = true := by simp only [worE, fs_cons, fs_nil, hs, hw, cond_true, ieq_self]
          have q2 : ieq (besE l (m + 1) (Int.ofNat lo) (Int.ofNat hi)) 0 = false := by simp only [besE, fs_cons, fs_nil, hs, ht, hx, cond_true, cond_false, wh_t, ieq_16]
          have q3 : ieq (chkE l (m + 1) (Int.ofNat lo) (Int.ofNat hi) (Int.ofNat p) (Int.ofNat q) u v) 0 = false := by simp only [chkE, fs_cons, fs_nil, hs, ht, hw, hz, hx, cond_true, cond_false, wh_t, ieq_16]
          have q4 : ieq (firstS [serE l, cwE (Int.ofNat (m + 1)) (Int.ofNat p) (Int.ofNat q)]) 0 = true := by simp only [fs_cons, fs_nil, hs, hw, cond_true, ieq_self]
          have q5 : ieq (firstS [serE l, lnE (Int.ofNat lo) (Int.ofNat hi)]) 0 = true := by simp only [fs_cons, fs_nil, hs, ht, cond_true, ieq_self]
          have q6 : ieq (firstS [firstS [serE l, lnE (Int.ofNat lo) (Int.ofNat hi)], cwE (Int.ofNat (m + 1)) (Int.ofNat p) (Int.ofNat q), szE u v]) 0 = true := by simp only [fs_cons, fs_nil, hs, ht, hw, hz, cond_true, ieq_self]
          have q7 : ieq 0 (firstS [serE l, cwE (Int.ofNat (m + 1)) (Int.ofNat p) (Int.ofNat q)]) = true := by simp only [fs_cons, fs_nil, hs, hw, cond_true, ieq_self]
          have q8 : ieq (besE l (m + 1) (Int.ofNat lo) (Int.ofNat hi)) (whenS (!false) 16) = true := by show ieq (besE l (m + 1) (Int.ofNat lo) (Int.ofNat hi)) 16 = true; simp only [besE, fs_cons, fs_nil, hs, ht, hx, cond_true, cond_false, ieq_self, wh_t, ieq_16]
          have q9 : Value.bool (ieq (chkE l (m + 1) (Int.ofNat lo) (Int.ofNat hi) (Int.ofNat p) (Int.ofNat q) u v) (firstS [whenS (!false) 16, 19])) = Value.bool true := bt (by show ieq (chkE l (m + 1) (Int.ofNat lo) (Int.ofNat hi) (Int.ofNat p) (Int.ofNat q) u v) 16 = true; simp only [chkE, fs_cons, fs_nil, hs, ht, hw, hz, hx, cond_true, cond_false, ieq_self, wh_t, ieq_16])
          have q10 : Value.bool (ieq (chkE l (m + 1) (Int.ofNat lo) (Int.ofNat hi) (Int.ofNat p) (Int.ofNat q) u v) (firstS [whenS (!false) 16, 0])) = Value.bool true := bt (by show ieq (chkE l (m + 1) (Int.ofNat lo) (Int.ofNat hi) (Int.ofNat p) (Int.ofNat q) u v) 16 = true; simp only [chkE, fs_cons, fs_nil, hs, ht, hw, hz, hx, cond_true, cond_false, ieq_self, wh_t, ieq_16])
          have q11 : rwOk (l.map gi) row (m + 1) k p q := ⟨C, g1, g2⟩
          have q12 := b2 (rqA (sm0 (l.map gi) p q * sm0 (l.map gi) p q) (Int.ofNat (q - p))) (rqB (sm0 (l.map gi) p q * sm0 (l.map gi) p q) (Int.ofNat (q - p)))
          have q13 : roOk (l.map gi) row (m + 1) k lo hi := ⟨C, g3, by omega, by omega⟩
          have hx' : m + 1 < lo := by rw [ilt_say] at hx; have := of_decide_eq_true hx; simp only [Int.ofNat_eq_natCast] at this; omega
          have eo := bso_none (c := l.map gi) (hi := hi) hx'
          refine callC_ok mixed orcWn_ok (askWn_ok _ _ _ _ _ _ _) (Eq.mpr (wn_E0 es l m k e row p q lo hi u v _) ?_)
          simp only [decTv, all2, all6, forall_eq', toNat_w, and_true, true_and, eo, oX_none, oB_none]
          repeat' (first | assumption | exact rfl | exact trivial | apply And.intro | intro _)
end Go.Proofs.YtihnnmejkpddeaaGreatDoor
