/-
  OWN WORK. Stage 6: the law of bounds.
-/
import Derived.Test.YtihnnmejkpddeaaGreatDoorBnP
/-! (OWN WORK. Stage 6: the law of bounds: true for all traces that are not empty.) -/
namespace Go.Proofs.YtihnnmejkpddeaaGreatDoor
open Go Go.Am
theorem ieq00n : ieq 0 0 = true := rfl
theorem ieq16n : ieq 16 0 = false := rfl
theorem shB_zz {m : Nat} (h : shB (m + 1) = true) : m + 1 ≤ 40 ∨ m + 1 = 129 := by
 unfold shB at h
 rw [ilt_say, ieq_dec] at h
 by_cases h1 : m + 1 ≤ 40
 ·exact .inl h1
 ·rw [decide_eq_true (show (40 : Int) < Int.ofNat (m + 1) by simp only [Int.ofNat_eq_natCast]; omega)] at h
  have h := of_decide_eq_true h
  simp only [Int.ofNat_eq_natCast] at h
  exact .inr (by omega)
theorem all1 {P : Int → Prop} {a : Int} : (∀ x : Int, [gi a] = [gi x] → P x) = P a := by
 refine propext ⟨fun h => h a rfl, fun h x e => ?_⟩
 injection e with e _
 injection e with _ e
 rw [← e]; exact h
theorem bb5q (a b c d : Int) (o : Bool) : Value.bool ((ieq a a && (ieq b b && true)) && ((ieq c c && (ieq d d && true)) && (BEq.beq o o && true))) = Value.bool true := by
 rw [ieq_self, ieq_self, ieq_self, ieq_self]; cases o <;> rfl
theorem hb5q (a c : Int) (o : Bool) : Value.bool ((ieq a a && true) && ((ieq c c && true) && (BEq.beq o o && true))) = Value.bool true := by
 rw [ieq_self, ieq_self]; cases o <;> rfl
theorem tra_len {l : List V4} (h : ieq (traE l) 0 = true) : l.length ≤ 128 := by
 have h1 : cnE (Int.ofNat l.length) 128 = 0 := firstS_none (ieq_zero h) _ (.head _)
 have h3 : whenS (ilt 128 (Int.ofNat l.length)) 5 = 0 := firstS_none h1 _ (.tail _ (.head _))
 have := when_none (by decide) h3
 rw [ilt_say] at this
 have := of_decide_eq_false this
 simp only [Int.ofNat_eq_natCast] at this
 omega
theorem pb_tra {l : List V4} {n : Nat} {a b : Int} (h : ieq (pbE l n a b) 0 = true) : ieq (traE l) 0 = true := by
 rw [firstS_none (ieq_zero h) (traE l) (.head _)]; rfl
theorem hb_tra {l : List V4} {n : Nat} {a : Int} (h : ieq (hbE l n a) 0 = true) : ieq (traE l) 0 = true := by
 rw [firstS_none (ieq_zero h) (traE l) (.head _)]; rfl
set_option maxHeartbeats 16000000 in
set_option maxRecDepth 100000 in
theorem bnd_f (es : Nat → TypeId) (l : List V4) (k e row : Nat) (c d a : Int) (h0 : 0 < l.length) : CallJ Tryz.prog 7 #[liP l.length k, .agg #[gi c, gi d], gi a] ((wB6 es).push (.cells (cellsV l) e row true)) (fun v _ => v = .bool true) := by
 obtain ⟨m, hm⟩ : ∃ m, l.length = m + 1 := ⟨l.length - 1, by omega⟩
 rw [hm]
 have f1 : List.all (cellsV l) (flat 3) = true := cellsV_flat l
 cases hsh : shB (m + 1) with
 | false => exact callC_ok mixed orcNy_ok (askNy_ok true true true 0 0 0) (Eq.mpr (bnd_l es l m k e row c d a _) ⟨⟨f1, trivial⟩, by rw [hsh]; rfl, rfl⟩)
 | true =>
 have f0 : (!(shB (m + 1))) = false := by rw [hsh]; rfl
 have f2 : okT tvT (cellsV l) (m + 1) := okV hm (by rcases shB_zz hsh with h | h <;> omega)
 have f3 : clV l [] := rfl
 have f4 : nonC l [] := rfl
 have h40 : ieq (traE l) 0 = true → l.length ≤ 40 := fun h => by
  have := tra_len h
  rcases shB_zz hsh with h | h <;> omega
 cases ht : ieq (traE l) 0 with
 | false =>
  have q1 : pbC l [.agg #[gi c, gi d]] := ⟨rfl, fun h => h40 (pb_tra h)⟩
  have q2 : phC l [gi a] := ⟨rfl, fun h => h40 (hb_tra h)⟩
  have q3 : ieq (pbE l (m + 1) c d) 0 = false := by simp only [pbE, fs_cons, fs_nil, ht, cond_false]
  have q4 : ieq (hbE l (m + 1) a) 0 = false := by simp only [hbE, fs_cons, fs_nil, ht, cond_false]
  have q5 : ieq (firstS [traE l, lnE c d]) 0 = false := by simp only [fs_cons, fs_nil, ht, cond_false]
  have q6 : ieq (firstS [traE l, withinS a 1 128]) 0 = false := by simp only [fs_cons, fs_nil, ht, cond_false]
  have q7 : ieq (pbE l (m + 1) c d) (firstS [traE l, lnE c d]) = true := by simp only [pbE, fs_cons, fs_nil, ht, cond_false, ieq_self]
  have q8 : ieq (hbE l (m + 1) a) (firstS [traE l, withinS a 1 128]) = true := by simp only [hbE, fs_cons, fs_nil, ht, cond_false, ieq_self]
  refine callC_ok mixed orcNy_ok (askNy_ok _ _ _ _ _ _) (Eq.mpr (bnd_ee es l m k e row c d a _) ?_)
  simp only [decW, all1, all2, forall_eq', and_true, true_and]
  repeat' (first | assumption | exact bb5q _ _ _ _ _ | exact hb5q _ _ _ | exact ieq_self _ | exact rfl | exact trivial | apply And.intro | intro _)
 | true =>
  cases hl : ieq (lnE c d) 0 with
  | false =>
   cases hw : ieq (withinS a 1 128) 0 with
   | false =>
    have q1 : pbC l [.agg #[gi c, gi d]] := ⟨rfl, fun h => h40 (pb_tra h)⟩
    have q2 : phC l [gi a] := ⟨rfl, fun h => h40 (hb_tra h)⟩
    have q3 : ieq (pbE l (m + 1) c d) 0 = false := by simp only [pbE, fs_cons, fs_nil, ht, hl, cond_true, cond_false]
    have q4 : ieq (hbE l (m + 1) a) 0 = false := by simp only [hbE, fs_cons, fs_nil, ht, hw, cond_true, cond_false]
    have q5 : ieq (firstS [traE l, lnE c d]) 0 = false := by simp only [fs_cons, fs_nil, ht, hl, cond_true, cond_false]
    have q6 : ieq (firstS [traE l, withinS a 1 128]) 0 = false := by simp only [fs_cons, fs_nil, ht, hw, cond_true, cond_false]
    have q7 : ieq (pbE l (m + 1) c d) (firstS [traE l, lnE c d]) = true := by simp only [pbE, fs_cons, fs_nil, ht, hl, cond_true, cond_false, ieq_self]
    have q8 : ieq (hbE l (m + 1) a) (firstS [traE l, withinS a 1 128]) = true := by simp only [hbE, fs_cons, fs_nil, ht, hw, cond_true, cond_false, ieq_self]
    refine callC_ok mixed orcNy_ok (askNy_ok _ _ _ _ _ _) (Eq.mpr (bnd_ee es l m k e row c d a _) ?_)
    simp only [decW, all1, all2, forall_eq', and_true, true_and]
    repeat' (first | assumption | exact bb5q _ _ _ _ _ | exact hb5q _ _ _ | exact ieq_self _ | exact rfl | exact trivial | apply And.intro | intro _)
   | true =>
    have ws := within_zero (ieq_zero hw)
    obtain ⟨s, rfl⟩ := Int.eq_ofNat_of_zero_le (show 0 ≤ a by omega)
    have hw : ieq (withinS (Int.ofNat s) 1 128) 0 = true := hw
    have gs0 : 0 < s := by have := ws.1; omega
    cases hy : ilt (Int.ofNat (m + 1)) (Int.ofNat s) with
    | false =>
     have hy' : s ≤ m + 1 := by rw [ilt_say] at hy; have := of_decide_eq_false hy; simp only [Int.ofNat_eq_natCast] at this; omega
     have q1 : pbC l [.agg #[gi c, gi d]] := ⟨rfl, fun h => h40 (pb_tra h)⟩
     have q2 : phC l [gi (Int.ofNat s)] := ⟨rfl, fun h => h40 (hb_tra h)⟩
     have q3 : ieq (pbE l (m + 1) c d) 0 = false := by simp only [pbE, fs_cons, fs_nil, ht, hl, cond_true, cond_false]
     have q4 : ieq (hbE l (m + 1) (Int.ofNat s)) 0 = true := by simp only [hbE, fs_cons, fs_nil, ht, hw, hy, cond_true, ieq_self, wh_f]
     have q5 : ieq (firstS [traE l, lnE c d]) 0 = false := by simp only [fs_cons, fs_nil, ht, hl, cond_true, cond_false]
     have q6 : ieq (firstS [traE l, withinS (Int.ofNat s) 1 128]) 0 = true := by simp only [fs_cons, fs_nil, ht, hw, cond_true, ieq_self]
     have q7 : ieq (pbE l (m + 1) c d) (firstS [traE l, lnE c d]) = true := by simp only [pbE, fs_cons, fs_nil, ht, hl, cond_true, cond_false, ieq_self]
     have q12 : rhbC l [gi (Int.ofNat s)] := ⟨rfl, tra_okW (ieq_zero ht), h40 ht, gs0, by show s ≤ l.length; omega⟩
     have q13 : Nat.blt (m + 1) s = false := by rw [Bool.eq_false_iff, ne_eq, Nat.blt_eq]; omega
     refine callC_ok mixed orcNy_ok (askNy_ok _ _ _ _ _ _) (Eq.mpr (bnd_ek es l m k e row s c d _) ?_)
     simp only [decW, all1, all2, forall_eq', toNat_w, and_true, true_and]
     repeat' (first | assumption | exact bb5q _ _ _ _ _ | exact hb5q _ _ _ | exact ieq_self _ | exact rfl | exact trivial | apply And.intro | intro _)
    | true =>
     have hy' : m + 1 < s := by rw [ilt_say] at hy; have := of_decide_eq_true hy; simp only [Int.ofNat_eq_natCast] at this; omega
     have q1 : pbC l [.agg #[gi c, gi d]] := ⟨rfl, fun h => h40 (pb_tra h)⟩
     have q2 : phC l [gi (Int.ofNat s)] := ⟨rfl, fun h => h40 (hb_tra h)⟩
     have q3 : ieq (pbE l (m + 1) c d) 0 = false := by simp only [pbE, fs_cons, fs_nil, ht, hl, cond_true, cond_false]
     have q4 : ieq (hbE l (m + 1) (Int.ofNat s)) 0 = false := by simp only [hbE, fs_cons, fs_nil, ht, hw, hy, cond_true, cond_false, wh_t, ieq16n]
     have q5 : ieq (firstS [traE l, lnE c d]) 0 = false := by simp only [fs_cons, fs_nil, ht, hl, cond_true, cond_false]
     have q6 : ieq (firstS [traE l, withinS (Int.ofNat s) 1 128]) 0 = true := by simp only [fs_cons, fs_nil, ht, hw, cond_true, ieq_self]
     have q7 : ieq (pbE l (m + 1) c d) (firstS [traE l, lnE c d]) = true := by simp only [pbE, fs_cons, fs_nil, ht, hl, cond_true, cond_false, ieq_self]
     have q8 : ieq (hbE l (m + 1) (Int.ofNat s)) 16 = true := by simp only [hbE, fs_cons, fs_nil, ht, hw, hy, cond_true, cond_false, ieq_self, wh_t, ieq16n]
     have q13 : Nat.blt (m + 1) s = true := by rw [Nat.blt_eq]; exact hy'
     refine callC_ok mixed orcNy_ok (askNy_ok _ _ _ _ _ _) (Eq.mpr (bnd_et es l m k e row s c d _) ?_)
     simp only [decW, all1, all2, forall_eq', and_true, true_and]
     repeat' (first | assumption | exact bb5q _ _ _ _ _ | exact hb5q _ _ _ | exact ieq_self _ | exact rfl | exact trivial | apply And.intro | intro _)
  | true =>
   obtain ⟨lo, hi, rfl, rfl, g3, g4, g5⟩ := ln_zero (ieq_zero hl)
   cases hx : ilt (Int.ofNat (m + 1)) (Int.ofNat lo) with
   | false =>
    have hx' : lo ≤ m + 1 := by rw [ilt_say] at hx; have := of_decide_eq_false hx; simp only [Int.ofNat_eq_natCast] at this; omega
    cases hw : ieq (withinS a 1 128) 0 with
    | false =>
     have q1 : pbC l [.agg #[gi (Int.ofNat lo), gi (Int.ofNat hi)]] := ⟨rfl, fun h => h40 (pb_tra h)⟩
     have q2 : phC l [gi a] := ⟨rfl, fun h => h40 (hb_tra h)⟩
     have q3 : ieq (pbE l (m + 1) (Int.ofNat lo) (Int.ofNat hi)) 0 = true := by simp only [pbE, fs_cons, fs_nil, ht, hl, hx, cond_true, ieq_self, wh_f]
     have q4 : ieq (hbE l (m + 1) a) 0 = false := by simp only [hbE, fs_cons, fs_nil, ht, hw, cond_true, cond_false]
     have q5 : ieq (firstS [traE l, lnE (Int.ofNat lo) (Int.ofNat hi)]) 0 = true := by simp only [fs_cons, fs_nil, ht, hl, cond_true, ieq_self]
     have q6 : ieq (firstS [traE l, withinS a 1 128]) 0 = false := by simp only [fs_cons, fs_nil, ht, hw, cond_true, cond_false]
     have q8 : ieq (hbE l (m + 1) a) (firstS [traE l, withinS a 1 128]) = true := by simp only [hbE, fs_cons, fs_nil, ht, hw, cond_true, cond_false, ieq_self]
     have q10 : rbC' l [.agg #[gi (Int.ofNat lo), gi (Int.ofNat hi)]] := ⟨rfl, tra_okW (ieq_zero ht), h40 ht, g3, g4, g5⟩
     have q11 : Nat.ble lo (m + 1) = true := by rw [Nat.ble_eq]; exact hx'
     refine callC_ok mixed orcNy_ok (askNy_ok _ _ _ _ _ _) (Eq.mpr (bnd_fe es l m k e row lo hi a _) ?_)
     simp only [decW, all1, all2, forall_eq', toNat_w, and_true, true_and]
     repeat' (first | assumption | exact bb5q _ _ _ _ _ | exact hb5q _ _ _ | exact ieq_self _ | exact rfl | exact trivial | apply And.intro | intro _)
    | true =>
     have ws := within_zero (ieq_zero hw)
     obtain ⟨s, rfl⟩ := Int.eq_ofNat_of_zero_le (show 0 ≤ a by omega)
     have hw : ieq (withinS (Int.ofNat s) 1 128) 0 = true := hw
     have gs0 : 0 < s := by have := ws.1; omega
     cases hy : ilt (Int.ofNat (m + 1)) (Int.ofNat s) with
     | false =>
      have hy' : s ≤ m + 1 := by rw [ilt_say] at hy; have := of_decide_eq_false hy; simp only [Int.ofNat_eq_natCast] at this; omega
      have q1 : pbC l [.agg #[gi (Int.ofNat lo), gi (Int.ofNat hi)]] := ⟨rfl, fun h => h40 (pb_tra h)⟩
      have q2 : phC l [gi (Int.ofNat s)] := ⟨rfl, fun h => h40 (hb_tra h)⟩
      have q3 : ieq (pbE l (m + 1) (Int.ofNat lo) (Int.ofNat hi)) 0 = true := by simp only [pbE, fs_cons, fs_nil, ht, hl, hx, cond_true, ieq_self, wh_f]
      have q4 : ieq (hbE l (m + 1) (Int.ofNat s)) 0 = true := by simp only [hbE, fs_cons, fs_nil, ht, hw, hy, cond_true, ieq_self, wh_f]
      have q5 : ieq (firstS [traE l, lnE (Int.ofNat lo) (Int.ofNat hi)]) 0 = true := by simp only [fs_cons, fs_nil, ht, hl, cond_true, ieq_self]
      have q6 : ieq (firstS [traE l, withinS (Int.ofNat s) 1 128]) 0 = true := by simp only [fs_cons, fs_nil, ht, hw, cond_true, ieq_self]
      have q10 : rbC' l [.agg #[gi (Int.ofNat lo), gi (Int.ofNat hi)]] := ⟨rfl, tra_okW (ieq_zero ht), h40 ht, g3, g4, g5⟩
      have q11 : Nat.ble lo (m + 1) = true := by rw [Nat.ble_eq]; exact hx'
      have q12 : rhbC l [gi (Int.ofNat s)] := ⟨rfl, tra_okW (ieq_zero ht), h40 ht, gs0, by show s ≤ l.length; omega⟩
      have q13 : Nat.blt (m + 1) s = false := by rw [Bool.eq_false_iff, ne_eq, Nat.blt_eq]; omega
      refine callC_ok mixed orcNy_ok (askNy_ok _ _ _ _ _ _) (Eq.mpr (bnd_fk es l m k e row lo hi s _) ?_)
      simp only [decW, all1, all2, forall_eq', toNat_w, and_true, true_and]
      repeat' (first | assumption | exact bb5q _ _ _ _ _ | exact hb5q _ _ _ | exact ieq_self _ | exact rfl | exact trivial | apply And.intro | intro _)
     | true =>
      have hy' : m + 1 < s := by rw [ilt_say] at hy; have := of_decide_eq_true hy; simp only [Int.ofNat_eq_natCast] at this; omega
      have q1 : pbC l [.agg #[gi (Int.ofNat lo), gi (Int.ofNat hi)]] := ⟨rfl, fun h => h40 (pb_tra h)⟩
      have q2 : phC l [gi (Int.ofNat s)] := ⟨rfl, fun h => h40 (hb_tra h)⟩
      have q3 : ieq (pbE l (m + 1) (Int.ofNat lo) (Int.ofNat hi)) 0 = true := by simp only [pbE, fs_cons, fs_nil, ht, hl, hx, cond_true, ieq_self, wh_f]
      have q4 : ieq (hbE l (m + 1) (Int.ofNat s)) 0 = false := by simp only [hbE, fs_cons, fs_nil, ht, hw, hy, cond_true, cond_false, wh_t, ieq16n]
      have q5 : ieq (firstS [traE l, lnE (Int.ofNat lo) (Int.ofNat hi)]) 0 = true := by simp only [fs_cons, fs_nil, ht, hl, cond_true, ieq_self]
      have q6 : ieq (firstS [traE l, withinS (Int.ofNat s) 1 128]) 0 = true := by simp only [fs_cons, fs_nil, ht, hw, cond_true, ieq_self]
      have q8 : ieq (hbE l (m + 1) (Int.ofNat s)) 16 = true := by simp only [hbE, fs_cons, fs_nil, ht, hw, hy, cond_true, cond_false, ieq_self, wh_t, ieq16n]
      have q10 : rbC' l [.agg #[gi (Int.ofNat lo), gi (Int.ofNat hi)]] := ⟨rfl, tra_okW (ieq_zero ht), h40 ht, g3, g4, g5⟩
      have q11 : Nat.ble lo (m + 1) = true := by rw [Nat.ble_eq]; exact hx'
      have q13 : Nat.blt (m + 1) s = true := by rw [Nat.blt_eq]; exact hy'
      refine callC_ok mixed orcNy_ok (askNy_ok _ _ _ _ _ _) (Eq.mpr (bnd_ft es l m k e row lo hi s _) ?_)
      simp only [decW, all1, all2, forall_eq', toNat_w, and_true, true_and]
      repeat' (first | assumption | exact bb5q _ _ _ _ _ | exact hb5q _ _ _ | exact ieq_self _ | exact rfl | exact trivial | apply And.intro | intro _)
   | true =>
    have hx' : m + 1 < lo := by rw [ilt_say] at hx; have := of_decide_eq_true hx; simp only [Int.ofNat_eq_natCast] at this; omega
    cases hw : ieq (withinS a 1 128) 0 with
    | false =>
     have q1 : pbC l [.agg #[gi (Int.ofNat lo), gi (Int.ofNat hi)]] := ⟨rfl, fun h => h40 (pb_tra h)⟩
     have q2 : phC l [gi a] := ⟨rfl, fun h => h40 (hb_tra h)⟩
     have q3 : ieq (pbE l (m + 1) (Int.ofNat lo) (Int.ofNat hi)) 0 = false := by simp only [pbE, fs_cons, fs_nil, ht, hl, hx, cond_true, cond_false, wh_t, ieq16n]
     have q4 : ieq (hbE l (m + 1) a) 0 = false := by simp only [hbE, fs_cons, fs_nil, ht, hw, cond_true, cond_false]
     have q5 : ieq (firstS [traE l, lnE (Int.ofNat lo) (Int.ofNat hi)]) 0 = true := by simp only [fs_cons, fs_nil, ht, hl, cond_true, ieq_self]
     have q6 : ieq (firstS [traE l, withinS a 1 128]) 0 = false := by simp only [fs_cons, fs_nil, ht, hw, cond_true, cond_false]
     have q7 : ieq (pbE l (m + 1) (Int.ofNat lo) (Int.ofNat hi)) 16 = true := by simp only [pbE, fs_cons, fs_nil, ht, hl, hx, cond_true, cond_false, ieq_self, wh_t, ieq16n]
     have q8 : ieq (hbE l (m + 1) a) (firstS [traE l, withinS a 1 128]) = true := by simp only [hbE, fs_cons, fs_nil, ht, hw, cond_true, cond_false, ieq_self]
     have q10 : rbC' l [.agg #[gi (Int.ofNat lo), gi (Int.ofNat hi)]] := ⟨rfl, tra_okW (ieq_zero ht), h40 ht, g3, g4, g5⟩
     have q11 : Nat.ble lo (m + 1) = false := by rw [Bool.eq_false_iff, ne_eq, Nat.ble_eq]; omega
     refine callC_ok mixed orcNy_ok (askNy_ok _ _ _ _ _ _) (Eq.mpr (bnd_ne es l m k e row lo hi a _) ?_)
     simp only [decW, all1, all2, forall_eq', and_true, true_and]
     repeat' (first | assumption | exact bb5q _ _ _ _ _ | exact hb5q _ _ _ | exact ieq_self _ | exact rfl | exact trivial | apply And.intro | intro _)
    | true =>
     have ws := within_zero (ieq_zero hw)
     obtain ⟨s, rfl⟩ := Int.eq_ofNat_of_zero_le (show 0 ≤ a by omega)
     have hw : ieq (withinS (Int.ofNat s) 1 128) 0 = true := hw
     have gs0 : 0 < s := by have := ws.1; omega
     cases hy : ilt (Int.ofNat (m + 1)) (Int.ofNat s) with
     | false =>
      have hy' : s ≤ m + 1 := by rw [ilt_say] at hy; have := of_decide_eq_false hy; simp only [Int.ofNat_eq_natCast] at this; omega
      have q1 : pbC l [.agg #[gi (Int.ofNat lo), gi (Int.ofNat hi)]] := ⟨rfl, fun h => h40 (pb_tra h)⟩
      have q2 : phC l [gi (Int.ofNat s)] := ⟨rfl, fun h => h40 (hb_tra h)⟩
      have q3 : ieq (pbE l (m + 1) (Int.ofNat lo) (Int.ofNat hi)) 0 = false := by simp only [pbE, fs_cons, fs_nil, ht, hl, hx, cond_true, cond_false, wh_t, ieq16n]
      have q4 : ieq (hbE l (m + 1) (Int.ofNat s)) 0 = true := by simp only [hbE, fs_cons, fs_nil, ht, hw, hy, cond_true, ieq_self, wh_f]
      have q5 : ieq (firstS [traE l, lnE (Int.ofNat lo) (Int.ofNat hi)]) 0 = true := by simp only [fs_cons, fs_nil, ht, hl, cond_true, ieq_self]
      have q6 : ieq (firstS [traE l, withinS (Int.ofNat s) 1 128]) 0 = true := by simp only [fs_cons, fs_nil, ht, hw, cond_true, ieq_self]
      have q7 : ieq (pbE l (m + 1) (Int.ofNat lo) (Int.ofNat hi)) 16 = true := by simp only [pbE, fs_cons, fs_nil, ht, hl, hx, cond_true, cond_false, ieq_self, wh_t, ieq16n]
      have q10 : rbC' l [.agg #[gi (Int.ofNat lo), gi (Int.ofNat hi)]] := ⟨rfl, tra_okW (ieq_zero ht), h40 ht, g3, g4, g5⟩
      have q11 : Nat.ble lo (m + 1) = false := by rw [Bool.eq_false_iff, ne_eq, Nat.ble_eq]; omega
      have q12 : rhbC l [gi (Int.ofNat s)] := ⟨rfl, tra_okW (ieq_zero ht), h40 ht, gs0, by show s ≤ l.length; omega⟩
      have q13 : Nat.blt (m + 1) s = false := by rw [Bool.eq_false_iff, ne_eq, Nat.blt_eq]; omega
      refine callC_ok mixed orcNy_ok (askNy_ok _ _ _ _ _ _) (Eq.mpr (bnd_nk es l m k e row lo hi s _) ?_)
      simp only [decW, all1, all2, forall_eq', toNat_w, and_true, true_and]
      repeat' (first | assumption | exact bb5q _ _ _ _ _ | exact hb5q _ _ _ | exact ieq_self _ | exact rfl | exact trivial | apply And.intro | intro _)
     | true =>
      have hy' : m + 1 < s := by rw [ilt_say] at hy; have := of_decide_eq_true hy; simp only [Int.ofNat_eq_natCast] at this; omega
      have q1 : pbC l [.agg #[gi (Int.ofNat lo), gi (Int.ofNat hi)]] := ⟨rfl, fun h => h40 (pb_tra h)⟩
      have q2 : phC l [gi (Int.ofNat s)] := ⟨rfl, fun h => h40 (hb_tra h)⟩
      have q3 : ieq (pbE l (m + 1) (Int.ofNat lo) (Int.ofNat hi)) 0 = false := by simp only [pbE, fs_cons, fs_nil, ht, hl, hx, cond_true, cond_false, wh_t, ieq16n]
      have q4 : ieq (hbE l (m + 1) (Int.ofNat s)) 0 = false := by simp only [hbE, fs_cons, fs_nil, ht, hw, hy, cond_true, cond_false, wh_t, ieq16n]
      have q5 : ieq (firstS [traE l, lnE (Int.ofNat lo) (Int.ofNat hi)]) 0 = true := by simp only [fs_cons, fs_nil, ht, hl, cond_true, ieq_self]
      have q6 : ieq (firstS [traE l, withinS (Int.ofNat s) 1 128]) 0 = true := by simp only [fs_cons, fs_nil, ht, hw, cond_true, ieq_self]
      have q7 : ieq (pbE l (m + 1) (Int.ofNat lo) (Int.ofNat hi)) 16 = true := by simp only [pbE, fs_cons, fs_nil, ht, hl, hx, cond_true, cond_false, ieq_self, wh_t, ieq16n]
      have q8 : ieq (hbE l (m + 1) (Int.ofNat s)) 16 = true := by simp only [hbE, fs_cons, fs_nil, ht, hw, hy, cond_true, cond_false, ieq_self, wh_t, ieq16n]
      have q10 : rbC' l [.agg #[gi (Int.ofNat lo), gi (Int.ofNat hi)]] := ⟨rfl, tra_okW (ieq_zero ht), h40 ht, g3, g4, g5⟩
      have q11 : Nat.ble lo (m + 1) = false := by rw [Bool.eq_false_iff, ne_eq, Nat.ble_eq]; omega
      have q13 : Nat.blt (m + 1) s = true := by rw [Nat.blt_eq]; exact hy'
      refine callC_ok mixed orcNy_ok (askNy_ok _ _ _ _ _ _) (Eq.mpr (bnd_nt es l m k e row lo hi s _) ?_)
      simp only [decW, all1, all2, forall_eq', and_true, true_and]
      repeat' (first | assumption | exact bb5q _ _ _ _ _ | exact hb5q _ _ _ | exact ieq_self _ | exact rfl | exact trivial | apply And.intro | intro _)
end Go.Proofs.YtihnnmejkpddeaaGreatDoor
/-! (OWN WORK. Stage 6: the law of bounds where the trace is empty.) -/
namespace Go.Proofs.YtihnnmejkpddeaaGreatDoor
open Go Go.Am
noncomputable def bnSy (f : FuncId) : Sy := bif Nat.beq f 7 then syOf [(21, 55), (27, 55), (29, 55), (34, 55), (36, 55), (40, 55), (52, 32), (63, 32), (70, 32), (75, 55), (76, 55), (78, 31), (82, 34), (87, 31), (92, 34), (97, 31)] else bif Nat.beq f 50 then syOf [(8, 55), (19, 31)] else bif Nat.beq f 52 then syOf [(12, 55), (22, 31)] else syOf []
theorem bnd_n0 (es : Nat → TypeId) (c d a : Int) (K : Value → Prop) : callR Tryz.prog orcNy bnSy (askNy true true true 0 0 0) 60 7 #[nilS, .agg #[gi c, gi d], gi a] (wB6 es) (fun v _ => K v) = ((Value.agg #[gi c, gi d] = Value.agg #[gi c, gi d] ∧ [gi 0, gi 0, gi 0, gi 0, Value.bool false] = [gi 0, gi 0, gi 0, gi 0, Value.bool false] ∧ Value.agg #[gi c, gi d] = Value.agg #[gi c, gi d] ∧ [gi c, gi d][0]? = Option.some (gi c) ∧ gi 0 = gi 0 ∧ Value.agg #[gi c, gi d] = Value.agg #[gi c, gi d] ∧ [gi c, gi d][0]? = Option.some (gi c) ∧ gi 0 = gi 0 ∧ (!(ieq (firstS [12, lnE c d, whenS (ilt 0 c) 16]) 0)) = true ∧ [gi 0, gi 0, gi 0, gi 0, Value.bool false] = [gi 0, gi 0, gi 0, gi 0, Value.bool false] ∧ (!(ieq (firstS [12, withinS a 1 128, whenS (ilt 0 a) 16]) 0)) = true ∧ ieq (firstS [12, lnE c d]) 0 = false ∧ ieq (firstS [12, withinS a 1 128]) 0 = false ∧ ieq (firstS [12, withinS a 1 128]) 0 = false ∧ true = true ∧ Value.bool true = Value.bool true ∧ ieq (firstS [12, lnE c d, whenS (ilt 0 c) 16]) (firstS [12, lnE c d]) = true ∧ Value.bool true = Value.bool true ∧ ieq (firstS [12, withinS a 1 128, whenS (ilt 0 a) 16]) (firstS [12, withinS a 1 128]) = true ∧ K (Value.bool true))) := by kernel_rfl
theorem bnd_e0 (es : Nat → TypeId) (q : Nat) (c d a : Int) (K : Value → Prop) : callR Tryz.prog orcNy bnSy (askNy true true true 0 0 0) 60 7 #[.slice (some ⟨Tryz.prog.globals.size, 0, none⟩) 0 q, .agg #[gi c, gi d], gi a] ((wB6 es).push .dead) (fun v _ => K v) = ((Value.agg #[gi c, gi d] = Value.agg #[gi c, gi d] ∧ [gi 0, gi 0, gi 0, gi 0, Value.bool false] = [gi 0, gi 0, gi 0, gi 0, Value.bool false] ∧ Value.agg #[gi c, gi d] = Value.agg #[gi c, gi d] ∧ [gi c, gi d][0]? = Option.some (gi c) ∧ gi 0 = gi 0 ∧ Value.agg #[gi c, gi d] = Value.agg #[gi c, gi d] ∧ [gi c, gi d][0]? = Option.some (gi c) ∧ gi 0 = gi 0 ∧ (!(ieq (firstS [12, lnE c d, whenS (ilt 0 c) 16]) 0)) = true ∧ [gi 0, gi 0, gi 0, gi 0, Value.bool false] = [gi 0, gi 0, gi 0, gi 0, Value.bool false] ∧ (!(ieq (firstS [12, withinS a 1 128, whenS (ilt 0 a) 16]) 0)) = true ∧ ieq (firstS [12, lnE c d]) 0 = false ∧ ieq (firstS [12, withinS a 1 128]) 0 = false ∧ ieq (firstS [12, withinS a 1 128]) 0 = false ∧ true = true ∧ Value.bool true = Value.bool true ∧ ieq (firstS [12, lnE c d, whenS (ilt 0 c) 16]) (firstS [12, lnE c d]) = true ∧ Value.bool true = Value.bool true ∧ ieq (firstS [12, withinS a 1 128, whenS (ilt 0 a) 16]) (firstS [12, withinS a 1 128]) = true ∧ K (Value.bool true))) := by kernel_rfl
set_option maxRecDepth 100000 in
theorem bnd_n (es : Nat → TypeId) (c d a : Int) : CallJ Tryz.prog 7 #[nilS, .agg #[gi c, gi d], gi a] (wB6 es) (fun v _ => v = .bool true) := by
 refine CallJ.ofR mixed orcNy_ok (askNy_ok true true true 0 0 0) (Eq.mpr (bnd_n0 es c d a _) ?_)
 repeat' (first | exact rfl | exact trivial | apply And.intro)
set_option maxRecDepth 100000 in
theorem bnd_e (es : Nat → TypeId) (q : Nat) (c d a : Int) : CallJ Tryz.prog 7 #[.slice (some ⟨Tryz.prog.globals.size, 0, none⟩) 0 q, .agg #[gi c, gi d], gi a] ((wB6 es).push .dead) (fun v _ => v = .bool true) := by
 refine CallJ.ofR mixed orcNy_ok (askNy_ok true true true 0 0 0) (Eq.mpr (bnd_e0 es q c d a _) ?_)
 repeat' (first | exact rfl | exact trivial | apply And.intro)
end Go.Proofs.YtihnnmejkpddeaaGreatDoor
