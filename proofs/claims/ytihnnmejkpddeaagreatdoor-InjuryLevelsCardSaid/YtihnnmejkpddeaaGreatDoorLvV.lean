/-
  OWN WORK. Stage 6: the law of levels: true for all series, levels and numbers of samples.
-/
import Derived.Test.YtihnnmejkpddeaaGreatDoorLvU
namespace Go.Proofs.YtihnnmejkpddeaaGreatDoor
open Go Go.Am

theorem shB_zero {m : Nat} (h : shB (m + 1) = true) : m + 1 ≤ 40 ∨ m + 1 = 129 := by
  unfold shB at h
  rw [ilt_say, ieq_dec] at h
  by_cases h1 : m + 1 ≤ 40
  · exact .inl h1
  · rw [decide_eq_true (show (40 : Int) < Int.ofNat (m + 1) by simp only [Int.ofNat_eq_natCast]; omega)] at h
    have h := of_decide_eq_true h
    simp only [Int.ofNat_eq_natCast] at h
    exact .inr (by omega)
theorem vb2 (x y : Int) : Value.bool (ieq x x && (ieq y y && true)) = Value.bool true := by rw [ieq_self, ieq_self]; rfl
theorem vb1 {x y : Int} (h : x = y) : Value.bool (ieq x y) = Value.bool true := by rw [h, ieq_self]
theorem firstS_12 (x : Int) : firstS [12, x] = 12 := rfl
theorem heA {l : List Int} {x : Int} (h : ieq (firstS [serE l, withinS x 1 128]) 0 = false) : heE l x = firstS [serE l, withinS x 1 128] := by
  show (bif ieq (serE l) 0 then (bif ieq (withinS x 1 128) 0 then firstS [whenS (ilt (Int.ofNat l.length) x) 16] else withinS x 1 128) else serE l) = (bif ieq (serE l) 0 then (bif ieq (withinS x 1 128) 0 then 0 else withinS x 1 128) else serE l)
  have h : ieq (bif ieq (serE l) 0 then (bif ieq (withinS x 1 128) 0 then 0 else withinS x 1 128) else serE l) 0 = false := h
  cases h1 : ieq (serE l) 0 with
  | false => rfl
  | true =>
    rw [h1] at h
    cases h2 : ieq (withinS x 1 128) 0 with
    | false => rfl
    | true =>
      rw [h2] at h
      cases h
theorem heB {l : List Int} {x : Int} (h : ieq (firstS [serE l, withinS x 1 128]) 0 = true) : heE l x = whenS (ilt (Int.ofNat l.length) x) 16 := by
  have z : firstS [serE l, withinS x 1 128] = 0 := by rw [ieq_dec] at h; exact of_decide_eq_true h
  have z1 : serE l = 0 := firstS_none z _ (.head _)
  have z2 : withinS x 1 128 = 0 := firstS_none z _ (.tail _ (.head _))
  unfold heE
  rw [z1, z2]
  show firstS [whenS (ilt (Int.ofNat l.length) x) 16] = _
  rw [firstS_one]
theorem ieq_0 {x : Int} (h : x = 0) : ieq x 0 = true := by rw [h]; rfl
section
variable (es : Nat → TypeId) (v x : Int)
set_option maxRecDepth 100000 in
theorem lev_n : CallJ Tryz.prog 4 #[nilS, gi v, gi x] (lB es) (fun v _ => v = .bool true) := by
  refine callC_ok mixed orcLw_ok askLw_ok (Eq.mpr (lv_n es v x _) ?_)
  rw [firstS_12, firstS_12]
  repeat' (first | assumption | exact rfl | exact trivial | apply And.intro)
set_option maxRecDepth 100000 in
theorem lev_e (q : Nat) : CallJ Tryz.prog 4 #[.slice (some ⟨Tryz.prog.globals.size, 0, none⟩) 0 q, gi v, gi x] (lD (lB es)) (fun v _ => v = .bool true) := by
  refine callC_ok mixed orcLw_ok askLw_ok (Eq.mpr (lv_e es q v x _) ?_)
  rw [firstS_12, firstS_12]
  repeat' (first | assumption | exact rfl | exact trivial | apply And.intro)
set_option maxRecDepth 100000 in
theorem lev_f (l : List Int) (k e row : Nat) (h0 : 0 < l.length) : CallJ Tryz.prog 4 #[liP l.length k, gi v, gi x] (lI (lB es) l e row) (fun v _ => v = .bool true) := by
  obtain ⟨m, hm⟩ : ∃ m, l.length = m + 1 := ⟨l.length - 1, by omega⟩
  rw [hm]
  cases hsh : shB (m + 1) with
  | false => exact callC_ok mixed orcLv_ok (askLv_ok _ _ _ _ _ _ _) (Eq.mpr (lv_na es l m k e row v x _) ⟨⟨flat_ints l, trivial⟩, by rw [hsh]; rfl, rfl⟩)
  | true =>
    have hs : (!(shB (m + 1))) = false := by rw [hsh]; rfl
    have h1 : m + 1 ≤ 65536 := by rcases shB_zero hsh with h | h <;> omega
    have f1 : List.all (l.map gi) (flat 3) = true := flat_ints l
    have f2 : okT tiT (l.map gi) (m + 1) := okI hm h1
    have f3 : clC l [] := rfl
    have f4 : nonC l [] := rfl
    have f5 : lvD l v l [gi v] := ⟨rfl, rfl⟩
    have f6 : hvC (l.map gi) (m + 1) (m + 1) 2 [gi x] := ⟨f2, rfl, Nat.le_refl _, rfl⟩
    have f7 : ieq (serE l) (serE l) = true := ieq_self _
    have f8 : ieq (lvE l v) (firstS [serE l, uE v]) = true := ieq_self _
    have f9 := vb2 (Int.ofNat (lgE v l).1) (Int.ofNat (lgE v l).2)
    have f10 : ieq (Int.ofNat (kpL v l).length) (Int.ofNat (kpL v l).length) = true := ieq_self _
    cases hE : ieq (lvE l v) 0 with
    | false =>
      have g0 : ieq (firstS [serE l, uE v]) 0 = false := hE
      have g1 : lvB false l v l [gi v] := ⟨rfl, rfl, hE⟩
      cases hF : ieq (firstS [serE l, withinS x 1 128]) 0 with
      | false =>
        have g2 := heA hF
        have g3 : ieq (heE l x) 0 = false := by rw [g2]; exact hF
        have g4 := vb1 g2
        refine callC_ok mixed orcLv_ok (askLv_ok _ _ _ _ _ _ _) (Eq.mpr (lv_0A es l m k e row v x _) ?_)
        simp only [decT]
        repeat' (first | assumption | exact rfl | exact trivial | apply And.intro)
      | true =>
        have g2 := heB hF
        rw [hm] at g2
        cases hG : ilt (Int.ofNat (m + 1)) x with
        | true =>
          rw [hG] at g2
          have g2 : heE l x = 16 := g2
          have g3 : ieq (heE l x) 0 = false := by rw [g2]; rfl
          have g4 := vb1 g2
          refine callC_ok mixed orcLv_ok (askLv_ok _ _ _ _ _ _ _) (Eq.mpr (lv_0B es l m k e row v x _) ?_)
          simp only [decT]
          repeat' (first | assumption | exact rfl | exact trivial | apply And.intro)
        | false =>
          rw [hG] at g2
          have g2 : heE l x = 0 := g2
          obtain ⟨z1, z2, z3, z4⟩ := he_facts g2
          generalize x.toNat = s at z2 z3 z4
          subst z4
          have g3 : ieq (heE l (Int.ofNat s)) 0 = true := ieq_0 g2
          have g5 : Nat.blt (m + 1) s = false := by rw [Bool.eq_false_iff, ne_eq, Nat.blt_eq]; omega
          have g6 : rhD l s l [goN s] := ⟨rfl, rfl, z2, z3⟩
          have g7 : firstS [serE l, withinS (Int.ofNat s) 1 128] = 0 := by rw [ieq_dec] at hF; exact of_decide_eq_true hF
          have g8 := vb1 g7.symm
          have g9 := vb2 (Int.ofNat (rhS (l.map gi) s (m + 1 + 1 - s)).2.1) (Int.ofNat (rhS (l.map gi) s (m + 1 + 1 - s)).2.2)
          have g10 : ieq (rhS (l.map gi) s (m + 1 + 1 - s)).1 (rhS (l.map gi) s (m + 1 + 1 - s)).1 = true := ieq_self _
          refine callC_ok mixed orcLv_ok (askLv_ok _ _ _ _ _ _ _) (Eq.mpr (lv_0C es l m k e row s v _) ?_)
          simp only [decT]
          repeat' (first | assumption | exact rfl | exact trivial | apply And.intro)
    | true =>
      have g0 : ieq (firstS [serE l, uE v]) 0 = true := hE
      have g01 : ieq 0 (firstS [serE l, uE v]) = true := by
        have : firstS [serE l, uE v] = 0 := by rw [ieq_dec] at g0; exact of_decide_eq_true g0
        rw [this]; rfl
      have g1 : lvB true l v l [gi v] := ⟨rfl, rfl, hE⟩
      cases hF : ieq (firstS [serE l, withinS x 1 128]) 0 with
      | false =>
        have g2 := heA hF
        have g3 : ieq (heE l x) 0 = false := by rw [g2]; exact hF
        have g4 := vb1 g2
        refine callC_ok mixed orcLv_ok (askLv_ok _ _ _ _ _ _ _) (Eq.mpr (lv_1A es l m k e row v x _) ?_)
        simp only [decT]
        repeat' (first | assumption | exact rfl | exact trivial | apply And.intro)
      | true =>
        have g2 := heB hF
        rw [hm] at g2
        cases hG : ilt (Int.ofNat (m + 1)) x with
        | true =>
          rw [hG] at g2
          have g2 : heE l x = 16 := g2
          have g3 : ieq (heE l x) 0 = false := by rw [g2]; rfl
          have g4 := vb1 g2
          refine callC_ok mixed orcLv_ok (askLv_ok _ _ _ _ _ _ _) (Eq.mpr (lv_1B es l m k e row v x _) ?_)
          simp only [decT]
          repeat' (first | assumption | exact rfl | exact trivial | apply And.intro)
        | false =>
          rw [hG] at g2
          have g2 : heE l x = 0 := g2
          obtain ⟨z1, z2, z3, z4⟩ := he_facts g2
          generalize x.toNat = s at z2 z3 z4
          subst z4
          have g3 : ieq (heE l (Int.ofNat s)) 0 = true := ieq_0 g2
          have g5 : Nat.blt (m + 1) s = false := by rw [Bool.eq_false_iff, ne_eq, Nat.blt_eq]; omega
          have g6 : rhD l s l [goN s] := ⟨rfl, rfl, z2, z3⟩
          have g7 : firstS [serE l, withinS (Int.ofNat s) 1 128] = 0 := by rw [ieq_dec] at hF; exact of_decide_eq_true hF
          have g8 := vb1 g7.symm
          have g9 := vb2 (Int.ofNat (rhS (l.map gi) s (m + 1 + 1 - s)).2.1) (Int.ofNat (rhS (l.map gi) s (m + 1 + 1 - s)).2.2)
          have g10 : ieq (rhS (l.map gi) s (m + 1 + 1 - s)).1 (rhS (l.map gi) s (m + 1 + 1 - s)).1 = true := ieq_self _
          refine callC_ok mixed orcLv_ok (askLv_ok _ _ _ _ _ _ _) (Eq.mpr (lv_1C es l m k e row s v _) ?_)
          simp only [decT]
          repeat' (first | assumption | exact rfl | exact trivial | apply And.intro)
end
end Go.Proofs.YtihnnmejkpddeaaGreatDoor
