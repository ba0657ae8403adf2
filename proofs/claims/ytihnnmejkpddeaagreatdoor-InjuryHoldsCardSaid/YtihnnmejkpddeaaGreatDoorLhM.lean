/-
  OWN WORK. Stage 6: the law on what levels promise: true for all series, levels and bytes.
-/
import Derived.Test.YtihnnmejkpddeaaGreatDoorLhKN
namespace Go.Proofs.YtihnnmejkpddeaaGreatDoor
open Go Go.Am
theorem bool_t {b : Bool} (h : b = true) : Value.bool b = Value.bool true := by rw [h]
theorem nb_zero {x : Int} (h : x = 0) : (!(ieq x 0)) = false := by rw [h]; rfl
theorem ilt_no {a b : Int} (h : b ≤ a) : ilt a b = false := by rw [ilt_say]; exact decide_eq_false (by omega)
theorem ilt_yes {a b : Int} (h : a < b) : ilt a b = true := by rw [ilt_say]; exact decide_eq_true h
theorem blt_noH {a b : Nat} (h : b ≤ a) : Nat.blt a b = false := by rw [Bool.eq_false_iff, ne_eq, Nat.blt_eq]; omega
theorem blt_yes {a b : Nat} (h : a < b) : Nat.blt a b = true := by rw [Nat.blt_eq]; exact h
theorem sub_len {a b n : Nat} (h : a ≤ b) (hb : b ≤ n) (hn : n ≤ 65536) : fwrap IntKind.i64 (Int.ofNat b - Int.ofNat a) = Int.ofNat (b - a) := by
  rw [show Int.ofNat b - Int.ofNat a = Int.ofNat (b - a) by simp only [Int.ofNat_eq_natCast]; omega]
  exact fwrap_nat (by omega)
theorem lv_of {l : List Int} {v : Int} (h : serE l = 0) (h1 : -16384 ≤ v) (h2 : v ≤ 16384) : ieq (lvE l v) 0 = true := by
  have : uE v = 0 := within_of h1 h2
  unfold lvE
  rw [h, this]; rfl
theorem he_of {l : List Int} {s : Nat} (h : serE l = 0) (h0 : 0 < s) (hs : s ≤ l.length) : ieq (heE l (Int.ofNat s)) 0 = true := by
  have h1 := (ser_bd h).1
  have e1 : withinS (Int.ofNat s) 1 128 = 0 := within_of (by simp only [Int.ofNat_eq_natCast]; omega) (by simp only [Int.ofNat_eq_natCast]; omega)
  have e2 : whenS (ilt (Int.ofNat l.length) (Int.ofNat s)) 16 = 0 := by rw [ilt_no (by simp only [Int.ofNat_eq_natCast]; omega)]; rfl
  unfold heE
  rw [h, e1, e2]; rfl
theorem clamp_ok (v : Int) : -16384 ≤ (if ((if (v : Int) > (-16384) then v else (-16384)) : Int) < 16384 then (if (v : Int) > (-16384) then v else (-16384)) else 16384) ∧ (if ((if (v : Int) > (-16384) then v else (-16384)) : Int) < 16384 then (if (v : Int) > (-16384) then v else (-16384)) else 16384) ≤ 16384 := by
  split <;> split <;> constructor <;> omega
theorem tmod_n {u : Int} {n : Nat} (h1 : 0 ≤ u) (h2 : u ≤ 255) (hn : 0 < n) : ∃ t : Nat, t < n ∧ fwrap IntKind.i64 (1 + Int.tmod (fwrap IntKind.i64 u) (Int.ofNat n)) = Int.ofNat (t + 1) := by
  have hp : (0 : Int) < Int.ofNat n := by simp only [Int.ofNat_eq_natCast]; omega
  have a1 := Int.tmod_nonneg (Int.ofNat n) h1
  have a2 := Int.tmod_lt_of_pos u hp
  rw [fwrap_mid (x := u) (by omega) (by omega)]
  have a3 : Int.tmod u (Int.ofNat n) ≤ 255 := by
    obtain ⟨v, rfl⟩ := Int.eq_ofNat_of_zero_le h1
    have : ((v % n : Nat) : Int) ≤ v := Int.ofNat_le.2 (Nat.mod_le _ _)
    have e : Int.tmod (v : Int) (Int.ofNat n) = ((v % n : Nat) : Int) := rfl
    omega
  generalize Int.tmod u (Int.ofNat n) = q at *
  simp only [Int.ofNat_eq_natCast] at a2
  refine ⟨q.toNat, by omega, ?_⟩
  rw [fwrap_mid (by omega) (by omega)]
  simp only [Int.ofNat_eq_natCast]; omega
theorem toNat_n (n : Nat) : (Int.ofNat n).toNat = n := rfl
set_option maxHeartbeats 4000000 in
set_option maxRecDepth 100000 in
theorem hol_f (es : Nat → TypeId) (l : List Int) (k e : Nat) (v16 u w : Int) (h0 : 0 < l.length) (hk : l.length ≤ k) (hu : 0 ≤ u ∧ u ≤ 255) (hw : 0 ≤ w ∧ w ≤ 255) : CallJ Tryz.prog 12 #[liP l.length k, .int .i16 v16, .agg #[.int .u8 u, .int .u8 w]] ((lB6 es).push (.cells (l.map gi) e 0 true)) (fun v _ => v = .bool true) := by
  obtain ⟨m, hm⟩ : ∃ m, l.length = m + 1 := ⟨l.length - 1, by omega⟩
  rw [hm]
  by_cases hb : 16 < m + 1
  · exact callC_ok mixed orcHo_ok askHo_ok (Eq.mpr (hr_big es l m k e 0 v16 u w _) ⟨ilt_yes (by simp only [Int.ofNat_eq_natCast]; omega), rfl⟩)
  have c1 : ilt 16 (Int.ofNat (m + 1)) = false := ilt_no (by simp only [Int.ofNat_eq_natCast]; omega)
  have h1 : m + 1 ≤ 65536 := by omega
  have f1 : List.all (l.map gi) (flat 3) = true := flat_ints l
  have f2 : okT tiT (l.map gi) (m + 1) := okIv hm h1
  have f3 : clCv l [] := rfl
  have f4 : nonC l [] := rfl
  cases hs : ieq (serE l) 0 with
  | false =>
    have c2 : (!(ieq (serE l) 0)) = true := by rw [hs]; rfl
    refine callC_ok mixed orcHo_ok askHo_ok (Eq.mpr (hr_bad es l m k e 0 v16 u w _) ?_)
    simp only [decT]
    repeat' (first | assumption | exact rfl | exact trivial | apply And.intro)
  | true =>
  have hs : serE l = 0 := by rw [ieq_dec] at hs; exact of_decide_eq_true hs
  have c2 : (!(ieq (serE l) 0)) = false := nb_zero hs
  obtain ⟨t, ht, et⟩ := tmod_n hu.1 hu.2 (Nat.succ_pos m)
  have ew : Int.tmod (fwrap IntKind.i64 w) 1001 = w := by
    rw [fwrap_mid (by omega) (by omega)]
    exact Int.tmod_eq_of_lt (by omega) (by omega)
  obtain ⟨lv1, lv2⟩ := clamp_ok (fwrap IntKind.i64 v16)
  generalize elv : (if ((if (fwrap IntKind.i64 v16 : Int) > (-16384) then fwrap IntKind.i64 v16 else (-16384)) : Int) < 16384 then (if (fwrap IntKind.i64 v16 : Int) > (-16384) then fwrap IntKind.i64 v16 else (-16384)) else 16384) = lv at lv1 lv2
  have hsn : t + 1 ≤ l.length := by omega
  have hpt : 0 < t + 1 := Nat.succ_pos t
  have w0 := wn_low hs hpt hsn
  obtain ⟨a1, a2, a3⟩ := hd_at hsn w0
  have a4 := fun {j : Nat} {x : Int} => hd_all (j := j) (x := x) hsn w0
  have a5 := hd_own hpt hsn w0
  have a6 := fun {v : Int} => hd_above (v := v) hpt hsn
  have a7 := fun h h' => hd_less hpt hsn (l := l) h h'
  have eR : rhS (l.map gi) (t + 1) (m + 1 + 1 - (t + 1)) = (hdL l (t + 1), (hdF1 l (t + 1), hdF1 l (t + 1) + (t + 1))) := by
    have : rhS (l.map gi) (t + 1) (l.length + 1 - (t + 1)) = (hdL l (t + 1), (hdF1 l (t + 1), hdF1 l (t + 1) + (t + 1))) := by
      rw [show rhS (l.map gi) (t + 1) (l.length + 1 - (t + 1)) = (hdL l (t + 1), (hdF1 l (t + 1), (rhS (l.map gi) (t + 1) (l.length + 1 - (t + 1))).2.2)) from rfl, a2]
    rw [hm] at this; exact this
  have eR2 : (rhS (l.map gi) (t + 1 + 1) (m + 1 + 1 - (t + 1 + 1))).1 = hdL l (t + 1 + 1) := by
    unfold hdL; rw [hm]
  have hv1 : -16384 ≤ hdL l (t + 1) := by
    have := hd_max (l := l) (s := t + 1) hsn (p := 0) (by omega); omega
  have hv2 : hdL l (t + 1) ≤ 16384 := by
    have hj : hdF1 l (t + 1) < l.length := by omega
    have q1 := a4 (Nat.le_refl _) (by omega) (List.getElem?_eq_getElem hj)
    have q2 := (ser_zero hs).1 _ (List.getElem_mem hj)
    omega
  generalize hdL l (t + 1) = hv at *
  generalize hdF1 l (t + 1) = p at *
  have et2 : fwrap IntKind.i64 (Int.ofNat (t + 1 + 1)) = Int.ofNat (t + 1 + 1) := fwrap_nat (by omega)
  have ehv : fwrap IntKind.i64 (hv + 1) = hv + 1 := fwrap_mid (by omega) (by omega)
  obtain ⟨g1, g1'⟩ := lg_ok lv l
  obtain ⟨g2, g2'⟩ := lg_ok hv l
  obtain ⟨g3, g3'⟩ := lg_ok (hv + 1) l
  rw [hm] at g1' g2' g3'
  have e2 := sub_len g2 g2' h1
  have e3 := sub_len g3 g3' h1
  have e4 : fwrap IntKind.i64 (Int.ofNat (p + (t + 1)) - Int.ofNat p) = Int.ofNat (t + 1) := by
    rw [sub_len (n := m + 1) (by omega) (by omega) h1, show p + (t + 1) - p = t + 1 by omega]
  have k1 : hvC (l.map gi) (m + 1) (m + 1) 2 [gi (Int.ofNat (t + 1))] := ⟨f2, rfl, Nat.le_refl _, rfl⟩
  have k2 : ieq (heE l (Int.ofNat (t + 1))) 0 = true := he_of hs hpt hsn
  have k3 : ((!(ilt (Int.ofNat p) 0)) && (Nat.blt p (p + (t + 1)) && (!(Nat.blt (m + 1) (p + (t + 1)))))) = true := by
    rw [ilt_no (by simp only [Int.ofNat_eq_natCast]; omega), blt_yes (by omega), blt_noH (by omega)]; rfl
  have k4 : (!(ieq (Int.ofNat (t + 1)) (Int.ofNat (t + 1)))) = false := by rw [ieq_self]; rfl
  have k5 : (!(ieq (uE hv) 0)) = false := nb_zero (within_of hv1 hv2)
  have k6 : (0 : Int) ≤ Int.ofNat p := by simp only [Int.ofNat_eq_natCast]; omega
  have k7 : (Int.ofNat p : Int) ≤ Int.ofNat (p + (t + 1)) := by simp only [Int.ofNat_eq_natCast]; omega
  have k8 : (Int.ofNat (p + (t + 1)) : Int) ≤ Int.ofNat k := by simp only [Int.ofNat_eq_natCast]; omega
  have k9 : (Int.ofNat p : Int) < Int.ofNat k := by simp only [Int.ofNat_eq_natCast]; omega
  have k10 : p + (t + 1) - p = t + 1 := by omega
  have k11 : hoS l (0 + (p * 1)) (t + 1) hv := ⟨by omega, by omega, fun j x h h' hx => a4 (by omega) (by omega) hx⟩
  have k12 : lvC l [gi lv] := rfl
  have k13 : lvC l [gi hv] := rfl
  have k14 : lvC l [gi (hv + 1)] := rfl
  have k15 := lv_of hs lv1 lv2
  have k16 := lv_of hs hv1 hv2
  have k17 : ilt (Int.ofNat (lgE lv l).1) 0 = false := ilt_no (by simp only [Int.ofNat_eq_natCast]; omega)
  have k18 : Nat.blt (lgE lv l).2 (lgE lv l).1 = false := blt_noH g1
  have k19 : Nat.blt (m + 1) (lgE lv l).2 = false := blt_noH g1'
  have k20 : ilt (Int.ofNat ((lgE hv l).2 - (lgE hv l).1)) (Int.ofNat (t + 1)) = false := ilt_no (by simp only [Int.ofNat_eq_natCast]; omega)
  have k21 : (!(ilt (Int.ofNat ((lgE (hv + 1) l).2 - (lgE (hv + 1) l).1)) (Int.ofNat (t + 1)))) = false := by
    have := a6 (v := hv + 1) (by omega)
    rw [ilt_yes (by simp only [Int.ofNat_eq_natCast]; omega)]; rfl
  have k22 : hvC (l.map gi) (m + 1) (m + 1) 2 [gi (Int.ofNat (t + 1 + 1))] := ⟨f2, rfl, Nat.le_refl _, rfl⟩
  have k23 : (List.length l = (m + 1) ∧ hoS l (0 + (p * 1)) (t + 1) hv) := ⟨hm, k11⟩
  have k24 : ((m + 1) : Nat) ≤ 65536 := h1
  have k25 : (0 : Nat) < m + 1 := Nat.succ_pos m
  have lf : (fcL l).length = m + 1 := by rw [fcL_len]; exact hm
  have k26 : List.all ((fcL l).map gi) (flat 3) = true := flat_ints _
  have k27 : okT tiT ((fcL l).map gi) (m + 1) := okIv lf h1
  have k28 : clCv (fcL l) [] := rfl
  have k29 : mmC l (fcL l) [gi w] := rfl
  have sf : serE (fcL l) = 0 := fc_ser h0 (by omega)
  have k30 : ieq (mmE l (fcL l) w) 0 = true := ieq_z (mm_of hs sf (by rw [hm, lf]) (by omega) (by omega))
  have k31 : (!(ieq (Int.ofNat (m + 1)) (Int.ofNat (m + 1)))) = false := by rw [ieq_self]; rfl
  have lm : (moL w l (fcL l)).length = m + 1 := by unfold moL; rw [List.length_zipWith, lf, hm]; omega
  have k32 : List.all ((moL w l (fcL l)).map gi) (flat 3) = true := flat_ints _
  have k33 : okT tiT ((moL w l (fcL l)).map gi) (m + 1) := okIv lm h1
  have k34 : nonC (moL w l (fcL l)) [] := rfl
  have k35 : clCv (moL w l (fcL l)) [] := rfl
  have ez : IntKind.wrap .i64 (0 - w) = 0 - w := wrap64 (by omega) (by omega)
  have k36 : mmC (moL w l (fcL l)) (fcL l) [gi (0 - w)] := rfl
  have ebk : moL (0 - w) (moL w l (fcL l)) (fcL l) = l := mo_back w l (fcL l) (by rw [hm, lf])
  have k37 : siC [liP (m + 1) (m + 1), slQ (m + 1) k] [Prod.mk (l.map gi) (Prod.mk 3 2), Prod.mk (l.map gi) (Prod.mk e 0)] := .inr ⟨l, m, m + 1, 3, 2, k, e, 0, rfl, rfl, by omega, by omega⟩
  have k38 : Value.bool (ieq (Int.ofNat (kpL lv l).length) (Int.ofNat (kpL lv l).length)) = Value.bool true := bool_t (ieq_self _)
  cases b1 : ilt hv 16384 with
  | true =>
    have hv3 : hv + 1 ≤ 16384 := by rw [ilt_say] at b1; have := of_decide_eq_true b1; omega
    have j1 := lv_of hs (v := hv + 1) (by omega) hv3
    cases b2 : Nat.blt (t + 1) (m + 1) with
    | true =>
      have hsn2 : t + 1 + 1 ≤ l.length := by have := blt_true b2; omega
      have j2 : ieq (heE l (Int.ofNat (t + 1 + 1))) 0 = true := he_of hs (by omega) hsn2
      have j3 : ilt hv (hdL l (t + 1 + 1)) = false := ilt_no (a7 hsn2 (wn_low hs (by omega) hsn2))
      cases b3 : ieq (serE (moL w l (fcL l))) 0 with
      | true =>
        have sm : serE (moL w l (fcL l)) = 0 := by rw [ieq_dec] at b3; exact of_decide_eq_true b3
        have j4 : ieq (mmE (moL w l (fcL l)) (fcL l) (0 - w)) 0 = true := ieq_z (mm_of sm sf (by rw [lm, lf]) (by omega) (by omega))
        refine callC_ok mixed orcHo_ok askHo_ok (Eq.mpr (hr_111 es l m k e 0 t p (p + (t + 1)) v16 u w lv hv (Int.ofNat (kpL lv l).length) (Int.ofNat (kpL lv l).length) w _) ?_)
        simp only [decT, forall_eq', List.cons.injEq, and_true, true_and, Value.int.injEq, et, toNat_n, eR, eR2, et2, ehv, e2, e3, e4, elv, ew, ez, ebk]
        repeat' (first | assumption | exact rfl | exact trivial | refine ⟨t, ?_⟩ | apply And.intro | intro _)
      | false =>
        refine callC_ok mixed orcHo_ok askHo_ok (Eq.mpr (hr_110 es l m k e 0 t p (p + (t + 1)) v16 u w lv hv (Int.ofNat (kpL lv l).length) (Int.ofNat (kpL lv l).length) w _) ?_)
        simp only [decT, forall_eq', List.cons.injEq, and_true, true_and, Value.int.injEq, et, toNat_n, eR, eR2, et2, ehv, e2, e3, e4, elv, ew, ez, ebk]
        repeat' (first | assumption | exact rfl | exact trivial | refine ⟨t, ?_⟩ | apply And.intro | intro _)
    | false =>
      cases b3 : ieq (serE (moL w l (fcL l))) 0 with
      | true =>
        have sm : serE (moL w l (fcL l)) = 0 := by rw [ieq_dec] at b3; exact of_decide_eq_true b3
        have j4 : ieq (mmE (moL w l (fcL l)) (fcL l) (0 - w)) 0 = true := ieq_z (mm_of sm sf (by rw [lm, lf]) (by omega) (by omega))
        refine callC_ok mixed orcHo_ok askHo_ok (Eq.mpr (hr_101 es l m k e 0 t p (p + (t + 1)) v16 u w lv hv (Int.ofNat (kpL lv l).length) (Int.ofNat (kpL lv l).length) w _) ?_)
        simp only [decT, forall_eq', List.cons.injEq, and_true, true_and, Value.int.injEq, et, toNat_n, eR, eR2, et2, ehv, e2, e3, e4, elv, ew, ez, ebk]
        repeat' (first | assumption | exact rfl | exact trivial | refine ⟨t, ?_⟩ | apply And.intro | intro _)
      | false =>
        refine callC_ok mixed orcHo_ok askHo_ok (Eq.mpr (hr_100 es l m k e 0 t p (p + (t + 1)) v16 u w lv hv (Int.ofNat (kpL lv l).length) (Int.ofNat (kpL lv l).length) w _) ?_)
        simp only [decT, forall_eq', List.cons.injEq, and_true, true_and, Value.int.injEq, et, toNat_n, eR, eR2, et2, ehv, e2, e3, e4, elv, ew, ez, ebk]
        repeat' (first | assumption | exact rfl | exact trivial | refine ⟨t, ?_⟩ | apply And.intro | intro _)
  | false =>
    cases b2 : Nat.blt (t + 1) (m + 1) with
    | true =>
      have hsn2 : t + 1 + 1 ≤ l.length := by have := blt_true b2; omega
      have j2 : ieq (heE l (Int.ofNat (t + 1 + 1))) 0 = true := he_of hs (by omega) hsn2
      have j3 : ilt hv (hdL l (t + 1 + 1)) = false := ilt_no (a7 hsn2 (wn_low hs (by omega) hsn2))
      cases b3 : ieq (serE (moL w l (fcL l))) 0 with
      | true =>
        have sm : serE (moL w l (fcL l)) = 0 := by rw [ieq_dec] at b3; exact of_decide_eq_true b3
        have j4 : ieq (mmE (moL w l (fcL l)) (fcL l) (0 - w)) 0 = true := ieq_z (mm_of sm sf (by rw [lm, lf]) (by omega) (by omega))
        refine callC_ok mixed orcHo_ok askHo_ok (Eq.mpr (hr_011 es l m k e 0 t p (p + (t + 1)) v16 u w lv hv (Int.ofNat (kpL lv l).length) (Int.ofNat (kpL lv l).length) w _) ?_)
        simp only [decT, forall_eq', List.cons.injEq, and_true, true_and, Value.int.injEq, et, toNat_n, eR, eR2, et2, ehv, e2, e3, e4, elv, ew, ez, ebk]
        repeat' (first | assumption | exact rfl | exact trivial | refine ⟨t, ?_⟩ | apply And.intro | intro _)
      | false =>
        refine callC_ok mixed orcHo_ok askHo_ok (Eq.mpr (hr_010 es l m k e 0 t p (p + (t + 1)) v16 u w lv hv (Int.ofNat (kpL lv l).length) (Int.ofNat (kpL lv l).length) w _) ?_)
        simp only [decT, forall_eq', List.cons.injEq, and_true, true_and, Value.int.injEq, et, toNat_n, eR, eR2, et2, ehv, e2, e3, e4, elv, ew, ez, ebk]
        repeat' (first | assumption | exact rfl | exact trivial | refine ⟨t, ?_⟩ | apply And.intro | intro _)
    | false =>
      cases b3 : ieq (serE (moL w l (fcL l))) 0 with
      | true =>
        have sm : serE (moL w l (fcL l)) = 0 := by rw [ieq_dec] at b3; exact of_decide_eq_true b3
        have j4 : ieq (mmE (moL w l (fcL l)) (fcL l) (0 - w)) 0 = true := ieq_z (mm_of sm sf (by rw [lm, lf]) (by omega) (by omega))
        refine callC_ok mixed orcHo_ok askHo_ok (Eq.mpr (hr_001 es l m k e 0 t p (p + (t + 1)) v16 u w lv hv (Int.ofNat (kpL lv l).length) (Int.ofNat (kpL lv l).length) w _) ?_)
        simp only [decT, forall_eq', List.cons.injEq, and_true, true_and, Value.int.injEq, et, toNat_n, eR, eR2, et2, ehv, e2, e3, e4, elv, ew, ez, ebk]
        repeat' (first | assumption | exact rfl | exact trivial | refine ⟨t, ?_⟩ | apply And.intro | intro _)
      | false =>
        refine callC_ok mixed orcHo_ok askHo_ok (Eq.mpr (hr_000 es l m k e 0 t p (p + (t + 1)) v16 u w lv hv (Int.ofNat (kpL lv l).length) (Int.ofNat (kpL lv l).length) w _) ?_)
        simp only [decT, forall_eq', List.cons.injEq, and_true, true_and, Value.int.injEq, et, toNat_n, eR, eR2, et2, ehv, e2, e3, e4, elv, ew, ez, ebk]
        repeat' (first | assumption | exact rfl | exact trivial | refine ⟨t, ?_⟩ | apply And.intro | intro _)
set_option maxRecDepth 100000 in
theorem hol_n (es : Nat → TypeId) (v16 u w : Int) : CallJ Tryz.prog 12 #[nilS, .int .i16 v16, .agg #[.int .u8 u, .int .u8 w]] (lB6 es) (fun v _ => v = .bool true) :=
  callC_ok mixed orcLw_ok askLw_ok (Eq.mpr (hr_n es v16 u w _) rfl)
set_option maxRecDepth 100000 in
theorem hol_e (es : Nat → TypeId) (q : Nat) (v16 u w : Int) : CallJ Tryz.prog 12 #[.slice (some ⟨Tryz.prog.globals.size, 0, none⟩) 0 q, .int .i16 v16, .agg #[.int .u8 u, .int .u8 w]] ((lB6 es).push .dead) (fun v _ => v = .bool true) :=
  callC_ok mixed orcLw_ok askLw_ok (Eq.mpr (hr_e es q v16 u w _) rfl)
end Go.Proofs.YtihnnmejkpddeaaGreatDoor
