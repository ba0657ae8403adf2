/-
  OWN WORK. Farther walls: the law on the abstract machine: true for all tows and bytes.
-/
import Derived.Test.YtfkiiacbchbgdaaGreatDoorFaD
import Derived.Test.YtfkiiacbchbgdaaGreatDoorFaF
namespace Go.Proofs.YtfkiiacbchbgdaaGreatDoor
open Go Go.Am

theorem toNat_of (n : Nat) : Int.toNat (Int.ofNat n) = n := rfl
theorem tmod_of {x : Int} {n : Nat} (h0 : 0 ≤ x) (hn : 0 < n) : ∃ q : Nat, Int.tmod x (Int.ofNat n) = Int.ofNat q ∧ q < n := by
  obtain ⟨X, rfl⟩ := Int.eq_ofNat_of_zero_le h0
  exact ⟨X % n, rfl, Nat.mod_lt _ hn⟩
theorem add_of (r : Nat) : (1 : Int) + Int.ofNat r = Int.ofNat (r + 1) := by simp only [Int.ofNat_eq_natCast]; omega
theorem sub_of (r : Nat) : Int.ofNat (r + 1) - 1 = Int.ofNat r := by simp only [Int.ofNat_eq_natCast]; omega
theorem has_of {r n : Nat} (h : r < n) : ahasIndex (Int.ofNat r) n = true := has_ix (by simp) (by simp only [Int.ofNat_eq_natCast]; omega)
theorem at_of {L : List Int} {j : Nat} (h : j < L.length) : (L.map gi)[0 + j * 1]? = some (gi (L.getD j 0)) := by
  rw [(gi_at h).1, ia_get h]
theorem ble_of {L : List Int} {j : Nat} {v : Value} (h : j < L.length) : Nat.ble ((0 + j * 1) + List.length [v]) (List.length (L.map gi)) = true := by
  rw [Nat.ble_eq, List.length_map]; simp; omega
theorem app_ints (l : List Int) : l.map gi ++ [gi 0] = (l ++ [0]).map gi := by simp
theorem ie_no {e : Int} (h : e = 0) : (!(ieq e 0)) = false := by rw [h]; rfl
abbrev LawF (args : Array Value) (h : AHeap) : Prop := CallJ Tryz.prog 5 args h (fun v _ => v = .bool true)
section
variable (es : Nat → TypeId) (a b c d w x y z : Int)
set_option maxRecDepth 100000 in
theorem far_nil : LawF #[emV nilS a b c d w, by3 x y z] (fB es) := callC_ok mixed orcG4_ok askG4_ok (Eq.mpr (f_nil es a b c d w x y z _) rfl)
set_option maxRecDepth 100000 in
theorem far_emp (k : Nat) : LawF #[emV (.slice (some ⟨Tryz.prog.globals.size, 0, none⟩) 0 k) a b c d w, by3 x y z] ((fB es).push .dead) := callC_ok mixed orcG4_ok askG4_ok (Eq.mpr (f_emp es k a b c d w x y z _) rfl)
set_option maxRecDepth 100000 in
theorem far_good (l : List Int) (m W k e row : Nat) (hm : l.length = m + 1) (hs : ilt 12 (Int.ofNat (m + 1)) = false) (hle : m + 1 ≤ 12) (hc : ctE l.length l (a, b, c, d, Int.ofNat W) = 0)
    (x0 : 0 ≤ x ∧ x ≤ 255) (y0 : 0 ≤ y ∧ y ≤ 255) (z0 : 0 ≤ z ∧ z ≤ 255) : LawF #[towV (m + 1) k a b c d (Int.ofNat W), by3 x y z] (fL (fB es) l e row) := by
  obtain ⟨k1, k2, k3, k4, k5, k6⟩ := ctE_zero hc
  obtain ⟨u1, u2, u3⟩ := u_W hc
  refine callC_ok mixed orcFa_ok (askFa_ok true) (Eq.mpr (f_good es l (rnL a 0 l) a b c d x y z m W k e row _) ?_)
  have hx : fwrap IntKind.i64 x = x := fwrap_mid (by omega) (by omega)
  have hy : fwrap IntKind.i64 y = y := fwrap_mid (by omega) (by omega)
  have hz : fwrap IntKind.i64 z = z := fwrap_mid (by omega) (by omega)
  obtain ⟨q, hq, hq'⟩ := tmod_of (x := y) (n := m + 1) y0.1 (by omega)
  obtain ⟨r, hr, hr'⟩ := tmod_of (x := z) (n := W) z0.1 (by omega)
  have hql : q < l.length := by omega
  have hTl : (rnL a 0 l).length = m + 1 + 1 := by rw [rnL_len]; omega
  have hUl := u_len (l := l) (a := a) u2
  rw [hx, hy, hz, hq, hr]
  simp only [toNat_of, add_of, sub_of, app_ints, decI_map, ia_get hql, splice_ints hql, ia_get (L := rnL a 0 l) (j := r + 1) (by omega), ia_get (L := rnL a 0 l) (j := r) (by omega), ia_get (L := l) (j := r) (by omega), ia_get (L := uT l a W) (j := r + 1) (by omega), ia_get (L := uT l a W) (j := W) (by omega), splice_ints (L := uT l a W) (i := r + 1) (by omega), splice_ints (L := uT l a W) (i := W) (by omega)]
  generalize hcd : (if c + x < 100000 then c + x else 100000) = c'
  generalize hdd : (if d > c' then d else c') = d'
  generalize hvd : (if l.getD q 0 + x < 100000 then l.getD q 0 + x else 100000) = v'
  have hlq := k2 (l.getD q 0) (by rw [List.getD_eq_getElem?_getD, List.getElem?_eq_getElem hql]; exact List.getElem_mem _)
  have hlr := k2 (l.getD r 0) (by rw [List.getD_eq_getElem?_getD, List.getElem?_eq_getElem (by omega : r < l.length)]; exact List.getElem_mem _)
  have hc' : c ≤ c' ∧ c' ≤ 100000 := by rw [← hcd]; split <;> omega
  have hd' : c' ≤ d' ∧ d' ≤ 100000 := by rw [← hdd]; split <;> omega
  have hv' : l.getD q 0 ≤ v' ∧ v' ≤ 100000 := by rw [← hvd]; split <;> omega
  obtain ⟨s1, s2⟩ := la_strong hc hc'.1 hd'.1 hd'.2
  obtain ⟨s3, s4⟩ := la_far hc (by omega)
  obtain ⟨s5, s6⟩ := la_more (q := q) hc hv'.1 hv'.2
  have t1 := u_bd hc (r + 1)
  have t2 := u_bd hc r
  have t3 := u_bd hc W
  have t4 := u_get (l := l) (a := a) (W := W) (j := r + 1) (by omega)
  have t5 := u_get (l := l) (a := a) (W := W) (j := W) (by omega)
  have t6 := rn_step a l 0 r (by omega)
  have hf := flat_ints l
  have ht : towOk (l.map gi) (m + 1) := towOk_of hm (Nat.succ_pos m) (by omega)
  have f1 := ie_no hc
  have f2 : inI64 (c + x) = true := inI64_small (by omega) (by omega)
  have f3 : inI64 (Int.ofNat (W + 1)) = true := inI64_small (by simp only [Int.ofNat_eq_natCast]; omega) (by simp only [Int.ofNat_eq_natCast]; omega)
  have f4 : Nat.ble ((m + 1) + 1) (m + 1) = false := by
    cases e : Nat.ble ((m + 1) + 1) (m + 1) with
    | false => rfl
    | true => rw [Nat.ble_eq] at e; omega
  have f5 : Nat.ble (((2 * ((m + 1) + 1)) + 256) * 8) 281474976710656 = true := by rw [Nat.ble_eq]; omega
  have f6 : (m + 1) * 1 = (l.map gi).length := by rw [List.length_map]; omega
  have f7 := flat_ints (l ++ [0])
  have f8 : towOk ((l ++ [0]).map gi) ((m + 1) + 1) := towOk_of (by simp; omega) (Nat.succ_pos _) (by omega)
  have f9 : Int.ofNat (m + 1) = 0 → False := by simp only [Int.ofNat_eq_natCast]; omega
  have f10 := has_of hq'
  have f11 := at_of hql
  have f12 : inI64 (l.getD q 0 + x) = true := inI64_small (by omega) (by omega)
  have f13 := ble_of (v := gi v') hql
  have f14 := flat_ints (l.set q v')
  have f15 : towOk ((l.set q v').map gi) (m + 1) := towOk_of (by rw [List.length_set]; exact hm) (Nat.succ_pos m) (by omega)
  have f16 : ieq (ctE l.length l (a, b, c, d, Int.ofNat W)) 0 = true := by rw [hc]; rfl
  have f17 := ie_no s1
  have f18 := ie_no s3
  have f19 := ie_no s5
  have f20 := ilt_no s2
  have f21 := ilt_no s4
  have f22 := ilt_no s6
  have f23 : (!(ieq (Int.ofNat (W + 1)) (Int.ofNat (W + 1)))) = false := by rw [ieq_self]; rfl
  have f24 : m + 1 ≤ 65536 := by omega
  have f25 : W + 1 ≤ (rnL a 0 l).length := by omega
  have f26 : W + 1 ≤ 65536 := by omega
  have f27 := pv_pre hc
  repeat' (first | assumption | exact rfl | exact trivial | apply And.intro)
  intro es' g
  have f30 : Int.ofNat W = 0 → False := by simp only [Int.ofNat_eq_natCast]; omega
  have f31 : inI64 (Int.ofNat (r + 1)) = true := inI64_small (by simp only [Int.ofNat_eq_natCast]; omega) (by simp only [Int.ofNat_eq_natCast]; omega)
  have f32 := flat_ints (rnL a 0 l)
  have f33 : itC ((rnL a 0 l).map gi) (W + 1) [] := ⟨by rw [decI_map], Nat.succ_pos W, by rw [decI_map]; omega, by omega, rfl⟩
  have f34 := has_of (r := r + 1) (n := W + 1) (by omega)
  have f35 := at_of (L := uT l a W) (j := r + 1) (by omega)
  have f36 : inI64 (1 + x) = true := inI64_small (by omega) (by omega)
  have f37 : inI64 ((uT l a W).getD (r + 1) 0 - (1 + x)) = true := inI64_small (by omega) (by omega)
  have f38 := ble_of (L := uT l a W) (j := r + 1) (v := gi ((uT l a W).getD (r + 1) 0 - (1 + x))) (by omega)
  have hU1 : r + 1 < ((uT l a W).set (r + 1) ((uT l a W).getD (r + 1) 0 - (1 + x))).length := by rw [List.length_set]; omega
  have hU1v : ((uT l a W).set (r + 1) ((uT l a W).getD (r + 1) 0 - (1 + x))).getD (r + 1) 0 = (uT l a W).getD (r + 1) 0 - (1 + x) := by rw [set_get, if_pos ⟨rfl, by omega⟩]
  have f39 := at_of hU1
  rw [hU1v] at f39
  simp only [ia_get hU1, hU1v]
  have f40 : inI64 (Int.ofNat W) = true := inI64_small (by simp only [Int.ofNat_eq_natCast]; omega) (by simp only [Int.ofNat_eq_natCast]; omega)
  have f41 := has_of (r := W) (n := W + 1) (by omega)
  have f42 := at_of (L := uT l a W) (j := W) (by omega)
  have f43 : inI64 ((uT l a W).getD W 0 + 1) = true := inI64_small (by omega) (by omega)
  have f44 := ble_of (L := uT l a W) (j := W) (v := gi ((uT l a W).getD W 0 + 1)) (by omega)
  have f45 := flat_ints ((uT l a W).set W ((uT l a W).getD W 0 + 1))
  have f46 : towOk (((uT l a W).set W ((uT l a W).getD W 0 + 1)).map gi) (W + 1) := towOk_of (by rw [List.length_set]; exact hUl) (Nat.succ_pos W) (by omega)
  have f47 : ieq (kV l ((uT l a W).set W ((uT l a W).getD W 0 + 1)) (a, b, c, d, Int.ofNat W) (arg0 [gi (Int.ofNat W)])) 19 = true := by
    show ieq (kV l ((uT l a W).set W ((uT l a W).getD W 0 + 1)) (a, b, c, d, Int.ofNat W) (Int.ofNat W)) 19 = true
    rw [kv_great hc]; rfl
  repeat' (first | assumption | exact rfl | exact trivial | apply And.intro)
  · intro hz
    have hv : 0 ≤ (uT l a W).getD (r + 1) 0 - (1 + x) := by
      rw [ilt_say] at hz
      simpa using hz
    have f50 := at_of (L := rnL a 0 l) (j := r + 1) (by omega)
    have f51 := at_of (L := rnL a 0 l) (j := r) (by omega)
    have f52 := at_of (L := l) (j := r) (by omega)
    have f53 : inI64 (Int.ofNat r) = true := inI64_small (by simp only [Int.ofNat_eq_natCast]; omega) (by simp only [Int.ofNat_eq_natCast]; omega)
    have f54 := has_of (r := r) (n := W + 1) (by omega)
    have f55 := has_of (r := r) (n := m + 1) (by omega)
    have f56 : inI64 ((rnL a 0 l).getD r 0 + l.getD r 0) = true := inI64_small (by omega) (by omega)
    have f57 : inI64 ((rnL a 0 l).getD r 0 + l.getD r 0 - a) = true := inI64_small (by omega) (by omega)
    have f58 : inI64 ((rnL a 0 l).getD r 0 + l.getD r 0 - a - 1) = true := inI64_small (by omega) (by omega)
    have f59 : ilt ((rnL a 0 l).getD r 0 + l.getD r 0 - a - 1) ((rnL a 0 l).getD (r + 1) 0) = true := ilt_yes (by rw [t6]; unfold mxN; split <;> omega)
    have f60 := flat_ints ((uT l a W).set (r + 1) ((uT l a W).getD (r + 1) 0 - (1 + x)))
    have f61 : towOk (((uT l a W).set (r + 1) ((uT l a W).getD (r + 1) 0 - (1 + x))).map gi) (W + 1) := towOk_of (by rw [List.length_set]; exact hUl) (Nat.succ_pos W) (by omega)
    have f62 : (!(ieq (kV l ((uT l a W).set (r + 1) ((uT l a W).getD (r + 1) 0 - (1 + x))) (a, b, c, d, Int.ofNat W) (arg0 [gi 0])) 19)) = false := by
      show (!(ieq (kV l ((uT l a W).set (r + 1) ((uT l a W).getD (r + 1) 0 - (1 + x))) (a, b, c, d, Int.ofNat W) 0) 19)) = false
      rw [kv_small hc hr' x0.1 hv]; rfl
    repeat' (first | assumption | exact rfl | exact trivial | apply And.intro)
  · intro hz
    repeat' (first | assumption | exact rfl | exact trivial | apply And.intro)
set_option maxRecDepth 100000 in
theorem far_full (l : List Int) (k e row : Nat) (h0 : 0 < l.length) (x0 : 0 ≤ x ∧ x ≤ 255) (y0 : 0 ≤ y ∧ y ≤ 255) (z0 : 0 ≤ z ∧ z ≤ 255) : LawF #[towV l.length k a b c d w, by3 x y z] (fL (fB es) l e row) := by
  obtain ⟨m, hm⟩ : ∃ m, l.length = m + 1 := ⟨l.length - 1, by omega⟩
  rw [hm]
  cases hs : ilt 12 (Int.ofNat (m + 1)) with
  | true => exact callC_ok mixed orcFa_ok (askFa_ok true) (Eq.mpr (f_long es l a b c d w x y z m k e row _) ⟨hs, rfl⟩)
  | false =>
    have hle : m + 1 ≤ 12 := by
      rw [ilt_say] at hs
      have := of_decide_eq_false hs
      simp only [Int.ofNat_eq_natCast] at this
      omega
    cases hz : ieq (ctE l.length l (a, b, c, d, w)) 0 with
    | false =>
      have hf := flat_ints l
      have ht : towOk (l.map gi) (m + 1) := towOk_of hm (Nat.succ_pos m) (by omega)
      have hn : (!(ieq (ctE l.length l (a, b, c, d, w)) 0)) = true := by rw [hz]; rfl
      refine callC_ok mixed orcFa_ok (askFa_ok true) (Eq.mpr (f_bad es l a b c d w x y z m k e row _) ?_)
      repeat rw [decI_map]
      repeat' (first | assumption | exact rfl | exact trivial | apply And.intro)
    | true =>
      have hc : ctE l.length l (a, b, c, d, w) = 0 := by rw [ieq_dec] at hz; exact of_decide_eq_true hz
      obtain ⟨k1, k2, k3, k4, k5, k6⟩ := ctE_zero hc
      obtain ⟨W, rfl⟩ : ∃ W : Nat, w = Int.ofNat W := by
        obtain ⟨W, rfl⟩ := Int.eq_ofNat_of_zero_le (show 0 ≤ w by omega)
        exact ⟨W, rfl⟩
      exact far_good es a b c d x y z l m W k e row hm hs hle hc x0 y0 z0
end
end Go.Proofs.YtfkiiacbchbgdaaGreatDoor
