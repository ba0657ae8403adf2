/-
  OWN WORK. Stage 8: the law of lanes on the abstract machine, where a list is empty.
-/
import Derived.Test.YtkggjnjiggekeaaGreatDoorPuY
import Derived.Test.YtkggjnjiggekeaaGreatDoorPuZ
namespace Go.Proofs.YtkggjnjiggekeaaGreatDoor
open Go Go.Am

section
variable (es : Nat → TypeId)
set_option maxRecDepth 100000 in
theorem lan_nn : LawP #[nilS, nilS] (lB es) := callC_ok mixed (wkO_ok orcPj_ok) (skipA_ok (askPj_ok 1)) (Eq.mpr (lz_nn es _) rfl)
set_option maxRecDepth 100000 in
theorem lan_ne (q : Nat) : LawP #[nilS, dS 0 q] ((lB es).push .dead) := callC_ok mixed (wkO_ok orcPj_ok) (skipA_ok (askPj_ok 1)) (Eq.mpr (lz_ne es q _) rfl)
set_option maxRecDepth 100000 in
theorem lan_en (q : Nat) : LawP #[dS 0 q, nilS] ((lB es).push .dead) := callC_ok mixed (wkO_ok orcPj_ok) (skipA_ok (askPj_ok 1)) (Eq.mpr (lz_en es q _) rfl)
set_option maxRecDepth 100000 in
theorem lan_ee (q q' : Nat) : LawP #[dS 0 q, dS 1 q'] (((lB es).push .dead).push .dead) := callC_ok mixed (wkO_ok orcPj_ok) (skipA_ok (askPj_ok 1)) (Eq.mpr (lz_ee es q q' _) rfl)
theorem len_cases (m : Nat) : (ilt 20 (Int.ofNat (m + 1)) = false ∧ m + 1 ≤ 20) ∨ (ilt 20 (Int.ofNat (m + 1)) = true ∧ (!(ieq (Int.ofNat (m + 1)) 65)) = true) ∨ (ilt 20 (Int.ofNat (m + 1)) = true ∧ (!(ieq (Int.ofNat (m + 1)) 65)) = false ∧ m + 1 = 65) := by
  by_cases h : m + 1 ≤ 20
  · exact .inl ⟨by rw [ilt_say]; exact decide_eq_false (by simp only [Int.ofNat_eq_natCast]; omega), h⟩
  · have h1 : ilt 20 (Int.ofNat (m + 1)) = true := by rw [ilt_say]; exact decide_eq_true (by simp only [Int.ofNat_eq_natCast]; omega)
    by_cases h2 : m + 1 = 65
    · exact .inr (.inr ⟨h1, by rw [h2]; rfl, h2⟩)
    · refine .inr (.inl ⟨h1, ?_⟩)
      have : ieq (Int.ofNat (m + 1)) 65 = false := by rw [ieq_dec]; exact decide_eq_false (by simp only [Int.ofNat_eq_natCast]; omega)
      rw [this]; rfl
set_option maxRecDepth 100000 in
theorem lan_nf (p : List Int) (k e row : Nat) (h0 : 0 < p.length) : LawP #[nilS, liP p.length k] (lI (lB es) p e row) := by
  obtain ⟨m, hm⟩ : ∃ m, p.length = m + 1 := ⟨p.length - 1, by omega⟩
  rw [hm]
  rcases len_cases m with ⟨h1, h2⟩ | ⟨h1, h2⟩ | ⟨h1, h2, h3⟩
  · have hg := flat_ints p
    have hp1 : okT tiT (p.map gi) (m + 1) := okI hm (by omega)
    have hq3 := ieq_self (pulE p)
    have hsn := siN
    have hpC : pC p [] := ⟨rfl, .inl (by omega)⟩
    cases hw : ieq (pulE p) 0 with
    | false =>
      refine callC_ok mixed orcLx_ok (askLx_ok false (m + 1)) (Eq.mpr (lx_ns0 es p m k e row _) ?_)
      simp only [decT]
      repeat' (first | assumption | exact rfl | exact trivial | apply And.intro)
    | true =>
      have w0 : pulE p = 0 := by rw [ieq_dec] at hw; exact of_decide_eq_true hw
      have hw' : ieq 0 (pulE p) = true := by rw [w0]; rfl
      obtain ⟨s1, s2⟩ := su_two (pulE_zero w0) (by omega)
      have hA := flat_ints (sumL 0 p)
      have hA1 : okT tiT ((sumL 0 p).map gi) (m + 1) := okI (by rw [sumL_len]; exact hm) (by omega)
      have hB := flat_ints (sumL 0 (sumL 0 p))
      have hS1 : ∀ a b e1 r1 e2 r2 : Nat, siC [liP (m + 1) a, slQ (m + 1) b] [((sumL 0 p).map gi, e1, r1), ((sumL 0 p).map gi, e2, r2)] := fun a b e1 r1 e2 r2 => si_of (by rw [sumL_len]; omega) (by omega)
      have hS2 : ∀ a b e1 r1 e2 r2 : Nat, siC [liP (m + 1) a, slQ (m + 1) b] [((sumL 0 (sumL 0 p)).map gi, e1, r1), ((sumL 0 (sumL 0 p)).map gi, e2, r2)] := fun a b e1 r1 e2 r2 => si_of (by rw [sumL_len, sumL_len]; omega) (by omega)
      refine callC_ok mixed orcLx_ok (askLx_ok true (m + 1)) (Eq.mpr (lx_ns1 es p m k e row _) ?_)
      simp only [decT]
      repeat' (first | assumption | exact rfl | exact trivial | exact hS1 _ _ _ _ _ _ | exact hS2 _ _ _ _ _ _ | apply And.intro)
  · exact callC_ok mixed orcLx_ok (askLx_ok false (m + 1)) (Eq.mpr (lx_nl es p m k e row _) ⟨h1, h2, rfl⟩)
  · have hg := flat_ints p
    have hp1 : okT tiT (p.map gi) (m + 1) := okI hm (by omega)
    have hq3 := ieq_self (pulE p)
    have hsn := siN
    have hw : ieq (pulE p) 0 = false := by
      cases h : ieq (pulE p) 0 with
      | false => rfl
      | true => have := pu_le h; omega
    have hpC : pC p [] := ⟨rfl, .inr hw⟩
    refine callC_ok mixed orcLx_ok (askLx_ok false (m + 1)) (Eq.mpr (lx_nx0 es p m k e row _) ?_)
    simp only [decT]
    repeat' (first | assumption | exact rfl | exact trivial | apply And.intro)
set_option maxRecDepth 100000 in
theorem lan_ef (q : Nat) (p : List Int) (k e row : Nat) (h0 : 0 < p.length) : LawP #[dS 0 q, slQ p.length k] (lI ((lB es).push .dead) p e row) := by
  obtain ⟨m, hm⟩ : ∃ m, p.length = m + 1 := ⟨p.length - 1, by omega⟩
  rw [hm]
  rcases len_cases m with ⟨h1, h2⟩ | ⟨h1, h2⟩ | ⟨h1, h2, h3⟩
  · have hg := flat_ints p
    have hp1 : okT tiT (p.map gi) (m + 1) := okI hm (by omega)
    have hq3 := ieq_self (pulE p)
    have hsn := siN
    have hpC : pC p [] := ⟨rfl, .inl (by omega)⟩
    cases hw : ieq (pulE p) 0 with
    | false =>
      refine callC_ok mixed orcLx_ok (askLx_ok false (m + 1)) (Eq.mpr (lx_es0 es p q m k e row _) ?_)
      simp only [decT]
      repeat' (first | assumption | exact rfl | exact trivial | apply And.intro)
    | true =>
      have w0 : pulE p = 0 := by rw [ieq_dec] at hw; exact of_decide_eq_true hw
      have hw' : ieq 0 (pulE p) = true := by rw [w0]; rfl
      obtain ⟨s1, s2⟩ := su_two (pulE_zero w0) (by omega)
      have hA := flat_ints (sumL 0 p)
      have hA1 : okT tiT ((sumL 0 p).map gi) (m + 1) := okI (by rw [sumL_len]; exact hm) (by omega)
      have hB := flat_ints (sumL 0 (sumL 0 p))
      have hS1 : ∀ a b e1 r1 e2 r2 : Nat, siC [liP (m + 1) a, slQ (m + 1) b] [((sumL 0 p).map gi, e1, r1), ((sumL 0 p).map gi, e2, r2)] := fun a b e1 r1 e2 r2 => si_of (by rw [sumL_len]; omega) (by omega)
      have hS2 : ∀ a b e1 r1 e2 r2 : Nat, siC [liP (m + 1) a, slQ (m + 1) b] [((sumL 0 (sumL 0 p)).map gi, e1, r1), ((sumL 0 (sumL 0 p)).map gi, e2, r2)] := fun a b e1 r1 e2 r2 => si_of (by rw [sumL_len, sumL_len]; omega) (by omega)
      refine callC_ok mixed orcLx_ok (askLx_ok true (m + 1)) (Eq.mpr (lx_es1 es p q m k e row _) ?_)
      simp only [decT]
      repeat' (first | assumption | exact rfl | exact trivial | exact hS1 _ _ _ _ _ _ | exact hS2 _ _ _ _ _ _ | apply And.intro)
  · exact callC_ok mixed orcLx_ok (askLx_ok false (m + 1)) (Eq.mpr (lx_el es p q m k e row _) ⟨h1, h2, rfl⟩)
  · have hg := flat_ints p
    have hp1 : okT tiT (p.map gi) (m + 1) := okI hm (by omega)
    have hq3 := ieq_self (pulE p)
    have hsn := siN
    have hw : ieq (pulE p) 0 = false := by
      cases h : ieq (pulE p) 0 with
      | false => rfl
      | true => have := pu_le h; omega
    have hpC : pC p [] := ⟨rfl, .inr hw⟩
    refine callC_ok mixed orcLx_ok (askLx_ok false (m + 1)) (Eq.mpr (lx_ex0 es p q m k e row _) ?_)
    simp only [decT]
    repeat' (first | assumption | exact rfl | exact trivial | apply And.intro)
set_option maxRecDepth 100000 in
theorem lan_fn (c : List P2) (k e row : Nat) (h0 : 0 < c.length) : LawP #[liP c.length k, nilS] (lP (lB es) c e row) := by
  obtain ⟨m, hm⟩ : ∃ m, c.length = m + 1 := ⟨c.length - 1, by omega⟩
  rw [hm]
  have hf := cellsP_flat c
  have hq1 := ieq_self (corE c)
  have hq2 := ieq_self (iE c [])
  have hq2' : ieq (iE c []) (firstS [corE c, fitE c []]) = true := hq2
  have hz : ieq (iE c []) 0 = false := by
    have := iE_nil (c := c) (by omega)
    cases h : ieq (iE c []) 0 with
    | false => rfl
    | true => rw [h] at this; cases this
  have hz' : ieq (firstS [corE c, fitE c []]) 0 = false := hz
  rcases len_cases m with ⟨h1, h2⟩ | ⟨h1, h2⟩ | ⟨h1, h2, h3⟩
  · have hc1 : okT tpT (cellsP c) (m + 1) := okP hm (by omega)
    refine callC_ok mixed orcLy_ok (askLy_ok (m + 1)) (Eq.mpr (ly_ns es c m k e row _) ?_)
    simp only [decU]
    repeat' (first | assumption | exact rfl | exact trivial | apply And.intro)
  · exact callC_ok mixed orcLy_ok (askLy_ok (m + 1)) (Eq.mpr (ly_nl es c m k e row _) ⟨h1, h2, rfl⟩)
  · have hc1 : okT tpT (cellsP c) (m + 1) := okP hm (by omega)
    refine callC_ok mixed orcLy_ok (askLy_ok (m + 1)) (Eq.mpr (ly_nx es c m k e row _) ?_)
    simp only [decU]
    repeat' (first | assumption | exact rfl | exact trivial | apply And.intro)
set_option maxRecDepth 100000 in
theorem lan_fe (q : Nat) (c : List P2) (k e row : Nat) (h0 : 0 < c.length) : LawP #[liP c.length k, dS 1 q] ((lP (lB es) c e row).push .dead) := by
  obtain ⟨m, hm⟩ : ∃ m, c.length = m + 1 := ⟨c.length - 1, by omega⟩
  rw [hm]
  have hf := cellsP_flat c
  have hq1 := ieq_self (corE c)
  have hq2 := ieq_self (iE c [])
  have hq2' : ieq (iE c []) (firstS [corE c, fitE c []]) = true := hq2
  have hz : ieq (iE c []) 0 = false := by
    have := iE_nil (c := c) (by omega)
    cases h : ieq (iE c []) 0 with
    | false => rfl
    | true => rw [h] at this; cases this
  have hz' : ieq (firstS [corE c, fitE c []]) 0 = false := hz
  rcases len_cases m with ⟨h1, h2⟩ | ⟨h1, h2⟩ | ⟨h1, h2, h3⟩
  · have hc1 : okT tpT (cellsP c) (m + 1) := okP hm (by omega)
    refine callC_ok mixed orcLy_ok (askLy_ok (m + 1)) (Eq.mpr (ly_es es c q m k e row _) ?_)
    simp only [decU]
    repeat' (first | assumption | exact rfl | exact trivial | apply And.intro)
  · exact callC_ok mixed orcLy_ok (askLy_ok (m + 1)) (Eq.mpr (ly_el es c q m k e row _) ⟨h1, h2, rfl⟩)
  · have hc1 : okT tpT (cellsP c) (m + 1) := okP hm (by omega)
    refine callC_ok mixed orcLy_ok (askLy_ok (m + 1)) (Eq.mpr (ly_ex es c q m k e row _) ?_)
    simp only [decU]
    repeat' (first | assumption | exact rfl | exact trivial | apply And.intro)
end
end Go.Proofs.YtkggjnjiggekeaaGreatDoor
