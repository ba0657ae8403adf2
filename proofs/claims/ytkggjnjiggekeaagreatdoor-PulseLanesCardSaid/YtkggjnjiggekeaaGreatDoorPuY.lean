/-
  OWN WORK. Stage 8: the law of lanes on the abstract machine, where both lists have elements.
-/
import Derived.Test.YtkggjnjiggekeaaGreatDoorPuX
namespace Go.Proofs.YtkggjnjiggekeaaGreatDoor
open Go Go.Am

abbrev LawP (args : Array Value) (h : AHeap) : Prop := CallJ Tryz.prog 4 args h (fun v _ => v = .bool true)
theorem ieq_eq {x y : Int} (h : x = y) : ieq x y = true := by rw [h, ieq_self]
theorem si_of {l : List Int} {n e row e' row' k k' : Nat} (hn : n + 1 ≤ l.length) (h1 : n + 1 ≤ 65536) : siC [liP (n + 1) k, slQ (n + 1) k'] [(l.map gi, e, row), (l.map gi, e', row')] := .inr ⟨l, n, k, e, row, k', e', row', rfl, rfl, hn, h1⟩
theorem siN : siC [nilS, nilS] [] := .inl ⟨rfl, rfl⟩
theorem ie_le {c : List P2} {p : List Int} (h : ieq (iE c p) 0 = true) : c.length ≤ 64 ∧ c.length = p.length := by
  obtain ⟨_, h2, h3, _⟩ := iE_zero (c := c) (p := p) (by rw [ieq_dec] at h; exact of_decide_eq_true h)
  exact ⟨h3, h2⟩
theorem pu_le {p : List Int} (h : ieq (pulE p) 0 = true) : p.length ≤ 64 := by
  have h0 : pulE p = 0 := by rw [ieq_dec] at h; exact of_decide_eq_true h
  exact cnt_zero (firstS_none h0 _ (.head _))
section
variable (es : Nat → TypeId) (c : List P2) (p : List Int) (k e row k' e' row' : Nat)
set_option maxRecDepth 100000 in
set_option maxHeartbeats 4000000 in
theorem lan_ff (h0 : 0 < c.length) (h0' : 0 < p.length) : LawP #[liP c.length k, slQ p.length k'] (lI (lP (lB es) c e row) p e' row') := by
  obtain ⟨m, hm⟩ : ∃ m, c.length = m + 1 := ⟨c.length - 1, by omega⟩
  obtain ⟨m', hm'⟩ : ∃ m', p.length = m' + 1 := ⟨p.length - 1, by omega⟩
  rw [hm, hm']
  have g1 : ilt 20 (Int.ofNat (m + 1)) = true → ieq (Int.ofNat (m + 1)) 65 = true → m + 1 = 65 := fun _ h => by
    rw [ieq_dec] at h; have := of_decide_eq_true h; simp only [Int.ofNat_eq_natCast] at this; omega
  have g2 : ilt 20 (Int.ofNat (m' + 1)) = true → ieq (Int.ofNat (m' + 1)) 65 = true → m' + 1 = 65 := fun _ h => by
    rw [ieq_dec] at h; have := of_decide_eq_true h; simp only [Int.ofNat_eq_natCast] at this; omega
  have g3 : ilt 20 (Int.ofNat (m + 1)) = false → m + 1 ≤ 20 := fun h => by
    rw [ilt_say] at h; have := of_decide_eq_false h; simp only [Int.ofNat_eq_natCast] at this; omega
  have g4 : ilt 20 (Int.ofNat (m' + 1)) = false → m' + 1 ≤ 20 := fun h => by
    rw [ilt_say] at h; have := of_decide_eq_false h; simp only [Int.ofNat_eq_natCast] at this; omega
  by_cases hbig : ilt 20 (Int.ofNat (m + 1)) = true ∧ ieq (Int.ofNat (m + 1)) 65 = false
  · exact callC_ok mixed orcLa_ok (askLa_ok true true (m + 1)) (Eq.mpr (ln_c es c p m k e row m' k' e' row' _) ⟨hbig.1, by rw [hbig.2]; rfl, rfl⟩)
  by_cases hbig' : ilt 20 (Int.ofNat (m' + 1)) = true ∧ ieq (Int.ofNat (m' + 1)) 65 = false
  · cases hc : ilt 20 (Int.ofNat (m + 1)) with
    | false => exact callC_ok mixed orcLa_ok (askLa_ok true true (m + 1)) (Eq.mpr (ln_p0 es c p m k e row m' k' e' row' _) ⟨hc, hbig'.1, by rw [hbig'.2]; rfl, rfl⟩)
    | true =>
      have h5 : ieq (Int.ofNat (m + 1)) 65 = true := by
        cases h : ieq (Int.ofNat (m + 1)) 65 with
        | true => rfl
        | false => exact absurd ⟨hc, h⟩ hbig
      exact callC_ok mixed orcLa_ok (askLa_ok true true (m + 1)) (Eq.mpr (ln_p1 es c p m k e row m' k' e' row' _) ⟨hc, by rw [h5]; rfl, hbig'.1, by rw [hbig'.2]; rfl, rfl⟩)
  have c65 : ilt 20 (Int.ofNat (m + 1)) = true → (!(ieq (Int.ofNat (m + 1)) 65)) = false := fun hc => by
    cases h : ieq (Int.ofNat (m + 1)) 65 with
    | true => rfl
    | false => exact absurd ⟨hc, h⟩ hbig
  have p65 : ilt 20 (Int.ofNat (m' + 1)) = true → (!(ieq (Int.ofNat (m' + 1)) 65)) = false := fun hc => by
    cases h : ieq (Int.ofNat (m' + 1)) 65 with
    | true => rfl
    | false => exact absurd ⟨hc, h⟩ hbig'
  have cL : m + 1 ≤ 20 ∨ m + 1 = 65 := by
    cases hc : ilt 20 (Int.ofNat (m + 1)) with
    | false => exact .inl (g3 hc)
    | true => exact .inr (g1 hc (by have := c65 hc; simpa using this))
  have pL : m' + 1 ≤ 20 ∨ m' + 1 = 65 := by
    cases hc : ilt 20 (Int.ofNat (m' + 1)) with
    | false => exact .inl (g4 hc)
    | true => exact .inr (g2 hc (by have := p65 hc; simpa using this))
  have hf := cellsP_flat c
  have hg := flat_ints p
  have hc1 : okT tpT (cellsP c) (m + 1) := okP hm (by omega)
  have hp1 : okT tiT (p.map gi) (m' + 1) := okI hm' (by omega)
  have hq1 := ieq_self (corE c)
  have hq2 := ieq_self (iE c p)
  have hq2' : ieq (iE c p) (firstS [corE c, fitE c p]) = true := hq2
  have hq3 := ieq_self (pulE p)
  have hiC : iC c p [] := ⟨rfl, by
    cases h : ieq (iE c p) 0 with
    | false => exact .inr rfl
    | true => exact .inl (by have := ie_le h; omega)⟩
  have hpC : pC p [] := ⟨rfl, by
    cases h : ieq (pulE p) 0 with
    | false => exact .inr rfl
    | true => exact .inl (by have := pu_le h; omega)⟩
  have hsn := siN
  cases hz : ieq (iE c p) 0 with
  | false =>
    have hz' : ieq (firstS [corE c, fitE c p]) 0 = false := hz
    cases hw : ieq (pulE p) 0 with
    | false =>
      cases hc : ilt 20 (Int.ofNat (m + 1)) with
      | false => cases hp : ilt 20 (Int.ofNat (m' + 1)) with
        | false =>
          refine callC_ok mixed orcLa_ok (askLa_ok false false (m + 1)) (Eq.mpr (ln_ss00 es c p m k e row m' k' e' row' _) ?_)
          simp only [decT, decU]
          repeat' (first | assumption | exact rfl | exact trivial | apply And.intro)
        | true =>
          have hp65 := p65 hp
          refine callC_ok mixed orcLa_ok (askLa_ok false false (m + 1)) (Eq.mpr (ln_sx00 es c p m k e row m' k' e' row' _) ?_)
          simp only [decT, decU]
          repeat' (first | assumption | exact rfl | exact trivial | apply And.intro)
      | true =>
        have hc65 := c65 hc
        cases hp : ilt 20 (Int.ofNat (m' + 1)) with
        | false =>
          refine callC_ok mixed orcLa_ok (askLa_ok false false (m + 1)) (Eq.mpr (ln_xs00 es c p m k e row m' k' e' row' _) ?_)
          simp only [decT, decU]
          repeat' (first | assumption | exact rfl | exact trivial | apply And.intro)
        | true =>
          have hp65 := p65 hp
          refine callC_ok mixed orcLa_ok (askLa_ok false false (m + 1)) (Eq.mpr (ln_xx00 es c p m k e row m' k' e' row' _) ?_)
          simp only [decT, decU]
          repeat' (first | assumption | exact rfl | exact trivial | apply And.intro)
    | true =>
      have w0 : pulE p = 0 := by rw [ieq_dec] at hw; exact of_decide_eq_true hw
      have hw' : ieq 0 (pulE p) = true := by rw [w0]; rfl
      have hp20 : m' + 1 ≤ 20 := by have := pu_le hw; omega
      have hp : ilt 20 (Int.ofNat (m' + 1)) = false := by rw [ilt_say]; exact decide_eq_false (by simp only [Int.ofNat_eq_natCast]; omega)
      obtain ⟨s1, s2⟩ := su_two (pulE_zero w0) (by omega)
      have hA := flat_ints (sumL 0 p)
      have hA1 : okT tiT ((sumL 0 p).map gi) (m' + 1) := okI (by rw [sumL_len]; exact hm') (by omega)
      have hB := flat_ints (sumL 0 (sumL 0 p))
      have hS1 : ∀ a b e1 r1 e2 r2 : Nat, siC [liP (m' + 1) a, slQ (m' + 1) b] [((sumL 0 p).map gi, e1, r1), ((sumL 0 p).map gi, e2, r2)] := fun a b e1 r1 e2 r2 => si_of (by rw [sumL_len]; omega) (by omega)
      have hS2 : ∀ a b e1 r1 e2 r2 : Nat, siC [liP (m' + 1) a, slQ (m' + 1) b] [((sumL 0 (sumL 0 p)).map gi, e1, r1), ((sumL 0 (sumL 0 p)).map gi, e2, r2)] := fun a b e1 r1 e2 r2 => si_of (by rw [sumL_len, sumL_len]; omega) (by omega)
      cases hc : ilt 20 (Int.ofNat (m + 1)) with
      | false =>
        refine callC_ok mixed orcLa_ok (askLa_ok false true (m + 1)) (Eq.mpr (ln_ss01 es c p m k e row m' k' e' row' _) ?_)
        simp only [decT, decU]
        repeat' (first | assumption | exact rfl | exact trivial | exact hS1 _ _ _ _ _ _ | exact hS2 _ _ _ _ _ _ | apply And.intro)
      | true =>
        have hc65 := c65 hc
        refine callC_ok mixed orcLa_ok (askLa_ok false true (m + 1)) (Eq.mpr (ln_xs01 es c p m k e row m' k' e' row' _) ?_)
        simp only [decT, decU]
        repeat' (first | assumption | exact rfl | exact trivial | exact hS1 _ _ _ _ _ _ | exact hS2 _ _ _ _ _ _ | apply And.intro)
  | true =>
    have z0 : iE c p = 0 := by rw [ieq_dec] at hz; exact of_decide_eq_true hz
    have hz' : ieq (firstS [corE c, fitE c p]) 0 = true := hz
    have hz'' : ieq 0 (firstS [corE c, fitE c p]) = true := by
      show ieq 0 (iE c p) = true
      rw [z0]; rfl
    obtain ⟨_, q2, q3, q4, q5⟩ := iE_zero z0
    have hmm : m' = m := by omega
    subst hmm
    have hc20 : m' + 1 ≤ 20 := by omega
    have w0 : pulE p = 0 := by
      refine (show pulE p = firstS [cntE p.length, firstE aE p] from rfl).trans ?_
      have a1 : cntE p.length = 0 := by rw [← q2]; exact firstS_none (firstS_none z0 _ (.head _)) _ (.head _)
      have a2 : firstE aE p = 0 := firstS_none (firstS_none z0 _ (.tail _ (.head _))) _ (.tail _ (.head _))
      rw [a1, a2]; rfl
    have hw : ieq (pulE p) 0 = true := by rw [w0]; rfl
    have hw' : ieq 0 (pulE p) = true := by rw [w0]; rfl
    have hc : ilt 20 (Int.ofNat (m' + 1)) = false := by rw [ilt_say]; exact decide_eq_false (by simp only [Int.ofNat_eq_natCast]; omega)
    have hb : byC c p [] := ⟨rfl, q2, by omega, q4, q5⟩
    obtain ⟨s1, s2⟩ := su_two (pulE_zero w0) (by omega)
    have hA := flat_ints (sumL 0 p)
    have hA1 : okT tiT ((sumL 0 p).map gi) (m' + 1) := okI (by rw [sumL_len]; exact hm') (by omega)
    have hB := flat_ints (sumL 0 (sumL 0 p))
    have hS1 : ∀ a b e1 r1 e2 r2 : Nat, siC [liP (m' + 1) a, slQ (m' + 1) b] [((sumL 0 p).map gi, e1, r1), ((sumL 0 p).map gi, e2, r2)] := fun a b e1 r1 e2 r2 => si_of (by rw [sumL_len]; omega) (by omega)
    have hS2 : ∀ a b e1 r1 e2 r2 : Nat, siC [liP (m' + 1) a, slQ (m' + 1) b] [((sumL 0 (sumL 0 p)).map gi, e1, r1), ((sumL 0 (sumL 0 p)).map gi, e2, r2)] := fun a b e1 r1 e2 r2 => si_of (by rw [sumL_len, sumL_len]; omega) (by omega)
    refine callC_ok mixed orcLa_ok (askLa_ok true true (m' + 1)) (Eq.mpr (ln_ss11 es c p m' k e row k' e' row' _) ?_)
    simp only [decT, decU]
    repeat' (first | assumption | exact rfl | exact trivial | exact hS1 _ _ _ _ _ _ | exact hS2 _ _ _ _ _ _ | exact ieq_self _ | exact beq_self_eq_true _ | apply And.intro)
end
end Go.Proofs.YtkggjnjiggekeaaGreatDoor
