/-
  OWN WORK. Stage 8: Inside, Excess, Speeds, Ways, and copies, as known calls.
-/
import Derived.Test.YtkggjnjiggekeaaGreatDoorPuQ
namespace Go.Proofs.YtkggjnjiggekeaaGreatDoor
open Go Go.Am

theorem firstE_zero {α : Type} {f : α → Int} : ∀ {l : List α}, firstE f l = 0 → ∀ x ∈ l, f x = 0
  | [], _ => fun x hx => by cases hx
  | y :: l, h => by
    have h : (bif ieq (f y) 0 then firstE f l else f y) = 0 := h
    cases hy : ieq (f y) 0 with
    | true =>
      rw [hy] at h
      rw [ieq_dec] at hy
      intro x hx
      rcases List.mem_cons.1 hx with rfl | hx
      · exact of_decide_eq_true hy
      · exact firstE_zero h x hx
    | false =>
      rw [hy] at h
      rw [ieq_dec] at hy
      exact absurd h (of_decide_eq_false hy)
theorem cE_zero {x : P2} (h : cE x = 0) : (0 ≤ x.1 ∧ x.1 ≤ 10000) ∧ 0 ≤ x.2 ∧ x.2 ≤ 10000 := by
  have z := firstS_none h
  exact ⟨within_zero (z _ (.head _)), within_zero (z _ (.tail _ (.head _)))⟩
theorem aE_zero {p : List Int} (h : firstE aE p = 0) : bdI 100000 p := fun x hx => within_zero (firstE_zero h x hx)
theorem cnt_zero {n : Nat} (h : cntE n = 0) : n ≤ 64 := by
  have := when_none (by decide) (firstS_none h _ (.tail _ (.head _)))
  rw [ilt_say] at this
  have := of_decide_eq_false this
  simp only [Int.ofNat_eq_natCast] at this
  omega
noncomputable def iE (c : List P2) (p : List Int) : Int := firstS [corE c, fitE c p]
theorem iE_zero {c : List P2} {p : List Int} (h : iE c p = 0) : corE c = 0 ∧ c.length = p.length ∧ c.length ≤ 64 ∧ (∀ x ∈ c, (0 ≤ x.1 ∧ x.1 ≤ 10000) ∧ 0 ≤ x.2 ∧ x.2 ≤ 10000) ∧ bdI 100000 p := by
  have z := firstS_none h
  have h1 := z _ (.head _)
  have h2 := z _ (.tail _ (.head _))
  have y := firstS_none h1
  have w := firstS_none h2
  have e := when_none (by decide) (w _ (.head _))
  rw [Bool.not_eq_false', ieq_dec] at e
  have e := of_decide_eq_true e
  simp only [Int.ofNat_eq_natCast] at e
  exact ⟨h1, by omega, cnt_zero (y _ (.head _)), fun x hx => cE_zero (firstE_zero (y _ (.tail _ (.head _))) x hx), aE_zero (w _ (.tail _ (.head _)))⟩
theorem pulE_zero {p : List Int} (h : pulE p = 0) : bdI 100000 p := aE_zero (firstS_none h _ (.tail _ (.head _)))
def iC (c : List P2) (p : List Int) (r : List Value) : Prop := r = [] ∧ (c.length ≤ 20 ∨ ieq (iE c p) 0 = false)
noncomputable abbrev insV (b : Bool) (c : List P2) (p : List Int) : Value := bif b then .tuple #[.bool (insB (mkT c p)), gi 0] else .tuple #[.bool false, gi (iE c p)]
noncomputable abbrev excV (b : Bool) (c : List P2) (p : List Int) : Value := bif b then .tuple #[gi (exAt (mkT c p) c.length).1, gi (exAt (mkT c p) c.length).2, gi 0] else .tuple #[gi 0, gi 0, gi (iE c p)]
noncomputable abbrev insO (c : List P2) (p : List Int) (_ : List Value) : Out := .plain (insV (ieq (iE c p) 0) c p)
noncomputable abbrev excO (c : List P2) (p : List Int) (_ : List Value) : Out := .plain (excV (ieq (iE c p) 0) c p)
set_option maxRecDepth 100000 in
theorem ins_ok {orc : Orc} (ho : OrcOk Tryz.prog orc) : OrcOk Tryz.prog (orElse 26 (s2Oo tpT tiT iC insO) orc) := by
  refine s2O_ok ho (fun c p _ _ => by show flat 3 _ = true; cases ieq (iE c p) 0 <;> rfl) ?_
  rintro c p m k e row m' k' e' row' r hl h1 hl' h1' ⟨rfl, hc⟩
  show CallJ _ _ _ _ (fun v _ => v = insV (ieq (iE c p) 0) c p)
  have hf := cellsP_flat c
  have hg := flat_ints p
  have hc1 := okP hl h1
  have hp1 := okI hl' h1'
  cases hz : ieq (iE c p) 0 with
  | false =>
    have hn : (!(ieq (iE c p) 0)) = true := by rw [hz]; rfl
    refine callC_ok mixed orcPj_ok (askPj_ok (m + 1)) (Eq.mpr (ins_bad c p m e row k m' e' row' k' _) ?_)
    simp only [decT, decU]
    repeat' (first | assumption | exact rfl | exact trivial | apply And.intro)
  | true =>
    have hn : (!(ieq (iE c p) 0)) = false := by rw [hz]; rfl
    have h0 : iE c p = 0 := by rw [ieq_dec] at hz; exact of_decide_eq_true hz
    obtain ⟨_, g2, _, g4, g5⟩ := iE_zero h0
    have hm : m' = m := by omega
    subst hm
    have h20 : c.length ≤ 20 := by
      rcases hc with h | h
      · exact h
      · rw [hz] at h; cases h
    have hT := mkT_len c p g2
    have hb : byC c p [] := ⟨rfl, g2, h20, g4, g5⟩
    have hB := cellsP_flat ((mkT c p).map beyP)
    have hB1 : okT tpT (cellsP ((mkT c p).map beyP)) (m' + 1) := okP (by rw [List.length_map]; omega) h1
    refine callC_ok mixed orcPj_ok (askPj_ok (m' + 1)) (Eq.mpr (ins_good c p m' e row k e' row' k' _) ?_)
    simp only [decT, decU]
    rw [idx_ins]
    repeat' (first | assumption | exact rfl | exact trivial | apply And.intro)
    rw [Bool.not_not]; rfl
set_option maxRecDepth 100000 in
theorem exc_ok {orc : Orc} (ho : OrcOk Tryz.prog orc) : OrcOk Tryz.prog (orElse 29 (s2Oo tpT tiT iC excO) orc) := by
  refine s2O_ok ho (fun c p _ _ => by show flat 3 _ = true; cases ieq (iE c p) 0 <;> rfl) ?_
  rintro c p m k e row m' k' e' row' r hl h1 hl' h1' ⟨rfl, hc⟩
  show CallJ _ _ _ _ (fun v _ => v = excV (ieq (iE c p) 0) c p)
  have hf := cellsP_flat c
  have hg := flat_ints p
  have hc1 := okP hl h1
  have hp1 := okI hl' h1'
  cases hz : ieq (iE c p) 0 with
  | false =>
    have hn : (!(ieq (iE c p) 0)) = true := by rw [hz]; rfl
    refine callC_ok mixed orcPj_ok (askPj_ok (m + 1)) (Eq.mpr (exc_bad c p m e row k m' e' row' k' _) ?_)
    simp only [decT, decU]
    repeat' (first | assumption | exact rfl | exact trivial | apply And.intro)
  | true =>
    have hn : (!(ieq (iE c p) 0)) = false := by rw [hz]; rfl
    have h0 : iE c p = 0 := by rw [ieq_dec] at hz; exact of_decide_eq_true hz
    obtain ⟨_, g2, _, g4, g5⟩ := iE_zero h0
    have hm : m' = m := by omega
    subst hm
    have h20 : c.length ≤ 20 := by
      rcases hc with h | h
      · exact h
      · rw [hz] at h; cases h
    have hT := mkT_len c p g2
    have hb : byC c p [] := ⟨rfl, g2, h20, g4, g5⟩
    have hB := cellsP_flat ((mkT c p).map beyP)
    have hB1 : okT tpT (cellsP ((mkT c p).map beyP)) (m' + 1) := okP (by rw [List.length_map]; omega) h1
    have hma : maC ((mkT c p).map beyP) [clF 86] := ⟨rfl, by rw [List.length_map]; omega⟩
    have hE := flat_ints (((mkT c p).map beyP).map mxP)
    have hE1 : okT tiT ((((mkT c p).map beyP).map mxP).map gi) (m' + 1) := okI (by rw [List.length_map, List.length_map]; omega) h1
    obtain ⟨q1, q2⟩ := ex_same (mkT c p) (by omega)
    rw [hT] at q1 q2
    refine callC_ok mixed orcPj_ok (askPj_ok (m' + 1)) (Eq.mpr (exc_good c p m' e row k e' row' k' _) ?_)
    simp only [decT, decU]
    repeat' (first | assumption | exact rfl | exact trivial | apply And.intro)
    show Value.tuple #[gi (mxH (((mkT c p).map beyP).map mxP)), gi (idxB (ieq (mxH (((mkT c p).map beyP).map mxP))) (((mkT c p).map beyP).map mxP) 0), gi 0] = _
    rw [q2, q1]; rfl
def pC (p : List Int) (r : List Value) : Prop := r = [] ∧ (p.length ≤ 20 ∨ ieq (pulE p) 0 = false)
noncomputable abbrev spdW (b : Bool) (n : Nat) (p q : List Int) : Out := bif b then .wide (tupM [] n [gi 0]) (q.map gi) 3 2 else .plain (.tuple #[nilS, gi (pulE p)])
noncomputable def spdO (n : Nat) (p : List Int) (_ : List Value) : Out := spdW (ieq (pulE p) 0) n p (sumL 0 p)
noncomputable def wayO (n : Nat) (p : List Int) (_ : List Value) : Out := spdW (ieq (pulE p) 0) n p (sumL 0 (sumL 0 p))
theorem spdW_ok {b : Bool} {n : Nat} {p q : List Int} : (spdW b n p q).Ok := by
  cases b
  · rfl
  · exact ⟨names_tup rfl rfl, flat_ints _⟩
theorem su_two {p : List Int} (h : bdI 100000 p) (h20 : p.length ≤ 20) : suC p [] ∧ suC (sumL 0 p) [] := by
  have q := sumL_bd p 0 0 h (by omega) (by omega)
  refine ⟨⟨rfl, h20, fun x hx => ?_⟩, rfl, by rw [sumL_len]; exact h20, fun x hx => ?_⟩
  · have := h x hx; omega
  · have := q x hx; omega
set_option maxRecDepth 100000 in
theorem spd_ok {orc : Orc} (ho : OrcOk Tryz.prog orc) : OrcOk Tryz.prog (orElse 30 (s1O tiT pC spdO) orc) := by
  refine s1O_ok ho (fun _ _ _ _ => spdW_ok) ?_
  rintro p m k e row r hl h1 ⟨rfl, hc⟩
  show CallJ _ _ _ _ (spdW (ieq (pulE p) 0) (m + 1) p (sumL 0 p)).Got
  have hg := flat_ints p
  have hp1 := okI hl h1
  cases hz : ieq (pulE p) 0 with
  | false =>
    have hn : (!(ieq (pulE p) 0)) = true := by rw [hz]; rfl
    refine callC_ok mixed orcPj_ok (askPj_ok (m + 1)) (Eq.mpr (spd_bad p m e row k _) ?_)
    simp only [decT]
    repeat' (first | assumption | exact rfl | exact trivial | apply And.intro)
  | true =>
    have hn : (!(ieq (pulE p) 0)) = false := by rw [hz]; rfl
    have h0 : pulE p = 0 := by rw [ieq_dec] at hz; exact of_decide_eq_true hz
    have h20 : p.length ≤ 20 := by
      rcases hc with h | h
      · exact h
      · rw [hz] at h; cases h
    obtain ⟨s1, s2⟩ := su_two (pulE_zero h0) h20
    refine callC_ok mixed orcPj_ok (askPj_ok (m + 1)) (Eq.mpr (spd_good p m e row k _) ?_)
    simp only [decT]
    refine ⟨⟨hg, trivial⟩, hp1, rfl, hn, ⟨hg, trivial⟩, hp1, s1, nG1 + 1, rfl, by kernel_rfl⟩
set_option maxRecDepth 100000 in
theorem way_ok {orc : Orc} (ho : OrcOk Tryz.prog orc) : OrcOk Tryz.prog (orElse 31 (s1O tiT pC wayO) orc) := by
  refine s1O_ok ho (fun _ _ _ _ => spdW_ok) ?_
  rintro p m k e row r hl h1 ⟨rfl, hc⟩
  show CallJ _ _ _ _ (spdW (ieq (pulE p) 0) (m + 1) p (sumL 0 (sumL 0 p))).Got
  have hg := flat_ints p
  have hp1 := okI hl h1
  cases hz : ieq (pulE p) 0 with
  | false =>
    have hn : (!(ieq (pulE p) 0)) = true := by rw [hz]; rfl
    refine callC_ok mixed orcPj_ok (askPj_ok (m + 1)) (Eq.mpr (way_bad p m e row k _) ?_)
    simp only [decT]
    repeat' (first | assumption | exact rfl | exact trivial | apply And.intro)
  | true =>
    have hn : (!(ieq (pulE p) 0)) = false := by rw [hz]; rfl
    have h0 : pulE p = 0 := by rw [ieq_dec] at hz; exact of_decide_eq_true hz
    have h20 : p.length ≤ 20 := by
      rcases hc with h | h
      · exact h
      · rw [hz] at h; cases h
    obtain ⟨s1, s2⟩ := su_two (pulE_zero h0) h20
    have hs1 : okT tiT ((sumL 0 p).map gi) (m + 1) := okI (by rw [sumL_len]; exact hl) h1
    refine callC_ok mixed orcPj_ok (askPj_ok (m + 1)) (Eq.mpr (way_good p m e row k _) ?_)
    simp only [decT]
    refine ⟨⟨hg, trivial⟩, hp1, rfl, hn, ⟨hg, trivial⟩, hp1, s1, ⟨flat_ints _, trivial⟩, hs1, s2, nG1 + 2, rfl, by kernel_rfl⟩
end Go.Proofs.YtkggjnjiggekeaaGreatDoor
