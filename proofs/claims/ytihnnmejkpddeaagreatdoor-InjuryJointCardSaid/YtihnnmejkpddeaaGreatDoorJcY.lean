/-
  OWN WORK. Stage 6: greatest sums and moments as known calls; what the law of sums stands on.
-/
import Derived.Test.YtihnnmejkpddeaaGreatDoorJcPX
import Derived.Test.YtihnnmejkpddeaaGreatDoorJcS
namespace Go.Proofs.YtihnnmejkpddeaaGreatDoor
open Go Go.Am

noncomputable def cmE (a b : List Int) (u v : Int) : Int := firstS [pairE a b, limE u v]
noncomputable def mmE (a b : List Int) (u : Int) : Int := firstS [pairE a b, withinS u (-1000) 1000]
theorem firstE_none {α : Type} {f : α → Int} : ∀ {l : List α}, firstE f l = 0 → ∀ x ∈ l, f x = 0
  | [], _ => fun x hx => by cases hx
  | y :: l, h => by
    unfold firstE at h
    intro x hx
    cases hy : ieq (f y) 0 with
    | true =>
      rw [hy] at h
      rw [ieq_dec] at hy
      rcases List.mem_cons.1 hx with rfl | hx
      · exact of_decide_eq_true hy
      · exact firstE_none h x hx
    | false =>
      rw [hy] at h
      rw [ieq_dec] at hy
      exact absurd h (of_decide_eq_false hy)
theorem ser_zero {l : List Int} (h : serE l = 0) : bdU l ∧ l.length ≤ 128 := by
  have hs := firstS_none h
  have h1 := hs (cnE (Int.ofNat l.length) 128) (.head _)
  have h2 := hs (firstE uE l) (.tail _ (.head _))
  have k := firstS_none h1
  have k2 := k (whenS (ilt 128 (Int.ofNat l.length)) 5) (.tail _ (.head _))
  have k3 := when_none (by decide) k2
  rw [ilt_say] at k3
  have k3 := of_decide_eq_false k3
  refine ⟨fun x hx => within_zero (firstE_none h2 x hx), ?_⟩
  simp only [Int.ofNat_eq_natCast] at k3
  omega
theorem pair_zero {a b : List Int} (h : pairE a b = 0) : bdU a ∧ bdU b ∧ a.length = b.length := by
  have hs := firstS_none h
  have h1 := ser_zero (hs (serE a) (.head _))
  have h2 := ser_zero (hs (serE b) (.tail _ (.head _)))
  have h3 := when_none (by decide) (hs _ (.tail _ (.tail _ (.head _))))
  have h3 := not_t h3
  rw [ieq_dec] at h3
  have h3 := of_decide_eq_true h3
  simp only [Int.ofNat_eq_natCast] at h3
  exact ⟨h1.1, h2.1, by omega⟩
theorem lim_zero {u v : Int} (h : limE u v = 0) : lim1 u ∧ lim1 v := by
  have hs := firstS_none h
  exact ⟨within_zero (hs _ (.head _)), within_zero (hs _ (.tail _ (.head _)))⟩
theorem cm_zero {a b : List Int} {u v : Int} (h : cmE a b u v = 0) : (bdU a ∧ bdU b ∧ a.length = b.length) ∧ lim1 u ∧ lim1 v := by
  have hs := firstS_none h
  exact ⟨pair_zero (hs _ (.head _)), lim_zero (hs _ (.tail _ (.head _)))⟩
theorem mm_zero {a b : List Int} {u : Int} (h : mmE a b u = 0) : (bdU a ∧ bdU b ∧ a.length = b.length) ∧ limS u := by
  have hs := firstS_none h
  exact ⟨pair_zero (hs _ (.head _)), within_zero (hs _ (.tail _ (.head _)))⟩
theorem ser_ne : serE [] ≠ 0 := by rw [ser_nil]; decide
theorem firstS_bad {x : Int} {r : List Int} (h : x ≠ 0) : firstS (x :: r) = x := by
  show (bif ieq x 0 then firstS r else x) = x
  rw [ieq_ne h]; rfl
theorem pair_fe (a : List Int) : pairE a [] ≠ 0 := fun h => ser_ne ((firstS_none h) (serE []) (.tail _ (.head _)))
theorem pair_ef (b : List Int) : pairE [] b ≠ 0 := fun h => ser_ne ((firstS_none h) (serE []) (.head _))
/-! Full lists. -/
noncomputable abbrev cmL (a b : List Int) (u v : Int) : List P2 := coL u v (a.map abP) (b.map abP)
noncomputable def cmV (b : Bool) (x y : List Int) (u v : Int) : Value := match b with
  | true => .tuple #[rtV (mxG (cmL x y u v)), gi (idxB (eqP (mxG (cmL x y u v))) (cmL x y u v) 0), gi 0]
  | false => .tuple #[rtV (0, 0), gi 0, gi (cmE x y u v)]
noncomputable def mmV (b : Bool) (n : Nat) (x y : List Int) (u : Int) : Out := match b with
  | true => .wide (tupM [] n [gi 0]) ((moL u x y).map gi) 3 2
  | false => .plain (.tuple #[nilS, gi (mmE x y u)])
def cmC (a b : List Int) (r : List Value) : Prop := r = [rtV (agP r)] ∧ (cmE a b (agP r).1 (agP r).2 = 0 → a.length ≤ 40)
noncomputable abbrev cmO (a b : List Int) (r : List Value) : Out := .plain (cmV (ieq (cmE a b (agP r).1 (agP r).2) 0) a b (agP r).1 (agP r).2)
def mmC (_ _ : List Int) (r : List Value) : Prop := r = [gi (inV r)]
noncomputable abbrev mmO (a b : List Int) (r : List Value) : Out := mmV (ieq (mmE a b (inV r)) 0) a.length a b (inV r)
theorem cm_plain (b : Bool) (x y : List Int) (u v : Int) : flat 3 (cmV b x y u v) = true := by cases b <;> rfl
theorem mm_fine (b : Bool) (n : Nat) (x y : List Int) (u : Int) : (mmV b n x y u).Ok := by
  cases b with
  | true => exact ⟨names_tup rfl rfl, flat_ints _⟩
  | false => exact (show flat 3 (Value.tuple #[nilS, gi (mmE x y u)]) = true from rfl)
set_option maxRecDepth 100000 in
theorem cmf_ok {orc : Orc} (ho : OrcOk Tryz.prog orc) : OrcOk Tryz.prog (orElse 36 (s2Oo tiT tiT cmC cmO) orc) := by
  refine s2O_ok ho (fun a b r _ => cm_plain _ _ _ _ _) ?_
  rintro a b m k e row m' k' e' row' r hl h1 hl' h1' ⟨hr, h2⟩
  generalize agP r = x at hr h2 ⊢
  subst hr
  cases hz : ieq (cmE a b x.1 x.2) 0 with
  | false =>
    refine callC_ok mixed orcJh_ok (askJh_ok 0) (Eq.mpr (cm_bad a b x.1 x.2 m e row k m' e' row' k' _) ⟨⟨flat_ints a, flat_ints b, trivial⟩, okI hl h1, okI hl' h1', rfl, rfl, ?_, ?_⟩)
    · rw [decT, decT]
      show (!(ieq (cmE a b x.1 x.2) 0)) = true
      rw [hz]; rfl
    · rw [decT, decT]
      show _ = cmV (ieq (cmE a b x.1 x.2) 0) a b x.1 x.2
      rw [hz]; rfl
  | true =>
    have hzb := hz
    rw [ieq_dec] at hz
    have hz := of_decide_eq_true hz
    obtain ⟨⟨ba, bb, hab⟩, hu, hv⟩ := cm_zero hz
    have h40 := h2 hz
    obtain rfl : m' = m := by omega
    have la : (a.map abP).length = m' + 1 := by rw [List.length_map, hl]
    have lb : (b.map abP).length = m' + 1 := by rw [List.length_map, hl']
    have lc := coL_len (u := x.1) (v := x.2) la lb
    refine callC_ok mixed orcJh_ok (askJh_ok (m' + 1)) (Eq.mpr (cm_ok a b x.1 x.2 m' e row k e' row' k' _) ?_)
    repeat rw [decT]
    rw [decU]
    refine ⟨⟨flat_ints a, flat_ints b, trivial⟩, okI hl h1, okI hl' h1', rfl, rfl, ?_, rfl, ⟨flat_ints a, trivial⟩, okI hl h1, ⟨rfl, h40⟩, rfl, rfl, ⟨flat_ints b, trivial⟩, okI hl' h1', ⟨rfl, by omega⟩, rfl, rfl, ⟨flat_ints _, flat_ints _, trivial⟩, okI la h1, okI lb h1, ⟨la, rfl, by omega, ?_, ?_, hu, hv⟩, rfl, ⟨cellsP_flat _, trivial⟩, okP lc h1, rfl, rfl, ?_⟩
    · show (!(ieq (cmE a b x.1 x.2) 0)) = false
      rw [hz]; rfl
    · rw [ab_map ba]; exact ab_bd ba
    · rw [ab_map bb]; exact ab_bd bb
    · show _ = cmV (ieq (cmE a b x.1 x.2) 0) a b x.1 x.2
      rw [hzb]; rfl
set_option maxRecDepth 100000 in
theorem mmf_ok {orc : Orc} (ho : OrcOk Tryz.prog orc) : OrcOk Tryz.prog (orElse 37 (s2Oo tiT tiT mmC mmO) orc) := by
  refine s2O_ok ho (fun a b r _ => mm_fine _ _ _ _ _) ?_
  rintro a b m k e row m' k' e' row' r hl h1 hl' h1' hr
  have hr : r = [gi (inV r)] := hr
  generalize inV r = x at hr ⊢
  subst hr
  cases hz : ieq (mmE a b x) 0 with
  | false =>
    refine callC_ok mixed orcJh_ok (askJh_ok 0) (Eq.mpr (pm_bad a b x m e row k m' e' row' k' _) ⟨⟨flat_ints a, flat_ints b, trivial⟩, okI hl h1, okI hl' h1', rfl, ?_, ?_⟩)
    · rw [decT, decT]
      show (!(ieq (mmE a b x) 0)) = true
      rw [hz]; rfl
    · rw [decT, decT]
      show (mmV (ieq (mmE a b x) 0) a.length a b x).Got _ _
      rw [hz]; exact (rfl : Value.tuple #[nilS, gi (mmE a b x)] = _)
  | true =>
    have hzb := hz
    rw [ieq_dec] at hz
    have hz := of_decide_eq_true hz
    obtain ⟨⟨ba, bb, hab⟩, hu⟩ := mm_zero hz
    obtain rfl : m' = m := by omega
    refine callC_ok mixed orcJh_ok (askJh_ok (m' + 1)) (Eq.mpr (pm_ok a b x m' e row k e' row' k' _) ?_)
    repeat rw [decT]
    refine ⟨⟨flat_ints a, flat_ints b, trivial⟩, okI hl h1, okI hl' h1', rfl, ?_, ⟨flat_ints a, trivial⟩, okI hl h1, rfl, rfl, rfl, rfl, rfl, rfl, rfl, by kernel_rfl, by kernel_rfl, ⟨⟨hl, hl', h1⟩, ba, bb, hu⟩, fun _ => ?_⟩
    · show (!(ieq (mmE a b x) 0)) = false
      rw [hz]; rfl
    · show (mmV (ieq (mmE a b x) 0) a.length a b x).Got _ _
      rw [hzb]
      exact ⟨nG1 + 1, by rw [hl]; rfl, by show _ = _; kernel_rfl⟩
/-! A list is empty. -/
noncomputable abbrev cfO (a : List Int) (_ : List Value) : Out := .plain (.tuple #[rtV (0, 0), gi 0, gi (pairE a [])])
noncomputable abbrev ceO (b : List Int) (_ : List Value) : Out := .plain (.tuple #[rtV (0, 0), gi 0, gi (pairE [] b)])
noncomputable abbrev mfO (a : List Int) (_ : List Value) : Out := .plain (.tuple #[nilS, gi (pairE a [])])
noncomputable abbrev meO (b : List Int) (_ : List Value) : Out := .plain (.tuple #[nilS, gi (pairE [] b)])
def isR (_ : List Int) (r : List Value) : Prop := r = [rtV (agP r)]
def isI (_ : List Int) (r : List Value) : Prop := r = [gi (inV r)]
theorem bad_fe (a : List Int) (r : List Int) : firstS (pairE a [] :: r) = pairE a [] := firstS_bad (pair_fe a)
theorem bad_ef (b : List Int) (r : List Int) : firstS (pairE [] b :: r) = pairE [] b := firstS_bad (pair_ef b)
theorem no_fe (a : List Int) (r : List Int) : (!(ieq (firstS (pairE a [] :: r)) 0)) = true := by rw [bad_fe, ieq_ne (pair_fe a)]; rfl
theorem no_ef (b : List Int) (r : List Int) : (!(ieq (firstS (pairE [] b :: r)) 0)) = true := by rw [bad_ef, ieq_ne (pair_ef b)]; rfl
set_option maxRecDepth 100000 in
theorem cfe_ok {orc : Orc} (ho : OrcOk Tryz.prog orc) : OrcOk Tryz.prog (orElse 36 (anyO Tryz.prog.globals.size (feX tiT isR cfO)) orc) := by
  refine feO_ok ho (fun _ _ _ => rfl) ?_
  rintro v a m k e row r hv hl h1 hr
  have hr : r = [rtV (agP r)] := hr
  generalize agP r = x at hr
  subst hr
  rcases hv with rfl | ⟨q, rfl⟩
  · refine callC_ok mixed orcFe_ok askFe_ok (Eq.mpr (cm_fn a x.1 x.2 m e row k _) ?_)
    rw [decT]
    exact ⟨⟨flat_ints a, trivial⟩, okI hl h1, rfl, rfl, no_fe _ _, by rw [bad_fe]; rfl⟩
  · refine callC_ok mixed orcFe_ok askFe_ok (Eq.mpr (cm_fe a x.1 x.2 m e row k q _) ?_)
    rw [decT]
    exact ⟨⟨flat_ints a, trivial⟩, okI hl h1, rfl, rfl, no_fe _ _, by rw [bad_fe]; rfl⟩
set_option maxRecDepth 100000 in
theorem cef_ok {orc : Orc} (ho : OrcOk Tryz.prog orc) : OrcOk Tryz.prog (orElse 36 (anyO Tryz.prog.globals.size (efX tiT isR ceO)) orc) := by
  refine efO_ok ho (fun _ _ _ => rfl) ?_
  rintro v a m k e row r hv hl h1 hr
  have hr : r = [rtV (agP r)] := hr
  generalize agP r = x at hr
  subst hr
  rcases hv with rfl | ⟨q, rfl⟩
  · refine callC_ok mixed orcEf_ok askEf_ok (Eq.mpr (cm_nf a x.1 x.2 m e row k _) ?_)
    rw [decT]
    exact ⟨⟨flat_ints a, trivial⟩, okI hl h1, rfl, rfl, no_ef _ _, by rw [bad_ef]; rfl⟩
  · refine callC_ok mixed orcEf_ok askEf_ok (Eq.mpr (cm_ef a x.1 x.2 m e row k q _) ?_)
    rw [decT]
    exact ⟨⟨flat_ints a, trivial⟩, okI hl h1, rfl, rfl, no_ef _ _, by rw [bad_ef]; rfl⟩
set_option maxRecDepth 100000 in
theorem mfe_ok {orc : Orc} (ho : OrcOk Tryz.prog orc) : OrcOk Tryz.prog (orElse 37 (anyO Tryz.prog.globals.size (feX tiT isI mfO)) orc) := by
  refine feO_ok ho (fun _ _ _ => rfl) ?_
  rintro v a m k e row r hv hl h1 hr
  have hr : r = [gi (inV r)] := hr
  generalize inV r = x at hr
  subst hr
  rcases hv with rfl | ⟨q, rfl⟩
  · refine callC_ok mixed orcFe_ok askFe_ok (Eq.mpr (pm_fn a x m e row k _) ?_)
    rw [decT]
    exact ⟨⟨flat_ints a, trivial⟩, okI hl h1, rfl, no_fe _ _, by rw [bad_fe]⟩
  · refine callC_ok mixed orcFe_ok askFe_ok (Eq.mpr (pm_fe a x m e row k q _) ?_)
    rw [decT]
    exact ⟨⟨flat_ints a, trivial⟩, okI hl h1, rfl, no_fe _ _, by rw [bad_fe]⟩
set_option maxRecDepth 100000 in
theorem mef_ok {orc : Orc} (ho : OrcOk Tryz.prog orc) : OrcOk Tryz.prog (orElse 37 (anyO Tryz.prog.globals.size (efX tiT isI meO)) orc) := by
  refine efO_ok ho (fun _ _ _ => rfl) ?_
  rintro v a m k e row r hv hl h1 hr
  have hr : r = [gi (inV r)] := hr
  generalize inV r = x at hr
  subst hr
  rcases hv with rfl | ⟨q, rfl⟩
  · refine callC_ok mixed orcEf_ok askEf_ok (Eq.mpr (pm_nf a x m e row k _) ?_)
    rw [decT]
    exact ⟨⟨flat_ints a, trivial⟩, okI hl h1, rfl, no_ef _ _, by rw [bad_ef]⟩
  · refine callC_ok mixed orcEf_ok askEf_ok (Eq.mpr (pm_ef a x m e row k q _) ?_)
    rw [decT]
    exact ⟨⟨flat_ints a, trivial⟩, okI hl h1, rfl, no_ef _ _, by rw [bad_ef]⟩
end Go.Proofs.YtihnnmejkpddeaaGreatDoor
