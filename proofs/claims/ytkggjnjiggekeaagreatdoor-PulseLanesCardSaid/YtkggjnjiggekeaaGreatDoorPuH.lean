/-
  OWN WORK. Stage 8: the errors of a pulse, alone and for a corridor, as known calls.
-/
import Derived.Test.YtkggjnjiggekeaaGreatDoorPuG
namespace Go.Proofs.YtkggjnjiggekeaaGreatDoor
open Go Go.Am

noncomputable def fitE (l : List P2) (p : List Int) : Int := firstS [whenS (!(ieq (Int.ofNat p.length) (Int.ofNat l.length))) 2, firstE aE p]
def no2C {α β : Type} (_ : List α) (_ : List β) (r : List Value) : Prop := r = []
noncomputable abbrev fitO (l : List P2) (p : List Int) (_ : List Value) : Out := .plain (gi (fitE l p))
noncomputable abbrev fitP (p : List Int) (_ : List Value) : Out := .plain (gi (fitE [] p))
/-- Behind a corridor an empty pulse. -/
def emC {α : Type} (_ : List α) (r : List Value) : Prop := ∃ v, Emp v ∧ r = [v]
noncomputable abbrev fitC (l : List P2) (_ : List Value) : Out := .plain (gi (fitE l []))
section
variable {orc : Orc} (ho : OrcOk Tryz.prog orc)
include ho
set_option maxRecDepth 100000 in
theorem cp_ok : OrcOk Tryz.prog (orElse 89 (s1O tiT nonC pulO) orc) := by
  refine s1O_ok ho (fun _ _ _ _ => rfl) ?_
  rintro l m k e row r hl h1 rfl
  refine callC_ok mixed orcPd_ok askPd_ok (Eq.mpr (pcp_run l m e row k _) ⟨⟨flat_ints l, trivial⟩, okI hl h1, rfl, ?_⟩)
  rw [decT]
  show gi (firstS [cntE (m + 1), firstE aE l]) = gi (pulE l)
  unfold pulE; rw [hl]
set_option maxRecDepth 100000 in
theorem pf_ok : OrcOk Tryz.prog (orElse 81 (s2Oo tpT tiT no2C fitO) orc) := by
  refine s2O_ok ho (fun _ _ _ _ => rfl) ?_
  rintro l p m k e row m' k' e' row' r hl h1 hl' h1' rfl
  refine callC_ok mixed orcPd_ok askPd_ok (Eq.mpr (pcf_run l p m e row k m' e' row' k' _) ⟨⟨flat_ints p, trivial⟩, okI hl' h1', rfl, ?_⟩)
  rw [decT]
  show _ = gi (fitE l p)
  unfold fitE; rw [hl, hl']
set_option maxRecDepth 100000 in
theorem rf_ok : OrcOk Tryz.prog (orElse 33 (s2Oo tpT tiT no2C fitO) orc) := by
  refine s2O_ok ho (fun _ _ _ _ => rfl) ?_
  rintro l p m k e row m' k' e' row' r hl h1 hl' h1' rfl
  refine callC_ok mixed orcPd_ok askPd_ok (Eq.mpr (rcf_run l p m e row k m' e' row' k' _) ⟨⟨flat_ints p, trivial⟩, okI hl' h1', rfl, ?_⟩)
  rw [decT]
  show _ = gi (fitE l p)
  unfold fitE; rw [hl, hl']
omit ho in
theorem fit_fe (l : List P2) {m : Nat} (hl : l.length = m + 1) : firstS [whenS (!(ieq 0 (Int.ofNat (m + 1)))) 2, 0] = fitE l [] := by
  unfold fitE; rw [hl]; rfl
omit ho in
theorem fit_ef (p : List Int) {m : Nat} (hl : p.length = m + 1) : firstS [whenS (!(ieq (Int.ofNat (m + 1)) 0)) 2, firstE aE p] = fitE [] p := by
  unfold fitE; rw [hl]; rfl
set_option maxRecDepth 100000 in
theorem pfe_ok : OrcOk Tryz.prog (orElse 81 (anyO Tryz.prog.globals.size (feX tpT nonC fitC)) orc) := by
  refine feO_ok ho (fun _ _ _ => rfl) ?_
  rintro v l m k e row r (rfl | ⟨q, rfl⟩) hl h1 rfl
  · exact callC_ok mixed orcPd_ok askPd_ok (Eq.mpr (pcf_fn l m e row k _) (congrArg gi (fit_fe l hl)))
  · exact callC_ok mixed orcPd_ok askPd_ok (Eq.mpr (pcf_fe l q m e row k _) (congrArg gi (fit_fe l hl)))
set_option maxRecDepth 100000 in
theorem rfe_ok : OrcOk Tryz.prog (orElse 33 (anyO Tryz.prog.globals.size (feX tpT nonC fitC)) orc) := by
  refine feO_ok ho (fun _ _ _ => rfl) ?_
  rintro v l m k e row r (rfl | ⟨q, rfl⟩) hl h1 rfl
  · exact callC_ok mixed orcPd_ok askPd_ok (Eq.mpr (rcf_fn l m e row k _) (congrArg gi (fit_fe l hl)))
  · exact callC_ok mixed orcPd_ok askPd_ok (Eq.mpr (rcf_fe l q m e row k _) (congrArg gi (fit_fe l hl)))
set_option maxRecDepth 100000 in
theorem pef_ok : OrcOk Tryz.prog (orElse 81 (anyO Tryz.prog.globals.size (efX tiT nonC fitP)) orc) := by
  refine efO_ok ho (fun _ _ _ => rfl) ?_
  rintro v l m k e row r (rfl | ⟨q, rfl⟩) hl h1 rfl
  · refine callC_ok mixed orcPd_ok askPd_ok (Eq.mpr (pcf_nf l m e row k _) ⟨⟨flat_ints l, trivial⟩, okI hl h1, rfl, ?_⟩)
    rw [decT]; exact congrArg gi (fit_ef l hl)
  · refine callC_ok mixed orcPd_ok askPd_ok (Eq.mpr (pcf_ef l q m e row k _) ⟨⟨flat_ints l, trivial⟩, okI hl h1, rfl, ?_⟩)
    rw [decT]; exact congrArg gi (fit_ef l hl)
set_option maxRecDepth 100000 in
theorem ref_ok : OrcOk Tryz.prog (orElse 33 (anyO Tryz.prog.globals.size (efX tiT nonC fitP)) orc) := by
  refine efO_ok ho (fun _ _ _ => rfl) ?_
  rintro v l m k e row r (rfl | ⟨q, rfl⟩) hl h1 rfl
  · refine callC_ok mixed orcPd_ok askPd_ok (Eq.mpr (rcf_nf l m e row k _) ⟨⟨flat_ints l, trivial⟩, okI hl h1, rfl, ?_⟩)
    rw [decT]; exact congrArg gi (fit_ef l hl)
  · refine callC_ok mixed orcPd_ok askPd_ok (Eq.mpr (rcf_ef l q m e row k _) ⟨⟨flat_ints l, trivial⟩, okI hl h1, rfl, ?_⟩)
    rw [decT]; exact congrArg gi (fit_ef l hl)
end
noncomputable def orcPe : Orc := orElse 33 (s2Oo tpT tiT no2C fitO) (orElse 81 (s2Oo tpT tiT no2C fitO) (orElse 89 (s1O tiT nonC pulO) orcPd))
theorem orcPe_ok : OrcOk Tryz.prog orcPe := rf_ok (pf_ok (cp_ok orcPd_ok))
noncomputable def askPe : Asks := asksV Tryz.prog.globals.size 33 (s2AY tpT tiT no2C fitO) (asksV Tryz.prog.globals.size 81 (s2AY tpT tiT no2C fitO) (asksV Tryz.prog.globals.size 89 (s1AY tiT nonC pulO) askPd))
theorem askPe_ok : AsksOk orcPe askPe := asksV_ok (s2A_ok fun _ _ _ h => ⟨h, rfl⟩) (asksV_ok (s2A_ok fun _ _ _ h => ⟨h, rfl⟩) (asksV_ok (s1A_ok fun _ _ _ h => ⟨h, rfl⟩) askPd_ok))
end Go.Proofs.YtkggjnjiggekeaaGreatDoor
