/-
  OWN WORK. Stage 8: the errors of corridors and pulses, as known calls.
-/
import Derived.Test.YtkggjnjiggekeaaGreatDoorPuD
namespace Go.Proofs.YtkggjnjiggekeaaGreatDoor
open Go Go.Am

theorem firstS_one (x : Int) : firstS [x] = x := by
  show (bif ieq x 0 then 0 else x) = x
  cases h : ieq x 0 with
  | false => rfl
  | true =>
    rw [ieq_dec] at h
    exact (of_decide_eq_true h).symm
theorem firstS_app (x y : List Int) : firstS (firstS x :: y) = firstS (x ++ y) := by
  induction x with
  | nil => rfl
  | cons a x ih =>
    show (bif ieq (bif ieq a 0 then firstS x else a) 0 then firstS y else (bif ieq a 0 then firstS x else a)) = (bif ieq a 0 then firstS (x ++ y) else a)
    cases h : ieq a 0 with
    | true => exact ih
    | false => simp only [cond_false, h]
noncomputable def cntE (n : Nat) : Int := firstS [whenS (ieq (Int.ofNat n) 0) 12, whenS (ilt 64 (Int.ofNat n)) 5]
noncomputable def corE (l : List P2) : Int := firstS [cntE l.length, firstE cE l]
noncomputable def pulE (p : List Int) : Int := firstS [cntE p.length, firstE aE p]
def oneC {α : Type} (c : Value) (_ : List α) (r : List Value) : Prop := r = [c]
def nonC {α : Type} (_ : List α) (r : List Value) : Prop := r = []
noncomputable abbrev eacO (_ : Nat) (l : List Int) (_ : List Value) : Out := .plain (gi (firstE aE l))
noncomputable abbrev eivO (_ : Nat) (l : List P2) (_ : List Value) : Out := .plain (gi (firstE cE l))
noncomputable abbrev corO (_ : Nat) (l : List P2) (_ : List Value) : Out := .plain (gi (corE l))
noncomputable abbrev pulO (_ : Nat) (l : List Int) (_ : List Value) : Out := .plain (gi (pulE l))
noncomputable def orcPc : Orc := orElse 32 (s1O tpT nonC corO) (orElse 91 (s1O tiT nonC eacO) (orElse 92 (s1O tpT (oneC cCo) eivO) (orElse 156 (s1O tiT (oneC cAc) eacO) orcPb)))
set_option maxRecDepth 100000 in
theorem orcPc_ok : OrcOk Tryz.prog orcPc := by
  refine s1O_ok (s1O_ok (s1O_ok (s1O_ok orcPb_ok (fun _ _ _ _ => rfl) ?_) (fun _ _ _ _ => rfl) ?_) (fun _ _ _ _ => rfl) ?_) (fun _ _ _ _ => rfl) ?_
  · rintro l m k e row r hl h1 rfl
    exact callC_ok mixed orcPb_ok askPb_ok (Eq.mpr (eac_run l m e row k _) ⟨rfl, rfl, rfl, rfl, rfl, rfl, rfl, ⟨hl, h1⟩, fun h _ => by show gi 0 = gi (firstE aE l); rw [h], fun _ => rfl⟩)
  · rintro l m k e row r hl h1 rfl
    exact callC_ok mixed orcPb_ok askPb_ok (Eq.mpr (eiv_run l m e row k _) ⟨rfl, rfl, rfl, rfl, rfl, rfl, rfl, ⟨hl, h1⟩, fun h _ _ => by show gi 0 = gi (firstE cE l); rw [h], fun _ _ => rfl⟩)
  · rintro l m k e row r hl h1 rfl
    exact callC_ok mixed orcPb_ok askPb_ok (Eq.mpr (val_run l m e row k _) ⟨rfl, rfl, rfl, rfl, rfl, ⟨hl, h1⟩, fun h _ => by show gi 0 = gi (firstE aE l); rw [h], fun _ => rfl⟩)
  · rintro l m k e row r hl h1 rfl
    have hc : corE l = bif ieq (cntE (m + 1)) 0 then firstE cE l else cntE (m + 1) := by
      unfold corE
      rw [hl]
      show (bif ieq (cntE (m + 1)) 0 then firstS [firstE cE l] else cntE (m + 1)) = _
      rw [firstS_one]
    refine callC_ok mixed orcPb_ok askPb_ok (Eq.mpr (cor_run l m e row k _) ⟨fun h => ?_, fun h => ?_⟩)
    · have h : (!(ieq (cntE (m + 1)) 0)) = true := h
      show gi (cntE (m + 1)) = gi (corE l)
      rw [hc, not_ieqT h]; rfl
    · have h : (!(ieq (cntE (m + 1)) 0)) = false := h
      have hc' : corE l = firstE cE l := by rw [hc, not_ieqF h]; rfl
      exact ⟨rfl, rfl, rfl, rfl, by kernel_rfl, ⟨hl, h1⟩, fun h _ _ => by show gi 0 = gi (corE l); rw [hc', h], fun _ _ => by show gi (firstE cE l) = gi (corE l); rw [hc']⟩
noncomputable def askPc : Asks := asksV Tryz.prog.globals.size 32 (s1AY tpT nonC corO) (asksV Tryz.prog.globals.size 91 (s1AY tiT nonC eacO) (asksV Tryz.prog.globals.size 92 (s1AY tpT (oneC cCo) eivO) (asksV Tryz.prog.globals.size 156 (s1AY tiT (oneC cAc) eacO) askPb)))
theorem askPc_ok : AsksOk orcPc askPc := asksV_ok (s1A_ok fun _ _ _ h => ⟨h, rfl⟩) (asksV_ok (s1A_ok fun _ _ _ h => ⟨h, rfl⟩) (asksV_ok (s1A_ok fun _ _ _ h => ⟨h, rfl⟩) (asksV_ok (s1A_ok fun _ _ _ h => ⟨h, rfl⟩) askPb_ok)))
end Go.Proofs.YtkggjnjiggekeaaGreatDoor
