/-
  OWN WORK. Stage 8: searches, and the reference's Inside and Excess, as known calls.
-/
import Derived.Test.YtkggjnjiggekeaaGreatDoorPuN
namespace Go.Proofs.YtkggjnjiggekeaaGreatDoor
open Go Go.Am

noncomputable def arg0 (r : List Value) : Int := match r with
  | v :: _ => intOf v
  | _ => 0
def intC (_ : List Int) (r : List Value) : Prop := r = [gi (arg0 r)]
noncomputable abbrev ixfO (_ : Nat) (l : List P2) (_ : List Value) : Out := .plain (gi (idxB isO l 0))
noncomputable abbrev idxO (_ : Nat) (l : List Int) (r : List Value) : Out := .plain (gi (idxB (ieq (arg0 r)) l 0))
noncomputable def mxH (l : List Int) : Int := mxL (l.headD 0) l.tail
noncomputable abbrev maxO (_ : Nat) (l : List Int) (_ : List Value) : Out := .plain (gi (mxH l))
noncomputable abbrev rinO (c : List P2) (p : List Int) (_ : List Value) : Out := .plain (.bool (insB (mkT c p)))
noncomputable abbrev rexO (c : List P2) (p : List Int) (_ : List Value) : Out := .plain (.tuple #[gi (exAt (mkT c p) c.length).1, gi (exAt (mkT c p) c.length).2])
noncomputable def orcPh : Orc := orElse 36 (s2Oo tpT tiT byC rexO) (orElse 35 (s2Oo tpT tiT byC rinO) (orElse 87 (s1O tiT nonC maxO) (orElse 88 (s1O tiT intC idxO) (orElse 124 (s1O tpT (oneC cIn) ixfO) orcPg))))
set_option maxRecDepth 100000 in
theorem orcPh_ok : OrcOk Tryz.prog orcPh := by
  refine s2O_ok (s2O_ok (s1O_ok (s1O_ok (s1O_ok orcPg_ok (fun _ _ _ _ => rfl) ?_) (fun _ _ _ _ => rfl) ?_) (fun _ _ _ _ => rfl) ?_) (fun _ _ _ _ => rfl) ?_) (fun _ _ _ _ => rfl) ?_
  · rintro l m k e row r hl h1 rfl
    exact callC_ok mixed orcPg_ok askPg_ok (Eq.mpr (ixf_run l m e row k _) ⟨rfl, rfl, rfl, rfl, rfl, rfl, rfl, ⟨hl, h1⟩, fun h _ => by show gi (-1) = gi (idxB isO l 0); rw [h], fun _ => rfl⟩)
  · intro l m k e row r hl h1 hr
    have hr : r = [gi (arg0 r)] := hr
    rw [hr]
    show CallJ _ _ _ _ (fun v _ => v = gi (idxB (ieq (arg0 r)) l 0))
    generalize arg0 r = x
    exact callC_ok mixed orcPg_ok askPg_ok (Eq.mpr (idx_run l x m e row k _) ⟨rfl, rfl, rfl, rfl, rfl, rfl, rfl, ⟨hl, h1⟩, fun h _ => by rw [h], fun _ => rfl⟩)
  · rintro l m k e row r hl h1 rfl
    match l, hl with
    | y :: l, hl =>
      have hl' : l.length = m := by simpa using hl
      exact callC_ok mixed orcPg_ok askPg_ok (Eq.mpr (max_run y l m e row k _) ⟨by rw [ilt_say]; exact decide_eq_false (by simp only [Int.ofNat_eq_natCast]; omega), rfl, rfl, rfl, rfl, rfl, rfl, rfl, ⟨hl', by omega⟩, fun _ => rfl⟩)
  · rintro c p m k e row m' k' e' row' r hl h1 hl' h1' ⟨rfl, h2, h3, h4, h5⟩
    have hT := mkT_len c p h2
    have hm : m' = m := by omega
    subst hm
    have q := rin_run (mkT c p) m' e row k e' row' k' (fun v => v = .bool (insB (mkT c p)))
    rw [zc_mkT c p h2, zp_mkT c p h2] at q
    exact callC_ok mixed orcPg_ok askPg_ok (Eq.mpr q ⟨rfl, rfl, rfl, rfl, rfl, rfl, ⟨by omega, h1⟩, fun h _ => by rw [h], fun h _ => by rw [h]⟩)
  · rintro c p m k e row m' k' e' row' r hl h1 hl' h1' ⟨rfl, h2, h3, h4, h5⟩
    have hT := mkT_len c p h2
    have hm : m' = m := by omega
    subst hm
    have q := rex_run (mkT c p) m' e row k e' row' k' (fun v => v = .tuple #[gi (exAt (mkT c p) c.length).1, gi (exAt (mkT c p) c.length).2])
    rw [zc_mkT c p h2, zp_mkT c p h2] at q
    exact callC_ok mixed orcPg_ok askPg_ok (Eq.mpr q ⟨rfl, rfl, rfl, rfl, rfl, rfl, rfl, ⟨by omega, h1, mkT_bd h4 h5⟩, fun _ => by rw [hT]⟩)
noncomputable def askPh : Asks := asksV Tryz.prog.globals.size 36 (s2AY tpT tiT byC rexO) (asksV Tryz.prog.globals.size 35 (s2AY tpT tiT byC rinO) (asksV Tryz.prog.globals.size 87 (s1AY tiT nonC maxO) (asksV Tryz.prog.globals.size 88 (s1AY tiT intC idxO) (asksV Tryz.prog.globals.size 124 (s1AY tpT (oneC cIn) ixfO) askPg))))
theorem askPh_ok : AsksOk orcPh askPh := asksV_ok (s2A_ok fun _ _ _ h => ⟨h, rfl⟩) (asksV_ok (s2A_ok fun _ _ _ h => ⟨h, rfl⟩) (asksV_ok (s1A_ok fun _ _ _ h => ⟨h, rfl⟩) (asksV_ok (s1A_ok fun _ _ _ h => ⟨h, rfl⟩) (asksV_ok (s1A_ok fun _ _ _ h => ⟨h, rfl⟩) askPg_ok))))
theorem cf_run (l : List P2) (m e row k : Nat) (K : Value → Prop) : callC Tryz.prog (exec Tryz.prog orcPh 10) (syOf [(7, 7)]) askPh (noLoops _) 40 82 #[liP (m + 1) k, cIn] (canon Tryz.prog [(cellsP l, e, row)]) (fun v _ => K v) = (((List.all (cellsP l) (flat 3) = true ∧ True) ∧ okT tpT (cellsP l) (m + 1) ∧ oneC cIn (TellT.dec tpT (cellsP l)) [cIn] ∧ K (Value.bool (!(ilt (idxB isO (TellT.dec tpT (cellsP l)) 0) 0))))) := by kernel_rfl
end Go.Proofs.YtkggjnjiggekeaaGreatDoor
