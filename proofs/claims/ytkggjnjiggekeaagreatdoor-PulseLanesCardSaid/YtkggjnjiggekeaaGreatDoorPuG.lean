/-
  OWN WORK. Stage 8: errors of corridors and pulses, as known calls; of both, carried out.
-/
import Derived.Test.YtkggjnjiggekeaaGreatDoorPuF
namespace Go.Proofs.YtkggjnjiggekeaaGreatDoor
open Go Go.Am

theorem okI {l : List Int} {m : Nat} (hl : l.length = m + 1) (h1 : m + 1 ≤ 65536) : okT tiT (l.map gi) (m + 1) := okT_of (T := tiT) hl (Nat.succ_pos m) h1
theorem okP {l : List P2} {m : Nat} (hl : l.length = m + 1) (h1 : m + 1 ≤ 65536) : okT tpT (cellsP l) (m + 1) := okT_of (T := tpT) hl (Nat.succ_pos m) h1
theorem decT (l : List Int) : TellT.dec tiT (l.map gi) = l := decI_map l
theorem decU (l : List P2) : TellT.dec tpT (cellsP l) = l := decQ_cells l
noncomputable def orcPd : Orc := orElse 34 (s1O tiT nonC pulO) (orElse 123 (s1O tiT nonC eacO) (orElse 38 (s1O tpT nonC corO) orcPc))
set_option maxRecDepth 100000 in
theorem orcPd_ok : OrcOk Tryz.prog orcPd := by
  refine s1O_ok (s1O_ok (s1O_ok orcPc_ok (fun _ _ _ _ => rfl) ?_) (fun _ _ _ _ => rfl) ?_) (fun _ _ _ _ => rfl) ?_
  · rintro l m k e row r hl h1 rfl
    refine callC_ok mixed orcPc_ok askPc_ok (Eq.mpr (pco_run l m e row k _) ⟨⟨cellsP_flat l, trivial⟩, okP hl h1, rfl, ?_⟩)
    rw [decU]
    show gi (firstS [cntE (m + 1), firstE cE l]) = gi (corE l)
    unfold corE; rw [hl]
  · rintro l m k e row r hl h1 rfl
    refine callC_ok mixed orcPc_ok askPc_ok (Eq.mpr (pca_run l m e row k _) ⟨⟨flat_ints l, trivial⟩, okI hl h1, rfl, ?_⟩)
    rw [decT]
  · rintro l m k e row r hl h1 rfl
    refine callC_ok mixed orcPc_ok askPc_ok (Eq.mpr (rcp_run l m e row k _) ⟨⟨flat_ints l, trivial⟩, okI hl h1, rfl, ?_⟩)
    rw [decT]
    show _ = gi (pulE l)
    unfold pulE cntE
    rw [hl, firstS_app]; rfl
noncomputable def askPd : Asks := asksV Tryz.prog.globals.size 34 (s1AY tiT nonC pulO) (asksV Tryz.prog.globals.size 123 (s1AY tiT nonC eacO) (asksV Tryz.prog.globals.size 38 (s1AY tpT nonC corO) askPc))
theorem askPd_ok : AsksOk orcPd askPd := asksV_ok (s1A_ok fun _ _ _ h => ⟨h, rfl⟩) (asksV_ok (s1A_ok fun _ _ _ h => ⟨h, rfl⟩) (asksV_ok (s1A_ok fun _ _ _ h => ⟨h, rfl⟩) askPc_ok))
theorem pcp_run (l : List Int) (m e row k : Nat) (K : Value → Prop) : callC Tryz.prog (exec Tryz.prog orcPd 10) (syOf [(7, 7)]) askPd (noLoops _) 40 89 #[liP (m + 1) k] (canon Tryz.prog [(l.map gi, e, row)]) (fun v _ => K v) = (((List.all (List.map gi l) (flat 3) = true ∧ True) ∧ okT tiT (List.map gi l) (m + 1) ∧ nonC (TellT.dec tiT (List.map gi l)) [] ∧ K (gi (firstS [firstS [whenS (ieq (Int.ofNat (m + 1)) 0) 12, whenS (ilt 64 (Int.ofNat (m + 1))) 5], firstE aE (TellT.dec tiT (List.map gi l))])))) := by kernel_rfl
theorem pcf_run (l : List P2) (p : List Int) (m e row k m' e' row' k' : Nat) (K : Value → Prop) : callC Tryz.prog (exec Tryz.prog orcPd 10) (syOf [(12, 7)]) askPd (noLoops _) 40 81 #[liP (m + 1) k, slQ (m' + 1) k'] (cn2 l e row p e' row') (fun v _ => K v) = (((List.all (List.map gi p) (flat 3) = true ∧ True) ∧ okT tiT (List.map gi p) (m' + 1) ∧ nonC (TellT.dec tiT (List.map gi p)) [] ∧ K (gi (firstS [whenS (!(ieq (Int.ofNat (m' + 1)) (Int.ofNat (m + 1)))) 2, firstE aE (TellT.dec tiT (List.map gi p))])))) := by kernel_rfl
theorem rcf_run (l : List P2) (p : List Int) (m e row k m' e' row' k' : Nat) (K : Value → Prop) : callC Tryz.prog (exec Tryz.prog orcPd 10) (syOf [(12, 7)]) askPd (noLoops _) 40 33 #[liP (m + 1) k, slQ (m' + 1) k'] (cn2 l e row p e' row') (fun v _ => K v) = (((List.all (List.map gi p) (flat 3) = true ∧ True) ∧ okT tiT (List.map gi p) (m' + 1) ∧ nonC (TellT.dec tiT (List.map gi p)) [] ∧ K (gi (firstS [whenS (!(ieq (Int.ofNat (m' + 1)) (Int.ofNat (m + 1)))) 2, firstE aE (TellT.dec tiT (List.map gi p))])))) := by kernel_rfl
theorem pcf_fn (l : List P2) (m e row k : Nat) (K : Value → Prop) : callC Tryz.prog (exec Tryz.prog orcPd 30) (syOf []) askPd (noLoops _) 40 81 #[liP (m + 1) k, nilS] (canon Tryz.prog [(cellsP l, e, row)]) (fun v _ => K v) = (K (gi (firstS [whenS (!(ieq 0 (Int.ofNat (m + 1)))) 2, 0]))) := by kernel_rfl
theorem pcf_nf (p : List Int) (m e row k : Nat) (K : Value → Prop) : callC Tryz.prog (exec Tryz.prog orcPd 30) (syOf [(12, 7)]) askPd (noLoops _) 40 81 #[nilS, liP (m + 1) k] (canon Tryz.prog [(p.map gi, e, row)]) (fun v _ => K v) = (((List.all (List.map gi p) (flat 3) = true ∧ True) ∧ okT tiT (List.map gi p) (m + 1) ∧ nonC (TellT.dec tiT (List.map gi p)) [] ∧ K (gi (firstS [whenS (!(ieq (Int.ofNat (m + 1)) 0)) 2, firstE aE (TellT.dec tiT (List.map gi p))])))) := by kernel_rfl
theorem pcf_fe (l : List P2) (q : Nat) (m e row k : Nat) (K : Value → Prop) : callC Tryz.prog (exec Tryz.prog orcPd 30) (syOf []) askPd (noLoops _) 40 81 #[liP (m + 1) k, emS q] (canon Tryz.prog [(cellsP l, e, row)]) (fun v _ => K v) = (K (gi (firstS [whenS (!(ieq 0 (Int.ofNat (m + 1)))) 2, 0]))) := by kernel_rfl
theorem pcf_ef (p : List Int) (q : Nat) (m e row k : Nat) (K : Value → Prop) : callC Tryz.prog (exec Tryz.prog orcPd 30) (syOf [(12, 7)]) askPd (noLoops _) 40 81 #[emS q, liP (m + 1) k] (canon Tryz.prog [(p.map gi, e, row)]) (fun v _ => K v) = (((List.all (List.map gi p) (flat 3) = true ∧ True) ∧ okT tiT (List.map gi p) (m + 1) ∧ nonC (TellT.dec tiT (List.map gi p)) [] ∧ K (gi (firstS [whenS (!(ieq (Int.ofNat (m + 1)) 0)) 2, firstE aE (TellT.dec tiT (List.map gi p))])))) := by kernel_rfl
theorem rcf_fn (l : List P2) (m e row k : Nat) (K : Value → Prop) : callC Tryz.prog (exec Tryz.prog orcPd 30) (syOf []) askPd (noLoops _) 40 33 #[liP (m + 1) k, nilS] (canon Tryz.prog [(cellsP l, e, row)]) (fun v _ => K v) = (K (gi (firstS [whenS (!(ieq 0 (Int.ofNat (m + 1)))) 2, 0]))) := by kernel_rfl
theorem rcf_nf (p : List Int) (m e row k : Nat) (K : Value → Prop) : callC Tryz.prog (exec Tryz.prog orcPd 30) (syOf [(12, 7)]) askPd (noLoops _) 40 33 #[nilS, liP (m + 1) k] (canon Tryz.prog [(p.map gi, e, row)]) (fun v _ => K v) = (((List.all (List.map gi p) (flat 3) = true ∧ True) ∧ okT tiT (List.map gi p) (m + 1) ∧ nonC (TellT.dec tiT (List.map gi p)) [] ∧ K (gi (firstS [whenS (!(ieq (Int.ofNat (m + 1)) 0)) 2, firstE aE (TellT.dec tiT (List.map gi p))])))) := by kernel_rfl
theorem rcf_fe (l : List P2) (q : Nat) (m e row k : Nat) (K : Value → Prop) : callC Tryz.prog (exec Tryz.prog orcPd 30) (syOf []) askPd (noLoops _) 40 33 #[liP (m + 1) k, emS q] (canon Tryz.prog [(cellsP l, e, row)]) (fun v _ => K v) = (K (gi (firstS [whenS (!(ieq 0 (Int.ofNat (m + 1)))) 2, 0]))) := by kernel_rfl
theorem rcf_ef (p : List Int) (q : Nat) (m e row k : Nat) (K : Value → Prop) : callC Tryz.prog (exec Tryz.prog orcPd 30) (syOf [(12, 7)]) askPd (noLoops _) 40 33 #[emS q, liP (m + 1) k] (canon Tryz.prog [(p.map gi, e, row)]) (fun v _ => K v) = (((List.all (List.map gi p) (flat 3) = true ∧ True) ∧ okT tiT (List.map gi p) (m + 1) ∧ nonC (TellT.dec tiT (List.map gi p)) [] ∧ K (gi (firstS [whenS (!(ieq (Int.ofNat (m + 1)) 0)) 2, firstE aE (TellT.dec tiT (List.map gi p))])))) := by kernel_rfl
end Go.Proofs.YtkggjnjiggekeaaGreatDoor
