/-
  OWN WORK. Stage 8: errors of corridors, of pulses, and of both, carried out.
-/
import Derived.Test.YtkggjnjiggekeaaGreatDoorPuE
namespace Go.Proofs.YtkggjnjiggekeaaGreatDoor
open Go Go.Am

noncomputable abbrev cn2 (l : List P2) (e row : Nat) (p : List Int) (e' row' : Nat) : AHeap := canon Tryz.prog [(cellsP l, e, row), (p.map gi, e', row')]
theorem pco_run (l : List P2) (m e row k : Nat) (K : Value → Prop) : callC Tryz.prog (exec Tryz.prog orcPc 10) (syOf [(7, 7)]) askPc (noLoops _) 40 38 #[liP (m + 1) k] (canon Tryz.prog [(cellsP l, e, row)]) (fun v _ => K v) = (((List.all (cellsP l) (flat 3) = true ∧ True) ∧ okT tpT (cellsP l) (m + 1) ∧ oneC cCo (TellT.dec tpT (cellsP l)) [Value.func (.func 93) #[] #[]] ∧ K (gi (firstS [firstS [whenS (ieq (Int.ofNat (m + 1)) 0) 12, whenS (ilt 64 (Int.ofNat (m + 1))) 5], firstE cE (TellT.dec tpT (cellsP l))])))) := by kernel_rfl
theorem pca_run (l : List Int) (m e row k : Nat) (K : Value → Prop) : callC Tryz.prog (exec Tryz.prog orcPc 10) (syOf [(4, 7), (5, 7), (6, 7)]) askPc (noLoops _) 40 123 #[liP (m + 1) k] (canon Tryz.prog [(l.map gi, e, row)]) (fun v _ => K v) = (((List.all (List.map gi l) (flat 3) = true ∧ True) ∧ okT tiT (List.map gi l) (m + 1) ∧ oneC cAc (TellT.dec tiT (List.map gi l)) [Value.func (.func 157) #[] #[]] ∧ K (gi (firstE aE (TellT.dec tiT (List.map gi l)))))) := by kernel_rfl
theorem rcp_run (l : List Int) (m e row k : Nat) (K : Value → Prop) : callC Tryz.prog (exec Tryz.prog orcPc 10) (syOf [(12, 7)]) askPc (noLoops _) 40 34 #[liP (m + 1) k] (canon Tryz.prog [(l.map gi, e, row)]) (fun v _ => K v) = (((List.all (List.map gi l) (flat 3) = true ∧ True) ∧ okT tiT (List.map gi l) (m + 1) ∧ nonC (TellT.dec tiT (List.map gi l)) [] ∧ K (gi (firstS [whenS (ieq (Int.ofNat (m + 1)) 0) 12, whenS (ilt 64 (Int.ofNat (m + 1))) 5, firstE aE (TellT.dec tiT (List.map gi l))])))) := by kernel_rfl
end Go.Proofs.YtkggjnjiggekeaaGreatDoor
