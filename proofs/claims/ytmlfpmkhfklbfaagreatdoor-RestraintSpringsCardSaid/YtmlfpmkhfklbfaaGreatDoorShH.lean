/-
  OWN WORK. Springs: the force of a spring with its error; the law, carried out.
-/
import Derived.Test.YtmlfpmkhfklbfaaGreatDoorShG
import Derived.Test.YtmlfpmkhfklbfaaGreatDoorAiZ
namespace Go.Proofs.YtmlfpmkhfklbfaaGreatDoor
open Go Go.Am

theorem fce_nil (w : Int) (K : Value → Prop) : callC Tryz.prog (exec Tryz.prog orcSg 10) (syOf [(8, 7), (14, 1), (18, 7)]) askSg (noLoops _) 20 19 #[nilS, gi w] (emp Tryz.prog) (fun v _ => K v) = ((True ∧ noC ([] : List P2) [] ∧ ((!(ieq (firstS [16, withinS w (-100000000) 100000000]) 0)) = true → K (Value.tuple #[gi 0, gi (firstS [16, withinS w (-100000000) 100000000])])) ∧ ((!(ieq (firstS [16, withinS w (-100000000) 100000000]) 0)) = false → (True ∧ foC [] [gi w] ∧ K (Value.tuple #[gi (foV [] (wOf [gi w])), gi 0]))))) := by kernel_rfl
theorem fce_emp (w : Int) (k : Nat) (K : Value → Prop) : callC Tryz.prog (exec Tryz.prog orcSg 10) (syOf [(8, 7), (14, 1), (18, 7)]) askSg (noLoops _) 20 19 #[.slice (some ⟨0, 0, none⟩) 0 k, gi w] (emp Tryz.prog) (fun v _ => K v) = ((True ∧ noC ([] : List P2) [] ∧ ((!(ieq (firstS [16, withinS w (-100000000) 100000000]) 0)) = true → K (Value.tuple #[gi 0, gi (firstS [16, withinS w (-100000000) 100000000])])) ∧ ((!(ieq (firstS [16, withinS w (-100000000) 100000000]) 0)) = false → (True ∧ foC [] [gi w] ∧ K (Value.tuple #[gi (foV [] (wOf [gi w])), gi 0]))))) := by kernel_rfl
theorem fce_run (l : List P2) (w : Int) (m e row k : Nat) (K : Value → Prop) : callC Tryz.prog (exec Tryz.prog orcSg 10) (syOf [(8, 7), (14, 1), (18, 7)]) askSg (noLoops _) 20 19 #[liP (m + 1) k, gi w] (canon Tryz.prog [(cellsP l, e, row)]) (fun v _ => K v) = (((List.all (cellsP l) (flat 3) = true ∧ True) ∧ true = true ∧ (∃ x1 : List P2, (cellsP l = cellsP x1 ∧ ((0 : Nat) < (m + 1) ∧ List.length x1 = (m + 1) ∧ ((m + 1) : Nat) ≤ 65536) ∧ noC x1 [] ∧ ((!(ieq (firstS [sprE x1, withinS w (-100000000) 100000000]) 0)) = true → K (Value.tuple #[gi 0, gi (firstS [sprE x1, withinS w (-100000000) 100000000])])) ∧ ((!(ieq (firstS [sprE x1, withinS w (-100000000) 100000000]) 0)) = false → ((List.all (cellsP l) (flat 3) = true ∧ True) ∧ (true && List.all [gi w] plainB) = true ∧ (∃ x2 : List P2, (cellsP l = cellsP x2 ∧ ((0 : Nat) < (m + 1) ∧ List.length x2 = (m + 1) ∧ ((m + 1) : Nat) ≤ 65536) ∧ foC x2 [gi w] ∧ K (Value.tuple #[gi (foV x2 (wOf [gi w])), gi 0]))))))))) := by kernel_rfl
noncomputable def FoE (l : List P2) (w : Int) : Int := firstS [sprE l, withinS w (-100000000) 100000000]
noncomputable def FoV (l : List P2) (w : Int) : Int := bif ieq (FoE l w) 0 then foV l w else 0
def FoC (_ : List P2) (r : List Value) : Prop := r = [gi (wOf r)]
noncomputable abbrev FoO : List P2 → List Value → Out := fun l r => .plain (.tuple #[gi (FoV l (wOf r)), gi (FoE l (wOf r))])
noncomputable def orcSh : Orc := orElse 19 (lstI Tryz.prog.globals.size tP FoC FoO) orcSg
noncomputable def askSh : Asks := asksI' Tryz.prog.globals.size 19 tP FoC FoO askSg
/-! awake -/
theorem awake7_call (es : Nat → TypeId) : CallJ Tryz.prog 18 #[] (base tabs7 es Tryz.prog.globals.size) (fun v _ => v = .bool true) :=
  CallJ.pieces (fn := Tryz.f18) (v := .bool true) (by kernel_rfl) (by kernel_rfl) (fun g => atAi_0 es g)
def wake7 : List Value → Option Value
  | [] => some (.bool true)
  | _ => none
theorem wake7_ok {orc : Orc} (ho : OrcOk Tryz.prog orc) : OrcOk Tryz.prog (orElse 18 (tabSpec tabs7 wake7) orc) := by
  refine tabSpec_ok tabs7_flat (fun l v h => ?_) ho
  unfold wake7 at h
  split at h
  · cases h
    exact ⟨rfl, rfl, fun es => awake7_call es⟩
  · cases h
noncomputable def orcSz : Orc := orElse 18 (tabSpec tabs7 wake7) orcSh
noncomputable def askSz : Asks := skipA 18 askSh
noncomputable def orcSy : Orc := orElse 18 (tabSpec tabs7 wake7) orcSd
theorem orcSy_ok : OrcOk Tryz.prog orcSy := wake7_ok orcSd_ok
noncomputable abbrev bH7 (es : Nat → TypeId) : AHeap := base tabs7 es Tryz.prog.globals.size
noncomputable abbrev argP (es : Nat → TypeId) (l : List P2) (e : TypeId) (row : Nat) : AHeap := (bH7 es).push (.cells (cellsP l) e row true)
theorem lw_nil (es : Nat → TypeId) (w : Int) : (call Tryz.prog orcSy 60 4 #[nilS, gi w] (bH7 es)).map (·.1) = some (.bool true) := by kernel_rfl
theorem lw_emp (es : Nat → TypeId) (w : Int) (k : Nat) : (call Tryz.prog orcSy 60 4 #[.slice (some ⟨Tryz.prog.globals.size, 0, none⟩) 0 k, gi w] ((bH7 es).push .dead)).map (·.1) = some (.bool true) := by kernel_rfl
theorem lw_run (es : Nat → TypeId) (l : List P2) (w : Int) (m k e row : Nat) (K : Value → Prop) : callC Tryz.prog (exec Tryz.prog orcSz 10) (syOf [(11, 1), (16, 54), (18, 7), (22, 7), (28, 1), (31, 7), (34, 54), (35, 7), (37, 7), (38, 31), (42, 31), (47, 31)]) askSz (noLoops _) 60 4 #[liP (m + 1) k, gi w] (argP es l e row) (fun v _ => K v) = (((ilt 9 (Int.ofNat (m + 1)) = true → K (Value.bool true)) ∧ (ilt 9 (Int.ofNat (m + 1)) = false → (Nat.ble (0 + ((m + 1) * 2)) (List.length (cellsP l)) = true ∧ Nat.ble (((2 * (m + 1)) + 256) * 16) 281474976710656 = true ∧ List.all (List.take ((m + 1) * 2) (List.drop 0 (cellsP l))) Value.oneCell' = true ∧ (List.all (List.take ((m + 1) * 2) (List.drop 0 (cellsP l))) (flat 3) = true ∧ True) ∧ (true && List.all [gi w] plainB) = true ∧ (∃ x1 : List P2, (List.take ((m + 1) * 2) (List.drop 0 (cellsP l)) = cellsP x1 ∧ ((0 : Nat) < (m + 1) ∧ List.length x1 = (m + 1) ∧ ((m + 1) : Nat) ≤ 65536) ∧ FoC x1 [gi w] ∧ (List.all (cellsP l) (flat 3) = true ∧ True) ∧ true = true ∧ (∃ x2 : List P2, (cellsP l = cellsP x2 ∧ ((0 : Nat) < (m + 1) ∧ List.length x2 = (m + 1) ∧ ((m + 1) : Nat) ≤ 65536) ∧ noC x2 [] ∧ (ieq (firstS [sprE x2, withinS w (-100000000) 100000000]) 0 = true → ((List.all (cellsP l) (flat 3) = true ∧ True) ∧ (true && List.all [gi w] plainB) = true ∧ (∃ x3 : List P2, (cellsP l = cellsP x3 ∧ ((0 : Nat) < (m + 1) ∧ List.length x3 = (m + 1) ∧ ((m + 1) : Nat) ≤ 65536) ∧ foC x3 [gi w] ∧ Nat.ble (0 + ((m + 1) * 2)) (List.length (cellsP l)) = true ∧ Nat.ble (((2 * (m + 1)) + 256) * 16) 281474976710656 = true ∧ List.all (List.take ((m + 1) * 2) (List.drop 0 (cellsP l))) Value.oneCell' = true ∧ (List.all (List.take ((m + 1) * 2) (List.drop 0 (cellsP l))) (flat 3) = true ∧ True) ∧ true = true ∧ (∃ x4 : List P2, (List.take ((m + 1) * 2) (List.drop 0 (cellsP l)) = cellsP x4 ∧ ((0 : Nat) < (m + 1) ∧ List.length x4 = (m + 1) ∧ ((m + 1) : Nat) ≤ 65536) ∧ noC x4 [] ∧ (List.all (cellsP l) (flat 3) = true ∧ True) ∧ true = true ∧ (∃ x5 : List P2, (cellsP l = cellsP x5 ∧ ((0 : Nat) < (m + 1) ∧ List.length x5 = (m + 1) ∧ ((m + 1) : Nat) ≤ 65536) ∧ noC x5 [] ∧ ieq (sprE x4) (sprE x5) = true ∧ ieq (FoV x1 (wOf [gi w])) (foV x3 (wOf [gi w])) = true ∧ ieq (FoE x1 (wOf [gi w])) (firstS [sprE x2, withinS w (-100000000) 100000000]) = true ∧ K (Value.bool true))))))))) ∧ (ieq (firstS [sprE x2, withinS w (-100000000) 100000000]) 0 = false → (Nat.ble (0 + ((m + 1) * 2)) (List.length (cellsP l)) = true ∧ Nat.ble (((2 * (m + 1)) + 256) * 16) 281474976710656 = true ∧ List.all (List.take ((m + 1) * 2) (List.drop 0 (cellsP l))) Value.oneCell' = true ∧ (List.all (List.take ((m + 1) * 2) (List.drop 0 (cellsP l))) (flat 3) = true ∧ True) ∧ true = true ∧ (∃ x3 : List P2, (List.take ((m + 1) * 2) (List.drop 0 (cellsP l)) = cellsP x3 ∧ ((0 : Nat) < (m + 1) ∧ List.length x3 = (m + 1) ∧ ((m + 1) : Nat) ≤ 65536) ∧ noC x3 [] ∧ (List.all (cellsP l) (flat 3) = true ∧ True) ∧ true = true ∧ (∃ x4 : List P2, (cellsP l = cellsP x4 ∧ ((0 : Nat) < (m + 1) ∧ List.length x4 = (m + 1) ∧ ((m + 1) : Nat) ≤ 65536) ∧ noC x4 [] ∧ ieq (sprE x3) (sprE x4) = true ∧ ieq (FoV x1 (wOf [gi w])) 0 = true ∧ ieq (FoE x1 (wOf [gi w])) (firstS [sprE x2, withinS w (-100000000) 100000000]) = true ∧ K (Value.bool true))))))))))))))) := by kernel_rfl
end Go.Proofs.YtmlfpmkhfklbfaaGreatDoor
