/-
  OWN WORK. Filtered known.
-/
import Derived.Test.YthgojmebbhpbbaaGreatDoorKaK
import Derived.Test.YthgojmebbhpbbaaGreatDoorAmV
/-! (OWN WORK. Kernels: the program's filter as a known call.) -/
namespace Go.Proofs.YthgojmebbhpbbaaGreatDoor
open Go Go.Am
noncomputable def tF : Tell Nat := ⟨List.map gf, decs dF, fun l => decs_map (d := dF) (e := gf) (fun _ => rfl) l, fun h => decs_some (d := dF) (e := gf) dF_some h, fun l => flat_floats l⟩
noncomputable abbrev emS (j : Nat) : Value := .slice (some ⟨0, 0, none⟩) 0 j
noncomputable abbrev erV (e : Int) : Value := .tuple #[nilS, gi e]
noncomputable abbrev erE (l : List Nat) (kl : List Int) : Int := firstS [csE l, keE kl]
noncomputable def zR (kl : List Int) (q : Nat) (K : Value → Option AObj → Prop) : Prop :=
 (List.all (kl.map gi) (flat 3) = true ∧ True) ∧ true = true ∧ ∃ x1 : List Int, kl.map gi = x1.map gi ∧ (0 < q ∧ x1.length = q ∧ q ≤ 65536) ∧ noC x1 [] ∧ (!(ieq (firstS [0, keE x1]) 0)) = false ∧ (List.all (kl.map gi) (flat 3) = true ∧ True) ∧ true = true ∧
 ∃ x2 : List Int, kl.map gi = x2.map gi ∧ (0 < q ∧ x2.length = q ∧ q ≤ 65536) ∧ (([] : List Value) = [] ∧ keE x2 = 0) ∧ x2.length = q ∧ K (.tuple #[slX (nG1 + 6) 0 0, gi 0]) (some (.cells [] 50 2 false))
noncomputable def zE (kl : List Int) (q : Nat) (e' row' : Nat) (K : Value → Prop) : Prop :=
 (List.all (kl.map gi) (flat 3) = true ∧ True) ∧ true = true ∧ ∃ x1 : List Int, kl.map gi = x1.map gi ∧ (0 < q ∧ x1.length = q ∧ q ≤ 65536) ∧ noC x1 [] ∧ (!(ieq (firstS [0, keE x1]) 0)) = true ∧
 ∃ x2 : AHeap, some ((canon Tryz.prog [(kl.map gi, e', row')]).push (.cells [csR [] [], gi (keE x1)] 27 2 false)) = some x2 ∧ K (erV (firstS [0, keE x1]))
theorem zn_1 (w0 : Int) (k' e' row' : Nat) (K : Value → Option AObj → Prop) : callR Tryz.prog orcKi (fun _ => syOf [(19, 7), (23, 32), (27, 7)]) (askKi 1) 200 48 #[nilS, slX nG1 1 k', thF] (canon Tryz.prog [([w0].map gi, e', row')]) (fun v h => K v (h.get (nG1 + 6))) = zR [w0] 1 K := by kernel_rfl
theorem ze_1 (w0 : Int) (j : Nat) (k' e' row' : Nat) (K : Value → Option AObj → Prop) : callR Tryz.prog orcKi (fun _ => syOf [(19, 7), (23, 32), (27, 7)]) (askKi 1) 200 48 #[(emS j), slX nG1 1 k', thF] (canon Tryz.prog [([w0].map gi, e', row')]) (fun v h => K v (h.get (nG1 + 6))) = zR [w0] 1 K := by kernel_rfl
theorem vn_1 (w0 : Int) (k' e' row' : Nat) (K : Value → Option AObj → Prop) : callR Tryz.prog orcKi (fun _ => syOf [(19, 7), (23, 32), (27, 7)]) (askKi 1) 200 48 #[nilS, slX nG1 1 k', tbF] (canon Tryz.prog [([w0].map gi, e', row')]) (fun v h => K v (h.get (nG1 + 6))) = zR [w0] 1 K := by kernel_rfl
theorem ve_1 (w0 : Int) (j : Nat) (k' e' row' : Nat) (K : Value → Option AObj → Prop) : callR Tryz.prog orcKi (fun _ => syOf [(19, 7), (23, 32), (27, 7)]) (askKi 1) 200 48 #[(emS j), slX nG1 1 k', tbF] (canon Tryz.prog [([w0].map gi, e', row')]) (fun v h => K v (h.get (nG1 + 6))) = zR [w0] 1 K := by kernel_rfl
theorem zn_2 (w0 w1 : Int) (k' e' row' : Nat) (K : Value → Option AObj → Prop) : callR Tryz.prog orcKi (fun _ => syOf [(19, 7), (23, 32), (27, 7)]) (askKi 2) 200 48 #[nilS, slX nG1 2 k', thF] (canon Tryz.prog [([w0, w1].map gi, e', row')]) (fun v h => K v (h.get (nG1 + 6))) = zR [w0, w1] 2 K := by kernel_rfl
theorem ze_2 (w0 w1 : Int) (j : Nat) (k' e' row' : Nat) (K : Value → Option AObj → Prop) : callR Tryz.prog orcKi (fun _ => syOf [(19, 7), (23, 32), (27, 7)]) (askKi 2) 200 48 #[(emS j), slX nG1 2 k', thF] (canon Tryz.prog [([w0, w1].map gi, e', row')]) (fun v h => K v (h.get (nG1 + 6))) = zR [w0, w1] 2 K := by kernel_rfl
theorem vn_2 (w0 w1 : Int) (k' e' row' : Nat) (K : Value → Option AObj → Prop) : callR Tryz.prog orcKi (fun _ => syOf [(19, 7), (23, 32), (27, 7)]) (askKi 2) 200 48 #[nilS, slX nG1 2 k', tbF] (canon Tryz.prog [([w0, w1].map gi, e', row')]) (fun v h => K v (h.get (nG1 + 6))) = zR [w0, w1] 2 K := by kernel_rfl
theorem ve_2 (w0 w1 : Int) (j : Nat) (k' e' row' : Nat) (K : Value → Option AObj → Prop) : callR Tryz.prog orcKi (fun _ => syOf [(19, 7), (23, 32), (27, 7)]) (askKi 2) 200 48 #[(emS j), slX nG1 2 k', tbF] (canon Tryz.prog [([w0, w1].map gi, e', row')]) (fun v h => K v (h.get (nG1 + 6))) = zR [w0, w1] 2 K := by kernel_rfl
theorem zn_3 (w0 w1 w2 : Int) (k' e' row' : Nat) (K : Value → Option AObj → Prop) : callR Tryz.prog orcKi (fun _ => syOf [(19, 7), (23, 32), (27, 7)]) (askKi 3) 200 48 #[nilS, slX nG1 3 k', thF] (canon Tryz.prog [([w0, w1, w2].map gi, e', row')]) (fun v h => K v (h.get (nG1 + 6))) = zR [w0, w1, w2] 3 K := by kernel_rfl
theorem ze_3 (w0 w1 w2 : Int) (j : Nat) (k' e' row' : Nat) (K : Value → Option AObj → Prop) : callR Tryz.prog orcKi (fun _ => syOf [(19, 7), (23, 32), (27, 7)]) (askKi 3) 200 48 #[(emS j), slX nG1 3 k', thF] (canon Tryz.prog [([w0, w1, w2].map gi, e', row')]) (fun v h => K v (h.get (nG1 + 6))) = zR [w0, w1, w2] 3 K := by kernel_rfl
theorem vn_3 (w0 w1 w2 : Int) (k' e' row' : Nat) (K : Value → Option AObj → Prop) : callR Tryz.prog orcKi (fun _ => syOf [(19, 7), (23, 32), (27, 7)]) (askKi 3) 200 48 #[nilS, slX nG1 3 k', tbF] (canon Tryz.prog [([w0, w1, w2].map gi, e', row')]) (fun v h => K v (h.get (nG1 + 6))) = zR [w0, w1, w2] 3 K := by kernel_rfl
theorem ve_3 (w0 w1 w2 : Int) (j : Nat) (k' e' row' : Nat) (K : Value → Option AObj → Prop) : callR Tryz.prog orcKi (fun _ => syOf [(19, 7), (23, 32), (27, 7)]) (askKi 3) 200 48 #[(emS j), slX nG1 3 k', tbF] (canon Tryz.prog [([w0, w1, w2].map gi, e', row')]) (fun v h => K v (h.get (nG1 + 6))) = zR [w0, w1, w2] 3 K := by kernel_rfl
theorem zn_4 (w0 w1 w2 w3 : Int) (k' e' row' : Nat) (K : Value → Option AObj → Prop) : callR Tryz.prog orcKi (fun _ => syOf [(19, 7), (23, 32), (27, 7)]) (askKi 4) 200 48 #[nilS, slX nG1 4 k', thF] (canon Tryz.prog [([w0, w1, w2, w3].map gi, e', row')]) (fun v h => K v (h.get (nG1 + 6))) = zR [w0, w1, w2, w3] 4 K := by kernel_rfl
theorem ze_4 (w0 w1 w2 w3 : Int) (j : Nat) (k' e' row' : Nat) (K : Value → Option AObj → Prop) : callR Tryz.prog orcKi (fun _ => syOf [(19, 7), (23, 32), (27, 7)]) (askKi 4) 200 48 #[(emS j), slX nG1 4 k', thF] (canon Tryz.prog [([w0, w1, w2, w3].map gi, e', row')]) (fun v h => K v (h.get (nG1 + 6))) = zR [w0, w1, w2, w3] 4 K := by kernel_rfl
theorem vn_4 (w0 w1 w2 w3 : Int) (k' e' row' : Nat) (K : Value → Option AObj → Prop) : callR Tryz.prog orcKi (fun _ => syOf [(19, 7), (23, 32), (27, 7)]) (askKi 4) 200 48 #[nilS, slX nG1 4 k', tbF] (canon Tryz.prog [([w0, w1, w2, w3].map gi, e', row')]) (fun v h => K v (h.get (nG1 + 6))) = zR [w0, w1, w2, w3] 4 K := by kernel_rfl
theorem ve_4 (w0 w1 w2 w3 : Int) (j : Nat) (k' e' row' : Nat) (K : Value → Option AObj → Prop) : callR Tryz.prog orcKi (fun _ => syOf [(19, 7), (23, 32), (27, 7)]) (askKi 4) 200 48 #[(emS j), slX nG1 4 k', tbF] (canon Tryz.prog [([w0, w1, w2, w3].map gi, e', row')]) (fun v h => K v (h.get (nG1 + 6))) = zR [w0, w1, w2, w3] 4 K := by kernel_rfl
theorem zn_5 (w0 w1 w2 w3 w4 : Int) (k' e' row' : Nat) (K : Value → Option AObj → Prop) : callR Tryz.prog orcKi (fun _ => syOf [(19, 7), (23, 32), (27, 7)]) (askKi 5) 200 48 #[nilS, slX nG1 5 k', thF] (canon Tryz.prog [([w0, w1, w2, w3, w4].map gi, e', row')]) (fun v h => K v (h.get (nG1 + 6))) = zR [w0, w1, w2, w3, w4] 5 K := by kernel_rfl
theorem ze_5 (w0 w1 w2 w3 w4 : Int) (j : Nat) (k' e' row' : Nat) (K : Value → Option AObj → Prop) : callR Tryz.prog orcKi (fun _ => syOf [(19, 7), (23, 32), (27, 7)]) (askKi 5) 200 48 #[(emS j), slX nG1 5 k', thF] (canon Tryz.prog [([w0, w1, w2, w3, w4].map gi, e', row')]) (fun v h => K v (h.get (nG1 + 6))) = zR [w0, w1, w2, w3, w4] 5 K := by kernel_rfl
theorem vn_5 (w0 w1 w2 w3 w4 : Int) (k' e' row' : Nat) (K : Value → Option AObj → Prop) : callR Tryz.prog orcKi (fun _ => syOf [(19, 7), (23, 32), (27, 7)]) (askKi 5) 200 48 #[nilS, slX nG1 5 k', tbF] (canon Tryz.prog [([w0, w1, w2, w3, w4].map gi, e', row')]) (fun v h => K v (h.get (nG1 + 6))) = zR [w0, w1, w2, w3, w4] 5 K := by kernel_rfl
theorem ve_5 (w0 w1 w2 w3 w4 : Int) (j : Nat) (k' e' row' : Nat) (K : Value → Option AObj → Prop) : callR Tryz.prog orcKi (fun _ => syOf [(19, 7), (23, 32), (27, 7)]) (askKi 5) 200 48 #[(emS j), slX nG1 5 k', tbF] (canon Tryz.prog [([w0, w1, w2, w3, w4].map gi, e', row')]) (fun v h => K v (h.get (nG1 + 6))) = zR [w0, w1, w2, w3, w4] 5 K := by kernel_rfl
theorem zn_6 (w0 w1 w2 w3 w4 w5 : Int) (k' e' row' : Nat) (K : Value → Option AObj → Prop) : callR Tryz.prog orcKi (fun _ => syOf [(19, 7), (23, 32), (27, 7)]) (askKi 6) 200 48 #[nilS, slX nG1 6 k', thF] (canon Tryz.prog [([w0, w1, w2, w3, w4, w5].map gi, e', row')]) (fun v h => K v (h.get (nG1 + 6))) = zR [w0, w1, w2, w3, w4, w5] 6 K := by kernel_rfl
theorem ze_6 (w0 w1 w2 w3 w4 w5 : Int) (j : Nat) (k' e' row' : Nat) (K : Value → Option AObj → Prop) : callR Tryz.prog orcKi (fun _ => syOf [(19, 7), (23, 32), (27, 7)]) (askKi 6) 200 48 #[(emS j), slX nG1 6 k', thF] (canon Tryz.prog [([w0, w1, w2, w3, w4, w5].map gi, e', row')]) (fun v h => K v (h.get (nG1 + 6))) = zR [w0, w1, w2, w3, w4, w5] 6 K := by kernel_rfl
theorem vn_6 (w0 w1 w2 w3 w4 w5 : Int) (k' e' row' : Nat) (K : Value → Option AObj → Prop) : callR Tryz.prog orcKi (fun _ => syOf [(19, 7), (23, 32), (27, 7)]) (askKi 6) 200 48 #[nilS, slX nG1 6 k', tbF] (canon Tryz.prog [([w0, w1, w2, w3, w4, w5].map gi, e', row')]) (fun v h => K v (h.get (nG1 + 6))) = zR [w0, w1, w2, w3, w4, w5] 6 K := by kernel_rfl
theorem ve_6 (w0 w1 w2 w3 w4 w5 : Int) (j : Nat) (k' e' row' : Nat) (K : Value → Option AObj → Prop) : callR Tryz.prog orcKi (fun _ => syOf [(19, 7), (23, 32), (27, 7)]) (askKi 6) 200 48 #[(emS j), slX nG1 6 k', tbF] (canon Tryz.prog [([w0, w1, w2, w3, w4, w5].map gi, e', row')]) (fun v h => K v (h.get (nG1 + 6))) = zR [w0, w1, w2, w3, w4, w5] 6 K := by kernel_rfl
theorem zn_7 (w0 w1 w2 w3 w4 w5 w6 : Int) (k' e' row' : Nat) (K : Value → Option AObj → Prop) : callR Tryz.prog orcKi (fun _ => syOf [(19, 7), (23, 32), (27, 7)]) (askKi 7) 200 48 #[nilS, slX nG1 7 k', thF] (canon Tryz.prog [([w0, w1, w2, w3, w4, w5, w6].map gi, e', row')]) (fun v h => K v (h.get (nG1 + 6))) = zR [w0, w1, w2, w3, w4, w5, w6] 7 K := by kernel_rfl
theorem ze_7 (w0 w1 w2 w3 w4 w5 w6 : Int) (j : Nat) (k' e' row' : Nat) (K : Value → Option AObj → Prop) : callR Tryz.prog orcKi (fun _ => syOf [(19, 7), (23, 32), (27, 7)]) (askKi 7) 200 48 #[(emS j), slX nG1 7 k', thF] (canon Tryz.prog [([w0, w1, w2, w3, w4, w5, w6].map gi, e', row')]) (fun v h => K v (h.get (nG1 + 6))) = zR [w0, w1, w2, w3, w4, w5, w6] 7 K := by kernel_rfl
theorem vn_7 (w0 w1 w2 w3 w4 w5 w6 : Int) (k' e' row' : Nat) (K : Value → Option AObj → Prop) : callR Tryz.prog orcKi (fun _ => syOf [(19, 7), (23, 32), (27, 7)]) (askKi 7) 200 48 #[nilS, slX nG1 7 k', tbF] (canon Tryz.prog [([w0, w1, w2, w3, w4, w5, w6].map gi, e', row')]) (fun v h => K v (h.get (nG1 + 6))) = zR [w0, w1, w2, w3, w4, w5, w6] 7 K := by kernel_rfl
theorem ve_7 (w0 w1 w2 w3 w4 w5 w6 : Int) (j : Nat) (k' e' row' : Nat) (K : Value → Option AObj → Prop) : callR Tryz.prog orcKi (fun _ => syOf [(19, 7), (23, 32), (27, 7)]) (askKi 7) 200 48 #[(emS j), slX nG1 7 k', tbF] (canon Tryz.prog [([w0, w1, w2, w3, w4, w5, w6].map gi, e', row')]) (fun v h => K v (h.get (nG1 + 6))) = zR [w0, w1, w2, w3, w4, w5, w6] 7 K := by kernel_rfl
theorem xn_run (kl : List Int) (q : Nat) (k' e' row' : Nat) (f : Value) (K : Value → Prop) : callM Tryz.prog (exec Tryz.prog orcKi 10) (syOf [(19, 7), (23, 31)]) (askKi 2) (noLoops _) 20 48 #[nilS, slX nG1 (q + 1) k', f] (canon Tryz.prog [(kl.map gi, e', row')]) (fun v _ => K v) = zE kl (q + 1) e' row' K := by kernel_rfl
theorem xe_run (kl : List Int) (q : Nat) (j : Nat) (k' e' row' : Nat) (f : Value) (K : Value → Prop) : callM Tryz.prog (exec Tryz.prog orcKi 10) (syOf [(19, 7), (23, 31)]) (askKi 2) (noLoops _) 20 48 #[(emS j), slX nG1 (q + 1) k', f] (canon Tryz.prog [(kl.map gi, e', row')]) (fun v _ => K v) = zE kl (q + 1) e' row' K := by kernel_rfl
theorem yn_run (l : List Nat) (n k e row : Nat) (f : Value) (K : Value → Prop) : callM Tryz.prog (exec Tryz.prog orcKi 10) (syOf [(17, 7), (19, 7), (23, 31)]) (askKi 2) (noLoops _) 20 48 #[slX nG1 (n + 1) k, nilS, f] (canon Tryz.prog [(l.map gf, e, row)]) (fun v _ => K v) = ((∃ x1 : List Nat, (List.map gf l = List.map gf x1 ∧ (0 : Nat) < (n + 1) ∧ ((n + 1) : Nat) ≤ List.length x1 ∧ ((n + 1) : Nat) ≤ 1000000 ∧ ((n + 1) : Nat) ≤ k ∧ True ∧ noC ([] : List Int) [] ∧ (!(ieq (firstS [csE (List.take (n + 1) x1), 12]) 0)) = true ∧ (∃ x2 : AHeap, (Option.some ((canon Tryz.prog [(List.map gf l, e, row)]).push (.cells [csR (List.take (n + 1) x1) [], gi 12] 27 2 false)) = Option.some x2 ∧ K (Value.tuple #[nilS, gi (firstS [csE (List.take (n + 1) x1), 12])])))))) := by kernel_rfl
theorem ye_run (l : List Nat) (n k e row : Nat) (j : Nat) (f : Value) (K : Value → Prop) : callM Tryz.prog (exec Tryz.prog orcKi 10) (syOf [(17, 7), (19, 7), (23, 31)]) (askKi 2) (noLoops _) 20 48 #[slX nG1 (n + 1) k, (emS j), f] (canon Tryz.prog [(l.map gf, e, row)]) (fun v _ => K v) = ((∃ x1 : List Nat, (List.map gf l = List.map gf x1 ∧ (0 : Nat) < (n + 1) ∧ ((n + 1) : Nat) ≤ List.length x1 ∧ ((n + 1) : Nat) ≤ 1000000 ∧ ((n + 1) : Nat) ≤ k ∧ True ∧ noC ([] : List Int) [] ∧ (!(ieq (firstS [csE (List.take (n + 1) x1), 12]) 0)) = true ∧ (∃ x2 : AHeap, (Option.some ((canon Tryz.prog [(List.map gf l, e, row)]).push (.cells [csR (List.take (n + 1) x1) [], gi 12] 27 2 false)) = Option.some x2 ∧ K (Value.tuple #[nilS, gi (firstS [csE (List.take (n + 1) x1), 12])])))))) := by kernel_rfl
theorem unn_run (f : Value) (K : Value → Prop) : callM Tryz.prog (exec Tryz.prog orcKi 10) (syOf [(19, 7), (23, 31)]) (askKi 2) (noLoops _) 20 48 #[nilS, nilS, f] (canon Tryz.prog []) (fun v _ => K v) = ((True ∧ noC ([] : List Int) [] ∧ true = true ∧ (∃ x1 : AHeap, (Option.some ((canon Tryz.prog []).push (.cells [csR [] [], gi 12] 27 2 false)) = Option.some x1 ∧ K (Value.tuple #[nilS, gi 12]))))) := by kernel_rfl
theorem une_run (i : Nat) (f : Value) (K : Value → Prop) : callM Tryz.prog (exec Tryz.prog orcKi 10) (syOf [(19, 7), (23, 31)]) (askKi 2) (noLoops _) 20 48 #[nilS, (emS i), f] (canon Tryz.prog []) (fun v _ => K v) = ((True ∧ noC ([] : List Int) [] ∧ true = true ∧ (∃ x1 : AHeap, (Option.some ((canon Tryz.prog []).push (.cells [csR [] [], gi 12] 27 2 false)) = Option.some x1 ∧ K (Value.tuple #[nilS, gi 12]))))) := by kernel_rfl
theorem uen_run (j : Nat) (f : Value) (K : Value → Prop) : callM Tryz.prog (exec Tryz.prog orcKi 10) (syOf [(19, 7), (23, 31)]) (askKi 2) (noLoops _) 20 48 #[(emS j), nilS, f] (canon Tryz.prog []) (fun v _ => K v) = ((True ∧ noC ([] : List Int) [] ∧ true = true ∧ (∃ x1 : AHeap, (Option.some ((canon Tryz.prog []).push (.cells [csR [] [], gi 12] 27 2 false)) = Option.some x1 ∧ K (Value.tuple #[nilS, gi 12]))))) := by kernel_rfl
theorem uee_run (j : Nat) (i : Nat) (f : Value) (K : Value → Prop) : callM Tryz.prog (exec Tryz.prog orcKi 10) (syOf [(19, 7), (23, 31)]) (askKi 2) (noLoops _) 20 48 #[(emS j), (emS i), f] (canon Tryz.prog []) (fun v _ => K v) = ((True ∧ noC ([] : List Int) [] ∧ true = true ∧ (∃ x1 : AHeap, (Option.some ((canon Tryz.prog []).push (.cells [csR [] [], gi 12] 27 2 false)) = Option.some x1 ∧ K (Value.tuple #[nilS, gi 12]))))) := by kernel_rfl
end Go.Proofs.YthgojmebbhpbbaaGreatDoor
/-! (OWN WORK. Kernels: the program's filter, its entry.) -/
namespace Go.Proofs.YthgojmebbhpbbaaGreatDoor
open Go Go.Am
open Classical in
noncomputable def fOut (l : List Nat) (kl W : List Int) (d v : Int) : Out := if erE l kl = 0 then outP l W d v else .plain (erV (erE l kl))
theorem fOut_ok (l : List Nat) (kl W : List Int) (d v : Int) : (fOut l kl W d v).Ok := by
 unfold fOut
 split
 ·exact outP_ok _ _ _ _
 ·exact rfl
open Classical in
noncomputable def flX (l : List Nat) (kl : List Int) (r : List Value) : Option Out :=
 if l.length ≤ 41 ∨ erE l kl ≠ 0 then (if r = [thF] then some (fOut l kl kl.reverse (1 - (kl.length : Int)) (sumW kl)) else if r = [tbF] then some (fOut l kl (wtsE kl) (1 - (kl.length : Int)) (sumW kl * sumW kl)) else none) else none
theorem flX_some {l : List Nat} {kl : List Int} {r : List Value} {o : Out} (h : flX l kl r = some o) : (l.length ≤ 41 ∨ erE l kl ≠ 0) ∧ ((r = [thF] ∧ o = fOut l kl kl.reverse (1 - (kl.length : Int)) (sumW kl)) ∨ (r = [tbF] ∧ o = fOut l kl (wtsE kl) (1 - (kl.length : Int)) (sumW kl * sumW kl))) := by
 unfold flX at h
 split at h
 ·rename_i hc
  split at h
  ·rename_i hr; cases h; exact ⟨hc, .inl ⟨hr, rfl⟩⟩
  ·split at h
   ·rename_i hr; cases h; exact ⟨hc, .inr ⟨hr, rfl⟩⟩
   ·cases h
 ·cases h
theorem erE_nil (kl : List Int) : erE [] kl = keE kl := by
 show firstS [csE [], keE kl] = _
 rw [csE_nil]
 show (bif ieq 0 0 then (bif ieq (keE kl) 0 then 0 else keE kl) else 0) = _
 rw [show ieq 0 0 = true from rfl, cond_true, ieq_dec]
 by_cases h : keE kl = 0
 ·rw [h]; rfl
 ·rw [decide_eq_false h]; rfl
theorem er_k0 (l : List Nat) : erE l [] ≠ 0 := by
 show firstS [csE l, keE []] ≠ 0
 rw [keE_nil]
 show (bif ieq (csE l) 0 then (bif ieq 12 0 then 0 else 12) else csE l) ≠ 0
 rw [ieq_dec]
 by_cases h : csE l = 0
 ·rw [h]; decide
 ·rw [decide_eq_false h]; exact h
theorem er_zero {l : List Nat} {kl : List Int} (h : erE l kl = 0) : csE l = 0 ∧ keE kl = 0 := by
 have h1 := firstS_none h
 exact ⟨h1 _ (.head _), h1 _ (.tail _ (.head _))⟩
theorem fOut_err {l : List Nat} {kl W : List Int} {d v : Int} (h : erE l kl ≠ 0) : fOut l kl W d v = .plain (erV (erE l kl)) := if_neg h
theorem fOut_val {l : List Nat} {kl W : List Int} {d v : Int} (h : erE l kl = 0) : fOut l kl W d v = outP l W d v := if_pos h
theorem outP_nil (W : List Int) (d v : Int) {x : Value} {h : AHeap} (hx : x = .tuple #[slX (nG1 + 6) 0 0, gi 0]) (hg : h.get (nG1 + 6) = some (.cells [] 50 2 false)) : (outP [] W d v).Got x h := by
 unfold outP
 rw [if_pos (show okAll (List.map unitE []) W d v [].length from fun i hi => absurd hi (by simp))]
 exact ⟨nG1 + 6, hx, hg⟩
set_option maxRecDepth 100000 in
theorem zn_call (kl : List Int) (hk : keE kl = 0) (k e row : Nat) : CallJ Tryz.prog 48 #[nilS, slX nG1 kl.length k, thF] (canon Tryz.prog [(kl.map gi, e, row)]) (fun x h => x = .tuple #[slX (nG1 + 6) 0 0, gi 0] ∧ h.get (nG1 + 6) = some (.cells [] 50 2 false)) := by
 obtain ⟨⟨h1, h2⟩, _, _⟩ := ke_valid hk
 have hf : ∀ kl : List Int, (List.all (kl.map gi) (flat 3) = true ∧ True) := fun kl => ⟨flat_ints kl, trivial⟩
 have h0 : ∀ {kl : List Int}, keE kl = 0 → (!(ieq (firstS [0, keE kl]) 0)) = false := fun hk => by rw [hk]; rfl
 exact match kl, h1, h2, hk with
  | [a], _, _, hk => CallJ.ofR mixed orcKi_ok (askKi_ok 1) (Eq.mpr (zn_1 a  k e row fun v o => v = .tuple #[slX (nG1 + 6) 0 0, gi 0] ∧ o = some (.cells [] 50 2 false)) ⟨hf _, rfl, _, rfl, ⟨by omega, rfl, by omega⟩, rfl, h0 hk, hf _, rfl, _, rfl, ⟨by omega, rfl, by omega⟩, ⟨rfl, hk⟩, rfl, rfl, rfl⟩)
  | [a, b], _, _, hk => CallJ.ofR mixed orcKi_ok (askKi_ok 2) (Eq.mpr (zn_2 a b  k e row fun v o => v = .tuple #[slX (nG1 + 6) 0 0, gi 0] ∧ o = some (.cells [] 50 2 false)) ⟨hf _, rfl, _, rfl, ⟨by omega, rfl, by omega⟩, rfl, h0 hk, hf _, rfl, _, rfl, ⟨by omega, rfl, by omega⟩, ⟨rfl, hk⟩, rfl, rfl, rfl⟩)
  | [a, b, c], _, _, hk => CallJ.ofR mixed orcKi_ok (askKi_ok 3) (Eq.mpr (zn_3 a b c  k e row fun v o => v = .tuple #[slX (nG1 + 6) 0 0, gi 0] ∧ o = some (.cells [] 50 2 false)) ⟨hf _, rfl, _, rfl, ⟨by omega, rfl, by omega⟩, rfl, h0 hk, hf _, rfl, _, rfl, ⟨by omega, rfl, by omega⟩, ⟨rfl, hk⟩, rfl, rfl, rfl⟩)
  | [a, b, c, d], _, _, hk => CallJ.ofR mixed orcKi_ok (askKi_ok 4) (Eq.mpr (zn_4 a b c d  k e row fun v o => v = .tuple #[slX (nG1 + 6) 0 0, gi 0] ∧ o = some (.cells [] 50 2 false)) ⟨hf _, rfl, _, rfl, ⟨by omega, rfl, by omega⟩, rfl, h0 hk, hf _, rfl, _, rfl, ⟨by omega, rfl, by omega⟩, ⟨rfl, hk⟩, rfl, rfl, rfl⟩)
  | [a, b, c, d, p], _, _, hk => CallJ.ofR mixed orcKi_ok (askKi_ok 5) (Eq.mpr (zn_5 a b c d p  k e row fun v o => v = .tuple #[slX (nG1 + 6) 0 0, gi 0] ∧ o = some (.cells [] 50 2 false)) ⟨hf _, rfl, _, rfl, ⟨by omega, rfl, by omega⟩, rfl, h0 hk, hf _, rfl, _, rfl, ⟨by omega, rfl, by omega⟩, ⟨rfl, hk⟩, rfl, rfl, rfl⟩)
  | [a, b, c, d, p, q], _, _, hk => CallJ.ofR mixed orcKi_ok (askKi_ok 6) (Eq.mpr (zn_6 a b c d p q  k e row fun v o => v = .tuple #[slX (nG1 + 6) 0 0, gi 0] ∧ o = some (.cells [] 50 2 false)) ⟨hf _, rfl, _, rfl, ⟨by omega, rfl, by omega⟩, rfl, h0 hk, hf _, rfl, _, rfl, ⟨by omega, rfl, by omega⟩, ⟨rfl, hk⟩, rfl, rfl, rfl⟩)
  | [a, b, c, d, p, q, r], _, _, hk => CallJ.ofR mixed orcKi_ok (askKi_ok 7) (Eq.mpr (zn_7 a b c d p q r  k e row fun v o => v = .tuple #[slX (nG1 + 6) 0 0, gi 0] ∧ o = some (.cells [] 50 2 false)) ⟨hf _, rfl, _, rfl, ⟨by omega, rfl, by omega⟩, rfl, h0 hk, hf _, rfl, _, rfl, ⟨by omega, rfl, by omega⟩, ⟨rfl, hk⟩, rfl, rfl, rfl⟩)
  | _ :: _ :: _ :: _ :: _ :: _ :: _ :: _ :: _, _, h2, _ => absurd h2 (by simp)
set_option maxRecDepth 100000 in
theorem ze_call (kl : List Int) (hk : keE kl = 0) (j : Nat) (k e row : Nat) : CallJ Tryz.prog 48 #[(emS j), slX nG1 kl.length k, thF] (canon Tryz.prog [(kl.map gi, e, row)]) (fun x h => x = .tuple #[slX (nG1 + 6) 0 0, gi 0] ∧ h.get (nG1 + 6) = some (.cells [] 50 2 false)) := by
 obtain ⟨⟨h1, h2⟩, _, _⟩ := ke_valid hk
 have hf : ∀ kl : List Int, (List.all (kl.map gi) (flat 3) = true ∧ True) := fun kl => ⟨flat_ints kl, trivial⟩
 have h0 : ∀ {kl : List Int}, keE kl = 0 → (!(ieq (firstS [0, keE kl]) 0)) = false := fun hk => by rw [hk]; rfl
 exact match kl, h1, h2, hk with
  | [a], _, _, hk => CallJ.ofR mixed orcKi_ok (askKi_ok 1) (Eq.mpr (ze_1 a j k e row fun v o => v = .tuple #[slX (nG1 + 6) 0 0, gi 0] ∧ o = some (.cells [] 50 2 false)) ⟨hf _, rfl, _, rfl, ⟨by omega, rfl, by omega⟩, rfl, h0 hk, hf _, rfl, _, rfl, ⟨by omega, rfl, by omega⟩, ⟨rfl, hk⟩, rfl, rfl, rfl⟩)
  | [a, b], _, _, hk => CallJ.ofR mixed orcKi_ok (askKi_ok 2) (Eq.mpr (ze_2 a b j k e row fun v o => v = .tuple #[slX (nG1 + 6) 0 0, gi 0] ∧ o = some (.cells [] 50 2 false)) ⟨hf _, rfl, _, rfl, ⟨by omega, rfl, by omega⟩, rfl, h0 hk, hf _, rfl, _, rfl, ⟨by omega, rfl, by omega⟩, ⟨rfl, hk⟩, rfl, rfl, rfl⟩)
  | [a, b, c], _, _, hk => CallJ.ofR mixed orcKi_ok (askKi_ok 3) (Eq.mpr (ze_3 a b c j k e row fun v o => v = .tuple #[slX (nG1 + 6) 0 0, gi 0] ∧ o = some (.cells [] 50 2 false)) ⟨hf _, rfl, _, rfl, ⟨by omega, rfl, by omega⟩, rfl, h0 hk, hf _, rfl, _, rfl, ⟨by omega, rfl, by omega⟩, ⟨rfl, hk⟩, rfl, rfl, rfl⟩)
  | [a, b, c, d], _, _, hk => CallJ.ofR mixed orcKi_ok (askKi_ok 4) (Eq.mpr (ze_4 a b c d j k e row fun v o => v = .tuple #[slX (nG1 + 6) 0 0, gi 0] ∧ o = some (.cells [] 50 2 false)) ⟨hf _, rfl, _, rfl, ⟨by omega, rfl, by omega⟩, rfl, h0 hk, hf _, rfl, _, rfl, ⟨by omega, rfl, by omega⟩, ⟨rfl, hk⟩, rfl, rfl, rfl⟩)
  | [a, b, c, d, p], _, _, hk => CallJ.ofR mixed orcKi_ok (askKi_ok 5) (Eq.mpr (ze_5 a b c d p j k e row fun v o => v = .tuple #[slX (nG1 + 6) 0 0, gi 0] ∧ o = some (.cells [] 50 2 false)) ⟨hf _, rfl, _, rfl, ⟨by omega, rfl, by omega⟩, rfl, h0 hk, hf _, rfl, _, rfl, ⟨by omega, rfl, by omega⟩, ⟨rfl, hk⟩, rfl, rfl, rfl⟩)
  | [a, b, c, d, p, q], _, _, hk => CallJ.ofR mixed orcKi_ok (askKi_ok 6) (Eq.mpr (ze_6 a b c d p q j k e row fun v o => v = .tuple #[slX (nG1 + 6) 0 0, gi 0] ∧ o = some (.cells [] 50 2 false)) ⟨hf _, rfl, _, rfl, ⟨by omega, rfl, by omega⟩, rfl, h0 hk, hf _, rfl, _, rfl, ⟨by omega, rfl, by omega⟩, ⟨rfl, hk⟩, rfl, rfl, rfl⟩)
  | [a, b, c, d, p, q, r], _, _, hk => CallJ.ofR mixed orcKi_ok (askKi_ok 7) (Eq.mpr (ze_7 a b c d p q r j k e row fun v o => v = .tuple #[slX (nG1 + 6) 0 0, gi 0] ∧ o = some (.cells [] 50 2 false)) ⟨hf _, rfl, _, rfl, ⟨by omega, rfl, by omega⟩, rfl, h0 hk, hf _, rfl, _, rfl, ⟨by omega, rfl, by omega⟩, ⟨rfl, hk⟩, rfl, rfl, rfl⟩)
  | _ :: _ :: _ :: _ :: _ :: _ :: _ :: _ :: _, _, h2, _ => absurd h2 (by simp)
set_option maxRecDepth 100000 in
theorem vn_call (kl : List Int) (hk : keE kl = 0) (k e row : Nat) : CallJ Tryz.prog 48 #[nilS, slX nG1 kl.length k, tbF] (canon Tryz.prog [(kl.map gi, e, row)]) (fun x h => x = .tuple #[slX (nG1 + 6) 0 0, gi 0] ∧ h.get (nG1 + 6) = some (.cells [] 50 2 false)) := by
 obtain ⟨⟨h1, h2⟩, _, _⟩ := ke_valid hk
 have hf : ∀ kl : List Int, (List.all (kl.map gi) (flat 3) = true ∧ True) := fun kl => ⟨flat_ints kl, trivial⟩
 have h0 : ∀ {kl : List Int}, keE kl = 0 → (!(ieq (firstS [0, keE kl]) 0)) = false := fun hk => by rw [hk]; rfl
 exact match kl, h1, h2, hk with
  | [a], _, _, hk => CallJ.ofR mixed orcKi_ok (askKi_ok 1) (Eq.mpr (vn_1 a  k e row fun v o => v = .tuple #[slX (nG1 + 6) 0 0, gi 0] ∧ o = some (.cells [] 50 2 false)) ⟨hf _, rfl, _, rfl, ⟨by omega, rfl, by omega⟩, rfl, h0 hk, hf _, rfl, _, rfl, ⟨by omega, rfl, by omega⟩, ⟨rfl, hk⟩, rfl, rfl, rfl⟩)
  | [a, b], _, _, hk => CallJ.ofR mixed orcKi_ok (askKi_ok 2) (Eq.mpr (vn_2 a b  k e row fun v o => v = .tuple #[slX (nG1 + 6) 0 0, gi 0] ∧ o = some (.cells [] 50 2 false)) ⟨hf _, rfl, _, rfl, ⟨by omega, rfl, by omega⟩, rfl, h0 hk, hf _, rfl, _, rfl, ⟨by omega, rfl, by omega⟩, ⟨rfl, hk⟩, rfl, rfl, rfl⟩)
  | [a, b, c], _, _, hk => CallJ.ofR mixed orcKi_ok (askKi_ok 3) (Eq.mpr (vn_3 a b c  k e row fun v o => v = .tuple #[slX (nG1 + 6) 0 0, gi 0] ∧ o = some (.cells [] 50 2 false)) ⟨hf _, rfl, _, rfl, ⟨by omega, rfl, by omega⟩, rfl, h0 hk, hf _, rfl, _, rfl, ⟨by omega, rfl, by omega⟩, ⟨rfl, hk⟩, rfl, rfl, rfl⟩)
  | [a, b, c, d], _, _, hk => CallJ.ofR mixed orcKi_ok (askKi_ok 4) (Eq.mpr (vn_4 a b c d  k e row fun v o => v = .tuple #[slX (nG1 + 6) 0 0, gi 0] ∧ o = some (.cells [] 50 2 false)) ⟨hf _, rfl, _, rfl, ⟨by omega, rfl, by omega⟩, rfl, h0 hk, hf _, rfl, _, rfl, ⟨by omega, rfl, by omega⟩, ⟨rfl, hk⟩, rfl, rfl, rfl⟩)
  | [a, b, c, d, p], _, _, hk => CallJ.ofR mixed orcKi_ok (askKi_ok 5) (Eq.mpr (vn_5 a b c d p  k e row fun v o => v = .tuple #[slX (nG1 + 6) 0 0, gi 0] ∧ o = some (.cells [] 50 2 false)) ⟨hf _, rfl, _, rfl, ⟨by omega, rfl, by omega⟩, rfl, h0 hk, hf _, rfl, _, rfl, ⟨by omega, rfl, by omega⟩, ⟨rfl, hk⟩, rfl, rfl, rfl⟩)
  | [a, b, c, d, p, q], _, _, hk => CallJ.ofR mixed orcKi_ok (askKi_ok 6) (Eq.mpr (vn_6 a b c d p q  k e row fun v o => v = .tuple #[slX (nG1 + 6) 0 0, gi 0] ∧ o = some (.cells [] 50 2 false)) ⟨hf _, rfl, _, rfl, ⟨by omega, rfl, by omega⟩, rfl, h0 hk, hf _, rfl, _, rfl, ⟨by omega, rfl, by omega⟩, ⟨rfl, hk⟩, rfl, rfl, rfl⟩)
  | [a, b, c, d, p, q, r], _, _, hk => CallJ.ofR mixed orcKi_ok (askKi_ok 7) (Eq.mpr (vn_7 a b c d p q r  k e row fun v o => v = .tuple #[slX (nG1 + 6) 0 0, gi 0] ∧ o = some (.cells [] 50 2 false)) ⟨hf _, rfl, _, rfl, ⟨by omega, rfl, by omega⟩, rfl, h0 hk, hf _, rfl, _, rfl, ⟨by omega, rfl, by omega⟩, ⟨rfl, hk⟩, rfl, rfl, rfl⟩)
  | _ :: _ :: _ :: _ :: _ :: _ :: _ :: _ :: _, _, h2, _ => absurd h2 (by simp)
set_option maxRecDepth 100000 in
theorem ve_call (kl : List Int) (hk : keE kl = 0) (j : Nat) (k e row : Nat) : CallJ Tryz.prog 48 #[(emS j), slX nG1 kl.length k, tbF] (canon Tryz.prog [(kl.map gi, e, row)]) (fun x h => x = .tuple #[slX (nG1 + 6) 0 0, gi 0] ∧ h.get (nG1 + 6) = some (.cells [] 50 2 false)) := by
 obtain ⟨⟨h1, h2⟩, _, _⟩ := ke_valid hk
 have hf : ∀ kl : List Int, (List.all (kl.map gi) (flat 3) = true ∧ True) := fun kl => ⟨flat_ints kl, trivial⟩
 have h0 : ∀ {kl : List Int}, keE kl = 0 → (!(ieq (firstS [0, keE kl]) 0)) = false := fun hk => by rw [hk]; rfl
 exact match kl, h1, h2, hk with
  | [a], _, _, hk => CallJ.ofR mixed orcKi_ok (askKi_ok 1) (Eq.mpr (ve_1 a j k e row fun v o => v = .tuple #[slX (nG1 + 6) 0 0, gi 0] ∧ o = some (.cells [] 50 2 false)) ⟨hf _, rfl, _, rfl, ⟨by omega, rfl, by omega⟩, rfl, h0 hk, hf _, rfl, _, rfl, ⟨by omega, rfl, by omega⟩, ⟨rfl, hk⟩, rfl, rfl, rfl⟩)
  | [a, b], _, _, hk => CallJ.ofR mixed orcKi_ok (askKi_ok 2) (Eq.mpr (ve_2 a b j k e row fun v o => v = .tuple #[slX (nG1 + 6) 0 0, gi 0] ∧ o = some (.cells [] 50 2 false)) ⟨hf _, rfl, _, rfl, ⟨by omega, rfl, by omega⟩, rfl, h0 hk, hf _, rfl, _, rfl, ⟨by omega, rfl, by omega⟩, ⟨rfl, hk⟩, rfl, rfl, rfl⟩)
  | [a, b, c], _, _, hk => CallJ.ofR mixed orcKi_ok (askKi_ok 3) (Eq.mpr (ve_3 a b c j k e row fun v o => v = .tuple #[slX (nG1 + 6) 0 0, gi 0] ∧ o = some (.cells [] 50 2 false)) ⟨hf _, rfl, _, rfl, ⟨by omega, rfl, by omega⟩, rfl, h0 hk, hf _, rfl, _, rfl, ⟨by omega, rfl, by omega⟩, ⟨rfl, hk⟩, rfl, rfl, rfl⟩)
  | [a, b, c, d], _, _, hk => CallJ.ofR mixed orcKi_ok (askKi_ok 4) (Eq.mpr (ve_4 a b c d j k e row fun v o => v = .tuple #[slX (nG1 + 6) 0 0, gi 0] ∧ o = some (.cells [] 50 2 false)) ⟨hf _, rfl, _, rfl, ⟨by omega, rfl, by omega⟩, rfl, h0 hk, hf _, rfl, _, rfl, ⟨by omega, rfl, by omega⟩, ⟨rfl, hk⟩, rfl, rfl, rfl⟩)
  | [a, b, c, d, p], _, _, hk => CallJ.ofR mixed orcKi_ok (askKi_ok 5) (Eq.mpr (ve_5 a b c d p j k e row fun v o => v = .tuple #[slX (nG1 + 6) 0 0, gi 0] ∧ o = some (.cells [] 50 2 false)) ⟨hf _, rfl, _, rfl, ⟨by omega, rfl, by omega⟩, rfl, h0 hk, hf _, rfl, _, rfl, ⟨by omega, rfl, by omega⟩, ⟨rfl, hk⟩, rfl, rfl, rfl⟩)
  | [a, b, c, d, p, q], _, _, hk => CallJ.ofR mixed orcKi_ok (askKi_ok 6) (Eq.mpr (ve_6 a b c d p q j k e row fun v o => v = .tuple #[slX (nG1 + 6) 0 0, gi 0] ∧ o = some (.cells [] 50 2 false)) ⟨hf _, rfl, _, rfl, ⟨by omega, rfl, by omega⟩, rfl, h0 hk, hf _, rfl, _, rfl, ⟨by omega, rfl, by omega⟩, ⟨rfl, hk⟩, rfl, rfl, rfl⟩)
  | [a, b, c, d, p, q, r], _, _, hk => CallJ.ofR mixed orcKi_ok (askKi_ok 7) (Eq.mpr (ve_7 a b c d p q r j k e row fun v o => v = .tuple #[slX (nG1 + 6) 0 0, gi 0] ∧ o = some (.cells [] 50 2 false)) ⟨hf _, rfl, _, rfl, ⟨by omega, rfl, by omega⟩, rfl, h0 hk, hf _, rfl, _, rfl, ⟨by omega, rfl, by omega⟩, ⟨rfl, hk⟩, rfl, rfl, rfl⟩)
  | _ :: _ :: _ :: _ :: _ :: _ :: _ :: _ :: _, _, h2, _ => absurd h2 (by simp)
set_option maxRecDepth 100000 in
theorem xn_call (f : Value) (kl : List Int) (q : Nat) (hk : keE kl ≠ 0) (hq : kl.length = q + 1) (h2 : q + 1 ≤ 65536) (k e row : Nat) : CallJ Tryz.prog 48 #[nilS, slX nG1 (q + 1) k, f] (canon Tryz.prog [(kl.map gi, e, row)]) (fun x _ => x = erV (erE [] kl)) := by
 refine callM_ok mixed orcKi_ok (askKi_ok 2) (Eq.mpr (xn_run kl q k e row f _) ⟨⟨flat_ints kl, trivial⟩, rfl, kl, rfl, ⟨by omega, hq, h2⟩, rfl, ?_, _, rfl, ?_⟩)
 ·show (!(ieq (erE [] kl) 0)) = true
  rw [erE_nil, ieq_dec, decide_eq_false hk]; rfl
 ·exact rfl
set_option maxRecDepth 100000 in
theorem xe_call (f : Value) (kl : List Int) (q : Nat) (hk : keE kl ≠ 0) (hq : kl.length = q + 1) (h2 : q + 1 ≤ 65536) (j k e row : Nat) : CallJ Tryz.prog 48 #[emS j, slX nG1 (q + 1) k, f] (canon Tryz.prog [(kl.map gi, e, row)]) (fun x _ => x = erV (erE [] kl)) := by
 refine callM_ok mixed orcKi_ok (askKi_ok 2) (Eq.mpr (xe_run kl q j k e row f _) ⟨⟨flat_ints kl, trivial⟩, rfl, kl, rfl, ⟨by omega, hq, h2⟩, rfl, ?_, _, rfl, ?_⟩)
 ·show (!(ieq (erE [] kl) 0)) = true
  rw [erE_nil, ieq_dec, decide_eq_false hk]; rfl
 ·exact rfl
set_option maxRecDepth 100000 in
theorem y_call (f b : Value) (hb : NoEl b) (l : List Nat) (n : Nat) (hl : l.length = n + 1) (h1 : n + 1 ≤ 65536) (k e row : Nat) (hlk : n + 1 ≤ k) : CallJ Tryz.prog 48 #[slX nG1 (n + 1) k, b, f] (canon Tryz.prog [(l.map gf, e, row)]) (fun x _ => x = erV (erE l [])) := by
 have ht : l.take (n + 1) = l := List.take_of_length_le (by omega)
 have h12 : firstS [csE l, 12] = erE l [] := by show _ = firstS [csE l, keE []]; rw [keE_nil]
 have he : (!(ieq (firstS [csE (l.take (n + 1)), 12]) 0)) = true := by rw [ht, h12, ieq_dec, decide_eq_false (er_k0 l)]; rfl
 rcases hb with rfl | ⟨j, rfl⟩
 ·exact callM_ok mixed orcKi_ok (askKi_ok 2) (Eq.mpr (yn_run l n k e row f _) ⟨l, rfl, by omega, by omega, by omega, hlk, trivial, rfl, he, _, rfl, by rw [ht, h12]⟩)
 ·exact callM_ok mixed orcKi_ok (askKi_ok 2) (Eq.mpr (ye_run l n k e row j f _) ⟨l, rfl, by omega, by omega, by omega, hlk, trivial, rfl, he, _, rfl, by rw [ht, h12]⟩)
theorem er_00 : erE [] [] = 12 := by rw [erE_nil, keE_nil]
set_option maxRecDepth 100000 in
theorem u_call (f a b : Value) (ha : NoEl a) (hb : NoEl b) : CallJ Tryz.prog 48 #[a, b, f] (canon Tryz.prog []) (fun x _ => x = erV (erE [] [])) := by
 rw [er_00]
 rcases ha with rfl | ⟨i, rfl⟩ <;> rcases hb with rfl | ⟨j, rfl⟩
 ·exact callM_ok mixed orcKi_ok (askKi_ok 2) (Eq.mpr (unn_run f _) ⟨trivial, rfl, rfl, _, rfl, rfl⟩)
 ·exact callM_ok mixed orcKi_ok (askKi_ok 2) (Eq.mpr (une_run j f _) ⟨trivial, rfl, rfl, _, rfl, rfl⟩)
 ·exact callM_ok mixed orcKi_ok (askKi_ok 2) (Eq.mpr (uen_run i f _) ⟨trivial, rfl, rfl, _, rfl, rfl⟩)
 ·exact callM_ok mixed orcKi_ok (askKi_ok 2) (Eq.mpr (uee_run i j f _) ⟨trivial, rfl, rfl, _, rfl, rfl⟩)
noncomputable def orcKj : Orc := orElse 48 (twoO Tryz.prog.globals.size tF tI flX) orcKi
set_option maxRecDepth 100000 in
theorem orcKj_ok : OrcOk Tryz.prog orcKj := by
 have plain : ∀ {o : Out} {e : Int} {x : Value} {h : AHeap}, o = .plain (erV e) → x = erV e → o.Got x h := fun ho hx => by rw [ho]; exact hx
 refine twoO_ok globs_pos orcKi_ok (fun l l' r o h => ?_) (fun r o a b h ha hb => ?_) (fun kl r o a m k e row h ha hl h1 hk => ?_) (fun l r o b m k e row h hb hl h1 hk => ?_) fun l kl r o m k m' k' e row e' row' h hl h1 hk hl' h1' hk' => ?_
 ·obtain ⟨_, ⟨_, rfl⟩ | ⟨_, rfl⟩⟩ := flX_some h <;> exact fOut_ok _ _ _ _ _
 ·obtain ⟨_, ⟨rfl, rfl⟩ | ⟨rfl, rfl⟩⟩ := flX_some h <;> exact (u_call _ a b ha hb).mono fun x h' hx => plain (fOut_err (er_k0 _)) hx
 ·obtain ⟨_, hr⟩ := flX_some h
  by_cases he : keE kl = 0
  ·have hz : erE [] kl = 0 := by rw [erE_nil]; exact he
   show CallJ _ _ (a :: slX nG1 (m + 1) k :: r).toArray (canon _ [(kl.map gi, e, row)]) _
   rw [← hl]
   rcases hr with ⟨rfl, rfl⟩ | ⟨rfl, rfl⟩ <;> rw [fOut_val hz] <;> rcases ha with rfl | ⟨j, rfl⟩
   ·exact (zn_call kl he k e row).mono fun x h' hx => outP_nil _ _ _ hx.1 hx.2
   ·exact (ze_call kl he j k e row).mono fun x h' hx => outP_nil _ _ _ hx.1 hx.2
   ·exact (vn_call kl he k e row).mono fun x h' hx => outP_nil _ _ _ hx.1 hx.2
   ·exact (ve_call kl he j k e row).mono fun x h' hx => outP_nil _ _ _ hx.1 hx.2
  ·have hz : erE [] kl ≠ 0 := by rw [erE_nil]; exact he
   rcases hr with ⟨rfl, rfl⟩ | ⟨rfl, rfl⟩ <;> rcases ha with rfl | ⟨j, rfl⟩
   ·exact (xn_call _ kl m he hl h1 k e row).mono fun x h' hx => plain (fOut_err hz) hx
   ·exact (xe_call _ kl m he hl h1 j k e row).mono fun x h' hx => plain (fOut_err hz) hx
   ·exact (xn_call _ kl m he hl h1 k e row).mono fun x h' hx => plain (fOut_err hz) hx
   ·exact (xe_call _ kl m he hl h1 j k e row).mono fun x h' hx => plain (fOut_err hz) hx
 ·obtain ⟨_, ⟨rfl, rfl⟩ | ⟨rfl, rfl⟩⟩ := flX_some h <;> exact (y_call _ b hb l m hl h1 k e row hk).mono fun x h' hx => plain (fOut_err (er_k0 _)) hx
 ·obtain ⟨hc, hr⟩ := flX_some h
  by_cases he : erE l kl = 0
  ·obtain ⟨e1, e2⟩ := er_zero he
   have h41 : m + 1 ≤ 41 := by
    rcases hc with hc | hc
    ·omega
    ·exact absurd he hc
   show CallJ _ _ (slX nG1 (m + 1) k :: slX (nG1 + 1) (m' + 1) k' :: r).toArray (canon _ [(l.map gf, e, row), (kl.map gi, e', row')]) _
   rw [← hl']
   rcases hr with ⟨rfl, rfl⟩ | ⟨rfl, rfl⟩ <;> rw [fOut_val he]
   ·exact th_fil l kl e2 e1 m hl h41 k k' e row e' row' hk
   ·exact tb_fil l kl e2 e1 m hl h41 k k' e row e' row' hk
  ·rcases hr with ⟨rfl, rfl⟩ | ⟨rfl, rfl⟩ <;> exact (fl_err l kl m m' k k' e row e' row' _ hl hl' (by omega) h1' hk he).mono fun x h' hx => plain (fOut_err he) hx
noncomputable def flQ (l : List Nat) (kl W : List Int) (d v : Int) (K : Out → Prop) : Prop := (l.length ≤ 41 ∨ erE l kl ≠ 0) ∧ (erE l kl ≠ 0 → K (.plain (erV (erE l kl)))) ∧
 (erE l kl = 0 → okAll (l.map unitE) W d v l.length → K (.fresh (tupM [] l.length [gi 0]) (dstF (valU (l.map unitE) l.length W d v) l.length l.length) 50)) ∧ (erE l kl = 0 → ¬ okAll (l.map unitE) W d v l.length → K (.plain (erV 4)))
theorem flQ_ok {l : List Nat} {kl W : List Int} {d v : Int} {K : Out → Prop} (h : flQ l kl W d v K) : (l.length ≤ 41 ∨ erE l kl ≠ 0) ∧ K (fOut l kl W d v) := by
 obtain ⟨h1, h2, h3, h4⟩ := h
 refine ⟨h1, ?_⟩
 by_cases he : erE l kl = 0
 ·rw [fOut_val he]
  unfold outP
  split
  ·rename_i ho; exact h3 he ho
  ·rename_i ho; exact h4 he ho
 ·rw [fOut_err he]; exact h2 he
noncomputable def flY (l : List Nat) (kl : List Int) (r : List Value) (K : Out → Prop) : Prop := match r with
 | [.func (.func f) ⟨[]⟩ ⟨[]⟩] => match Nat.beq f 49 with
  | true => flQ l kl kl.reverse (1 - (kl.length : Int)) (sumW kl) K
  | false => match Nat.beq f 50 with
   | true => flQ l kl (wtsE kl) (1 - (kl.length : Int)) (sumW kl * sumW kl) K
   | false => False
 | _ => False
theorem flY_ok (l : List Nat) (kl : List Int) (r : List Value) (K : Out → Prop) (h : flY l kl r K) : ∃ o, flX l kl r = some o ∧ K o := by
 unfold flY at h
 split at h
 ·rename_i f
  split at h
  ·rename_i hf
   obtain rfl := Nat.beq_eq ▸ hf
   obtain ⟨h1, h2⟩ := flQ_ok h
   exact ⟨_, by unfold flX; rw [if_pos h1, if_pos rfl], h2⟩
  ·split at h
   ·rename_i hf
    obtain rfl := Nat.beq_eq ▸ hf
    obtain ⟨h1, h2⟩ := flQ_ok h
    exact ⟨_, by unfold flX; rw [if_pos h1, if_neg (by simp), if_pos rfl], h2⟩
   ·exact h.elim
 ·exact h.elim
noncomputable def askKj (n : Nat) : Asks := asks2 Tryz.prog.globals.size 48 tF tI flY (askKi n)
theorem askKj_ok (n : Nat) : AsksOk orcKj (askKj n) := asks2_ok flY_ok (askKi_ok n)
end Go.Proofs.YthgojmebbhpbbaaGreatDoor
/-! (OWN WORK. Kernels: Passed and Filtered of the program.) -/
namespace Go.Proofs.YthgojmebbhpbbaaGreatDoor
open Go Go.Am
theorem kont_got (o : Out) (h : AHeap) : o.kont h o.Got := by
 cases o with
 | plain v => exact rfl
 | fresh mk xs el => exact ⟨h.n, rfl, by rw [AHeap.get_push, if_pos rfl]⟩
 | wide mk xs el row => exact ⟨h.n, rfl, by rw [AHeap.get_push, if_pos rfl]⟩
theorem flQ_of {l : List Nat} {kl W : List Int} {d v : Int} {K : Out → Prop} (h : l.length ≤ 41 ∨ erE l kl ≠ 0) (hk : K (fOut l kl W d v)) : flQ l kl W d v K := by
 refine ⟨h, fun he => ?_, fun he ho => ?_, fun he ho => ?_⟩
 ·rw [fOut_err he] at hk; exact hk
 ·rw [fOut_val he] at hk
  unfold outP at hk
  rw [if_pos ho] at hk; exact hk
 ·rw [fOut_val he] at hk
  unfold outP at hk
  rw [if_neg ho] at hk; exact hk
open Classical in
noncomputable def pX (W : List Int → List Int) (v : List Int → Int) (l : List Nat) (kl : List Int) (r : List Value) : Option Out := if r = [] ∧ (l.length ≤ 41 ∨ erE l kl ≠ 0) then some (fOut l kl (W kl) (1 - (kl.length : Int)) (v kl)) else none
theorem pX_some {W : List Int → List Int} {v : List Int → Int} {l : List Nat} {kl : List Int} {r : List Value} {o : Out} (h : pX W v l kl r = some o) : r = [] ∧ (l.length ≤ 41 ∨ erE l kl ≠ 0) ∧ o = fOut l kl (W kl) (1 - (kl.length : Int)) (v kl) := by
 unfold pX at h
 split at h
 ·rename_i hc; cases h; exact ⟨hc.1, hc.2, rfl⟩
 ·cases h
noncomputable def pY (W : List Int → List Int) (v : List Int → Int) (l : List Nat) (kl : List Int) (r : List Value) (K : Out → Prop) : Prop := match r with
 | [] => flQ l kl (W kl) (1 - (kl.length : Int)) (v kl) K
 | _ => False
theorem pY_ok {W : List Int → List Int} {v : List Int → Int} (l : List Nat) (kl : List Int) (r : List Value) (K : Out → Prop) (h : pY W v l kl r K) : ∃ o, pX W v l kl r = some o ∧ K o := by
 unfold pY at h
 split at h
 ·obtain ⟨h1, h2⟩ := flQ_ok h
  exact ⟨_, if_pos ⟨rfl, h1⟩, h2⟩
 ·exact h.elim
noncomputable abbrev sqW : List Int → Int := fun x => sumW x * sumW x
theorem psnn_run (K : Value → AHeap → Prop) : callC Tryz.prog (exec Tryz.prog orcKj 10) (syOf [(8, 7)]) (askKj 1) (noLoops _) 20 8 #[nilS, nilS] (canon Tryz.prog []) K = ((True) ∧ flQ [] [] (List.reverse []) (1 - ((List.length ([] : List Int) : Nat) : Int)) (sumW []) fun o => o.kont (canon Tryz.prog []) K) := by kernel_rfl
theorem psne_run (j : Nat) (K : Value → AHeap → Prop) : callC Tryz.prog (exec Tryz.prog orcKj 10) (syOf [(8, 7)]) (askKj 1) (noLoops _) 20 8 #[nilS, (emS j)] (canon Tryz.prog []) K = ((True) ∧ flQ [] [] (List.reverse []) (1 - ((List.length ([] : List Int) : Nat) : Int)) (sumW []) fun o => o.kont (canon Tryz.prog []) K) := by kernel_rfl
theorem psnf_run (kl : List Int) (m' k' e' row' : Nat) (K : Value → AHeap → Prop) : callC Tryz.prog (exec Tryz.prog orcKj 10) (syOf [(8, 7)]) (askKj 1) (noLoops _) 20 8 #[nilS, slX nG1 (m' + 1) k'] (canon Tryz.prog [(kl.map gi, e', row')]) K = ((List.all (kl.map gi) (flat 3) = true ∧ True) ∧ true = true ∧ Nat.ble (m' + 1) k' = true ∧ ∃ x2 : List Int, kl.map gi = x2.map gi ∧ (0 < m' + 1 ∧ x2.length = m' + 1 ∧ m' + 1 ≤ 65536) ∧ flQ [] x2 (List.reverse x2) (1 - ((List.length (x2 : List Int) : Nat) : Int)) (sumW x2) fun o => o.kont (canon Tryz.prog [(kl.map gi, e', row')]) K) := by kernel_rfl
theorem psen_run (i : Nat) (K : Value → AHeap → Prop) : callC Tryz.prog (exec Tryz.prog orcKj 10) (syOf [(8, 7)]) (askKj 1) (noLoops _) 20 8 #[(emS i), nilS] (canon Tryz.prog []) K = ((True) ∧ flQ [] [] (List.reverse []) (1 - ((List.length ([] : List Int) : Nat) : Int)) (sumW []) fun o => o.kont (canon Tryz.prog []) K) := by kernel_rfl
theorem psee_run (i : Nat) (j : Nat) (K : Value → AHeap → Prop) : callC Tryz.prog (exec Tryz.prog orcKj 10) (syOf [(8, 7)]) (askKj 1) (noLoops _) 20 8 #[(emS i), (emS j)] (canon Tryz.prog []) K = ((True) ∧ flQ [] [] (List.reverse []) (1 - ((List.length ([] : List Int) : Nat) : Int)) (sumW []) fun o => o.kont (canon Tryz.prog []) K) := by kernel_rfl
theorem psef_run (i : Nat) (kl : List Int) (m' k' e' row' : Nat) (K : Value → AHeap → Prop) : callC Tryz.prog (exec Tryz.prog orcKj 10) (syOf [(8, 7)]) (askKj 1) (noLoops _) 20 8 #[(emS i), slX nG1 (m' + 1) k'] (canon Tryz.prog [(kl.map gi, e', row')]) K = ((List.all (kl.map gi) (flat 3) = true ∧ True) ∧ true = true ∧ Nat.ble (m' + 1) k' = true ∧ ∃ x2 : List Int, kl.map gi = x2.map gi ∧ (0 < m' + 1 ∧ x2.length = m' + 1 ∧ m' + 1 ≤ 65536) ∧ flQ [] x2 (List.reverse x2) (1 - ((List.length (x2 : List Int) : Nat) : Int)) (sumW x2) fun o => o.kont (canon Tryz.prog [(kl.map gi, e', row')]) K) := by kernel_rfl
theorem psfn_run (l : List Nat) (m k e row : Nat) (K : Value → AHeap → Prop) : callC Tryz.prog (exec Tryz.prog orcKj 10) (syOf [(8, 7)]) (askKj 1) (noLoops _) 20 8 #[slX nG1 (m + 1) k, nilS] (canon Tryz.prog [(l.map gf, e, row)]) K = ((List.all (l.map gf) (flat 3) = true ∧ True) ∧ true = true ∧ Nat.ble (m + 1) k = true ∧ ∃ x1 : List Nat, l.map gf = x1.map gf ∧ (0 < m + 1 ∧ x1.length = m + 1 ∧ m + 1 ≤ 65536) ∧ flQ x1 [] (List.reverse []) (1 - ((List.length ([] : List Int) : Nat) : Int)) (sumW []) fun o => o.kont (canon Tryz.prog [(l.map gf, e, row)]) K) := by kernel_rfl
theorem psfe_run (l : List Nat) (m k e row : Nat) (j : Nat) (K : Value → AHeap → Prop) : callC Tryz.prog (exec Tryz.prog orcKj 10) (syOf [(8, 7)]) (askKj 1) (noLoops _) 20 8 #[slX nG1 (m + 1) k, (emS j)] (canon Tryz.prog [(l.map gf, e, row)]) K = ((List.all (l.map gf) (flat 3) = true ∧ True) ∧ true = true ∧ Nat.ble (m + 1) k = true ∧ ∃ x1 : List Nat, l.map gf = x1.map gf ∧ (0 < m + 1 ∧ x1.length = m + 1 ∧ m + 1 ≤ 65536) ∧ flQ x1 [] (List.reverse []) (1 - ((List.length ([] : List Int) : Nat) : Int)) (sumW []) fun o => o.kont (canon Tryz.prog [(l.map gf, e, row)]) K) := by kernel_rfl
theorem psff_run (l : List Nat) (m k e row : Nat) (kl : List Int) (m' k' e' row' : Nat) (K : Value → AHeap → Prop) : callC Tryz.prog (exec Tryz.prog orcKj 10) (syOf [(8, 7)]) (askKj 1) (noLoops _) 20 8 #[slX nG1 (m + 1) k, slX (nG1 + 1) (m' + 1) k'] (canon Tryz.prog [(l.map gf, e, row), (kl.map gi, e', row')]) K = ((List.all (l.map gf) (flat 3) = true ∧ List.all (kl.map gi) (flat 3) = true ∧ True) ∧ true = true ∧ Nat.ble (m + 1) k = true ∧ ∃ x1 : List Nat, l.map gf = x1.map gf ∧ (0 < m + 1 ∧ x1.length = m + 1 ∧ m + 1 ≤ 65536) ∧ true = true ∧ Nat.ble (m' + 1) k' = true ∧ ∃ x2 : List Int, kl.map gi = x2.map gi ∧ (0 < m' + 1 ∧ x2.length = m' + 1 ∧ m' + 1 ≤ 65536) ∧ flQ x1 x2 (List.reverse x2) (1 - ((List.length (x2 : List Int) : Nat) : Int)) (sumW x2) fun o => o.kont (canon Tryz.prog [(l.map gf, e, row), (kl.map gi, e', row')]) K) := by kernel_rfl
theorem fdnn_run (K : Value → AHeap → Prop) : callC Tryz.prog (exec Tryz.prog orcKj 10) (syOf [(8, 7)]) (askKj 1) (noLoops _) 20 11 #[nilS, nilS] (canon Tryz.prog []) K = ((True) ∧ flQ [] [] (wtsE []) (1 - ((List.length ([] : List Int) : Nat) : Int)) (sqW []) fun o => o.kont (canon Tryz.prog []) K) := by kernel_rfl
theorem fdne_run (j : Nat) (K : Value → AHeap → Prop) : callC Tryz.prog (exec Tryz.prog orcKj 10) (syOf [(8, 7)]) (askKj 1) (noLoops _) 20 11 #[nilS, (emS j)] (canon Tryz.prog []) K = ((True) ∧ flQ [] [] (wtsE []) (1 - ((List.length ([] : List Int) : Nat) : Int)) (sqW []) fun o => o.kont (canon Tryz.prog []) K) := by kernel_rfl
theorem fdnf_run (kl : List Int) (m' k' e' row' : Nat) (K : Value → AHeap → Prop) : callC Tryz.prog (exec Tryz.prog orcKj 10) (syOf [(8, 7)]) (askKj 1) (noLoops _) 20 11 #[nilS, slX nG1 (m' + 1) k'] (canon Tryz.prog [(kl.map gi, e', row')]) K = ((List.all (kl.map gi) (flat 3) = true ∧ True) ∧ true = true ∧ Nat.ble (m' + 1) k' = true ∧ ∃ x2 : List Int, kl.map gi = x2.map gi ∧ (0 < m' + 1 ∧ x2.length = m' + 1 ∧ m' + 1 ≤ 65536) ∧ flQ [] x2 (wtsE x2) (1 - ((List.length (x2 : List Int) : Nat) : Int)) (sqW x2) fun o => o.kont (canon Tryz.prog [(kl.map gi, e', row')]) K) := by kernel_rfl
theorem fden_run (i : Nat) (K : Value → AHeap → Prop) : callC Tryz.prog (exec Tryz.prog orcKj 10) (syOf [(8, 7)]) (askKj 1) (noLoops _) 20 11 #[(emS i), nilS] (canon Tryz.prog []) K = ((True) ∧ flQ [] [] (wtsE []) (1 - ((List.length ([] : List Int) : Nat) : Int)) (sqW []) fun o => o.kont (canon Tryz.prog []) K) := by kernel_rfl
theorem fdee_run (i : Nat) (j : Nat) (K : Value → AHeap → Prop) : callC Tryz.prog (exec Tryz.prog orcKj 10) (syOf [(8, 7)]) (askKj 1) (noLoops _) 20 11 #[(emS i), (emS j)] (canon Tryz.prog []) K = ((True) ∧ flQ [] [] (wtsE []) (1 - ((List.length ([] : List Int) : Nat) : Int)) (sqW []) fun o => o.kont (canon Tryz.prog []) K) := by kernel_rfl
theorem fdef_run (i : Nat) (kl : List Int) (m' k' e' row' : Nat) (K : Value → AHeap → Prop) : callC Tryz.prog (exec Tryz.prog orcKj 10) (syOf [(8, 7)]) (askKj 1) (noLoops _) 20 11 #[(emS i), slX nG1 (m' + 1) k'] (canon Tryz.prog [(kl.map gi, e', row')]) K = ((List.all (kl.map gi) (flat 3) = true ∧ True) ∧ true = true ∧ Nat.ble (m' + 1) k' = true ∧ ∃ x2 : List Int, kl.map gi = x2.map gi ∧ (0 < m' + 1 ∧ x2.length = m' + 1 ∧ m' + 1 ≤ 65536) ∧ flQ [] x2 (wtsE x2) (1 - ((List.length (x2 : List Int) : Nat) : Int)) (sqW x2) fun o => o.kont (canon Tryz.prog [(kl.map gi, e', row')]) K) := by kernel_rfl
theorem fdfn_run (l : List Nat) (m k e row : Nat) (K : Value → AHeap → Prop) : callC Tryz.prog (exec Tryz.prog orcKj 10) (syOf [(8, 7)]) (askKj 1) (noLoops _) 20 11 #[slX nG1 (m + 1) k, nilS] (canon Tryz.prog [(l.map gf, e, row)]) K = ((List.all (l.map gf) (flat 3) = true ∧ True) ∧ true = true ∧ Nat.ble (m + 1) k = true ∧ ∃ x1 : List Nat, l.map gf = x1.map gf ∧ (0 < m + 1 ∧ x1.length = m + 1 ∧ m + 1 ≤ 65536) ∧ flQ x1 [] (wtsE []) (1 - ((List.length ([] : List Int) : Nat) : Int)) (sqW []) fun o => o.kont (canon Tryz.prog [(l.map gf, e, row)]) K) := by kernel_rfl
theorem fdfe_run (l : List Nat) (m k e row : Nat) (j : Nat) (K : Value → AHeap → Prop) : callC Tryz.prog (exec Tryz.prog orcKj 10) (syOf [(8, 7)]) (askKj 1) (noLoops _) 20 11 #[slX nG1 (m + 1) k, (emS j)] (canon Tryz.prog [(l.map gf, e, row)]) K = ((List.all (l.map gf) (flat 3) = true ∧ True) ∧ true = true ∧ Nat.ble (m + 1) k = true ∧ ∃ x1 : List Nat, l.map gf = x1.map gf ∧ (0 < m + 1 ∧ x1.length = m + 1 ∧ m + 1 ≤ 65536) ∧ flQ x1 [] (wtsE []) (1 - ((List.length ([] : List Int) : Nat) : Int)) (sqW []) fun o => o.kont (canon Tryz.prog [(l.map gf, e, row)]) K) := by kernel_rfl
theorem fdff_run (l : List Nat) (m k e row : Nat) (kl : List Int) (m' k' e' row' : Nat) (K : Value → AHeap → Prop) : callC Tryz.prog (exec Tryz.prog orcKj 10) (syOf [(8, 7)]) (askKj 1) (noLoops _) 20 11 #[slX nG1 (m + 1) k, slX (nG1 + 1) (m' + 1) k'] (canon Tryz.prog [(l.map gf, e, row), (kl.map gi, e', row')]) K = ((List.all (l.map gf) (flat 3) = true ∧ List.all (kl.map gi) (flat 3) = true ∧ True) ∧ true = true ∧ Nat.ble (m + 1) k = true ∧ ∃ x1 : List Nat, l.map gf = x1.map gf ∧ (0 < m + 1 ∧ x1.length = m + 1 ∧ m + 1 ≤ 65536) ∧ true = true ∧ Nat.ble (m' + 1) k' = true ∧ ∃ x2 : List Int, kl.map gi = x2.map gi ∧ (0 < m' + 1 ∧ x2.length = m' + 1 ∧ m' + 1 ≤ 65536) ∧ flQ x1 x2 (wtsE x2) (1 - ((List.length (x2 : List Int) : Nat) : Int)) (sqW x2) fun o => o.kont (canon Tryz.prog [(l.map gf, e, row), (kl.map gi, e', row')]) K) := by kernel_rfl
noncomputable def orcKk : Orc := orElse 11 (twoO Tryz.prog.globals.size tF tI (pX wtsE sqW)) (orElse 8 (twoO Tryz.prog.globals.size tF tI (pX List.reverse sumW)) orcKj)
set_option maxRecDepth 100000 in
theorem orcKk_ok : OrcOk Tryz.prog orcKk := by
 refine twoO_ok globs_pos (twoO_ok globs_pos orcKj_ok ?_ ?_ ?_ ?_ ?_) ?_ ?_ ?_ ?_ ?_
 ·intro l l' r o h
  obtain ⟨_, _, rfl⟩ := pX_some h
  exact fOut_ok _ _ _ _ _
 ·intro r o a b h ha hb
  obtain ⟨rfl, hc, rfl⟩ := pX_some h
  rcases ha with rfl | ⟨i, rfl⟩ <;> rcases hb with rfl | ⟨j, rfl⟩
  ·exact callC_ok mixed orcKj_ok (askKj_ok 1) (Eq.mpr (psnn_run _) ⟨trivial, flQ_of hc (kont_got _ _)⟩)
  ·exact callC_ok mixed orcKj_ok (askKj_ok 1) (Eq.mpr (psne_run j _) ⟨trivial, flQ_of hc (kont_got _ _)⟩)
  ·exact callC_ok mixed orcKj_ok (askKj_ok 1) (Eq.mpr (psen_run i _) ⟨trivial, flQ_of hc (kont_got _ _)⟩)
  ·exact callC_ok mixed orcKj_ok (askKj_ok 1) (Eq.mpr (psee_run i j _) ⟨trivial, flQ_of hc (kont_got _ _)⟩)
 ·intro kl r o a m k e row h ha hl h1 hk
  obtain ⟨rfl, hc, rfl⟩ := pX_some h
  have hb : Nat.ble (m + 1) k = true := by rw [Nat.ble_eq]; exact hk
  rcases ha with rfl | ⟨i, rfl⟩
  ·exact callC_ok mixed orcKj_ok (askKj_ok 1) (Eq.mpr (psnf_run kl m k e row _) ⟨⟨flat_ints kl, trivial⟩, rfl, hb, kl, rfl, ⟨by omega, hl, h1⟩, flQ_of hc (kont_got _ _)⟩)
  ·exact callC_ok mixed orcKj_ok (askKj_ok 1) (Eq.mpr (psef_run i kl m k e row _) ⟨⟨flat_ints kl, trivial⟩, rfl, hb, kl, rfl, ⟨by omega, hl, h1⟩, flQ_of hc (kont_got _ _)⟩)
 ·intro l r o b m k e row h hb' hl h1 hk
  obtain ⟨rfl, hc, rfl⟩ := pX_some h
  have hb : Nat.ble (m + 1) k = true := by rw [Nat.ble_eq]; exact hk
  rcases hb' with rfl | ⟨j, rfl⟩
  ·exact callC_ok mixed orcKj_ok (askKj_ok 1) (Eq.mpr (psfn_run l m k e row _) ⟨⟨flat_floats l, trivial⟩, rfl, hb, l, rfl, ⟨by omega, hl, h1⟩, flQ_of hc (kont_got _ _)⟩)
  ·exact callC_ok mixed orcKj_ok (askKj_ok 1) (Eq.mpr (psfe_run l m k e row j _) ⟨⟨flat_floats l, trivial⟩, rfl, hb, l, rfl, ⟨by omega, hl, h1⟩, flQ_of hc (kont_got _ _)⟩)
 ·intro l kl r o m k m' k' e row e' row' h hl h1 hk hl' h1' hk'
  obtain ⟨rfl, hc, rfl⟩ := pX_some h
  have hb : Nat.ble (m + 1) k = true := by rw [Nat.ble_eq]; exact hk
  have hb' : Nat.ble (m' + 1) k' = true := by rw [Nat.ble_eq]; exact hk'
  exact callC_ok mixed orcKj_ok (askKj_ok 1) (Eq.mpr (psff_run l m k e row kl m' k' e' row' _) ⟨⟨flat_floats l, flat_ints kl, trivial⟩, rfl, hb, l, rfl, ⟨by omega, hl, h1⟩, rfl, hb', kl, rfl, ⟨by omega, hl', h1'⟩, flQ_of hc (kont_got _ _)⟩)
 ·intro l l' r o h
  obtain ⟨_, _, rfl⟩ := pX_some h
  exact fOut_ok _ _ _ _ _
 ·intro r o a b h ha hb
  obtain ⟨rfl, hc, rfl⟩ := pX_some h
  rcases ha with rfl | ⟨i, rfl⟩ <;> rcases hb with rfl | ⟨j, rfl⟩
  ·exact callC_ok mixed orcKj_ok (askKj_ok 1) (Eq.mpr (fdnn_run _) ⟨trivial, flQ_of hc (kont_got _ _)⟩)
  ·exact callC_ok mixed orcKj_ok (askKj_ok 1) (Eq.mpr (fdne_run j _) ⟨trivial, flQ_of hc (kont_got _ _)⟩)
  ·exact callC_ok mixed orcKj_ok (askKj_ok 1) (Eq.mpr (fden_run i _) ⟨trivial, flQ_of hc (kont_got _ _)⟩)
  ·exact callC_ok mixed orcKj_ok (askKj_ok 1) (Eq.mpr (fdee_run i j _) ⟨trivial, flQ_of hc (kont_got _ _)⟩)
 ·intro kl r o a m k e row h ha hl h1 hk
  obtain ⟨rfl, hc, rfl⟩ := pX_some h
  have hb : Nat.ble (m + 1) k = true := by rw [Nat.ble_eq]; exact hk
  rcases ha with rfl | ⟨i, rfl⟩
  ·exact callC_ok mixed orcKj_ok (askKj_ok 1) (Eq.mpr (fdnf_run kl m k e row _) ⟨⟨flat_ints kl, trivial⟩, rfl, hb, kl, rfl, ⟨by omega, hl, h1⟩, flQ_of hc (kont_got _ _)⟩)
  ·exact callC_ok mixed orcKj_ok (askKj_ok 1) (Eq.mpr (fdef_run i kl m k e row _) ⟨⟨flat_ints kl, trivial⟩, rfl, hb, kl, rfl, ⟨by omega, hl, h1⟩, flQ_of hc (kont_got _ _)⟩)
 ·intro l r o b m k e row h hb' hl h1 hk
  obtain ⟨rfl, hc, rfl⟩ := pX_some h
  have hb : Nat.ble (m + 1) k = true := by rw [Nat.ble_eq]; exact hk
  rcases hb' with rfl | ⟨j, rfl⟩
  ·exact callC_ok mixed orcKj_ok (askKj_ok 1) (Eq.mpr (fdfn_run l m k e row _) ⟨⟨flat_floats l, trivial⟩, rfl, hb, l, rfl, ⟨by omega, hl, h1⟩, flQ_of hc (kont_got _ _)⟩)
  ·exact callC_ok mixed orcKj_ok (askKj_ok 1) (Eq.mpr (fdfe_run l m k e row j _) ⟨⟨flat_floats l, trivial⟩, rfl, hb, l, rfl, ⟨by omega, hl, h1⟩, flQ_of hc (kont_got _ _)⟩)
 ·intro l kl r o m k m' k' e row e' row' h hl h1 hk hl' h1' hk'
  obtain ⟨rfl, hc, rfl⟩ := pX_some h
  have hb : Nat.ble (m + 1) k = true := by rw [Nat.ble_eq]; exact hk
  have hb' : Nat.ble (m' + 1) k' = true := by rw [Nat.ble_eq]; exact hk'
  exact callC_ok mixed orcKj_ok (askKj_ok 1) (Eq.mpr (fdff_run l m k e row kl m' k' e' row' _) ⟨⟨flat_floats l, flat_ints kl, trivial⟩, rfl, hb, l, rfl, ⟨by omega, hl, h1⟩, rfl, hb', kl, rfl, ⟨by omega, hl', h1'⟩, flQ_of hc (kont_got _ _)⟩)
noncomputable def askKk (n : Nat) : Asks := asks2 Tryz.prog.globals.size 11 tF tI (pY wtsE sqW) (asks2 Tryz.prog.globals.size 8 tF tI (pY List.reverse sumW) (askKj n))
theorem askKk_ok (n : Nat) : AsksOk orcKk (askKk n) := asks2_ok pY_ok (asks2_ok pY_ok (askKj_ok n))
end Go.Proofs.YthgojmebbhpbbaaGreatDoor
