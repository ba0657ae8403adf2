/-
  OWN WORK. Values: clipped ones; the law on the abstract machine.
-/
import Derived.Test.YtcifkiinilaglaaGreatDoorVbA
import Derived.Test.YtcifkiinilaglaaGreatDoorAhZ
/-! (OWN WORK. Values: runs of peaks; runs of the bodies of the loops of clipped values.) -/
namespace Go.Proofs.YtcifkiinilaglaaGreatDoor
open Go Go.Am

theorem pk_run (l : List Q4) (m e row k : Nat) (K : Value → Prop) : callC Tryz.prog (exec Tryz.prog orcVf 10) (syOf [(12, 7), (14, 1), (46, 1)]) askVf (pkL l (m + 1) e row k) 20 31 #[liP (m + 1) k] (canon Tryz.prog [(cellsQ l, e, row)]) (fun v _ => K v) = (((List.all (cellsQ l) (flat 3) = true ∧ True) ∧ (true && List.all [Value.func (.func 91) #[] #[]] (fun v => match v with | Value.func (Fn.func f) a b => a.isEmpty && b.isEmpty | v => flat 3 v)) = true ∧ (∃ x1 : List Q4, (cellsQ l = cellsQ x1 ∧ ((0 : Nat) < (m + 1) ∧ List.length x1 = (m + 1) ∧ ((m + 1) : Nat) ≤ 65536) ∧ eaC x1 [Value.func (.func 91) #[] #[]] ∧ ((!(ieq (valE x1) 0)) = true → K (Value.tuple #[Value.agg (Array.mk (List.take 2 (List.drop 0 ([] ++ ([gi 0, gi 0] ++ []))))), Value.bool false, gi (valE x1)])) ∧ ((!(ieq (valE x1) 0)) = false → (loopOf Tryz.prog 31 0 = loopOf Tryz.prog 31 0 ∧ Value.pointer (some ⟨nG1 + 1, 0, none⟩) = ptN 1 ∧ Value.pointer (some ⟨nG1 + 2, 0, none⟩) = ptN 2 ∧ Value.bool false = Value.bool false ∧ Value.bool false = Value.bool false ∧ liP (m + 1) k = liP (m + 1) k ∧ goN (m + 1) = goN (m + 1) ∧ gi 0 = goN 0 ∧ (((((canon Tryz.prog [Prod.mk (cellsQ l) (Prod.mk e row)]).push (.cells [gi 0, gi 0] 57 0 false)).push (.cells [gi 0, gi 0] 57 0 false)).set (nG1 + 2) (.cells ([] ++ ([gi (-200000), gi (-200000)] ++ [])) 57 0 false)).get (nG1) = Option.some (.cells (cellsQ l) e row true) ∧ ((((canon Tryz.prog [Prod.mk (cellsQ l) (Prod.mk e row)]).push (.cells [gi 0, gi 0] 57 0 false)).push (.cells [gi 0, gi 0] 57 0 false)).set (nG1 + 2) (.cells ([] ++ ([gi (-200000), gi (-200000)] ++ [])) 57 0 false)).get (nG1 + 1) = Option.some (.cells [gi 0, gi 0] 57 0 false) ∧ ((((canon Tryz.prog [Prod.mk (cellsQ l) (Prod.mk e row)]).push (.cells [gi 0, gi 0] 57 0 false)).push (.cells [gi 0, gi 0] 57 0 false)).set (nG1 + 2) (.cells ([] ++ ([gi (-200000), gi (-200000)] ++ [])) 57 0 false)).get (nG1 + 2) = Option.some (.cells [gi (-200000), gi (-200000)] 57 0 false)) ∧ (List.length l = (m + 1) ∧ ((m + 1) : Nat) ≤ 65536) ∧ (∀ _ : Nat → Value, (((!(((pkF l (m + 1)).snd.snd.1))) = true → K (Value.tuple #[Value.agg (Array.mk (List.take 2 (List.drop 0 ([] ++ ([gi 0, gi 0] ++ []))))), Value.bool false, gi 7])) ∧ ((!(((pkF l (m + 1)).snd.snd.1))) = false → K (Value.tuple #[Value.agg (Array.mk (List.take 2 (List.drop 0 ([] ++ ([gi (((pkF l (m + 1)).1)), gi (((pkF l (m + 1)).snd.1))] ++ []))))), Value.bool (((pkF l (m + 1)).snd.snd.2)), gi 0])))))))))) := by kernel_rfl
theorem Pk_run (l : List Q4) (m e row k : Nat) (K : Value → Prop) : callC Tryz.prog (exec Tryz.prog orcVf 10) (syOf [(49, 1)]) askVf (PkL l (m + 1) e row k) 20 35 #[liP (m + 1) k] (canon Tryz.prog [(cellsQ l, e, row)]) (fun v _ => K v) = ((loopOf Tryz.prog 35 0 = loopOf Tryz.prog 35 0 ∧ liP (m + 1) k = liP (m + 1) k ∧ Value.pointer (some ⟨nG1 + 1, 0, none⟩) = ptN 1 ∧ Value.pointer (some ⟨nG1 + 2, 0, none⟩) = ptN 2 ∧ Value.bool false = Value.bool false ∧ Value.bool false = Value.bool false ∧ gi 0 = goN 0 ∧ (((((canon Tryz.prog [Prod.mk (cellsQ l) (Prod.mk e row)]).push (.cells [gi 0, gi 0] 57 0 false)).push (.cells [gi 0, gi 0] 57 0 false)).set (nG1 + 2) (.cells ([] ++ ([gi (-200000), gi (-200000)] ++ [])) 57 0 false)).get (nG1) = Option.some (.cells (cellsQ l) e row true) ∧ ((((canon Tryz.prog [Prod.mk (cellsQ l) (Prod.mk e row)]).push (.cells [gi 0, gi 0] 57 0 false)).push (.cells [gi 0, gi 0] 57 0 false)).set (nG1 + 2) (.cells ([] ++ ([gi (-200000), gi (-200000)] ++ [])) 57 0 false)).get (nG1 + 1) = Option.some (.cells [gi 0, gi 0] 57 0 false) ∧ ((((canon Tryz.prog [Prod.mk (cellsQ l) (Prod.mk e row)]).push (.cells [gi 0, gi 0] 57 0 false)).push (.cells [gi 0, gi 0] 57 0 false)).set (nG1 + 2) (.cells ([] ++ ([gi (-200000), gi (-200000)] ++ [])) 57 0 false)).get (nG1 + 2) = Option.some (.cells [gi (-200000), gi (-200000)] 57 0 false)) ∧ (List.length l = (m + 1) ∧ ((m + 1) : Nat) ≤ 65536) ∧ (∀ _ : Nat → Value, (((!(((pkF l (m + 1)).snd.snd.1))) = true → K (Value.tuple #[Value.agg (Array.mk (List.take 2 (List.drop 0 ([] ++ ([gi 0, gi 0] ++ []))))), Value.bool false, gi 7])) ∧ ((!(((pkF l (m + 1)).snd.snd.1))) = false → K (Value.tuple #[Value.agg (Array.mk (List.take 2 (List.drop 0 ([] ++ ([gi (((pkF l (m + 1)).1)), gi (((pkF l (m + 1)).snd.1))] ++ []))))), Value.bool (((pkF l (m + 1)).snd.snd.2)), gi 0])))))) := by kernel_rfl
theorem pk_nil : (call Tryz.prog orcVb 40 31 #[nilS] (emp Tryz.prog)).map (·.1) = some (.tuple #[.agg #[gi 0, gi 0], .bool false, gi 12]) := by kernel_rfl
theorem pk_emp (k : Nat) : (call Tryz.prog orcVb 40 31 #[.slice (some ⟨0, 0, none⟩) 0 k] (emp Tryz.prog)).map (·.1) = some (.tuple #[.agg #[gi 0, gi 0], .bool false, gi 12]) := by kernel_rfl
theorem cp_nil : (call Tryz.prog orcVb 40 33 #[nilS] (emp Tryz.prog)).map (·.1) = some (.tuple #[nilS, gi 12]) := by kernel_rfl
theorem cp_emp (k : Nat) : (call Tryz.prog orcVb 40 33 #[.slice (some ⟨0, 0, none⟩) 0 k] (emp Tryz.prog)).map (·.1) = some (.tuple #[nilS, gi 12]) := by kernel_rfl
theorem Cp_nil : (call Tryz.prog orcVb 40 36 #[nilS] (emp Tryz.prog)).map (·.1) = some nilS := by kernel_rfl
theorem Cp_emp (k : Nat) : (call Tryz.prog orcVb 40 36 #[.slice (some ⟨0, 0, none⟩) 0 k] (emp Tryz.prog)).map (·.1) = some nilS := by kernel_rfl
theorem ssn_nil : (call Tryz.prog orcVb 40 37 #[nilS, nilS] (emp Tryz.prog)).map (·.1) = some (.bool true) := by kernel_rfl
theorem Pk_nil : (call Tryz.prog orcVb 40 35 #[nilS] (emp Tryz.prog)).map (·.1) = some (.tuple #[.agg #[gi 0, gi 0], .bool false, gi 7]) := by kernel_rfl
theorem Pk_emp (k : Nat) : (call Tryz.prog orcVb 40 35 #[.slice (some ⟨0, 0, none⟩) 0 k] (emp Tryz.prog)).map (·.1) = some (.tuple #[.agg #[gi 0, gi 0], .bool false, gi 7]) := by kernel_rfl
theorem sh_run (l : List Q4) (n e row k : Nat) (K : Value → Prop) : callC Tryz.prog (exec Tryz.prog orcVb 10) (syOf [(6, 1)]) askVb (noLoops _) 20 30 #[liP n k] (canon Tryz.prog [(cellsQ l, e, row)]) (fun v _ => K v) = ((((!(ilt 40 (Int.ofNat n))) = true → K (Value.bool true)) ∧ ((!(ilt 40 (Int.ofNat n))) = false → K (Value.bool (ieq (Int.ofNat n) 4097))))) := by kernel_rfl
theorem sh_nil : (call Tryz.prog orcVb 40 30 #[nilS] (emp Tryz.prog)).map (·.1) = some (.bool true) := by kernel_rfl
theorem sh_emp (k : Nat) : (call Tryz.prog orcVb 40 30 #[.slice (some ⟨0, 0, none⟩) 0 k] (emp Tryz.prog)).map (·.1) = some (.bool true) := by kernel_rfl
/-! indexed -/
noncomputable abbrev ixH (c : List Value) (e row : Nat) (d : List Value) : AHeap := goH c e row d 147 6
theorem ix_body (c d : List Value) (n k e row j m : Nat) (g : Nat → Value) (Q : Exit → List Value → AHeap → Prop) : execC Tryz.prog (exec Tryz.prog orcVb 10) (syOf [(12, 1), (14, 2), (15, 46), (21, 17)]) askVb (noLoops _) 40 (loopOf Tryz.prog 92 0) (stOf 24 [(3, slP 1 j m), (9, liP n k), (10, goN n), (11, goN j)] g) (ixH c e row d) (told 24 [3, 9, 10, 11] Q) = (((Nat.blt j n = true → (Nat.blt j n = true ∧ c[(0 + (j * 4))]? = Option.some (gi (intAt c (0 + (j * 4)))) ∧ c[((0 + (j * 4)) + 1)]? = Option.some (gi (intAt c ((0 + (j * 4)) + 1))) ∧ c[(((0 + (j * 4)) + 1) + 1)]? = Option.some (Value.bool (boolAt c (((0 + (j * 4)) + 1) + 1))) ∧ c[((((0 + (j * 4)) + 1) + 1) + 1)]? = Option.some (Value.bool (boolAt c ((((0 + (j * 4)) + 1) + 1) + 1))) ∧ Nat.ble (j + 1) m = true ∧ Nat.ble ((0 + (j * 5)) + List.length [gi (intAt c (0 + (j * 4))), gi (intAt c ((0 + (j * 4)) + 1)), Value.bool (boolAt c (((0 + (j * 4)) + 1) + 1)), Value.bool (boolAt c ((((0 + (j * 4)) + 1) + 1) + 1)), goN j]) (List.length d) = true ∧ Q .normal [slO (j + 1) m, liP n k, goN n, gi (fwrap IntKind.i64 (Int.ofNat (j + 1)))] (((((ixH c e row d).push (.cells [gi 0, gi 0, Value.bool false, Value.bool false] 110 0 false)).set (nG1 + 2) (.cells ([] ++ ([gi (intAt c (0 + (j * 4))), gi (intAt c ((0 + (j * 4)) + 1)), Value.bool (boolAt c (((0 + (j * 4)) + 1) + 1)), Value.bool (boolAt c ((((0 + (j * 4)) + 1) + 1) + 1))] ++ [])) 110 0 false)).push (.cells [gi (intAt c (0 + (j * 4))), gi (intAt c ((0 + (j * 4)) + 1)), Value.bool (boolAt c (((0 + (j * 4)) + 1) + 1)), Value.bool (boolAt c ((((0 + (j * 4)) + 1) + 1) + 1)), goN j] 147 6 false)).set (nG1 + 1) (.cells (splice d (0 + (j * 5)) [gi (intAt c (0 + (j * 4))), gi (intAt c ((0 + (j * 4)) + 1)), Value.bool (boolAt c (((0 + (j * 4)) + 1) + 1)), Value.bool (boolAt c ((((0 + (j * 4)) + 1) + 1) + 1)), goN j]) 147 6 false)))) ∧ (Nat.blt j n = false → Q (.exit 0) [slP 1 j m, liP n k, goN n, goN j] (ixH c e row d)))) := by kernel_rfl
/-! withIndex in place -/
noncomputable abbrev askVwA : Asks := asksI Tryz.prog 93 10 orcVf (syOf [(32, 33)]) askVf askVf
noncomputable abbrev askVwD : Asks := asksI Tryz.prog 93 10 orcVf (syOf [(8, 33), (11, 31), (14, 2), (16, 3), (19, 1), (22, 2), (24, 3), (25, 33), (26, 2), (10027, 4), (32, 33), (35, 10)]) askVf askVf
noncomputable def orcVg : Orc := inlO Tryz.prog 93 10 orcVf
noncomputable abbrev cpA (c : List Value) : AHeap := canonT [] (fun _ => 0) Tryz.prog.globals.size [(c, 147, 6, false)]
noncomputable abbrev cpD (c d : List Value) : AHeap := canonT [] (fun _ => 0) Tryz.prog.globals.size [(c, 147, 6, false), (d, 114, 3, false)]
theorem cp_bodyA (c : List Value) (n k j : Nat) (g : Nat → Value) (Q : Exit → List Value → AHeap → Prop) : execC Tryz.prog (exec Tryz.prog orcVg 10) (syOf [(17, 1), (18, 2), (19, 46), (29, 48), (33, 7)]) askVwA (noLoops _) 40 (loopOf Tryz.prog 33 0) (stOf 36 [(5, nilS), (14, liP n k), (15, goN n), (16, goN j)] g) (cpA c) (told 36 [5, 14, 15, 16] Q) = (((Nat.blt j n = true → (Nat.blt j n = true ∧ c[(0 + (j * 5))]? = Option.some (gi (intAt c (0 + (j * 5)))) ∧ c[((0 + (j * 5)) + 1)]? = Option.some (gi (intAt c ((0 + (j * 5)) + 1))) ∧ c[(((0 + (j * 5)) + 1) + 1)]? = Option.some (Value.bool (boolAt c (((0 + (j * 5)) + 1) + 1))) ∧ c[((((0 + (j * 5)) + 1) + 1) + 1)]? = Option.some (Value.bool (boolAt c ((((0 + (j * 5)) + 1) + 1) + 1))) ∧ c[(((((0 + (j * 5)) + 1) + 1) + 1) + 1)]? = Option.some (gi (intAt c (((((0 + (j * 5)) + 1) + 1) + 1) + 1))) ∧ ((!(ieq (intAt c (0 + (j * 5))) (intAt c (0 + (j * 5))) && (ieq (intAt c ((0 + (j * 5)) + 1)) (intAt c ((0 + (j * 5)) + 1)) && (BEq.beq (boolAt c (((0 + (j * 5)) + 1) + 1)) false && (BEq.beq (boolAt c ((((0 + (j * 5)) + 1) + 1) + 1)) false && true))))) = true → (inI64 (intAt c (((((0 + (j * 5)) + 1) + 1) + 1) + 1) + 1) = true ∧ Q .normal [Value.slice (some ⟨nG1 + 3, 0, none⟩) 1 1, liP n k, goN n, gi (fwrap IntKind.i64 (Int.ofNat (j + 1)))] (((((cpA c).push (.cells [gi 0, gi 0, Value.bool false, Value.bool false, gi 0] 147 0 false)).set (nG1 + 1) (.cells ([] ++ ([gi (intAt c (0 + (j * 5))), gi (intAt c ((0 + (j * 5)) + 1)), Value.bool (boolAt c (((0 + (j * 5)) + 1) + 1)), Value.bool (boolAt c ((((0 + (j * 5)) + 1) + 1) + 1)), gi (intAt c (((((0 + (j * 5)) + 1) + 1) + 1) + 1))] ++ [])) 147 0 false)).push (.cells [gi (intAt c (((((0 + (j * 5)) + 1) + 1) + 1) + 1)), gi (intAt c (((((0 + (j * 5)) + 1) + 1) + 1) + 1) + 1)] 114 3 false)).push (.cells ([] ++ [gi (intAt c (((((0 + (j * 5)) + 1) + 1) + 1) + 1)), gi (intAt c (((((0 + (j * 5)) + 1) + 1) + 1) + 1) + 1)]) 114 3 false)))) ∧ ((!(ieq (intAt c (0 + (j * 5))) (intAt c (0 + (j * 5))) && (ieq (intAt c ((0 + (j * 5)) + 1)) (intAt c ((0 + (j * 5)) + 1)) && (BEq.beq (boolAt c (((0 + (j * 5)) + 1) + 1)) false && (BEq.beq (boolAt c ((((0 + (j * 5)) + 1) + 1) + 1)) false && true))))) = false → Q .normal [nilS, liP n k, goN n, gi (fwrap IntKind.i64 (Int.ofNat (j + 1)))] (((cpA c).push (.cells [gi 0, gi 0, Value.bool false, Value.bool false, gi 0] 147 0 false)).set (nG1 + 1) (.cells ([] ++ ([gi (intAt c (0 + (j * 5))), gi (intAt c ((0 + (j * 5)) + 1)), Value.bool (boolAt c (((0 + (j * 5)) + 1) + 1)), Value.bool (boolAt c ((((0 + (j * 5)) + 1) + 1) + 1)), gi (intAt c (((((0 + (j * 5)) + 1) + 1) + 1) + 1))] ++ [])) 147 0 false))))) ∧ (Nat.blt j n = false → Q (.exit 0) [nilS, liP n k, goN n, goN j] (cpA c)))) := by kernel_rfl
theorem cp_bodyD (c d : List Value) (n k j q : Nat) (g : Nat → Value) (Q : Exit → List Value → AHeap → Prop) : execC Tryz.prog (exec Tryz.prog orcVg 10) (syOf [(17, 1), (18, 2), (19, 46), (29, 48), (33, 7)]) askVwD (noLoops _) 40 (loopOf Tryz.prog 33 0) (stOf 36 [(5, slP 1 (q + 1) (q + 1)), (14, liP n k), (15, goN n), (16, goN j)] g) (cpD c d) (told 36 [5, 14, 15, 16] Q) = (((Nat.blt j n = true → (Nat.blt j n = true ∧ c[(0 + (j * 5))]? = Option.some (gi (intAt c (0 + (j * 5)))) ∧ c[((0 + (j * 5)) + 1)]? = Option.some (gi (intAt c ((0 + (j * 5)) + 1))) ∧ c[(((0 + (j * 5)) + 1) + 1)]? = Option.some (Value.bool (boolAt c (((0 + (j * 5)) + 1) + 1))) ∧ c[((((0 + (j * 5)) + 1) + 1) + 1)]? = Option.some (Value.bool (boolAt c ((((0 + (j * 5)) + 1) + 1) + 1))) ∧ c[(((((0 + (j * 5)) + 1) + 1) + 1) + 1)]? = Option.some (gi (intAt c (((((0 + (j * 5)) + 1) + 1) + 1) + 1))) ∧ ((!(ieq (intAt c (0 + (j * 5))) (intAt c (0 + (j * 5))) && (ieq (intAt c ((0 + (j * 5)) + 1)) (intAt c ((0 + (j * 5)) + 1)) && (BEq.beq (boolAt c (((0 + (j * 5)) + 1) + 1)) false && (BEq.beq (boolAt c ((((0 + (j * 5)) + 1) + 1) + 1)) false && true))))) = true → (inI64 (Int.ofNat (q + 1) - 1) = true ∧ (!(ilt (Int.ofNat (q + 1) - 1) 0)) = true ∧ ahasIndex (Int.ofNat (q + 1) - 1) (q + 1) = true ∧ d[((0 + (Int.toNat (Int.ofNat (q + 1) - 1) * 2)) + 1)]? = Option.some (gi (intAt d ((0 + (Int.toNat (Int.ofNat (q + 1) - 1) * 2)) + 1))) ∧ (ieq (intAt d ((0 + (Int.toNat (Int.ofNat (q + 1) - 1) * 2)) + 1)) (intAt c (((((0 + (j * 5)) + 1) + 1) + 1) + 1)) = true → (ahasIndex (Int.ofNat (q + 1) - 1) (q + 1) = true ∧ d[((0 + (Int.toNat (Int.ofNat (q + 1) - 1) * 2)) + 1)]? = Option.some (gi (intAt d ((0 + (Int.toNat (Int.ofNat (q + 1) - 1) * 2)) + 1))) ∧ inI64 (intAt d ((0 + (Int.toNat (Int.ofNat (q + 1) - 1) * 2)) + 1) + 1) = true ∧ ahasIndex (Int.ofNat (q + 1) - 1) (q + 1) = true ∧ Nat.ble (((0 + (Int.toNat (Int.ofNat (q + 1) - 1) * 2)) + 1) + List.length [gi (intAt d ((0 + (Int.toNat (Int.ofNat (q + 1) - 1) * 2)) + 1) + 1)]) (List.length d) = true ∧ Q .normal [slP 1 (q + 1) (q + 1), liP n k, goN n, gi (fwrap IntKind.i64 (Int.ofNat (j + 1)))] ((((cpD c d).push (.cells [gi 0, gi 0, Value.bool false, Value.bool false, gi 0] 147 0 false)).set (nG1 + 2) (.cells ([] ++ ([gi (intAt c (0 + (j * 5))), gi (intAt c ((0 + (j * 5)) + 1)), Value.bool (boolAt c (((0 + (j * 5)) + 1) + 1)), Value.bool (boolAt c ((((0 + (j * 5)) + 1) + 1) + 1)), gi (intAt c (((((0 + (j * 5)) + 1) + 1) + 1) + 1))] ++ [])) 147 0 false)).set (nG1 + 1) (.cells (splice d ((0 + (Int.toNat (Int.ofNat (q + 1) - 1) * 2)) + 1) [gi (intAt d ((0 + (Int.toNat (Int.ofNat (q + 1) - 1) * 2)) + 1) + 1)]) 114 3 false)))) ∧ (ieq (intAt d ((0 + (Int.toNat (Int.ofNat (q + 1) - 1) * 2)) + 1)) (intAt c (((((0 + (j * 5)) + 1) + 1) + 1) + 1)) = false → (inI64 (intAt c (((((0 + (j * 5)) + 1) + 1) + 1) + 1) + 1) = true ∧ Nat.ble ((q + 1) + 1) (q + 1) = false ∧ Nat.ble (((2 * ((q + 1) + 1)) + 256) * 16) 281474976710656 = true ∧ ((q + 1) * 2) = List.length d ∧ Q .normal [Value.slice (some ⟨nG1 + 4, 0, none⟩) ((q + 1) + 1) ((q + 1) + 1), liP n k, goN n, gi (fwrap IntKind.i64 (Int.ofNat (j + 1)))] ((((((cpD c d).push (.cells [gi 0, gi 0, Value.bool false, Value.bool false, gi 0] 147 0 false)).set (nG1 + 2) (.cells ([] ++ ([gi (intAt c (0 + (j * 5))), gi (intAt c ((0 + (j * 5)) + 1)), Value.bool (boolAt c (((0 + (j * 5)) + 1) + 1)), Value.bool (boolAt c ((((0 + (j * 5)) + 1) + 1) + 1)), gi (intAt c (((((0 + (j * 5)) + 1) + 1) + 1) + 1))] ++ [])) 147 0 false)).push (.cells [gi (intAt c (((((0 + (j * 5)) + 1) + 1) + 1) + 1)), gi (intAt c (((((0 + (j * 5)) + 1) + 1) + 1) + 1) + 1)] 114 3 false)).set (nG1 + 1) (.dead)).push (.cells (d ++ [gi (intAt c (((((0 + (j * 5)) + 1) + 1) + 1) + 1)), gi (intAt c (((((0 + (j * 5)) + 1) + 1) + 1) + 1) + 1)]) 114 3 false)))))) ∧ ((!(ieq (intAt c (0 + (j * 5))) (intAt c (0 + (j * 5))) && (ieq (intAt c ((0 + (j * 5)) + 1)) (intAt c ((0 + (j * 5)) + 1)) && (BEq.beq (boolAt c (((0 + (j * 5)) + 1) + 1)) false && (BEq.beq (boolAt c ((((0 + (j * 5)) + 1) + 1) + 1)) false && true))))) = false → Q .normal [slP 1 (q + 1) (q + 1), liP n k, goN n, gi (fwrap IntKind.i64 (Int.ofNat (j + 1)))] (((cpD c d).push (.cells [gi 0, gi 0, Value.bool false, Value.bool false, gi 0] 147 0 false)).set (nG1 + 2) (.cells ([] ++ ([gi (intAt c (0 + (j * 5))), gi (intAt c ((0 + (j * 5)) + 1)), Value.bool (boolAt c (((0 + (j * 5)) + 1) + 1)), Value.bool (boolAt c ((((0 + (j * 5)) + 1) + 1) + 1)), gi (intAt c (((((0 + (j * 5)) + 1) + 1) + 1) + 1))] ++ [])) 147 0 false))))) ∧ (Nat.blt j n = false → Q (.exit 0) [slP 1 (q + 1) (q + 1), liP n k, goN n, goN j] (cpD c d)))) := by kernel_rfl
theorem Cp_bodyA (c : List Value) (n k e row j : Nat) (g : Nat → Value) (Q : Exit → List Value → AHeap → Prop) : execC Tryz.prog (exec Tryz.prog orcVb 10) (syOf [(9, 1), (14, 2), (16, 3), (18, 1), (21, 2), (23, 3), (25, 1)]) askVb (noLoops _) 40 (loopOf Tryz.prog 36 0) (stOf 55 [(0, liP n k), (3, nilS), (4, goN j)] g) (roH c e row) (told 55 [0, 3, 4] Q) = (((Nat.blt j n = true → (Nat.blt j n = true ∧ c[((0 + (j * 4)) + 2)]? = Option.some (Value.bool (boolAt c ((0 + (j * 4)) + 2))) ∧ ((!(boolAt c ((0 + (j * 4)) + 2))) = true → (Nat.blt j n = true ∧ c[((0 + (j * 4)) + 3)]? = Option.some (Value.bool (boolAt c ((0 + (j * 4)) + 3))) ∧ ((!(boolAt c ((0 + (j * 4)) + 3))) = true → Q .normal [liP n k, nilS, gi (fwrap IntKind.i64 (Int.ofNat (j + 1)))] (roH c e row)) ∧ ((!(boolAt c ((0 + (j * 4)) + 3))) = false → Q .normal [liP n k, Value.slice (some ⟨nG1 + 2, 0, none⟩) 1 1, gi (fwrap IntKind.i64 (Int.ofNat (j + 1)))] (((roH c e row).push (.cells [goN j, gi (fwrap IntKind.i64 (Int.ofNat (j + 1)))] 114 3 false)).push (.cells ([] ++ [goN j, gi (fwrap IntKind.i64 (Int.ofNat (j + 1)))]) 114 3 false))))) ∧ ((!(boolAt c ((0 + (j * 4)) + 2))) = false → ((false = true → Q .normal [liP n k, nilS, gi (fwrap IntKind.i64 (Int.ofNat (j + 1)))] (roH c e row)) ∧ (false = false → Q .normal [liP n k, Value.slice (some ⟨nG1 + 2, 0, none⟩) 1 1, gi (fwrap IntKind.i64 (Int.ofNat (j + 1)))] (((roH c e row).push (.cells [goN j, gi (fwrap IntKind.i64 (Int.ofNat (j + 1)))] 114 3 false)).push (.cells ([] ++ [goN j, gi (fwrap IntKind.i64 (Int.ofNat (j + 1)))]) 114 3 false))))))) ∧ (Nat.blt j n = false → Q (.exit 0) [liP n k, nilS, goN j] (roH c e row)))) := by kernel_rfl
theorem Cp_bodyD (c d : List Value) (n k e row j q : Nat) (g : Nat → Value) (Q : Exit → List Value → AHeap → Prop) : execC Tryz.prog (exec Tryz.prog orcVb 10) (syOf [(9, 1), (14, 2), (16, 3), (18, 1), (21, 2), (23, 3), (25, 1), (30, 31), (33, 33), (34, 2), (36, 3), (39, 1), (42, 33), (45, 2), (10046, 4), (53, 10)]) askVb (noLoops _) 40 (loopOf Tryz.prog 36 0) (stOf 55 [(0, liP n k), (3, slP 1 (q + 1) (q + 1)), (4, goN j)] g) (goH c e row d 114 3) (told 55 [0, 3, 4] Q) = (((Nat.blt j n = true → (Nat.blt j n = true ∧ c[((0 + (j * 4)) + 2)]? = Option.some (Value.bool (boolAt c ((0 + (j * 4)) + 2))) ∧ ((!(boolAt c ((0 + (j * 4)) + 2))) = true → (Nat.blt j n = true ∧ c[((0 + (j * 4)) + 3)]? = Option.some (Value.bool (boolAt c ((0 + (j * 4)) + 3))) ∧ ((!(boolAt c ((0 + (j * 4)) + 3))) = true → Q .normal [liP n k, slP 1 (q + 1) (q + 1), gi (fwrap IntKind.i64 (Int.ofNat (j + 1)))] (goH c e row d 114 3)) ∧ ((!(boolAt c ((0 + (j * 4)) + 3))) = false → (ilt 0 (Int.ofNat (q + 1)) = true ∧ inI64 (Int.ofNat (q + 1) - 1) = true ∧ ahasIndex (Int.ofNat (q + 1) - 1) (q + 1) = true ∧ d[((0 + (Int.toNat (Int.ofNat (q + 1) - 1) * 2)) + 1)]? = Option.some (gi (intAt d ((0 + (Int.toNat (Int.ofNat (q + 1) - 1) * 2)) + 1))) ∧ (ieq (intAt d ((0 + (Int.toNat (Int.ofNat (q + 1) - 1) * 2)) + 1)) (Int.ofNat j) = true → (inI64 (Int.ofNat (q + 1) - 1) = true ∧ ahasIndex (Int.ofNat (q + 1) - 1) (q + 1) = true ∧ Nat.ble (((0 + (Int.toNat (Int.ofNat (q + 1) - 1) * 2)) + 1) + List.length [gi (fwrap IntKind.i64 (Int.ofNat (j + 1)))]) (List.length d) = true ∧ Q .normal [liP n k, slP 1 (q + 1) (q + 1), gi (fwrap IntKind.i64 (Int.ofNat (j + 1)))] ((goH c e row d 114 3).set (nG1 + 1) (.cells (splice d ((0 + (Int.toNat (Int.ofNat (q + 1) - 1) * 2)) + 1) [gi (fwrap IntKind.i64 (Int.ofNat (j + 1)))]) 114 3 false)))) ∧ (ieq (intAt d ((0 + (Int.toNat (Int.ofNat (q + 1) - 1) * 2)) + 1)) (Int.ofNat j) = false → (Nat.ble ((q + 1) + 1) (q + 1) = false ∧ Nat.ble (((2 * ((q + 1) + 1)) + 256) * 16) 281474976710656 = true ∧ ((q + 1) * 2) = List.length d ∧ Q .normal [liP n k, Value.slice (some ⟨nG1 + 3, 0, none⟩) ((q + 1) + 1) ((q + 1) + 1), gi (fwrap IntKind.i64 (Int.ofNat (j + 1)))] ((((goH c e row d 114 3).push (.cells [goN j, gi (fwrap IntKind.i64 (Int.ofNat (j + 1)))] 114 3 false)).set (nG1 + 1) (.dead)).push (.cells (d ++ [goN j, gi (fwrap IntKind.i64 (Int.ofNat (j + 1)))]) 114 3 false)))))))) ∧ ((!(boolAt c ((0 + (j * 4)) + 2))) = false → ((false = true → Q .normal [liP n k, slP 1 (q + 1) (q + 1), gi (fwrap IntKind.i64 (Int.ofNat (j + 1)))] (goH c e row d 114 3)) ∧ (false = false → (ilt 0 (Int.ofNat (q + 1)) = true ∧ inI64 (Int.ofNat (q + 1) - 1) = true ∧ ahasIndex (Int.ofNat (q + 1) - 1) (q + 1) = true ∧ d[((0 + (Int.toNat (Int.ofNat (q + 1) - 1) * 2)) + 1)]? = Option.some (gi (intAt d ((0 + (Int.toNat (Int.ofNat (q + 1) - 1) * 2)) + 1))) ∧ (ieq (intAt d ((0 + (Int.toNat (Int.ofNat (q + 1) - 1) * 2)) + 1)) (Int.ofNat j) = true → (inI64 (Int.ofNat (q + 1) - 1) = true ∧ ahasIndex (Int.ofNat (q + 1) - 1) (q + 1) = true ∧ Nat.ble (((0 + (Int.toNat (Int.ofNat (q + 1) - 1) * 2)) + 1) + List.length [gi (fwrap IntKind.i64 (Int.ofNat (j + 1)))]) (List.length d) = true ∧ Q .normal [liP n k, slP 1 (q + 1) (q + 1), gi (fwrap IntKind.i64 (Int.ofNat (j + 1)))] ((goH c e row d 114 3).set (nG1 + 1) (.cells (splice d ((0 + (Int.toNat (Int.ofNat (q + 1) - 1) * 2)) + 1) [gi (fwrap IntKind.i64 (Int.ofNat (j + 1)))]) 114 3 false)))) ∧ (ieq (intAt d ((0 + (Int.toNat (Int.ofNat (q + 1) - 1) * 2)) + 1)) (Int.ofNat j) = false → (Nat.ble ((q + 1) + 1) (q + 1) = false ∧ Nat.ble (((2 * ((q + 1) + 1)) + 256) * 16) 281474976710656 = true ∧ ((q + 1) * 2) = List.length d ∧ Q .normal [liP n k, Value.slice (some ⟨nG1 + 3, 0, none⟩) ((q + 1) + 1) ((q + 1) + 1), gi (fwrap IntKind.i64 (Int.ofNat (j + 1)))] ((((goH c e row d 114 3).push (.cells [goN j, gi (fwrap IntKind.i64 (Int.ofNat (j + 1)))] 114 3 false)).set (nG1 + 1) (.dead)).push (.cells (d ++ [goN j, gi (fwrap IntKind.i64 (Int.ofNat (j + 1)))]) 114 3 false)))))))))) ∧ (Nat.blt j n = false → Q (.exit 0) [liP n k, slP 1 (q + 1) (q + 1), goN j] (goH c e row d 114 3)))) := by kernel_rfl
theorem ss_bodyP (c d : List Value) (n k e row n' k' e' row' j : Nat) (g : Nat → Value) (Q : Exit → List Value → AHeap → Prop) : execC Tryz.prog (exec Tryz.prog orcVb 10) (syOf [(14, 1), (19, 2), (20, 46), (23, 2), (24, 46), (25, 47)]) askVb (noLoops _) 40 (loopOf Tryz.prog 37 0) (stOf 26 [(0, liP n k), (1, slP 1 n' k'), (4, .bool false), (5, goN j)] g) (canon Tryz.prog [(c, e, row), (d, e', row')]) (told 26 [0, 1, 4, 5] Q) = (((Nat.blt j n = true → (Nat.blt j n = true ∧ c[(0 + (j * 2))]? = Option.some (gi (intAt c (0 + (j * 2)))) ∧ c[((0 + (j * 2)) + 1)]? = Option.some (gi (intAt c ((0 + (j * 2)) + 1))) ∧ Nat.blt j n' = true ∧ d[(0 + (j * 2))]? = Option.some (gi (intAt d (0 + (j * 2)))) ∧ d[((0 + (j * 2)) + 1)]? = Option.some (gi (intAt d ((0 + (j * 2)) + 1))) ∧ Value.bool (!(ieq (intAt c (0 + (j * 2))) (intAt d (0 + (j * 2))) && (ieq (intAt c ((0 + (j * 2)) + 1)) (intAt d ((0 + (j * 2)) + 1)) && true))) = Value.bool false ∧ Q .normal [liP n k, slP 1 n' k', Value.bool false, gi (fwrap IntKind.i64 (Int.ofNat (j + 1)))] (canon Tryz.prog [Prod.mk c (Prod.mk e row), Prod.mk d (Prod.mk e' row')]))) ∧ (Nat.blt j n = false → Q (.exit 0) [liP n k, slP 1 n' k', Value.bool false, goN j] (canon Tryz.prog [Prod.mk c (Prod.mk e row), Prod.mk d (Prod.mk e' row')])))) := by kernel_rfl
end Go.Proofs.YtcifkiinilaglaaGreatDoor
/-! (OWN WORK. Values: peaks as known calls; values with their indices.) -/
namespace Go.Proofs.YtcifkiinilaglaaGreatDoor
open Go Go.Am

noncomputable def pkZ (e : Int) : Value := .tuple #[.agg #[gi 0, gi 0], .bool false, gi e]
noncomputable def pkR (l : List Q4) : Value := bif (pkF l l.length).2.2.1 then .tuple #[.agg #[gi (pkF l l.length).1, gi (pkF l l.length).2.1], .bool (pkF l l.length).2.2.2, gi 0] else pkZ 7
noncomputable def pkV (l : List Q4) : Value := bif ieq (valE l) 0 then pkR l else pkZ (valE l)
noncomputable def prLo (l : List Q4) : Int := bif (pkF l l.length).2.2.1 then (pkF l l.length).1 else 0
noncomputable def prHi (l : List Q4) : Int := bif (pkF l l.length).2.2.1 then (pkF l l.length).2.1 else 0
noncomputable def prOp (l : List Q4) : Bool := bif (pkF l l.length).2.2.1 then (pkF l l.length).2.2.2 else false
noncomputable def prEr (l : List Q4) : Int := bif (pkF l l.length).2.2.1 then 0 else 7
noncomputable def pvLo (l : List Q4) : Int := bif ieq (valE l) 0 then prLo l else 0
noncomputable def pvHi (l : List Q4) : Int := bif ieq (valE l) 0 then prHi l else 0
noncomputable def pvOp (l : List Q4) : Bool := bif ieq (valE l) 0 then prOp l else false
noncomputable def pvEr (l : List Q4) : Int := bif ieq (valE l) 0 then prEr l else valE l
noncomputable abbrev pkT (lo hi : Int) (op : Bool) (er : Int) : Value := .tuple #[.agg #[gi lo, gi hi], .bool op, gi er]
theorem pkR_eq (l : List Q4) : pkT (prLo l) (prHi l) (prOp l) (prEr l) = pkR l := by
  unfold pkR prLo prHi prOp prEr
  cases (pkF l l.length).2.2.1 <;> rfl
theorem pkV_eq (l : List Q4) : pkT (pvLo l) (pvHi l) (pvOp l) (pvEr l) = pkV l := by
  unfold pkV pvLo pvHi pvOp pvEr
  cases ieq (valE l) 0
  · rfl
  · exact pkR_eq l
noncomputable abbrev pkO : List Q4 → List Value → Out := fun l _ => .plain (pkT (pvLo l) (pvHi l) (pvOp l) (pvEr l))
noncomputable abbrev PkO : List Q4 → List Value → Out := fun l _ => .plain (pkT (prLo l) (prHi l) (prOp l) (prEr l))
noncomputable def shV (n : Nat) : Bool := !(ilt 40 (Int.ofNat n)) || ieq (Int.ofNat n) 4097
noncomputable abbrev shO : List Q4 → List Value → Out := fun l _ => .plain (.bool (shV l.length))
theorem pkR_flat (l : List Q4) : flat 3 (pkR l) = true := by
  unfold pkR
  cases (pkF l l.length).2.2.1 <;> rfl
theorem pkV_flat (l : List Q4) : flat 3 (pkV l) = true := by
  unfold pkV
  cases ieq (valE l) 0
  · rfl
  · exact pkR_flat l
theorem valE_nil : valE [] = 12 := by kernel_rfl
theorem pkV_nil : pkV [] = .tuple #[.agg #[gi 0, gi 0], .bool false, gi 12] := by kernel_rfl
theorem pkR_nil : pkR [] = .tuple #[.agg #[gi 0, gi 0], .bool false, gi 7] := by kernel_rfl
noncomputable def orcVh : Orc := orElse 30 (lstI Tryz.prog.globals.size tQ noC shO) (orElse 35 (lstI Tryz.prog.globals.size tQ noC PkO) (orElse 31 (lstI Tryz.prog.globals.size tQ noC pkO) orcVf))
theorem not_f {b : Bool} (h : (!b) = true) : b = false := by simpa using h
theorem not_t {b : Bool} (h : (!b) = false) : b = true := by simpa using h
set_option maxRecDepth 100000 in
theorem orcVh_ok : OrcOk Tryz.prog orcVh := by
  refine lstI_ok globs_pos (lstI_ok globs_pos (lstI_ok globs_pos orcVf_ok (fun l _ _ => (rfl : flat 3 (pkT _ _ _ _) = true)) ?_ ?_ ?_) (fun l _ _ => (rfl : flat 3 (pkT _ _ _ _) = true)) ?_ ?_ ?_) (fun _ _ _ => rfl) ?_ ?_ ?_
  · rintro r rfl; exact CallJ.of_call mixed orcVb_ok pk_nil fun _ => ((pkV_eq []).trans pkV_nil).symm
  · rintro r k rfl; exact CallJ.of_call mixed orcVb_ok (pk_emp k) fun _ => ((pkV_eq []).trans pkV_nil).symm
  · rintro l r m e row k rfl hm h1
    refine callC_ok mixed orcVf_ok askVf_ok (Eq.mpr (pk_run l m e row k _) ⟨⟨cellsQ_flat l, trivial⟩, rfl, l, rfl, ⟨Nat.succ_pos _, hm, h1⟩, rfl, fun hx => ?_, fun hx => ⟨rfl, rfl, rfl, rfl, rfl, rfl, rfl, rfl, ⟨?_, ?_, ?_⟩, ⟨hm, h1⟩, fun _ => ⟨fun hy => ?_, fun hy => ?_⟩⟩⟩)
    · refine Eq.trans ?_ (pkV_eq l).symm
      unfold pkV; rw [not_ieqT hx]; rfl
    · rw [AHeap.get_set_neB (by kernel_rfl), AHeap.get_push_ne (by kernel_rfl), AHeap.get_push_ne (by kernel_rfl), canon_get, if_pos (Nat.le_refl _), Nat.sub_self]; rfl
    · rw [AHeap.get_set_neB (by kernel_rfl), AHeap.get_push_ne (by kernel_rfl), AHeap.get_push_eq (by kernel_rfl)]
    · rw [AHeap.get_set_eqB (by kernel_rfl)]; rfl
    · refine Eq.trans ?_ (pkV_eq l).symm
      unfold pkV; rw [not_ieqF hx]; unfold pkR; rw [hm, not_f hy]; rfl
    · refine Eq.trans ?_ (pkV_eq l).symm
      unfold pkV; rw [not_ieqF hx]; unfold pkR; rw [hm, not_t hy]; rfl
  · rintro r rfl; exact CallJ.of_call mixed orcVb_ok Pk_nil fun _ => ((pkR_eq []).trans pkR_nil).symm
  · rintro r k rfl; exact CallJ.of_call mixed orcVb_ok (Pk_emp k) fun _ => ((pkR_eq []).trans pkR_nil).symm
  · rintro l r m e row k rfl hm h1
    refine callC_ok mixed orcVf_ok askVf_ok (Eq.mpr (Pk_run l m e row k _) ⟨rfl, rfl, rfl, rfl, rfl, rfl, rfl, ⟨?_, ?_, ?_⟩, ⟨hm, h1⟩, fun _ => ⟨fun hy => ?_, fun hy => ?_⟩⟩)
    · rw [AHeap.get_set_neB (by kernel_rfl), AHeap.get_push_ne (by kernel_rfl), AHeap.get_push_ne (by kernel_rfl), canon_get, if_pos (Nat.le_refl _), Nat.sub_self]; rfl
    · rw [AHeap.get_set_neB (by kernel_rfl), AHeap.get_push_ne (by kernel_rfl), AHeap.get_push_eq (by kernel_rfl)]
    · rw [AHeap.get_set_eqB (by kernel_rfl)]; rfl
    · refine Eq.trans ?_ (pkR_eq l).symm
      unfold pkR; rw [hm, not_f hy]; rfl
    · refine Eq.trans ?_ (pkR_eq l).symm
      unfold pkR; rw [hm, not_t hy]; rfl
  · rintro r rfl; exact CallJ.of_call mixed orcVb_ok sh_nil fun _ => rfl
  · rintro r k rfl; exact CallJ.of_call mixed orcVb_ok (sh_emp k) fun _ => rfl
  · rintro l r m e row k rfl hm h1
    refine callC_ok mixed orcVb_ok askVb_ok (Eq.mpr (sh_run l (m + 1) e row k _) ⟨fun hx => ?_, fun hx => ?_⟩)
    · show _ = Value.bool (shV l.length)
      unfold shV; rw [hm, hx]; rfl
    · show _ = Value.bool (shV l.length)
      unfold shV; rw [hm, hx]; rfl
noncomputable def askVh : Asks := asksI' Tryz.prog.globals.size 30 tQ noC shO (asksI' Tryz.prog.globals.size 35 tQ noC PkO (asksI' Tryz.prog.globals.size 31 tQ noC pkO askVf))
theorem askVh_ok : AsksOk orcVh askVh := asksI'_ok (asksI'_ok (asksI'_ok askVf_ok))
/-! indexed -/
noncomputable def cells5 : List Q4 → Nat → List Value
  | [], _ => []
  | q :: l, i => q4 q ++ (goN i :: cells5 l (i + 1))
theorem cells5_len : ∀ (l : List Q4) (i : Nat), (cells5 l i).length = l.length * 5
  | [], _ => rfl
  | q :: l, i => by
    show (q4 q ++ (goN i :: cells5 l (i + 1))).length = (q :: l).length * 5
    rw [List.length_append, List.length_cons, cells5_len l, List.length_cons, show (q4 q).length = 4 from rfl]
    omega
theorem cells5_app : ∀ (l m : List Q4) (i : Nat), cells5 (l ++ m) i = cells5 l i ++ cells5 m (i + l.length)
  | [], m, i => by simp [cells5]
  | q :: l, m, i => by
    show q4 q ++ (goN i :: cells5 (l ++ m) (i + 1)) = (q4 q ++ (goN i :: cells5 l (i + 1))) ++ _
    rw [cells5_app l m, List.append_assoc, List.length_cons, show i + (l.length + 1) = i + 1 + l.length by omega]
    rfl
theorem cells5_flat : ∀ (l : List Q4) (i : Nat), (cells5 l i).all (flat 3) = true
  | [], _ => rfl
  | q :: l, i => by
    show (q4 q ++ (goN i :: cells5 l (i + 1))).all (flat 3) = true
    rw [List.all_append, List.all_cons, cells5_flat l]
    rfl
theorem cells5_get {l : List Q4} {j i : Nat} (hj : j < l.length) (hi : i < 5) : (cells5 l 0)[j * 5 + i]? = (q4 l[j] ++ [goN j])[i]? := by
  have h0 : l = l.take j ++ (l[j] :: l.drop (j + 1)) := by rw [← List.drop_eq_getElem_cons hj, List.take_append_drop]
  have hl : (l.take j).length = j := by rw [List.length_take]; omega
  have h1 : cells5 l 0 = cells5 (l.take j) 0 ++ ((q4 l[j] ++ [goN j]) ++ cells5 (l.drop (j + 1)) (j + 1)) := by
    conv => lhs; rw [h0]
    rw [cells5_app, hl, Nat.zero_add, List.append_assoc]
    rfl
  have h2 : (cells5 (l.take j) 0).length = j * 5 := by rw [cells5_len, hl]
  rw [h1, List.getElem?_append_right (by omega), h2, Nat.add_sub_cancel_left, List.getElem?_append_left (by show i < 5; exact hi)]
theorem cells5_at {l : List Q4} {j : Nat} (hj : j < l.length) : ((cells5 l 0)[0 + j * 5]? = some (gi (intAt (cells5 l 0) (0 + j * 5))) ∧ (cells5 l 0)[0 + j * 5 + 1]? = some (gi (intAt (cells5 l 0) (0 + j * 5 + 1))) ∧ (cells5 l 0)[0 + j * 5 + 1 + 1]? = some (.bool (boolAt (cells5 l 0) (0 + j * 5 + 1 + 1))) ∧ (cells5 l 0)[0 + j * 5 + 1 + 1 + 1]? = some (.bool (boolAt (cells5 l 0) (0 + j * 5 + 1 + 1 + 1))) ∧ (cells5 l 0)[0 + j * 5 + 1 + 1 + 1 + 1]? = some (gi (intAt (cells5 l 0) (0 + j * 5 + 1 + 1 + 1 + 1)))) ∧
    intAt (cells5 l 0) (0 + j * 5) = l[j].1 ∧ intAt (cells5 l 0) (0 + j * 5 + 1) = l[j].2.1 ∧ boolAt (cells5 l 0) (0 + j * 5 + 1 + 1) = l[j].2.2.1 ∧ boolAt (cells5 l 0) (0 + j * 5 + 1 + 1 + 1) = l[j].2.2.2 ∧ intAt (cells5 l 0) (0 + j * 5 + 1 + 1 + 1 + 1) = Int.ofNat j := by
  have e0 : (cells5 l 0)[0 + j * 5]? = some (gi l[j].1) := by rw [Nat.zero_add]; exact cells5_get (i := 0) hj (by omega)
  have e1 : (cells5 l 0)[0 + j * 5 + 1]? = some (gi l[j].2.1) := by rw [Nat.zero_add]; exact cells5_get (i := 1) hj (by omega)
  have e2 : (cells5 l 0)[0 + j * 5 + 1 + 1]? = some (.bool l[j].2.2.1) := by rw [Nat.zero_add]; exact cells5_get (i := 2) hj (by omega)
  have e3 : (cells5 l 0)[0 + j * 5 + 1 + 1 + 1]? = some (.bool l[j].2.2.2) := by rw [Nat.zero_add]; exact cells5_get (i := 3) hj (by omega)
  have e4 : (cells5 l 0)[0 + j * 5 + 1 + 1 + 1 + 1]? = some (goN j) := by rw [Nat.zero_add]; exact cells5_get (i := 4) hj (by omega)
  have i0 : intAt (cells5 l 0) (0 + j * 5) = l[j].1 := by unfold intAt; rw [e0]
  have i1 : intAt (cells5 l 0) (0 + j * 5 + 1) = l[j].2.1 := by unfold intAt; rw [e1]
  have i2 : boolAt (cells5 l 0) (0 + j * 5 + 1 + 1) = l[j].2.2.1 := by unfold boolAt; rw [e2]
  have i3 : boolAt (cells5 l 0) (0 + j * 5 + 1 + 1 + 1) = l[j].2.2.2 := by unfold boolAt; rw [e3]
  have i4 : intAt (cells5 l 0) (0 + j * 5 + 1 + 1 + 1 + 1) = Int.ofNat j := by unfold intAt; rw [e4]
  rw [i0, i1, i2, i3, i4]
  exact ⟨⟨e0, e1, e2, e3, e4⟩, rfl, rfl, rfl, rfl, rfl⟩
noncomputable def ixD (l : List Q4) (zs : List Value) (j : Nat) : List Value := cells5 (l.take j) 0 ++ zs.drop (j * 5)
theorem ixD_flat {l : List Q4} {zs : List Value} {j : Nat} (hz : zs.all (flat 3) = true) : (ixD l zs j).all (flat 3) = true := by
  unfold ixD
  rw [List.all_append, cells5_flat, Bool.true_and, List.all_eq_true]
  intro x hx
  exact List.all_eq_true.1 hz x (List.mem_of_mem_drop hx)
theorem ixD_len {l : List Q4} {zs : List Value} {j : Nat} (hj : j ≤ l.length) (hz : zs.length = l.length * 5) : (ixD l zs j).length = l.length * 5 := by
  unfold ixD
  rw [List.length_append, cells5_len, List.length_take, List.length_drop, hz, Nat.min_eq_left hj]
  omega
theorem ixD_set {l : List Q4} {zs : List Value} {j : Nat} (hj : j < l.length) : splice (ixD l zs j) (0 + j * 5) [gi l[j].1, gi l[j].2.1, .bool l[j].2.2.1, .bool l[j].2.2.2, goN j] = ixD l zs (j + 1) := by
  have hl : (l.take j).length = j := by rw [List.length_take]; omega
  have h2 : (cells5 (l.take j) 0).length = j * 5 := by rw [cells5_len, hl]
  have h3 : cells5 (l.take (j + 1)) 0 = cells5 (l.take j) 0 ++ (q4 l[j] ++ [goN j]) := by
    rw [List.take_add_one, List.getElem?_eq_getElem hj, cells5_app, hl, Nat.zero_add]
    rfl
  unfold splice ixD
  rw [h3, Nat.zero_add, List.take_append_of_le_length (by omega), List.take_of_length_le (by omega), List.drop_append, h2, List.drop_of_length_le (by rw [h2]; omega), List.nil_append, List.drop_drop, List.append_assoc]
  rw [show j * 5 + (j * 5 + [gi l[j].1, gi l[j].2.1, Value.bool l[j].2.2.1, Value.bool l[j].2.2.2, goN j].length - j * 5) = (j + 1) * 5 by show j * 5 + (j * 5 + 5 - j * 5) = _; omega]
  rfl
theorem ixD_end {l : List Q4} {zs : List Value} (hz : zs.length = l.length * 5) : ixD l zs l.length = cells5 l 0 := by
  unfold ixD
  rw [List.take_length, List.drop_of_length_le (by omega), List.append_nil]
end Go.Proofs.YtcifkiinilaglaaGreatDoor
/-! (OWN WORK. Values: values with their indices, clipped values: their loops, for all lists.) -/
namespace Go.Proofs.YtcifkiinilaglaaGreatDoor
open Go Go.Am

set_option maxRecDepth 100000 in
theorem ix_loop (l : List Q4) (n e row k : Nat) (zs : List Value) (hn : l.length = n) (hle : n ≤ 65536) (hz : zs.length = n * 5) (hzf : zs.all (flat 3) = true) : ∀ (a : AAct) (h : AHeap), Laid [(cellsQ l, e, row, true), (ixD l zs 0, 147, 6, false)] (Tryz.prog.globals.size + ·) h → a.n = 24 → a.marks = [] → [3, 9, 10, 11].map a.tmp = [slP 1 0 n, liP n k, goN n, goN 0] →
    J Tryz.prog (.loop (loopOf Tryz.prog 92 0)) a h (told 24 [3, 9, 10, 11] fun ex vs h' => ex = .exit 0 ∧ vs = [slP 1 n n, liP n k, goN n, goN n] ∧ h'.get (Tryz.prog.globals.size + 1) = some (.cells (cells5 l 0) 147 6 false)) := by
  refine fold_rule (L := 2) (C := fun j => [(cellsQ l, e, row, true), (ixD l zs j, 147, 6, false)]) globs_pos (by decide) (by decide) (fun _ => rfl) (fun j b hb => by
      simp only [List.mem_cons, List.not_mem_nil, or_false] at hb
      rcases hb with rfl | rfl
      · exact cellsQ_flat l
      · exact ixD_flat hzf) (V := fun at_ j => [.slice (some ⟨at_ 1, 0, none⟩) j n, .slice (some ⟨at_ 0, 0, none⟩) n k, goN n, goN j]) (I := fun j => True) (m := n) trivial _ _ (plus_nodup _ _) (fun q _ => Nat.le_add_right _ _) (fun j => by kernel_rfl) (fun j => by kernel_rfl)
    (fun at_ j q hq => by
      match q, hq with
      | 0, _ => exact ⟨(9, .slice (some ⟨at_ 0, 0, none⟩) n k), by simp, by simp [named]⟩
      | 1, _ => exact ⟨(3, .slice (some ⟨at_ 1, 0, none⟩) j n), by simp, by simp [named]⟩) ?_ ?_
  · intro j hj _ g
    have hjl : j < l.length := by omega
    obtain ⟨⟨f0, f1, f2, f3⟩, i0, i1, i2, i3⟩ := cellsQ_at hjl
    have hlen := ixD_len (l := l) (zs := zs) (j := j) (by omega) (by rw [hn]; exact hz)
    refine execC_ok mixed orcVb_ok askVb_ok (noLoops _) (Eq.mpr (ix_body (cellsQ l) (ixD l zs j) n k e row j n g _) ⟨fun hlt => ?_, fun hge => ?_⟩)
    · refine ⟨hlt, f0, f1, f2, f3, by rw [Nat.ble_eq]; omega, by rw [Nat.ble_eq, hlen]; show 0 + j * 5 + 5 ≤ _; omega, trivial, ?_, .two ?_ ?_⟩
      · rw [fwrap_nat (by omega)]; rfl
      · rw [AHeap.get_set_neB (by kernel_rfl), AHeap.get_push_ne (by kernel_rfl), AHeap.get_set_neB (by kernel_rfl), AHeap.get_push_ne (by kernel_rfl)]; exact gC_get (q := 0) rfl
      · rw [AHeap.get_set_eqB (by kernel_rfl), i0, i1, i2, i3, ixD_set hjl]
    · have := blt_false hge; omega
  · intro _ g
    refine execC_ok mixed orcVb_ok askVb_ok (noLoops _) (Eq.mpr (ix_body (cellsQ l) (ixD l zs n) n k e row n n g _) ⟨fun hlt => ?_, fun _ => ⟨rfl, rfl, ?_⟩⟩)
    · have := blt_true hlt; omega
    · rw [show ixD l zs n = cells5 l 0 by rw [← hn]; exact ixD_end (by rw [hn]; exact hz)]
      exact gC_get (C := [(cellsQ l, e, row, true), (cells5 l 0, 147, 6, false)]) (q := 1) rfl
noncomputable def ixL (l : List Q4) (n e row k : Nat) : Loops Tryz.prog where
  body := fun _ => loopOf Tryz.prog 92 0
  spec := fun _ a h c => entry a 24 [(3, slP 1 0 n), (9, liP n k), (10, goN n), (11, goN 0)] (∃ zs : List Value, h.get Tryz.prog.globals.size = some (.cells (cellsQ l) e row true) ∧ h.get (Tryz.prog.globals.size + 1) = some (.cells zs 147 6 false) ∧ (l.length = n ∧ n ≤ 65536 ∧ zs.length = n * 5 ∧ zs.all (flat 3) = true) ∧
    ∀ g h', h'.get (Tryz.prog.globals.size + 1) = some (.cells (cells5 l 0) 147 6 false) → c (.exit 0) (stOf 24 [(3, slP 1 n n)] g) h')
  ok := fun i a h c q => by
    obtain ⟨h1, h2, h3, zs, g0, g1, ⟨hs1, hs2, hs3, hs4⟩, h4⟩ := entry_facts q
    refine J.of_told (ix_loop l n e row k zs hs1 hs2 hs3 hs4 a h (.two g0 (by rw [show ixD l zs 0 = zs by simp [ixD, cells5]]; exact g1)) h1 h2 ?_) ?_
    · simp only [List.map_cons, List.map_nil]
      rw [h3 (3, slP 1 0 n) (by simp), h3 (9, liP n k) (by simp), h3 (10, goN n) (by simp), h3 (11, goN 0) (by simp)]
    · rintro ex vs h' g ⟨rfl, rfl, hg⟩
      exact h4 (ov [(9, liP n k), (10, goN n), (11, goN n)] g) h' hg
theorem ix_run (l : List Q4) (m e row k : Nat) (K : Value → AHeap → Prop) : callC Tryz.prog (exec Tryz.prog orcVb 10) (syOf [(8, 45)]) askVb (ixL l (m + 1) e row k) 20 92 #[liP (m + 1) k] (canon Tryz.prog [(cellsQ l, e, row)]) K = (((0 : Nat) < (m + 1) ∧ Nat.ble 0 (m + 1) = true ∧ Nat.ble (m + 1) 65536 = true ∧ (∀ y1 : List Value, (List.length y1 = ((m + 1) * 5) → (List.all y1 (flat 2) = true → (loopOf Tryz.prog 92 0 = loopOf Tryz.prog 92 0 ∧ slO 0 (m + 1) = slP 1 0 (m + 1) ∧ liP (m + 1) k = liP (m + 1) k ∧ goN (m + 1) = goN (m + 1) ∧ gi 0 = goN 0 ∧ (∃ x2 : List Value, (((canon Tryz.prog [Prod.mk (cellsQ l) (Prod.mk e row)]).push (.cells y1 147 6 false)).get (nG1) = Option.some (.cells (cellsQ l) e row true) ∧ ((canon Tryz.prog [Prod.mk (cellsQ l) (Prod.mk e row)]).push (.cells y1 147 6 false)).get (nG1 + 1) = Option.some (.cells x2 147 6 false) ∧ (List.length l = (m + 1) ∧ ((m + 1) : Nat) ≤ 65536 ∧ List.length x2 = ((m + 1) * 5) ∧ List.all x2 (flat 3) = true) ∧ (∀ _ : Nat → Value, (∀ y4 : AHeap, (y4.get (nG1 + 1) = Option.some (.cells (cells5 l 0) 147 6 false) → K (slP 1 (m + 1) (m + 1)) y4))))))))))) := by kernel_rfl
end Go.Proofs.YtcifkiinilaglaaGreatDoor
/-! Values: clipped ones. -/
namespace Go.Proofs.YtcifkiinilaglaaGreatDoor
open Go Go.Am

noncomputable def clQ (q : Q4) : Bool := q.2.2.1 || q.2.2.2
noncomputable def wiL (s : List P2) (i : Nat) : List P2 :=
  bif Nat.blt 0 s.length && ieq (s.getD (s.length - 1) (0, 0)).2 (Int.ofNat i) then s.set (s.length - 1) ((s.getD (s.length - 1) (0, 0)).1, Int.ofNat (i + 1)) else s ++ [(Int.ofNat i, Int.ofNat (i + 1))]
theorem wiL_at {s : List P2} {q : Nat} (hs : s.length = q + 1) (i : Nat) : wiL s i = bif ieq (s[q]'(by omega)).2 (Int.ofNat i) then s.set q ((s[q]'(by omega)).1, Int.ofNat (i + 1)) else s ++ [(Int.ofNat i, Int.ofNat (i + 1))] := by
  have e0 : s.length - 1 = q := by omega
  have e1 : s.getD (s.length - 1) (0, 0) = s[q]'(by omega) := by rw [e0, List.getD_eq_getElem?_getD, List.getElem?_eq_getElem (by omega)]; rfl
  unfold wiL
  rw [e1, e0, show Nat.blt 0 s.length = true by rw [Nat.blt_eq]; omega, Bool.true_and]
theorem wiL_len (s : List P2) (i : Nat) : (wiL s i).length ≤ s.length + 1 ∧ 0 < (wiL s i).length := by
  unfold wiL
  cases h : (Nat.blt 0 s.length && ieq (s.getD (s.length - 1) (0, 0)).2 (Int.ofNat i))
  · rw [cond_false, List.length_append, List.length_singleton]; omega
  · rw [Bool.and_eq_true, Nat.blt_eq] at h
    rw [cond_true, List.length_set]; omega
noncomputable def spF (l : List Q4) : Nat → List P2
  | 0 => []
  | j + 1 => match l[j]? with
    | some q => bif clQ q then wiL (spF l j) j else spF l j
    | none => spF l j
theorem spF_succ {l : List Q4} {j : Nat} (hj : j < l.length) : spF l (j + 1) = bif clQ l[j] then wiL (spF l j) j else spF l j := by
  rw [spF, List.getElem?_eq_getElem hj]
theorem spF_len (l : List Q4) : ∀ j, (spF l j).length ≤ j
  | 0 => Nat.le_refl _
  | j + 1 => by
    have := spF_len l j
    by_cases hj : j < l.length
    · rw [spF_succ hj]
      cases clQ l[j]
      · rw [cond_false]; omega
      · have := (wiL_len (spF l j) j).1
        rw [cond_true]; omega
    · rw [spF, List.getElem?_eq_none (by omega)]
      show (spF l j).length ≤ _
      omega
theorem cellsP_nil {s : List P2} (h : cellsP s = []) : s = [] := by
  cases s with
  | nil => rfl
  | cons x r => cases h
theorem cellsP_last {s : List P2} {q : Nat} (hs : s.length = q + 1) : (cellsP s)[0 + q * 2 + 1]? = some (gi (intAt (cellsP s) (0 + q * 2 + 1))) ∧ intAt (cellsP s) (0 + q * 2 + 1) = (s[q]'(by omega)).2 := by
  obtain ⟨⟨_, h⟩, _, h'⟩ := cellsP_at (l := s) (j := q) (by omega)
  exact ⟨h, h'⟩
theorem cellsP_set {s : List P2} {q : Nat} (hs : s.length = q + 1) (y : Int) : splice (cellsP s) (0 + q * 2 + 1) [gi y] = cellsP (s.set q ((s[q]'(by omega)).1, y)) := by
  have hq : q < s.length := by omega
  have hl : (s.take q).length = q := by rw [List.length_take]; omega
  have h1 : cellsP s = (cellsP (s.take q) ++ [gi s[q].1]) ++ ([gi s[q].2] ++ cellsP (s.drop (q + 1))) := by
    conv => lhs; rw [show s = s.take q ++ (s[q] :: s.drop (q + 1)) by rw [← List.drop_eq_getElem_cons hq, List.take_append_drop]]
    rw [cellsP_app, List.append_assoc]; rfl
  have h2 : cellsP (s.set q (s[q].1, y)) = (cellsP (s.take q) ++ [gi s[q].1]) ++ ([gi y] ++ cellsP (s.drop (q + 1))) := by
    rw [List.set_eq_take_append_cons_drop, if_pos hq, cellsP_app, List.append_assoc]; rfl
  have h3 : (cellsP (s.take q) ++ [gi s[q].1]).length = 0 + q * 2 + 1 := by
    rw [List.length_append, cellsP_len, hl, List.length_singleton]; omega
  rw [h2, h1]
  unfold splice
  rw [← h3, List.take_left]
  congr 2
  rw [List.drop_append, show [gi y].length = 1 from rfl, List.drop_of_length_le (Nat.le_succ _), List.nil_append, Nat.add_sub_cancel_left]
  rfl
theorem lastI (q : Nat) : Int.toNat (Int.ofNat (q + 1) - 1) = q := by simp only [Int.ofNat_eq_natCast]; omega
theorem lastI_in {q : Nat} (h : q ≤ 65536) : inI64 (Int.ofNat (q + 1) - 1) = true := by
  rw [show Int.ofNat (q + 1) - 1 = Int.ofNat q by simp only [Int.ofNat_eq_natCast]; omega]
  exact inI64_nat (by omega)
theorem lastI_ge (q : Nat) : (!(ilt (Int.ofNat (q + 1) - 1) 0)) = true := by
  rw [ilt_say]; simp
theorem lastI_ix (q : Nat) : ahasIndex (Int.ofNat (q + 1) - 1) (q + 1) = true := by
  rw [show Int.ofNat (q + 1) - 1 = Int.ofNat q by simp only [Int.ofNat_eq_natCast]; omega]
  show Nat.blt q (q + 1) = true
  rw [Nat.blt_eq]; omega
theorem lastI_pos (q : Nat) : ilt 0 (Int.ofNat (q + 1)) = true := by
  rw [ilt_say]; simp only [Int.ofNat_eq_natCast]; exact decide_eq_true (by omega)
noncomputable def neQ (q : Q4) : Bool := !(ieq q.1 q.1 && (ieq q.2.1 q.2.1 && (BEq.beq q.2.2.1 false && (BEq.beq q.2.2.2 false && true))))
theorem neQ_cl (q : Q4) : neQ q = clQ q := by
  unfold neQ clQ
  rw [ieq_self, ieq_self]
  cases q.2.2.1 <;> cases q.2.2.2 <;> rfl
end Go.Proofs.YtcifkiinilaglaaGreatDoor
/-! (OWN WORK. Values: clipped ones, by the program and by the reference: their loops, for all lists.) -/
namespace Go.Proofs.YtcifkiinilaglaaGreatDoor
open Go Go.Am

noncomputable abbrev ixC : List Q4 → List Value → Prop := fun l r => r = [] ∧ l ≠ []
noncomputable abbrev ixO : List Q4 → List Value → Out := fun l _ => .wide (slM l.length) (cells5 l 0) 147 6
noncomputable def orcVi : Orc := orElse 92 (lstI Tryz.prog.globals.size tQ ixC ixO) orcVh
set_option maxRecDepth 100000 in
theorem orcVi_ok : OrcOk Tryz.prog orcVi := by
  refine lstI_ok globs_pos orcVh_ok (fun l r _ => ⟨names_sl _, cells5_flat _ _⟩) ?_ ?_ ?_
  · rintro r ⟨_, h⟩; exact absurd rfl h
  · rintro r k ⟨_, h⟩; exact absurd rfl h
  · rintro l r m e row k ⟨rfl, h⟩ hm h1
    rw [show ixO l [] = .wide (slM (m + 1)) (cells5 l 0) 147 6 by show Out.wide _ _ _ _ = _; rw [hm]]
    refine callC_ok mixed orcVb_ok askVb_ok (Eq.mpr (ix_run l m e row k _) ⟨Nat.succ_pos _, rfl, by rw [Nat.ble_eq]; exact h1, fun zs hz hzf => ⟨rfl, rfl, rfl, rfl, rfl, zs, ?_, ?_, ⟨hm, h1, hz, flats_up hzf⟩, fun _ h' hg => ⟨_, rfl, hg⟩⟩⟩)
    · rw [AHeap.get_push_ne (by kernel_rfl), canon_get, if_pos (Nat.le_refl _), Nat.sub_self]; rfl
    · rw [AHeap.get_push_eq (by kernel_rfl)]
noncomputable def askVi : Asks := asksI' Tryz.prog.globals.size 92 tQ ixC ixO askVh
theorem askVi_ok : AsksOk orcVi askVi := asksI'_ok askVh_ok
theorem orcVg_ok : OrcOk Tryz.prog orcVg := inlO_ok mixed orcVf_ok
theorem askVwA_ok : AsksOk orcVg askVwA := asksI_ok askVf_ok askVf_ok
theorem askVwD_ok : AsksOk orcVg askVwD := asksI_ok askVf_ok askVf_ok
/-! Clipped -/
noncomputable def cpV (n k : Nat) : Nat → Value → List Value := fun j w => [w, liP n k, goN n, goN j]
noncomputable abbrev cpC (l : List Q4) : List Blk := [(cells5 l 0, 147, 6, false)]
abbrev cpOut (l : List Q4) (n : Nat) (V : Nat → Value → List Value) (ex : Exit) (vs : List Value) (h' : AHeap) : Prop :=
  ex = .exit 0 ∧ ((spF l n = [] ∧ vs = V n nilS) ∨ (spF l n ≠ [] ∧ vs = V n (slP 1 (spF l n).length (spF l n).length) ∧ h'.get (Tryz.prog.globals.size + 1) = some (.cells (cellsP (spF l n)) 114 3 false)))
set_option maxRecDepth 100000 in
theorem cp_loop (l : List Q4) (n k : Nat) (hn : l.length = n) (hle : n ≤ 65536) : ∀ (a : AAct) (h : AHeap), GrownW Tryz.prog (cpC l) 114 3 (cpV n k) (fun j => (spF l j).length) (fun j => cellsP (spF l j)) 0 ([5, 14, 15, 16].map a.tmp) h → a.n = 36 → a.marks = [] →
    J Tryz.prog (.loop (loopOf Tryz.prog 33 0)) a h (told 36 [5, 14, 15, 16] (cpOut l n (cpV n k))) := by
  intro a h hG ha hk
  refine growW_rule (C := cpC l) (el := 114) (rw := 3) globs_pos (by decide) (by decide) (fun b hb => by
      simp only [List.mem_cons, List.not_mem_nil, or_false] at hb
      subst hb
      exact cells5_flat l 0) (cpV n k) (fun j => (spF l j).length) (fun j => cellsP (spF l j)) n _ (fun j => cellsP_flat _) (fun j => by kernel_rfl) (fun j q d hd => by
      obtain rfl | rfl | rfl | rfl : d = 0 ∨ d = 1 ∨ d = 2 ∨ d = 3 := by omega
      all_goals kernel_rfl)
    (fun j v q hq => by match q, hq with | 0, _ => exact ⟨(14, liP n k), by simp [cpV], by simp [named]⟩) (fun j b q => ⟨(5, .slice (some ⟨b, 0, none⟩) q q), by simp [cpV], by simp [named]⟩) ?_ ?_ ?_ ?_ a h hG ha hk
  · intro j hj hx g
    have hjl : j < l.length := by omega
    have hs := spF_succ hjl
    have hx : spF l j = [] := cellsP_nil hx
    obtain ⟨⟨f0, f1, f2, f3, f4⟩, i0, i1, i2, i3, i4⟩ := cells5_at hjl
    refine execC_ok mixed orcVg_ok askVwA_ok (noLoops _) (Eq.mpr (cp_bodyA (cells5 l 0) n k j g _) ⟨fun hlt => ⟨hlt, f0, f1, f2, f3, f4, fun hc => ?_, fun hc => ?_⟩, fun hge => ?_⟩)
    · rw [i0, i1, i2, i3] at hc
      rw [i0, i1, i2, i3, i4, fwrap_nat (by omega)]
      have hc : clQ l[j] = true := (neQ_cl _).symm.trans hc
      have hw : spF l (j + 1) = [(Int.ofNat j, Int.ofNat (j + 1))] := by rw [hs, hc, hx]; rfl
      refine ⟨by rw [show Int.ofNat j + 1 = Int.ofNat (j + 1) from rfl]; exact inI64_nat (by omega), fun p b hb => ?_, .inr ⟨nG1 + 3, 2, rfl, by omega, ?_, ?_, ?_⟩⟩
      · match p, hb with
        | 0, hb => cases hb; rw [AHeap.get_push_ne (by kernel_rfl), AHeap.get_push_ne (by kernel_rfl), AHeap.get_set_neB (by kernel_rfl), AHeap.get_push_ne (by kernel_rfl)]; exact gC_get (q := 0) rfl
      · show cellsP (spF l (j + 1)) ≠ []
        rw [hw]; exact fun h => by cases h
      · show _ = cpV n k (j + 1) (.slice _ (spF l (j + 1)).length (spF l (j + 1)).length)
        rw [hw]; rfl
      · rw [AHeap.get_push_eq (by kernel_rfl)]
        show _ = some (AObj.cells (cellsP (spF l (j + 1))) _ _ _)
        rw [hw]; rfl
    · rw [i0, i1, i2, i3] at hc
      rw [fwrap_nat (by omega)]
      have hc : clQ l[j] = false := (neQ_cl _).symm.trans hc
      have hw : spF l (j + 1) = [] := by rw [hs, hc, hx]; rfl
      refine ⟨fun p b hb => ?_, .inl ⟨?_, rfl⟩⟩
      · match p, hb with
        | 0, hb => cases hb; rw [AHeap.get_set_neB (by kernel_rfl), AHeap.get_push_ne (by kernel_rfl)]; exact gC_get (q := 0) rfl
      · show cellsP (spF l (j + 1)) = []
        rw [hw]; rfl
    · have := blt_false hge; omega
  · intro j hj hx g
    have hjl : j < l.length := by omega
    have hs := spF_succ hjl
    have hlen := spF_len l j
    obtain ⟨q, hq⟩ : ∃ q, (spF l j).length = q + 1 := ⟨(spF l j).length - 1, by
      have : spF l j ≠ [] := fun h => hx (by show cellsP (spF l j) = []; rw [h]; rfl)
      have := List.length_pos_iff.2 this
      omega⟩
    obtain ⟨⟨f0, f1, f2, f3, f4⟩, i0, i1, i2, i3, i4⟩ := cells5_at hjl
    obtain ⟨d0, d1⟩ := cellsP_last hq
    have hset := cellsP_set hq (Int.ofNat j + 1)
    have hwi := wiL_at hq j
    show J _ _ (stOf 36 ([5, 14, 15, 16].zip (cpV n k j (.slice _ (spF l j).length (spF l j).length))) g) _ _
    rw [hq]
    refine execC_ok mixed orcVg_ok askVwD_ok (noLoops _) (Eq.mpr (cp_bodyD (cells5 l 0) (cellsP (spF l j)) n k j q g _) ⟨fun hlt => ⟨hlt, f0, f1, f2, f3, f4, fun hc => ?_, fun hc => ?_⟩, fun hge => ?_⟩)
    · rw [i0, i1, i2, i3] at hc
      have hc : clQ l[j] = true := (neQ_cl _).symm.trans hc
      rw [lastI, i4]
      refine ⟨lastI_in (by omega), lastI_ge q, lastI_ix q, d0, fun he => ?_, fun he => ?_⟩
      · rw [d1] at he
        have hw : spF l (j + 1) = (spF l j).set q (((spF l j)[q]'(by omega)).1, Int.ofNat (j + 1)) := by
          rw [hs, hc, cond_true, hwi, he]; rfl
        have hv : ((spF l j)[q]'(by omega)).2 = Int.ofNat j := by
          rw [ieq_dec] at he; simpa using he
        refine ⟨lastI_ix q, d0, ?_, lastI_ix q, ?_, ?_⟩
        · rw [d1, hv, show Int.ofNat j + 1 = Int.ofNat (j + 1) from rfl]; exact inI64_nat (by omega)
        · rw [Nat.ble_eq, cellsP_len, hq]; show 0 + q * 2 + 1 + 1 ≤ _; omega
        · rw [fwrap_nat (by omega)]
          refine ⟨fun p b hb => ?_, .inr ⟨nG1 + 1, 0, rfl, by omega, ?_, ?_, ?_⟩⟩
          · match p, hb with
            | 0, hb => cases hb; rw [AHeap.get_set_neB (by kernel_rfl), AHeap.get_set_neB (by kernel_rfl), AHeap.get_push_ne (by kernel_rfl)]; exact gW_get (C := cpC l) (q := 0) rfl
          · show cellsP (spF l (j + 1)) ≠ []
            intro h
            have h := cellsP_nil h
            rw [hw] at h
            have := congrArg List.length h
            rw [List.length_set, hq] at this
            cases this
          · show _ = cpV n k (j + 1) (.slice _ (spF l (j + 1)).length (spF l (j + 1)).length)
            rw [hw, List.length_set, hq]; rfl
          · rw [AHeap.get_set_eqB (by kernel_rfl), d1, hv, hset]
            show _ = some (AObj.cells (cellsP (spF l (j + 1))) _ _ _)
            rw [hw]; rfl
      · rw [d1] at he
        have hw : spF l (j + 1) = spF l j ++ [(Int.ofNat j, Int.ofNat (j + 1))] := by
          rw [hs, hc, cond_true, hwi, he]; rfl
        refine ⟨?_, ble_noV (by omega), by rw [Nat.ble_eq]; omega, by rw [cellsP_len, hq], ?_⟩
        · rw [show Int.ofNat j + 1 = Int.ofNat (j + 1) from rfl]; exact inI64_nat (by omega)
        · rw [fwrap_nat (by omega)]
          refine ⟨fun p b hb => ?_, .inr ⟨nG1 + 4, 3, rfl, by omega, ?_, ?_, ?_⟩⟩
          · match p, hb with
            | 0, hb => cases hb; rw [AHeap.get_push_ne (by kernel_rfl), AHeap.get_set_neB (by kernel_rfl), AHeap.get_push_ne (by kernel_rfl), AHeap.get_set_neB (by kernel_rfl), AHeap.get_push_ne (by kernel_rfl)]; exact gW_get (C := cpC l) (q := 0) rfl
          · show cellsP (spF l (j + 1)) ≠ []
            intro h
            have h := cellsP_nil h
            rw [hw] at h
            have := congrArg List.length h
            rw [List.length_append, hq] at this
            cases this
          · show _ = cpV n k (j + 1) (.slice _ (spF l (j + 1)).length (spF l (j + 1)).length)
            rw [hw, List.length_append, hq]; rfl
          · rw [AHeap.get_push_eq (by kernel_rfl)]
            show _ = some (AObj.cells (cellsP (spF l (j + 1))) _ _ _)
            rw [hw, cellsP_app]; rfl
    · rw [i0, i1, i2, i3] at hc
      rw [fwrap_nat (by omega)]
      have hc : clQ l[j] = false := (neQ_cl _).symm.trans hc
      have hw : spF l (j + 1) = spF l j := by rw [hs, hc]; rfl
      refine ⟨fun p b hb => ?_, .inr ⟨nG1 + 1, 0, rfl, by omega, ?_, ?_, ?_⟩⟩
      · match p, hb with
        | 0, hb => cases hb; rw [AHeap.get_set_neB (by kernel_rfl), AHeap.get_push_ne (by kernel_rfl)]; exact gW_get (C := cpC l) (q := 0) rfl
      · show cellsP (spF l (j + 1)) ≠ []
        rw [hw]; exact hx
      · show _ = cpV n k (j + 1) (.slice _ (spF l (j + 1)).length (spF l (j + 1)).length)
        rw [hw, hq]; rfl
      · rw [AHeap.get_set_neB (by kernel_rfl), AHeap.get_push_ne (by kernel_rfl)]
        show _ = some (AObj.cells (cellsP (spF l (j + 1))) _ _ _)
        rw [hw]; exact gW_dst (C := cpC l)
    · have := blt_false hge; omega
  · intro hx g
    have hx : spF l n = [] := cellsP_nil hx
    refine execC_ok mixed orcVg_ok askVwA_ok (noLoops _) (Eq.mpr (cp_bodyA (cells5 l 0) n k n g _) ⟨fun hlt => ?_, fun _ => ⟨rfl, .inl ⟨hx, rfl⟩⟩⟩)
    have := blt_true hlt; omega
  · intro hx g
    have hne : spF l n ≠ [] := fun h => hx (by show cellsP (spF l n) = []; rw [h]; rfl)
    obtain ⟨q, hq⟩ : ∃ q, (spF l n).length = q + 1 := ⟨(spF l n).length - 1, by
      have := List.length_pos_iff.2 hne
      omega⟩
    show J _ _ (stOf 36 ([5, 14, 15, 16].zip (cpV n k n (.slice _ (spF l n).length (spF l n).length))) g) _ _
    rw [hq]
    refine execC_ok mixed orcVg_ok askVwD_ok (noLoops _) (Eq.mpr (cp_bodyD (cells5 l 0) (cellsP (spF l n)) n k n q g _) ⟨fun hlt => ?_, fun _ => ⟨rfl, .inr ⟨hne, by rw [hq]; rfl, gW_dst (C := cpC l)⟩⟩⟩)
    have := blt_true hlt; omega
/-! Clipped, by the reference -/
noncomputable def CpV (n k : Nat) : Nat → Value → List Value := fun j w => [liP n k, w, goN j]
noncomputable abbrev CpC (l : List Q4) (e row : Nat) : List Blk := [(cellsQ l, e, row, true)]
theorem or_f {a b : Bool} (ha : (!a) = true) (hb : (!b) = true) : (a || b) = false := by cases a <;> cases b <;> simp_all
theorem or_t1 {a b : Bool} (ha : (!a) = false) : (a || b) = true := by cases a <;> simp_all
theorem or_t2 {a b : Bool} (hb : (!b) = false) : (a || b) = true := by cases b <;> simp_all
set_option maxRecDepth 100000 in
theorem Cp_loop (l : List Q4) (n e row k : Nat) (hn : l.length = n) (hle : n ≤ 65536) : ∀ (a : AAct) (h : AHeap), GrownW Tryz.prog (CpC l e row) 114 3 (CpV n k) (fun j => (spF l j).length) (fun j => cellsP (spF l j)) 0 ([0, 3, 4].map a.tmp) h → a.n = 55 → a.marks = [] →
    J Tryz.prog (.loop (loopOf Tryz.prog 36 0)) a h (told 55 [0, 3, 4] (cpOut l n (CpV n k))) := by
  intro a h hG ha hk
  refine growW_rule (C := CpC l e row) (el := 114) (rw := 3) globs_pos (by decide) (by decide) (fun b hb => by
      simp only [List.mem_cons, List.not_mem_nil, or_false] at hb
      subst hb
      exact cellsQ_flat l) (CpV n k) (fun j => (spF l j).length) (fun j => cellsP (spF l j)) n _ (fun j => cellsP_flat _) (fun j => by kernel_rfl) (fun j q d hd => by
      obtain rfl | rfl | rfl | rfl : d = 0 ∨ d = 1 ∨ d = 2 ∨ d = 3 := by omega
      all_goals kernel_rfl)
    (fun j v q hq => by match q, hq with | 0, _ => exact ⟨(0, liP n k), by simp [CpV], by simp [named]⟩) (fun j b q => ⟨(3, .slice (some ⟨b, 0, none⟩) q q), by simp [CpV], by simp [named]⟩) ?_ ?_ ?_ ?_ a h hG ha hk
  · intro j hj hx g
    have hjl : j < l.length := by omega
    have hs := spF_succ hjl
    have hx : spF l j = [] := cellsP_nil hx
    obtain ⟨⟨f0, f1, f2, f3⟩, i0, i1, i2, i3⟩ := cellsQ_at' hjl
    have yes : clQ l[j] = true → ∀ Qe : AHeap, Qe = (((roH (cellsQ l) e row).push (.cells [goN j, goN (j + 1)] 114 3 false)).push (.cells ([] ++ [goN j, goN (j + 1)]) 114 3 false)) → GrownW Tryz.prog (CpC l e row) 114 3 (CpV n k) (fun j => (spF l j).length) (fun j => cellsP (spF l j)) (j + 1) [liP n k, Value.slice (some ⟨nG1 + 2, 0, none⟩) 1 1, goN (j + 1)] Qe := by
      rintro hc Qe rfl
      have hw : spF l (j + 1) = [(Int.ofNat j, Int.ofNat (j + 1))] := by rw [hs, hc, hx]; rfl
      refine ⟨fun p b hb => ?_, .inr ⟨nG1 + 2, 1, rfl, by omega, ?_, ?_, ?_⟩⟩
      · match p, hb with
        | 0, hb => cases hb; rw [AHeap.get_push_ne (by kernel_rfl), AHeap.get_push_ne (by kernel_rfl)]; exact gC_get (q := 0) rfl
      · show cellsP (spF l (j + 1)) ≠ []
        rw [hw]; exact fun h => by cases h
      · show _ = CpV n k (j + 1) (.slice _ (spF l (j + 1)).length (spF l (j + 1)).length)
        rw [hw]; rfl
      · rw [AHeap.get_push_eq (by kernel_rfl)]
        show _ = some (AObj.cells (cellsP (spF l (j + 1))) _ _ _)
        rw [hw]; rfl
    refine execC_ok mixed orcVb_ok askVb_ok (noLoops _) (Eq.mpr (Cp_bodyA (cellsQ l) n k e row j g _) ⟨fun hlt => ⟨hlt, f2, fun hu => ⟨hlt, f3, fun ho => ?_, fun ho => ?_⟩, fun hu => ⟨fun hf => Bool.noConfusion hf, fun _ => ?_⟩⟩, fun hge => ?_⟩)
    · rw [i2] at hu
      rw [i3] at ho
      rw [fwrap_nat (by omega)]
      have hc : clQ l[j] = false := or_f hu ho
      have hw : spF l (j + 1) = [] := by rw [hs, hc, hx]; rfl
      refine ⟨fun p b hb => ?_, .inl ⟨?_, rfl⟩⟩
      · match p, hb with
        | 0, hb => cases hb; exact gC_get (q := 0) rfl
      · show cellsP (spF l (j + 1)) = []
        rw [hw]; rfl
    · rw [i3] at ho
      rw [fwrap_nat (by omega)]
      exact yes (or_t2 ho) _ rfl
    · rw [i2] at hu
      rw [fwrap_nat (by omega)]
      exact yes (or_t1 hu) _ rfl
    · have := blt_false hge; omega
  · intro j hj hx g
    have hjl : j < l.length := by omega
    have hs := spF_succ hjl
    have hlen := spF_len l j
    obtain ⟨q, hq⟩ : ∃ q, (spF l j).length = q + 1 := ⟨(spF l j).length - 1, by
      have : spF l j ≠ [] := fun h => hx (by show cellsP (spF l j) = []; rw [h]; rfl)
      have := List.length_pos_iff.2 this
      omega⟩
    obtain ⟨⟨f0, f1, f2, f3⟩, i0, i1, i2, i3⟩ := cellsQ_at' hjl
    obtain ⟨d0, d1⟩ := cellsP_last hq
    have hset := cellsP_set hq (Int.ofNat (j + 1))
    have hwi := wiL_at hq j
    have yes1 : clQ l[j] = true → ieq ((spF l j)[q]'(by omega)).2 (Int.ofNat j) = true → ∀ Qe : AHeap, Qe = (goH (cellsQ l) e row (cellsP (spF l j)) 114 3).set (nG1 + 1) (.cells (splice (cellsP (spF l j)) (0 + q * 2 + 1) [goN (j + 1)]) 114 3 false) →
        GrownW Tryz.prog (CpC l e row) 114 3 (CpV n k) (fun j => (spF l j).length) (fun j => cellsP (spF l j)) (j + 1) [liP n k, slP 1 (q + 1) (q + 1), goN (j + 1)] Qe := by
      rintro hc he Qe rfl
      have hw : spF l (j + 1) = (spF l j).set q (((spF l j)[q]'(by omega)).1, Int.ofNat (j + 1)) := by
        rw [hs, hc, cond_true, hwi, he]; rfl
      refine ⟨fun p b hb => ?_, .inr ⟨nG1 + 1, 0, rfl, by omega, ?_, ?_, ?_⟩⟩
      · match p, hb with
        | 0, hb => cases hb; rw [AHeap.get_set_neB (by kernel_rfl)]; exact gW_get (C := CpC l e row) (q := 0) rfl
      · show cellsP (spF l (j + 1)) ≠ []
        intro h
        have h := cellsP_nil h
        rw [hw] at h
        have := congrArg List.length h
        rw [List.length_set, hq] at this
        cases this
      · show _ = CpV n k (j + 1) (.slice _ (spF l (j + 1)).length (spF l (j + 1)).length)
        rw [hw, List.length_set, hq]; rfl
      · rw [AHeap.get_set_eqB (by kernel_rfl), hset]
        show _ = some (AObj.cells (cellsP (spF l (j + 1))) _ _ _)
        rw [hw]
    have yes2 : clQ l[j] = true → ieq ((spF l j)[q]'(by omega)).2 (Int.ofNat j) = false → ∀ Qe : AHeap, Qe = (((goH (cellsQ l) e row (cellsP (spF l j)) 114 3).push (.cells [goN j, goN (j + 1)] 114 3 false)).set (nG1 + 1) .dead).push (.cells (cellsP (spF l j) ++ [goN j, goN (j + 1)]) 114 3 false) →
        GrownW Tryz.prog (CpC l e row) 114 3 (CpV n k) (fun j => (spF l j).length) (fun j => cellsP (spF l j)) (j + 1) [liP n k, Value.slice (some ⟨nG1 + 3, 0, none⟩) (q + 1 + 1) (q + 1 + 1), goN (j + 1)] Qe := by
      rintro hc he Qe rfl
      have hw : spF l (j + 1) = spF l j ++ [(Int.ofNat j, Int.ofNat (j + 1))] := by
        rw [hs, hc, cond_true, hwi, he]; rfl
      refine ⟨fun p b hb => ?_, .inr ⟨nG1 + 3, 2, rfl, by omega, ?_, ?_, ?_⟩⟩
      · match p, hb with
        | 0, hb => cases hb; rw [AHeap.get_push_ne (by kernel_rfl), AHeap.get_set_neB (by kernel_rfl), AHeap.get_push_ne (by kernel_rfl)]; exact gW_get (C := CpC l e row) (q := 0) rfl
      · show cellsP (spF l (j + 1)) ≠ []
        intro h
        have h := cellsP_nil h
        rw [hw] at h
        have := congrArg List.length h
        rw [List.length_append, hq] at this
        cases this
      · show _ = CpV n k (j + 1) (.slice _ (spF l (j + 1)).length (spF l (j + 1)).length)
        rw [hw, List.length_append, hq]; rfl
      · rw [AHeap.get_push_eq (by kernel_rfl)]
        show _ = some (AObj.cells (cellsP (spF l (j + 1))) _ _ _)
        rw [hw, cellsP_app]; rfl
    show J _ _ (stOf 55 ([0, 3, 4].zip (CpV n k j (.slice _ (spF l j).length (spF l j).length))) g) _ _
    rw [hq]
    refine execC_ok mixed orcVb_ok askVb_ok (noLoops _) (Eq.mpr (Cp_bodyD (cellsQ l) (cellsP (spF l j)) n k e row j q g _) ⟨fun hlt => ⟨hlt, f2, fun hu => ⟨hlt, f3, fun ho => ?_, fun ho => ?_⟩, fun hu => ⟨fun hf => Bool.noConfusion hf, fun _ => ?_⟩⟩, fun hge => ?_⟩)
    · rw [i2] at hu
      rw [i3] at ho
      rw [fwrap_nat (by omega)]
      have hc : clQ l[j] = false := or_f hu ho
      have hw : spF l (j + 1) = spF l j := by rw [hs, hc]; rfl
      refine ⟨fun p b hb => ?_, .inr ⟨nG1 + 1, 0, rfl, by omega, ?_, ?_, ?_⟩⟩
      · match p, hb with
        | 0, hb => cases hb; exact gW_get (C := CpC l e row) (q := 0) rfl
      · show cellsP (spF l (j + 1)) ≠ []
        rw [hw]; exact hx
      · show _ = CpV n k (j + 1) (.slice _ (spF l (j + 1)).length (spF l (j + 1)).length)
        rw [hw, hq]; rfl
      · show _ = some (AObj.cells (cellsP (spF l (j + 1))) _ _ _)
        rw [hw]; exact gW_dst (C := CpC l e row)
    · rw [i3] at ho
      rw [lastI, d1, fwrap_nat (by omega)]
      exact ⟨lastI_pos q, lastI_in (by omega), lastI_ix q, d1 ▸ d0, fun he => ⟨lastI_in (by omega), lastI_ix q, by rw [Nat.ble_eq, cellsP_len, hq]; show 0 + q * 2 + 1 + 1 ≤ _; omega, yes1 (or_t2 ho) he _ rfl⟩, fun he => ⟨ble_noV (by omega), by rw [Nat.ble_eq]; omega, by rw [cellsP_len, hq], yes2 (or_t2 ho) he _ rfl⟩⟩
    · rw [i2] at hu
      rw [lastI, d1, fwrap_nat (by omega)]
      exact ⟨lastI_pos q, lastI_in (by omega), lastI_ix q, d1 ▸ d0, fun he => ⟨lastI_in (by omega), lastI_ix q, by rw [Nat.ble_eq, cellsP_len, hq]; show 0 + q * 2 + 1 + 1 ≤ _; omega, yes1 (or_t1 hu) he _ rfl⟩, fun he => ⟨ble_noV (by omega), by rw [Nat.ble_eq]; omega, by rw [cellsP_len, hq], yes2 (or_t1 hu) he _ rfl⟩⟩
    · have := blt_false hge; omega
  · intro hx g
    have hx : spF l n = [] := cellsP_nil hx
    refine execC_ok mixed orcVb_ok askVb_ok (noLoops _) (Eq.mpr (Cp_bodyA (cellsQ l) n k e row n g _) ⟨fun hlt => ?_, fun _ => ⟨rfl, .inl ⟨hx, rfl⟩⟩⟩)
    have := blt_true hlt; omega
  · intro hx g
    have hne : spF l n ≠ [] := fun h => hx (by show cellsP (spF l n) = []; rw [h]; rfl)
    obtain ⟨q, hq⟩ : ∃ q, (spF l n).length = q + 1 := ⟨(spF l n).length - 1, by
      have := List.length_pos_iff.2 hne
      omega⟩
    show J _ _ (stOf 55 ([0, 3, 4].zip (CpV n k n (.slice _ (spF l n).length (spF l n).length))) g) _ _
    rw [hq]
    refine execC_ok mixed orcVb_ok askVb_ok (noLoops _) (Eq.mpr (Cp_bodyD (cellsQ l) (cellsP (spF l n)) n k e row n q g _) ⟨fun hlt => ?_, fun _ => ⟨rfl, .inr ⟨hne, by rw [hq]; rfl, gW_dst (C := CpC l e row)⟩⟩⟩)
    have := blt_true hlt; omega
end Go.Proofs.YtcifkiinilaglaaGreatDoor
/-! (OWN WORK. Values: clipped ones as known calls; spans compared.) -/
namespace Go.Proofs.YtcifkiinilaglaaGreatDoor
open Go Go.Am

noncomputable def cpL (l : List Q4) (n : Nat) : Loops Tryz.prog where
  body := fun _ => loopOf Tryz.prog 33 0
  spec := fun _ a h c => entry a 36 [(5, nilS), (14, slP 1 n n), (15, goN n), (16, goN 0)] (h.get (Tryz.prog.globals.size + 1) = some (.cells (cells5 l 0) 147 6 false) ∧ (l.length = n ∧ n ≤ 65536) ∧
    (spF l n = [] → ∀ g h', c (.exit 0) (stOf 36 [(5, nilS)] g) h') ∧
    (spF l n ≠ [] → ∀ g h', h'.get (Tryz.prog.globals.size + 1) = some (.cells (cellsP (spF l n)) 114 3 false) → c (.exit 0) (stOf 36 [(5, slP 1 (spF l n).length (spF l n).length)] g) h'))
  ok := fun i a h c q => by
    obtain ⟨h1, h2, h3, g0, ⟨hs1, hs2⟩, h4, h5⟩ := entry_facts q
    refine J.of_facts (l := [5, 14, 15, 16].zip [nilS, slP 1 n n, goN n, goN 0]) h1 h2 h3 fun g => ?_
    refine J.reheap (es := fun _ => 0) (vs₂ := cpV n n 0 nilS) (B := cpC l) (ids := [Tryz.prog.globals.size + 1]) globs_pos (by decide) (by decide) rfl (by simp) (by simp) ?_ (by kernel_rfl) ?_ fun g' => ?_
    · intro q b i hb hi
      match q, hb, hi with
      | 0, hb, hi => cases hb; cases hi; exact ⟨g0, cells5_flat l 0⟩
    · intro i hi
      have := List.mem_singleton.1 hi
      subst this
      exact ⟨(14, slP 1 n n), by simp, by simp [named]⟩
    · refine J.of_told (cp_loop l n n hs1 hs2 _ _ ⟨fun q b hb => ?_, .inl ⟨rfl, rfl⟩⟩ rfl rfl) ?_
      · match q, hb with
        | 0, hb => cases hb; exact gC_get (q := 0) rfl
      · rintro ex vs h' g ⟨rfl, ⟨hz, rfl⟩ | ⟨hz, rfl, hg⟩⟩
        · exact h4 hz (ov [(14, liP n n), (15, goN n), (16, goN n)] g) h'
        · exact h5 hz (ov [(14, liP n n), (15, goN n), (16, goN n)] g) h' hg
noncomputable def CpL (l : List Q4) (n e row k : Nat) : Loops Tryz.prog where
  body := fun _ => loopOf Tryz.prog 36 0
  spec := fun _ a h c => entry a 55 [(0, liP n k), (3, nilS), (4, goN 0)] (h.get Tryz.prog.globals.size = some (.cells (cellsQ l) e row true) ∧ (l.length = n ∧ n ≤ 65536) ∧
    (spF l n = [] → ∀ g h', c (.exit 0) (stOf 55 [(3, nilS)] g) h') ∧
    (spF l n ≠ [] → ∀ g h', h'.get (Tryz.prog.globals.size + 1) = some (.cells (cellsP (spF l n)) 114 3 false) → c (.exit 0) (stOf 55 [(3, slP 1 (spF l n).length (spF l n).length)] g) h'))
  ok := fun i a h c q => by
    obtain ⟨h1, h2, h3, g0, ⟨hs1, hs2⟩, h4, h5⟩ := entry_facts q
    refine J.of_told (Cp_loop l n e row k hs1 hs2 a h ⟨fun q b hb => ?_, .inl ⟨rfl, ?_⟩⟩ h1 h2) ?_
    · match q, hb with
      | 0, hb => cases hb; exact g0
    · simp only [List.map_cons, List.map_nil]
      rw [h3 (0, liP n k) (by simp), h3 (3, nilS) (by simp), h3 (4, goN 0) (by simp)]
      rfl
    · rintro ex vs h' g ⟨rfl, ⟨hz, rfl⟩ | ⟨hz, rfl, hg⟩⟩
      · exact h4 hz (ov [(0, liP n k), (4, goN n)] g) h'
      · exact h5 hz (ov [(0, liP n k), (4, goN n)] g) h' hg
theorem cp_run (l : List Q4) (m e row k : Nat) (K : Value → AHeap → Prop) : callC Tryz.prog (exec Tryz.prog orcVi 10) (syOf [(9, 7), (11, 1), (14, 7)]) askVi (cpL l (m + 1)) 20 33 #[liP (m + 1) k] (canon Tryz.prog [(cellsQ l, e, row)]) K = (((List.all (cellsQ l) (flat 3) = true ∧ True) ∧ (true && List.all [Value.func (.func 91) #[] #[]] (fun v => match v with | Value.func (Fn.func f) a b => a.isEmpty && b.isEmpty | v => flat 3 v)) = true ∧ (∃ x1 : List Q4, (cellsQ l = cellsQ x1 ∧ ((0 : Nat) < (m + 1) ∧ List.length x1 = (m + 1) ∧ ((m + 1) : Nat) ≤ 65536) ∧ eaC x1 [Value.func (.func 91) #[] #[]] ∧ ((!(ieq (valE x1) 0)) = true → K (Value.tuple #[nilS, gi (valE x1)]) (canon Tryz.prog [Prod.mk (cellsQ l) (Prod.mk e row)])) ∧ ((!(ieq (valE x1) 0)) = false → ((List.all (cellsQ l) (flat 3) = true ∧ True) ∧ true = true ∧ (∃ x2 : List Q4, (cellsQ l = cellsQ x2 ∧ ((0 : Nat) < (m + 1) ∧ List.length x2 = (m + 1) ∧ ((m + 1) : Nat) ≤ 65536) ∧ ixC x2 [] ∧ loopOf Tryz.prog 33 0 = loopOf Tryz.prog 33 0 ∧ nilS = nilS ∧ slO (List.length x2) (List.length x2) = slP 1 (m + 1) (m + 1) ∧ goN (List.length x2) = goN (m + 1) ∧ gi 0 = goN 0 ∧ ((canon Tryz.prog [Prod.mk (cellsQ l) (Prod.mk e row)]).push (.cells (cells5 x2 0) 147 6 false)).get (nG1 + 1) = Option.some (.cells (cells5 l 0) 147 6 false) ∧ (List.length l = (m + 1) ∧ ((m + 1) : Nat) ≤ 65536) ∧ (spF l (m + 1) = [] → (∀ _ : Nat → Value, (∀ y4 : AHeap, K (Value.tuple #[nilS, gi 0]) y4))) ∧ ((spF l (m + 1) = [] → False) → (∀ _ : Nat → Value, (∀ y4 : AHeap, (y4.get (nG1 + 1) = Option.some (.cells (cellsP (spF l (m + 1))) 114 3 false) → K (Value.tuple #[slP 1 (List.length (spF l (m + 1))) (List.length (spF l (m + 1))), gi 0]) y4)))))))))))) := by kernel_rfl
theorem Cp_run (l : List Q4) (m e row k : Nat) (K : Value → AHeap → Prop) : callC Tryz.prog (exec Tryz.prog orcVb 10) (syOf []) askVb (CpL l (m + 1) e row k) 20 36 #[liP (m + 1) k] (canon Tryz.prog [(cellsQ l, e, row)]) K = ((loopOf Tryz.prog 36 0 = loopOf Tryz.prog 36 0 ∧ liP (m + 1) k = liP (m + 1) k ∧ nilS = nilS ∧ gi 0 = goN 0 ∧ (canon Tryz.prog [Prod.mk (cellsQ l) (Prod.mk e row)]).get (nG1) = Option.some (.cells (cellsQ l) e row true) ∧ (List.length l = (m + 1) ∧ ((m + 1) : Nat) ≤ 65536) ∧ (spF l (m + 1) = [] → (∀ _ : Nat → Value, (∀ y2 : AHeap, K nilS y2))) ∧ ((spF l (m + 1) = [] → False) → (∀ _ : Nat → Value, (∀ y2 : AHeap, (y2.get (nG1 + 1) = Option.some (.cells (cellsP (spF l (m + 1))) 114 3 false) → K (slP 1 (List.length (spF l (m + 1))) (List.length (spF l (m + 1)))) y2)))))) := by kernel_rfl
/-! spans -/
set_option maxRecDepth 100000 in
theorem ssp_loop (l : List P2) (n e row k e' row' k' : Nat) (hn : l.length = n) (hle : n ≤ 65536) : ∀ (a : AAct), a.n = 26 → a.marks = [] → [0, 1, 4, 5].map a.tmp = [liP n k, slP 1 n k', .bool false, goN 0] →
    J Tryz.prog (.loop (loopOf Tryz.prog 37 0)) a (canon Tryz.prog [(cellsP l, e, row), (cellsP l, e', row')]) (told 26 [0, 1, 4, 5] fun ex _ h' => ex = .exit 0 ∧ h' = canon Tryz.prog [(cellsP l, e, row), (cellsP l, e', row')]) := by
  intro a ha hm hv
  refine loop_rule (fun m vs h => ∃ j, j ≤ n ∧ m = n - j ∧ vs = [liP n k, slP 1 n k', .bool false, goN j] ∧ h = canon Tryz.prog [(cellsP l, e, row), (cellsP l, e', row')]) _ ?_ n _ _ a ⟨0, Nat.zero_le _, rfl, rfl, rfl⟩ ha hm hv
  rintro m vs h g ⟨j, hj, rfl, rfl, rfl⟩
  refine execC_ok mixed orcVb_ok askVb_ok (noLoops _) (Eq.mpr (ss_bodyP (cellsP l) (cellsP l) n k e row n k' e' row' j g _) ⟨fun hlt => ?_, fun hge => ?_⟩)
  · have hj' := blt_true hlt
    obtain ⟨⟨f0, f1⟩, -⟩ := cellsP_at (l := l) (j := j) (by omega)
    refine ⟨hlt, f0, f1, hlt, f0, f1, ?_, n - (j + 1), by omega, j + 1, hj', rfl, by rw [fwrap_nat (by omega)], rfl⟩
    rw [ieq_self, ieq_self]
    rfl
  · exact ⟨rfl, rfl⟩
noncomputable def sspL (l : List P2) (n e row k e' row' k' : Nat) : Loops Tryz.prog where
  body := fun _ => loopOf Tryz.prog 37 0
  spec := fun _ a h c => entry a 26 [(0, liP n k), (1, slP 1 n k'), (4, .bool false), (5, goN 0)] (h = canon Tryz.prog [(cellsP l, e, row), (cellsP l, e', row')] ∧ (l.length = n ∧ n ≤ 65536) ∧ ∀ g, c (.exit 0) (stOf 26 [] g) (canon Tryz.prog [(cellsP l, e, row), (cellsP l, e', row')]))
  ok := fun i a h c q => by
    obtain ⟨h1, h2, h3, rfl, ⟨hs1, hs2⟩, h4⟩ := entry_facts q
    refine J.of_told (ssp_loop l n e row k e' row' k' hs1 hs2 a h1 h2 ?_) ?_
    · simp only [List.map_cons, List.map_nil]
      rw [h3 (0, liP n k) (by simp), h3 (1, slP 1 n k') (by simp), h3 (4, .bool false) (by simp), h3 (5, goN 0) (by simp)]
    · rintro ex vs h' g ⟨rfl, rfl⟩
      exact h4 (ov ([0, 1, 4, 5].zip vs) g)
theorem ssp_run (l : List P2) (n e row k e' row' k' : Nat) (K : Value → Prop) : callC Tryz.prog (exec Tryz.prog orcVb 10) (syOf [(10, 32)]) askVb (sspL l n e row k e' row' k') 20 37 #[liP n k, slP 1 n k'] (canon Tryz.prog [(cellsP l, e, row), (cellsP l, e', row')]) (fun v _ => K v) = (((!(ieq (Int.ofNat n) (Int.ofNat n))) = false ∧ loopOf Tryz.prog 37 0 = loopOf Tryz.prog 37 0 ∧ liP n k = liP n k ∧ slP 1 n k' = slP 1 n k' ∧ Value.bool false = Value.bool false ∧ gi 0 = goN 0 ∧ canon Tryz.prog [Prod.mk (cellsP l) (Prod.mk e row), Prod.mk (cellsP l) (Prod.mk e' row')] = canon Tryz.prog [Prod.mk (cellsP l) (Prod.mk e row), Prod.mk (cellsP l) (Prod.mk e' row')] ∧ (List.length l = n ∧ (n : Nat) ≤ 65536) ∧ (∀ _ : Nat → Value, K (Value.bool true)))) := by kernel_rfl
noncomputable def sspX (vs : List Value) (B : List Cells) : Option Out := match vs, B with
  | [.slice none 0 0, .slice none 0 0], [] => some (.plain (.bool true))
  | [.slice (some ⟨i, 0, none⟩) n _, .slice (some ⟨i', 0, none⟩) n' _], [(c, _, _), (d, _, _)] => match Nat.beq i Tryz.prog.globals.size && (Nat.beq i' (Tryz.prog.globals.size + 1) && Nat.beq n n'), decP c, decP d with
    | true, some l, some l' => match Nat.beq l.length n && Nat.ble n 65536, decide (l = l') with
      | true, true => some (.plain (.bool true))
      | _, _ => none
    | _, _, _ => none
  | _, _ => none
noncomputable def sspY (vs : List Value) (B : List Cells) (K : Out → Prop) : Prop := match vs, B with
  | [.slice none n k, .slice none n' k'], [] => n = 0 ∧ k = 0 ∧ n' = 0 ∧ k' = 0 ∧ K (.plain (.bool true))
  | [.slice (some ⟨i, 0, none⟩) n _, .slice (some ⟨i', 0, none⟩) n' _], [(c, _, _), (d, _, _)] => (Nat.beq i Tryz.prog.globals.size && (Nat.beq i' (Tryz.prog.globals.size + 1) && Nat.beq n n')) = true ∧ ∃ l : List P2, c = cellsP l ∧ d = cellsP l ∧ (l.length = n ∧ n ≤ 65536) ∧ K (.plain (.bool true))
  | _, _ => False
theorem sspY_ok (vs : List Value) (B : List Cells) (K : Out → Prop) (h : sspY vs B K) : ∃ o, sspX vs B = some o ∧ K o := by
  unfold sspY at h
  split at h
  · obtain ⟨rfl, rfl, rfl, rfl, hK⟩ := h
    exact ⟨_, rfl, hK⟩
  · obtain ⟨hi, l, rfl, rfl, ⟨h2, h3⟩, hK⟩ := h
    refine ⟨_, ?_, hK⟩
    rename_i n _ _ n' _ _ _ _ _
    have q : (Nat.beq l.length n && Nat.ble n 65536) = true := by
      rw [Bool.and_eq_true, Nat.beq_eq, Nat.ble_eq]
      exact ⟨h2, h3⟩
    simp only [sspX, hi, decP_cells, q, decide_true]
  · exact h.elim
theorem sspX_some {vs : List Value} {B : List Cells} {o : Out} (h : sspX vs B = some o) : o = .plain (.bool true) ∧ ((vs = [nilS, nilS] ∧ B = []) ∨ ∃ (l : List P2) (n e row k e' row' k' : Nat), vs = [liP n k, slP 1 n k'] ∧ B = [(cellsP l, e, row), (cellsP l, e', row')] ∧ l.length = n ∧ n ≤ 65536) := by
  unfold sspX at h
  split at h
  · cases h; exact ⟨rfl, .inl ⟨rfl, rfl⟩⟩
  · split at h
    · rename_i hb hd hd'
      split at h
      · rename_i hq hl
        cases h
        simp only [Bool.and_eq_true, Nat.beq_eq] at hb
        obtain ⟨rfl, rfl, rfl⟩ := hb
        rw [Bool.and_eq_true, Nat.beq_eq, Nat.ble_eq] at hq
        obtain rfl := of_decide_eq_true hl
        obtain rfl := decP_some hd
        obtain rfl := decP_some hd'
        exact ⟨rfl, .inr ⟨_, _, _, _, _, _, _, _, rfl, rfl, hq⟩⟩
      · cases h
    · cases h
  · cases h
end Go.Proofs.YtcifkiinilaglaaGreatDoor
/-! (OWN WORK. Values: clipped ones and comparisons as known calls; runs of the law on the abstract machine.) -/
namespace Go.Proofs.YtcifkiinilaglaaGreatDoor
open Go Go.Am

noncomputable def spA (l : List Q4) : List P2 := spF l l.length
open Classical in
noncomputable def cpX (l : List Q4) (r : List Value) : Option Out :=
  if r = [] then some (bif ieq (valE l) 0 then (if spA l = [] then .plain (.tuple #[nilS, gi 0]) else .wide (tupM [] (spA l).length [gi 0]) (cellsP (spA l)) 114 3) else .plain (.tuple #[nilS, gi (valE l)])) else none
open Classical in
noncomputable def CpX (l : List Q4) (r : List Value) : Option Out :=
  if r = [] then some (if spA l = [] then .plain nilS else .wide (slM (spA l).length) (cellsP (spA l)) 114 3) else none
noncomputable def cpY (b : Nat) (l : List Q4) (r : List Value) (K : Out → Prop) : Prop := r = [] ∧ match b with
  | 0 => ieq (valE l) 0 = false ∧ K (.plain (.tuple #[nilS, gi (valE l)]))
  | 1 => ieq (valE l) 0 = true ∧ spA l = [] ∧ K (.plain (.tuple #[nilS, gi 0]))
  | _ => ieq (valE l) 0 = true ∧ ∃ q, (spA l).length = q + 1 ∧ K (.wide (tupM [] (q + 1) [gi 0]) (cellsP (spA l)) 114 3)
noncomputable def CpY (b : Nat) (l : List Q4) (r : List Value) (K : Out → Prop) : Prop := r = [] ∧ match b with
  | 1 => spA l = [] ∧ K (.plain nilS)
  | _ => ∃ q, (spA l).length = q + 1 ∧ K (.wide (slM (q + 1)) (cellsP (spA l)) 114 3)
noncomputable def gvY (z : Bool) (l : List Q4) (r : List Value) (K : Out → Prop) : Prop := r = [] ∧ match z with
  | true => l = [] ∧ K (.plain nilS)
  | false => ∃ q, l.length = q + 1 ∧ K (.wide (slM (q + 1)) (cellsQ l) 110 5)
theorem gvY_ok (z : Bool) (l : List Q4) (r : List Value) (K : Out → Prop) (h : gvY z l r K) : ∃ o, ifX noC gvO l r = some o ∧ K o := by
  unfold gvY at h
  obtain ⟨rfl, h⟩ := h
  refine ⟨gvO l [], if_pos rfl, ?_⟩
  cases z with
  | true => obtain ⟨rfl, hk⟩ := h; exact hk
  | false => obtain ⟨q, hq, hk⟩ := h; rw [gvO_full hq]; exact hk
theorem ne_of_len {α : Type} {s : List α} {q : Nat} (h : s.length = q + 1) : s ≠ [] := fun e => by rw [e] at h; cases h
theorem cpY_ok (b : Nat) (l : List Q4) (r : List Value) (K : Out → Prop) (h : cpY b l r K) : ∃ o, cpX l r = some o ∧ K o := by
  unfold cpY at h
  obtain ⟨rfl, h⟩ := h
  unfold cpX
  rw [if_pos rfl]
  split at h
  · rw [h.1]; exact ⟨_, rfl, h.2⟩
  · rw [h.1, cond_true, if_pos h.2.1]; exact ⟨_, rfl, h.2.2⟩
  · obtain ⟨h1, q, hq, hk⟩ := h
    rw [h1, cond_true, if_neg (ne_of_len hq), hq]; exact ⟨_, rfl, hk⟩
theorem CpY_ok (b : Nat) (l : List Q4) (r : List Value) (K : Out → Prop) (h : CpY b l r K) : ∃ o, CpX l r = some o ∧ K o := by
  unfold CpY at h
  obtain ⟨rfl, h⟩ := h
  unfold CpX
  rw [if_pos rfl]
  split at h
  · rw [if_pos h.1]; exact ⟨_, rfl, h.2⟩
  · obtain ⟨q, hq, hk⟩ := h
    rw [if_neg (ne_of_len hq), hq]; exact ⟨_, rfl, hk⟩
theorem spA_nil : spA [] = [] := rfl
theorem cpX_nil {r : List Value} {o : Out} (h : cpX [] r = some o) : r = [] ∧ o = .plain (.tuple #[nilS, gi 12]) := by
  unfold cpX at h
  split at h
  · rename_i hr
    rw [valE_nil] at h
    cases h; exact ⟨hr, rfl⟩
  · cases h
theorem CpX_nil {r : List Value} {o : Out} (h : CpX [] r = some o) : r = [] ∧ o = .plain nilS := by
  unfold CpX at h
  split at h
  · rename_i hr
    rw [if_pos spA_nil] at h
    cases h; exact ⟨hr, rfl⟩
  · cases h
noncomputable def orcVj : Orc := orElse 32 (lstI Tryz.prog.globals.size tQ noC gvO) (orElse 37 (anyO Tryz.prog.globals.size sspX) (orElse 36 (lstO Tryz.prog.globals.size tQ CpX) (orElse 33 (lstO Tryz.prog.globals.size tQ cpX) orcVi)))
theorem goN_len {x : List Q4} {m : Nat} (h : x.length = m + 1) : goN x.length = goN (m + 1) := by rw [h]
set_option maxRecDepth 100000 in
theorem orcVj_ok : OrcOk Tryz.prog orcVj := by
  refine given_ok (anyO_ok globs_pos (lstO_ok globs_pos (lstO_ok globs_pos orcVi_ok ?_ ?_ ?_ ?_) ?_ ?_ ?_ ?_) fun vs B o h _ => ?_)
  · intro l r o h
    unfold cpX at h
    split at h
    · cases h
      cases ieq (valE l) 0
      · exact (rfl : flat 3 (Value.tuple #[nilS, gi (valE l)]) = true)
      · rw [cond_true]
        split
        · exact (rfl : flat 3 (Value.tuple #[nilS, gi 0]) = true)
        · exact ⟨names_tup rfl rfl, cellsP_flat _⟩
    · cases h
  · intro r o h
    obtain ⟨rfl, rfl⟩ := cpX_nil h
    exact CallJ.of_call mixed orcVb_ok cp_nil fun _ => rfl
  · intro r o k h
    obtain ⟨rfl, rfl⟩ := cpX_nil h
    exact CallJ.of_call mixed orcVb_ok (cp_emp k) fun _ => rfl
  · intro l r o e row k h h0 h1
    obtain ⟨m, hm⟩ : ∃ m, l.length = m + 1 := ⟨l.length - 1, by omega⟩
    have hp := Nat.succ_pos m
    unfold cpX at h
    split at h
    · rename_i hr
      subst hr
      cases h
      have hs : spA l = spF l (m + 1) := by unfold spA; rw [hm]
      rw [hm] at h1 ⊢
      refine callC_ok mixed orcVi_ok askVi_ok (Eq.mpr (cp_run l m e row k _) ⟨⟨cellsQ_flat l, trivial⟩, rfl, l, rfl, ⟨hp, hm, h1⟩, rfl, fun hx => ?_, fun hx => ⟨⟨cellsQ_flat l, trivial⟩, rfl, l, rfl, ⟨hp, hm, h1⟩, ⟨rfl, fun hl => by rw [hl] at hm; cases hm⟩, rfl, rfl, by rw [hm], goN_len hm, rfl, ?_, ⟨hm, h1⟩, fun hz _ h' => ?_, fun hz _ h' hg => ?_⟩⟩)
      · rw [not_ieqT hx]; rfl
      · rw [AHeap.get_push_eq (by kernel_rfl)]
      · rw [not_ieqF hx, cond_true, if_pos (hs.trans hz)]; rfl
      · rw [not_ieqF hx, cond_true, if_neg (fun q => hz (hs.symm.trans q)), hs]
        exact ⟨_, rfl, hg⟩
    · cases h
  · intro l r o h
    unfold CpX at h
    split at h
    · cases h
      split
      · exact (rfl : flat 3 nilS = true)
      · exact ⟨names_sl _, cellsP_flat _⟩
    · cases h
  · intro r o h
    obtain ⟨rfl, rfl⟩ := CpX_nil h
    exact CallJ.of_call mixed orcVb_ok Cp_nil fun _ => rfl
  · intro r o k h
    obtain ⟨rfl, rfl⟩ := CpX_nil h
    exact CallJ.of_call mixed orcVb_ok (Cp_emp k) fun _ => rfl
  · intro l r o e row k h h0 h1
    obtain ⟨m, hm⟩ : ∃ m, l.length = m + 1 := ⟨l.length - 1, by omega⟩
    unfold CpX at h
    split at h
    · rename_i hr
      subst hr
      cases h
      have hs : spA l = spF l (m + 1) := by unfold spA; rw [hm]
      rw [hm] at h1 ⊢
      refine callC_ok mixed orcVb_ok askVb_ok (Eq.mpr (Cp_run l m e row k _) ⟨rfl, rfl, rfl, rfl, ?_, ⟨hm, h1⟩, fun hz _ h' => ?_, fun hz _ h' hg => ?_⟩)
      · rw [canon_get, if_pos (Nat.le_refl _), Nat.sub_self]; rfl
      · rw [if_pos (hs.trans hz)]; rfl
      · rw [if_neg (fun q => hz (hs.symm.trans q)), hs]
        exact ⟨_, rfl, hg⟩
    · cases h
  · obtain ⟨rfl, hs⟩ := sspX_some h
    rcases hs with ⟨rfl, rfl⟩ | ⟨l, n, e, row, k, e', row', k', rfl, rfl, h1, h2⟩
    · exact ⟨rfl, CallJ.of_call mixed orcVb_ok ssn_nil fun _ => rfl⟩
    · exact ⟨rfl, callC_ok mixed orcVb_ok askVb_ok (Eq.mpr (ssp_run l n e row k e' row' k' _) ⟨by rw [ieq_self]; rfl, rfl, rfl, rfl, rfl, rfl, rfl, ⟨h1, h2⟩, fun _ => rfl⟩)⟩
noncomputable def askVj (z : Bool) (b : Nat) : Asks := asksT' Tryz.prog.globals.size 32 tQ (gvY z) (asksV Tryz.prog.globals.size 37 sspY (asksT' Tryz.prog.globals.size 36 tQ (CpY b) (asksT' Tryz.prog.globals.size 33 tQ (cpY b) askVi)))
theorem askVj_ok (z : Bool) (b : Nat) : AsksOk orcVj (askVj z b) := asksT'_ok (gvY_ok z) (asksV_ok sspY_ok (asksT'_ok (CpY_ok b) (asksT'_ok (cpY_ok b) askVi_ok)))
/-! ShortValues, of any length -/
noncomputable def shX (vs : List Value) (B : List Cells) : Option Out := match B with
  | [(c, _, _)] => match vs with
    | [.slice (some ⟨i, 0, none⟩) n _] => match Nat.beq i Tryz.prog.globals.size, decQ c with
      | true, some _ => some (.plain (.bool (shV n)))
      | _, _ => none
    | _ => none
  | _ => none
noncomputable def shY (vs : List Value) (B : List Cells) (K : Out → Prop) : Prop := match B with
  | [(c, _, _)] => match vs with
    | [.slice (some ⟨i, 0, none⟩) n _] => Nat.beq i Tryz.prog.globals.size = true ∧ (∃ l, c = cellsQ l) ∧ K (.plain (.bool (shV n)))
    | _ => False
  | [] => match vs with
    | [.slice none 0 0] => K (.plain (.bool true))
    | [.slice (some ⟨0, 0, none⟩) 0 _] => K (.plain (.bool true))
    | _ => False
  | _ => False
open Classical in
noncomputable def shX' (vs : List Value) (B : List Cells) : Option Out := match B with
  | [] => match vs with
    | [.slice none 0 0] => some (.plain (.bool true))
    | [.slice (some ⟨0, 0, none⟩) 0 _] => some (.plain (.bool true))
    | _ => none
  | _ => shX vs B
theorem shY_ok (vs : List Value) (B : List Cells) (K : Out → Prop) (h : shY vs B K) : ∃ o, shX' vs B = some o ∧ K o := by
  unfold shY at h
  split at h
  · split at h
    · obtain ⟨hi, ⟨l, rfl⟩, hK⟩ := h
      refine ⟨_, ?_, hK⟩
      simp only [shX', shX, hi, decQ_cells]
    · exact h.elim
  · split at h
    · exact ⟨_, rfl, h⟩
    · exact ⟨_, rfl, h⟩
    · exact h.elim
  · exact h.elim
noncomputable def orcVk : Orc := orElse 30 (anyO Tryz.prog.globals.size shX') orcVj
set_option maxRecDepth 100000 in
theorem orcVk_ok : OrcOk Tryz.prog orcVk := by
  refine anyO_ok globs_pos orcVj_ok fun vs B o h hfl => ?_
  unfold shX' at h
  split at h
  · split at h
    · cases h; exact ⟨rfl, CallJ.of_call mixed orcVb_ok sh_nil fun _ => rfl⟩
    · cases h; exact ⟨rfl, CallJ.of_call mixed orcVb_ok (sh_emp _) fun _ => rfl⟩
    · cases h
  · unfold shX at h
    split at h
    · rename_i c e row hne
      split at h
      · rename_i i n k
        split at h
        · rename_i l hb hd
          cases h
          rw [Nat.beq_eq] at hb
          obtain rfl := hb
          obtain rfl := decQ_some hd
          refine ⟨rfl, callC_ok mixed orcVb_ok askVb_ok (Eq.mpr (sh_run l n e row k _) ⟨fun hx => ?_, fun hx => ?_⟩)⟩
          · show _ = Value.bool (shV n)
            unfold shV; rw [hx]; rfl
          · show _ = Value.bool (shV n)
            unfold shV; rw [hx]; rfl
        · cases h
      · cases h
    · cases h
noncomputable def askVk (z : Bool) (b : Nat) : Asks := asksV Tryz.prog.globals.size 30 shY (askVj z b)
theorem askVk_ok (z : Bool) (b : Nat) : AsksOk orcVk (askVk z b) := asksV_ok shY_ok (askVj_ok z b)
/-! awake -/
theorem awakeV_call (es : Nat → TypeId) : CallJ Tryz.prog 9 #[] (base tabs2 es Tryz.prog.globals.size) (fun v _ => v = .bool true) :=
  CallJ.pieces (fn := Tryz.f9) (v := .bool true) (by kernel_rfl) (by kernel_rfl) (fun g => atAh_0 es g)
def wakeV : List Value → Option Value
  | [] => some (.bool true)
  | _ => none
noncomputable def orcVz : Orc := orElse 9 (tabSpec tabs2 wakeV) orcVk
theorem orcVz_ok : OrcOk Tryz.prog orcVz := by
  refine tabSpec_ok tabs2_flat (fun l v h => ?_) orcVk_ok
  unfold wakeV at h
  split at h
  · cases h
    exact ⟨rfl, rfl, fun es => awakeV_call es⟩
  · cases h
noncomputable def askVz (z : Bool) (b : Nat) : Asks := skipA 9 (askVk z b)
theorem askVz_ok (z : Bool) (b : Nat) : AsksOk orcVz (askVz z b) := skipA_ok (askVk_ok z b)
noncomputable abbrev bHV (es : Nat → TypeId) : AHeap := base tabs2 es Tryz.prog.globals.size
noncomputable abbrev argQ (es : Nat → TypeId) (l : List Q4) (e : TypeId) (row : Nat) : AHeap := (bHV es).push (.cells (cellsQ l) e row true)
theorem val_0 (es : Nat → TypeId) (l : List Q4) (m k e row : Nat) (K : Value → Prop) : callC Tryz.prog (exec Tryz.prog orcVz 10) (syOf [(14, 7), (15, 1), (19, 7), (20, 7), (26, 7), (27, 7), (31, 7), (35, 32), (46, 34), (50, 31), (55, 31), (60, 7), (65, 31)]) (askVz false 0) (noLoops _) 60 5 #[liP (m + 1) k] (argQ es l e row) (fun v _ => K v) = (((List.all (cellsQ l) (flat 3) = true ∧ True) ∧ true = true ∧ (∃ x1 : List Q4, cellsQ l = cellsQ x1) ∧ ((!(shV (m + 1))) = true → K (Value.bool true)) ∧ ((!(shV (m + 1))) = false → ((List.all (cellsQ l) (flat 3) = true ∧ True) ∧ true = true ∧ (∃ x1 : List Q4, (cellsQ l = cellsQ x1 ∧ ((0 : Nat) < (m + 1) ∧ List.length x1 = (m + 1) ∧ ((m + 1) : Nat) ≤ 65536) ∧ ([] : List Value) = [] ∧ (∃ x2 : Nat, (List.length x1 = (x2 + 1) ∧ (List.all (cellsQ x1) (flat 3) = true ∧ True) ∧ true = true ∧ (∃ x3 : List Q4, (cellsQ x1 = cellsQ x3 ∧ ((0 : Nat) < (x2 + 1) ∧ List.length x3 = (x2 + 1) ∧ ((x2 + 1) : Nat) ≤ 65536) ∧ noC x3 [] ∧ (List.all (cellsQ l) (flat 3) = true ∧ True) ∧ true = true ∧ (∃ x4 : List Q4, (cellsQ l = cellsQ x4 ∧ ((0 : Nat) < (m + 1) ∧ List.length x4 = (m + 1) ∧ ((m + 1) : Nat) ≤ 65536) ∧ ([] : List Value) = [] ∧ (∃ x5 : Nat, (List.length x4 = (x5 + 1) ∧ (List.all (cellsQ x4) (flat 3) = true ∧ True) ∧ true = true ∧ (∃ x6 : List Q4, (cellsQ x4 = cellsQ x6 ∧ ((0 : Nat) < (x5 + 1) ∧ List.length x6 = (x5 + 1) ∧ ((x5 + 1) : Nat) ≤ 65536) ∧ ([] : List Value) = [] ∧ ieq (valE x6) 0 = false ∧ (List.all (cellsQ l) (flat 3) = true ∧ True) ∧ true = true ∧ (∃ x7 : List Q4, (cellsQ l = cellsQ x7 ∧ ((0 : Nat) < (m + 1) ∧ List.length x7 = (m + 1) ∧ ((m + 1) : Nat) ≤ 65536) ∧ noC x7 [] ∧ ieq (valE x7) 0 = false ∧ Value.bool (ieq (pvLo x3) 0 && (ieq (pvHi x3) 0 && true)) = Value.bool true ∧ BEq.beq (pvOp x3) false = true ∧ ieq (pvEr x3) (valE x7) = true ∧ True ∧ 0 = 0 ∧ 0 = 0 ∧ 0 = 0 ∧ 0 = 0 ∧ ieq (valE x6) (valE x7) = true ∧ K (Value.bool true))))))))))))))))))) := by kernel_rfl
theorem val_1 (es : Nat → TypeId) (l : List Q4) (m k e row : Nat) (K : Value → Prop) : callC Tryz.prog (exec Tryz.prog orcVz 10) (syOf [(14, 7), (15, 1), (19, 7), (20, 7), (26, 7), (27, 7), (31, 7), (35, 31), (38, 7), (43, 7), (46, 34), (50, 31), (55, 31), (60, 7), (65, 31)]) (askVz false 1) (noLoops _) 60 5 #[liP (m + 1) k] (argQ es l e row) (fun v _ => K v) = (((List.all (cellsQ l) (flat 3) = true ∧ True) ∧ true = true ∧ (∃ x1 : List Q4, cellsQ l = cellsQ x1) ∧ ((!(shV (m + 1))) = true → K (Value.bool true)) ∧ ((!(shV (m + 1))) = false → ((List.all (cellsQ l) (flat 3) = true ∧ True) ∧ true = true ∧ (∃ x1 : List Q4, (cellsQ l = cellsQ x1 ∧ ((0 : Nat) < (m + 1) ∧ List.length x1 = (m + 1) ∧ ((m + 1) : Nat) ≤ 65536) ∧ ([] : List Value) = [] ∧ (∃ x2 : Nat, (List.length x1 = (x2 + 1) ∧ (List.all (cellsQ x1) (flat 3) = true ∧ True) ∧ true = true ∧ (∃ x3 : List Q4, (cellsQ x1 = cellsQ x3 ∧ ((0 : Nat) < (x2 + 1) ∧ List.length x3 = (x2 + 1) ∧ ((x2 + 1) : Nat) ≤ 65536) ∧ noC x3 [] ∧ (List.all (cellsQ l) (flat 3) = true ∧ True) ∧ true = true ∧ (∃ x4 : List Q4, (cellsQ l = cellsQ x4 ∧ ((0 : Nat) < (m + 1) ∧ List.length x4 = (m + 1) ∧ ((m + 1) : Nat) ≤ 65536) ∧ ([] : List Value) = [] ∧ (∃ x5 : Nat, (List.length x4 = (x5 + 1) ∧ (List.all (cellsQ x4) (flat 3) = true ∧ True) ∧ true = true ∧ (∃ x6 : List Q4, (cellsQ x4 = cellsQ x6 ∧ ((0 : Nat) < (x5 + 1) ∧ List.length x6 = (x5 + 1) ∧ ((x5 + 1) : Nat) ≤ 65536) ∧ ([] : List Value) = [] ∧ ieq (valE x6) 0 = true ∧ spA x6 = [] ∧ (List.all (cellsQ l) (flat 3) = true ∧ True) ∧ true = true ∧ (∃ x7 : List Q4, (cellsQ l = cellsQ x7 ∧ ((0 : Nat) < (m + 1) ∧ List.length x7 = (m + 1) ∧ ((m + 1) : Nat) ≤ 65536) ∧ noC x7 [] ∧ ieq (valE x7) 0 = true ∧ (List.all (cellsQ l) (flat 3) = true ∧ True) ∧ true = true ∧ (∃ x8 : List Q4, (cellsQ l = cellsQ x8 ∧ ((0 : Nat) < (m + 1) ∧ List.length x8 = (m + 1) ∧ ((m + 1) : Nat) ≤ 65536) ∧ noC x8 [] ∧ (List.all (cellsQ l) (flat 3) = true ∧ True) ∧ true = true ∧ (∃ x9 : List Q4, (cellsQ l = cellsQ x9 ∧ ((0 : Nat) < (m + 1) ∧ List.length x9 = (m + 1) ∧ ((m + 1) : Nat) ≤ 65536) ∧ ([] : List Value) = [] ∧ spA x9 = [] ∧ Value.bool (ieq (pvLo x3) (prLo x8) && (ieq (pvHi x3) (prHi x8) && true)) = Value.bool true ∧ BEq.beq (pvOp x3) (prOp x8) = true ∧ ieq (pvEr x3) (prEr x8) = true ∧ True ∧ 0 = 0 ∧ 0 = 0 ∧ 0 = 0 ∧ 0 = 0 ∧ ieq 0 (valE x7) = true ∧ K (Value.bool true))))))))))))))))))))))) := by kernel_rfl
theorem val_2 (es : Nat → TypeId) (l : List Q4) (m k e row : Nat) (K : Value → Prop) : callC Tryz.prog (exec Tryz.prog orcVz 10) (syOf [(14, 7), (15, 1), (19, 7), (20, 7), (26, 7), (27, 7), (31, 7), (35, 31), (38, 7), (43, 7), (46, 34), (50, 31), (55, 31), (60, 7), (65, 31)]) (askVz false 2) (noLoops _) 60 5 #[liP (m + 1) k] (argQ es l e row) (fun v _ => K v) = (((List.all (cellsQ l) (flat 3) = true ∧ True) ∧ true = true ∧ (∃ x1 : List Q4, cellsQ l = cellsQ x1) ∧ ((!(shV (m + 1))) = true → K (Value.bool true)) ∧ ((!(shV (m + 1))) = false → ((List.all (cellsQ l) (flat 3) = true ∧ True) ∧ true = true ∧ (∃ x1 : List Q4, (cellsQ l = cellsQ x1 ∧ ((0 : Nat) < (m + 1) ∧ List.length x1 = (m + 1) ∧ ((m + 1) : Nat) ≤ 65536) ∧ ([] : List Value) = [] ∧ (∃ x2 : Nat, (List.length x1 = (x2 + 1) ∧ (List.all (cellsQ x1) (flat 3) = true ∧ True) ∧ true = true ∧ (∃ x3 : List Q4, (cellsQ x1 = cellsQ x3 ∧ ((0 : Nat) < (x2 + 1) ∧ List.length x3 = (x2 + 1) ∧ ((x2 + 1) : Nat) ≤ 65536) ∧ noC x3 [] ∧ (List.all (cellsQ l) (flat 3) = true ∧ True) ∧ true = true ∧ (∃ x4 : List Q4, (cellsQ l = cellsQ x4 ∧ ((0 : Nat) < (m + 1) ∧ List.length x4 = (m + 1) ∧ ((m + 1) : Nat) ≤ 65536) ∧ ([] : List Value) = [] ∧ (∃ x5 : Nat, (List.length x4 = (x5 + 1) ∧ (List.all (cellsQ x4) (flat 3) = true ∧ True) ∧ true = true ∧ (∃ x6 : List Q4, (cellsQ x4 = cellsQ x6 ∧ ((0 : Nat) < (x5 + 1) ∧ List.length x6 = (x5 + 1) ∧ ((x5 + 1) : Nat) ≤ 65536) ∧ ([] : List Value) = [] ∧ ieq (valE x6) 0 = true ∧ (∃ x7 : Nat, (List.length (spA x6) = (x7 + 1) ∧ (List.all (cellsQ l) (flat 3) = true ∧ True) ∧ true = true ∧ (∃ x8 : List Q4, (cellsQ l = cellsQ x8 ∧ ((0 : Nat) < (m + 1) ∧ List.length x8 = (m + 1) ∧ ((m + 1) : Nat) ≤ 65536) ∧ noC x8 [] ∧ ieq (valE x8) 0 = true ∧ (List.all (cellsQ l) (flat 3) = true ∧ True) ∧ true = true ∧ (∃ x9 : List Q4, (cellsQ l = cellsQ x9 ∧ ((0 : Nat) < (m + 1) ∧ List.length x9 = (m + 1) ∧ ((m + 1) : Nat) ≤ 65536) ∧ noC x9 [] ∧ (List.all (cellsQ l) (flat 3) = true ∧ True) ∧ true = true ∧ (∃ x10 : List Q4, (cellsQ l = cellsQ x10 ∧ ((0 : Nat) < (m + 1) ∧ List.length x10 = (m + 1) ∧ ((m + 1) : Nat) ≤ 65536) ∧ ([] : List Value) = [] ∧ (∃ x11 : Nat, (List.length (spA x10) = (x11 + 1) ∧ Value.bool (ieq (pvLo x3) (prLo x9) && (ieq (pvHi x3) (prHi x9) && true)) = Value.bool true ∧ BEq.beq (pvOp x3) (prOp x9) = true ∧ ieq (pvEr x3) (prEr x9) = true ∧ (List.all (cellsP (spA x6)) (flat 3) = true ∧ List.all (cellsP (spA x10)) (flat 3) = true ∧ True) ∧ (true && (true && Nat.beq (x7 + 1) (x11 + 1))) = true ∧ (∃ x12 : List P2, (cellsP (spA x6) = cellsP x12 ∧ cellsP (spA x10) = cellsP x12 ∧ (List.length x12 = (x7 + 1) ∧ ((x7 + 1) : Nat) ≤ 65536) ∧ ieq 0 (valE x8) = true ∧ K (Value.bool true))))))))))))))))))))))))))))) := by kernel_rfl
noncomputable def orcVy : Orc := orElse 9 (tabSpec tabs2 wakeV) orcVb
theorem orcVy_ok : OrcOk Tryz.prog orcVy := by
  refine tabSpec_ok tabs2_flat (fun l v h => ?_) orcVb_ok
  unfold wakeV at h
  split at h
  · cases h
    exact ⟨rfl, rfl, fun es => awakeV_call es⟩
  · cases h
theorem val_nil (es : Nat → TypeId) : (call Tryz.prog orcVy 40 5 #[nilS] (bHV es)).map (·.1) = some (.bool true) := by kernel_rfl
theorem val_emp (es : Nat → TypeId) (k : Nat) : (call Tryz.prog orcVy 40 5 #[.slice (some ⟨Tryz.prog.globals.size, 0, none⟩) 0 k] ((bHV es).push .dead)).map (·.1) = some (.bool true) := by kernel_rfl
end Go.Proofs.YtcifkiinilaglaaGreatDoor
/-! (OWN WORK. Values: the law on the abstract machine: true for all values.) -/
namespace Go.Proofs.YtcifkiinilaglaaGreatDoor
open Go Go.Am

theorem ieq_iff {a : Int} : ieq a 0 = true ↔ a = 0 := by rw [ieq_dec]; simp
theorem pv_good {l : List Q4} (h : ieq (valE l) 0 = true) : pvLo l = prLo l ∧ pvHi l = prHi l ∧ pvOp l = prOp l ∧ pvEr l = prEr l := by
  unfold pvLo pvHi pvOp pvEr
  rw [h]
  exact ⟨rfl, rfl, rfl, rfl⟩
theorem pv_bad {l : List Q4} (h : ieq (valE l) 0 = false) : pvLo l = 0 ∧ pvHi l = 0 ∧ pvOp l = false ∧ pvEr l = valE l := by
  unfold pvLo pvHi pvOp pvEr
  rw [h]
  exact ⟨rfl, rfl, rfl, rfl⟩
theorem shV_le {n : Nat} (h : (!(shV n)) = false) : n ≤ 65536 := by
  unfold shV at h
  rw [ilt_say, ieq_dec] at h
  simp at h
  omega
theorem two_same (a b : Int) : Value.bool (ieq a a && (ieq b b && true)) = .bool true := by rw [ieq_self, ieq_self]; rfl
section
variable (es : Nat → TypeId)
theorem values_nil : CallJ Tryz.prog 5 #[nilS] (base tabs2 es Tryz.prog.globals.size) (fun v _ => v = .bool true) :=
  CallJ.of_call mixed orcVy_ok (val_nil es) fun _ => rfl
theorem values_emp (k : Nat) : CallJ Tryz.prog 5 #[.slice (some ⟨Tryz.prog.globals.size, 0, none⟩) 0 k] ((base tabs2 es Tryz.prog.globals.size).push .dead) (fun v _ => v = .bool true) :=
  CallJ.of_call mixed orcVy_ok (val_emp es k) fun _ => rfl
set_option maxRecDepth 100000 in
theorem values_full (l : List Q4) (k e row : Nat) (h0 : 0 < l.length) : CallJ Tryz.prog 5 #[liP l.length k] (argQ es l e row) (fun v _ => v = .bool true) := by
  obtain ⟨m, hm⟩ : ∃ m, l.length = m + 1 := ⟨l.length - 1, by omega⟩
  rw [hm]
  have hp : 0 < m + 1 := Nat.succ_pos _
  have hf : (List.all (cellsQ l) (flat 3) = true ∧ True) := ⟨cellsQ_flat l, trivial⟩
  cases hv : ieq (valE l) 0 with
  | false =>
    obtain ⟨q1, q2, q3, q4⟩ := pv_bad hv
    refine callC_ok mixed orcVz_ok (askVz_ok false 0) (Eq.mpr (val_0 es l m k e row _) ⟨hf, rfl, ⟨l, rfl⟩, fun _ => rfl, fun hs => ?_⟩)
    have hb := shV_le hs
    refine ⟨hf, rfl, l, rfl, ⟨hp, hm, hb⟩, rfl, m, hm, hf, rfl, l, rfl, ⟨hp, hm, hb⟩, rfl, hf, rfl, l, rfl, ⟨hp, hm, hb⟩, rfl, m, hm, hf, rfl, l, rfl, ⟨hp, hm, hb⟩, rfl, hv, hf, rfl, l, rfl, ⟨hp, hm, hb⟩, rfl, hv, ?_, ?_, ?_, trivial, rfl, rfl, rfl, rfl, ieq_self _, rfl⟩
    · rw [q1, q2]; rfl
    · rw [q3]; rfl
    · rw [q4]; exact ieq_self _
  | true =>
    obtain ⟨q1, q2, q3, q4⟩ := pv_good hv
    have hz : ieq 0 (valE l) = true := by rw [ieq_iff.1 hv]; rfl
    by_cases hsp : spA l = []
    · refine callC_ok mixed orcVz_ok (askVz_ok false 1) (Eq.mpr (val_1 es l m k e row _) ⟨hf, rfl, ⟨l, rfl⟩, fun _ => rfl, fun hs => ?_⟩)
      have hb := shV_le hs
      refine ⟨hf, rfl, l, rfl, ⟨hp, hm, hb⟩, rfl, m, hm, hf, rfl, l, rfl, ⟨hp, hm, hb⟩, rfl, hf, rfl, l, rfl, ⟨hp, hm, hb⟩, rfl, m, hm, hf, rfl, l, rfl, ⟨hp, hm, hb⟩, rfl, hv, hsp, hf, rfl, l, rfl, ⟨hp, hm, hb⟩, rfl, hv, hf, rfl, l, rfl, ⟨hp, hm, hb⟩, rfl, hf, rfl, l, rfl, ⟨hp, hm, hb⟩, rfl, hsp, ?_, ?_, ?_, trivial, rfl, rfl, rfl, rfl, hz, rfl⟩
      · rw [q1, q2]; exact two_same _ _
      · rw [q3]; exact beq_self_eq_true _
      · rw [q4]; exact ieq_self _
    · obtain ⟨r, hr⟩ : ∃ r, (spA l).length = r + 1 := ⟨(spA l).length - 1, by
        have := List.length_pos_iff.2 hsp
        omega⟩
      have hr2 : (spA l).length ≤ l.length := spF_len l l.length
      refine callC_ok mixed orcVz_ok (askVz_ok false 2) (Eq.mpr (val_2 es l m k e row _) ⟨hf, rfl, ⟨l, rfl⟩, fun _ => rfl, fun hs => ?_⟩)
      have hb := shV_le hs
      refine ⟨hf, rfl, l, rfl, ⟨hp, hm, hb⟩, rfl, m, hm, hf, rfl, l, rfl, ⟨hp, hm, hb⟩, rfl, hf, rfl, l, rfl, ⟨hp, hm, hb⟩, rfl, m, hm, hf, rfl, l, rfl, ⟨hp, hm, hb⟩, rfl, hv, r, hr, hf, rfl, l, rfl, ⟨hp, hm, hb⟩, rfl, hv, hf, rfl, l, rfl, ⟨hp, hm, hb⟩, rfl, hf, rfl, l, rfl, ⟨hp, hm, hb⟩, rfl, r, hr, ?_, ?_, ?_, ⟨cellsP_flat _, cellsP_flat _, trivial⟩, by simp, spA l, rfl, rfl, ⟨hr, by omega⟩, hz, rfl⟩
      · rw [q1, q2]; exact two_same _ _
      · rw [q3]; exact beq_self_eq_true _
      · rw [q4]; exact ieq_self _
end
end Go.Proofs.YtcifkiinilaglaaGreatDoor
