/-
  OWN WORK. Kernels: their checks.
-/
import Derived.Test.YthgojmebbhpbbaaGreatDoorCsG
import Derived.Test.YthgojmebbhpbbaaGreatDoorAmY
namespace Go.Proofs.YthgojmebbhpbbaaGreatDoor
open Go Go.Am
noncomputable def tI : Tell Int := ⟨List.map gi, decs dI, fun l => decs_map (d := dI) (e := gi) (fun _ => rfl) l, fun h => decs_some (d := dI) (e := gi) dI_some h, fun l => flat_ints l⟩
noncomputable def wE (w : Int) : Int := withinS w (-100) 100
theorem wE_run (w : Int) (K : Value → Prop) : callC Tryz.prog (exec Tryz.prog orcZ 10) (syOf []) askZ (noLoops _) 20 61 #[gi w] (emp Tryz.prog) (fun v _ => K v) = (K (gi (withinS w (-100) 100))) := by kernel_rfl
noncomputable def wL : List Value → Option Value
 | [.int .i64 w] => some (gi (wE w))
 | _ => none
noncomputable def orcKa : Orc := orElse 61 (flatSpec wL) orcZ
set_option maxRecDepth 100000 in
theorem orcKa_ok : OrcOk Tryz.prog orcKa := by
 refine flatSpec_ok (fun l v h => ?_) orcZ_ok
 unfold wL at h
 split at h
 ·rename_i w
  cases h
  exact ⟨rfl, rfl, callC_ok mixed orcZ_ok askZ_ok (Eq.mpr (wE_run w _) rfl)⟩
 ·cases h
noncomputable def askKa : Asks := skipA 61 askZ
theorem askKa_ok : AsksOk orcKa askKa := skipA_ok askZ_ok
noncomputable abbrev wF : Value := .func (.func 61) #[] #[]
theorem ei_body (c : List Value) (n k e row j : Nat) (g : Nat → Value) (Q : Exit → List Value → AHeap → Prop) : execC Tryz.prog (exec Tryz.prog orcKa 10) (syOf [(11, 1), (12, 2), (13, 3), (18, 1)]) askKa (noLoops _) 40 (loopOf Tryz.prog 60 0) (stOf 21 [(1, wF), (4, gi 0), (8, liP n k), (9, goN n), (10, goN j)] g) (roH c e row) (told 21 [1, 4, 8, 9, 10] Q) = (((Nat.blt j n = true → (Nat.blt j n = true ∧ c[(0 + (j * 1))]? = Option.some (gi (intAt c (0 + (j * 1)))) ∧ ((!(ieq (wE (intAt c (0 + (j * 1)))) 0)) = true → Q .ret [wF, gi (wE (intAt c (0 + (j * 1)))), liP n k, goN n, goN j] (roH c e row)) ∧ ((!(ieq (wE (intAt c (0 + (j * 1)))) 0)) = false → Q .normal [wF, gi 0, liP n k, goN n, gi (fwrap IntKind.i64 (Int.ofNat (j + 1)))] (roH c e row)))) ∧ (Nat.blt j n = false → Q (.exit 0) [wF, gi 0, liP n k, goN n, goN j] (roH c e row)))) := by kernel_rfl
theorem sm_body (c : List Value) (n k e row j : Nat) (s : Int) (g : Nat → Value) (Q : Exit → List Value → AHeap → Prop) : execC Tryz.prog (exec Tryz.prog orcKa 10) (syOf [(9, 1), (10, 2), (11, 3)]) askKa (noLoops _) 40 (loopOf Tryz.prog 63 0) (stOf 17 [(3, gi s), (6, liP n k), (7, goN n), (8, goN j)] g) (roH c e row) (told 17 [3, 6, 7, 8] Q) = (((Nat.blt j n = true → (Nat.blt j n = true ∧ c[(0 + (j * 1))]? = Option.some (gi (intAt c (0 + (j * 1)))) ∧ Q .normal [gi (fwrap IntKind.i64 (s + intAt c (0 + (j * 1)))), liP n k, goN n, gi (fwrap IntKind.i64 (Int.ofNat (j + 1)))] (roH c e row))) ∧ (Nat.blt j n = false → Q (.exit 0) [gi s, liP n k, goN n, goN j] (roH c e row)))) := by kernel_rfl
theorem Sm_body (c : List Value) (n k e row j : Nat) (s : Int) (g : Nat → Value) (Q : Exit → List Value → AHeap → Prop) : execC Tryz.prog (exec Tryz.prog orcKa 10) (syOf [(8, 1), (14, 2), (15, 3)]) askKa (noLoops _) 40 (loopOf Tryz.prog 53 0) (stOf 18 [(0, liP n k), (3, gi s), (4, goN j)] g) (roH c e row) (told 18 [0, 3, 4] Q) = (((Nat.blt j n = true → (Nat.blt j n = true ∧ c[(0 + (j * 1))]? = Option.some (gi (intAt c (0 + (j * 1)))) ∧ Q .normal [liP n k, gi (fwrap IntKind.i64 (s + intAt c (0 + (j * 1)))), gi (fwrap IntKind.i64 (Int.ofNat (j + 1)))] (roH c e row))) ∧ (Nat.blt j n = false → Q (.exit 0) [liP n k, gi s, goN j] (roH c e row)))) := by kernel_rfl
theorem ck_body (c : List Value) (n k e row j : Nat) (g : Nat → Value) (Q : Exit → List Value → AHeap → Prop) : execC Tryz.prog (exec Tryz.prog orcKa 10) (syOf [(22, 1), (27, 2), (28, 3), (31, 1)]) askKa (noLoops _) 40 (loopOf Tryz.prog 13 0) (stOf 37 [(0, liP n k), (2, gi 0), (4, goN j)] g) (roH c e row) (told 37 [0, 2, 4] Q) = (((Nat.blt j n = true → (Nat.blt j n = true ∧ c[(0 + (j * 1))]? = Option.some (gi (intAt c (0 + (j * 1)))) ∧ ((!(ieq (withinS (intAt c (0 + (j * 1))) (-100) 100) 0)) = true → Q .ret [liP n k, gi (withinS (intAt c (0 + (j * 1))) (-100) 100), goN j] (roH c e row)) ∧ ((!(ieq (withinS (intAt c (0 + (j * 1))) (-100) 100) 0)) = false → Q .normal [liP n k, gi 0, gi (fwrap IntKind.i64 (Int.ofNat (j + 1)))] (roH c e row)))) ∧ (Nat.blt j n = false → Q (.exit 0) [liP n k, gi 0, goN j] (roH c e row)))) := by kernel_rfl
theorem ints_run (c : List Value) (e row m k : Nat) (K : Value → AHeap → Prop) : callC Tryz.prog (exec Tryz.prog orcKa 10) (syOf [(5, 16)]) askKa (noLoops _) 20 10 #[liP (m + 1) k] (liH c e row) K = ((Nat.ble (0 + (m + 1)) (List.length c) = true ∧ Nat.ble (((2 * (m + 1)) + 256) * 8) 281474976710656 = true ∧ List.all (List.take (m + 1) (List.drop 0 c)) Value.oneCell' = true ∧ K (Value.slice (some ⟨nG1 + 2, 0, none⟩) (m + 1) (m + 1)) ((((liH c e row).push (.cells [] 3 2 false)).set (nG1 + 1) (.dead)).push (.cells (List.take (m + 1) (List.drop 0 c)) 3 2 false)))) := by kernel_rfl
end Go.Proofs.YthgojmebbhpbbaaGreatDoor
