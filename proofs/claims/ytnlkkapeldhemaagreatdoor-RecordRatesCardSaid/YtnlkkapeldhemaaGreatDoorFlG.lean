/-
  OWN WORK. CheckSamples of the program and of the reference.
-/
import Derived.Test.YtnlkkapeldhemaaGreatDoorFlF
namespace Go.Proofs.YtnlkkapeldhemaaGreatDoor
open Go Go.Am

noncomputable def minI (n : Nat) : Int := if (4096 : Int) < (n : Int) then 4096 else (n : Int)
theorem cs_run (l : List Nat) (n e row k : Nat) (K : Value → Prop) : callC Tryz.prog (exec Tryz.prog orcW 10) (syOf [(8, 7)]) askW (noLoops _) 20 87 #[liP n k] (liH (l.map gf) e row) (fun v _ => K v) =
  (∃ l' : List Nat, l.map gf = l'.map gf ∧ 0 < n ∧ n ≤ l'.length ∧ n ≤ 1000000 ∧ n ≤ k ∧ K (gi (firstS [whenS (ilt 4096 (Int.ofNat n)) 5, smpsE (l'.take n)]))) := by kernel_rfl
theorem CS_run (l : List Nat) (n e row k : Nat) (K : Value → Prop) : callC Tryz.prog (exec Tryz.prog orcW 10) (syOf [(14, 19), (15, 7)]) askW (noLoops _) 20 23 #[liP n k] (liH (l.map gf) e row) (fun v _ => K v) =
  (0 ≤ minI n ∧ minI n ≤ (k : Int) ∧ 0 < k ∧ n ≤ k ∧ gi (minI n) = gi (minI n) ∧ goN n = goN n ∧ goN n = goN n ∧ ∃ l' : List Nat, l.map gf = l'.map gf ∧ 0 < (minI n).toNat ∧ (minI n).toNat ≤ l'.length ∧ (minI n).toNat ≤ 1000000 ∧ (minI n).toNat ≤ k ∧ goN n = goN n ∧
    K (gi (firstS [whenS (ilt 4096 (Int.ofNat n)) 5, whenS (!ilt 4096 (Int.ofNat n)) (smpsE (l'.take (minI n).toNat))]))) := by kernel_rfl
theorem cs_nil : (call Tryz.prog orcW 40 87 #[.slice none 0 0] (emp Tryz.prog)).map (·.1) = some (gi 0) := by kernel_rfl
theorem cs_emp (k : Nat) : (call Tryz.prog orcW 40 87 #[.slice (some ⟨0, 0, none⟩) 0 k] (emp Tryz.prog)).map (·.1) = some (gi 0) := by kernel_rfl
theorem CS_nil : (call Tryz.prog orcW 40 23 #[.slice none 0 0] (emp Tryz.prog)).map (·.1) = some (gi 0) := by kernel_rfl
theorem CS_emp0 : (call Tryz.prog orcW 40 23 #[.slice (some ⟨0, 0, none⟩) 0 0] (emp Tryz.prog)).map (·.1) = some (gi 0) := by kernel_rfl
theorem CS_empC (k : Nat) (K : Value → Prop) : callC Tryz.prog (exec Tryz.prog orcW 10) (syOf [(14, 19)]) askW (noLoops _) 20 23 #[.slice (some ⟨0, 0, none⟩) 0 k] (emp Tryz.prog) (fun v _ => K v) =
  ((0 : Int) ≤ 0 ∧ (0 : Int) ≤ (k : Int) ∧ 0 < k ∧ 0 ≤ k ∧ gi 0 = gi 0 ∧ gi 0 = gi 0 ∧ gi 0 = gi 0 ∧ gi 0 = gi 0 ∧ K (gi 0)) := by kernel_rfl
theorem floats_run (c : List Value) (e row m k : Nat) (K : Value → AHeap → Prop) : callC Tryz.prog (exec Tryz.prog orcW 10) (syOf [(5, 16)]) noAsks (noLoops _) 20 19 #[liP (m + 1) k] (liH c e row) K =
  (Nat.ble (0 + (m + 1)) c.length = true ∧ Nat.ble ((2 * (m + 1) + 256) * 4) 281474976710656 = true ∧ ((c.drop 0).take (m + 1)).all Value.oneCell' = true ∧
    K (.slice (some ⟨((liH c e row).push (.cells [] 69 2 false)).n, 0, none⟩) (m + 1) (m + 1)) (newCells (((liH c e row).push (.cells [] 69 2 false)).set (liH c e row).n .dead) ((c.drop 0).take (m + 1)) 69 2)) := by kernel_rfl
theorem short_run (n k : Nat) (e row : Nat) (c : List Value) (K : Value → AHeap → Prop) : callC Tryz.prog (exec Tryz.prog orcW 10) (syOf [(5, 1), (9, 1)]) noAsks (noLoops _) 20 15 #[liP n k] (liH c e row) K =
  (((!ilt 40 (Int.ofNat n)) = true → K (.bool true) (liH c e row)) ∧ ((!ilt 40 (Int.ofNat n)) = false → (ieq (Int.ofNat n) 4097 = true → K (.bool true) (liH c e row)) ∧ (ieq (Int.ofNat n) 4097 = false → K (.bool false) (liH c e row)))) := by kernel_rfl
theorem short_nil : (call Tryz.prog orcW 40 15 #[.slice none 0 0] (emp Tryz.prog)).map (·.1) = some (.bool true) := by kernel_rfl
theorem short_emp (k : Nat) : (call Tryz.prog orcW 40 15 #[.slice (some ⟨0, 0, none⟩) 0 k] (emp Tryz.prog)).map (·.1) = some (.bool true) := by kernel_rfl
end Go.Proofs.YtnlkkapeldhemaaGreatDoor
