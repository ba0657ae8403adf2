/-
  OWN WORK. Kernels: masks, known for all valid kernels.
-/
import Derived.Test.YthgojmebbhpbbaaGreatDoorKaC
namespace Go.Proofs.YthgojmebbhpbbaaGreatDoor
open Go Go.Am
def Bd (n : Nat) (x : Int) : Prop := -(n : Int) ≤ x ∧ x ≤ (n : Int)
theorem Bd.add {m n : Nat} {x y : Int} (hx : Bd m x) (hy : Bd n y) : Bd (m + n) (x + y) := by unfold Bd at *; omega
theorem Bd.zero : Bd 0 0 := by unfold Bd; omega
theorem Bd.mul {m n : Nat} {x y : Int} (hx : Bd m x) (hy : Bd n y) : Bd (m * n) (x * y) := by
 have h : (x * y).natAbs ≤ m * n := by
  rw [Int.natAbs_mul]
  exact Nat.mul_le_mul (by unfold Bd at hx; omega) (by unfold Bd at hy; omega)
 unfold Bd; omega
theorem Bd.le {m n : Nat} {x : Int} (hx : Bd m x) (h : m ≤ n) : Bd n x := by unfold Bd at *; omega
theorem Bd.in {n : Nat} {x : Int} (hx : Bd n x) (h : n ≤ 4611686018427387904) : inI64 x = true := by
 unfold Bd at hx
 cases x with
 | ofNat m => exact inI64_nat (by simp only [Int.ofNat_eq_natCast] at hx; omega)
 | negSucc m =>
  show Nat.blt m 9223372036854775808 = true
  rw [Nat.blt_eq]; omega
noncomputable def pairsE (k : List Int) : List (Nat × Int) := (List.range k.length).flatMap fun i => (List.range k.length).map fun j => (k.length - 1 + i - j, k.getD i 0 * k.getD j 0)
noncomputable def wtsE (k : List Int) : List Int := (List.range (2 * k.length - 1)).map fun d => ((pairsE k).filter fun p => Nat.beq p.1 d).foldl (fun s p => s + p.2) 0
noncomputable def agM (n : Nat) (d v : Int) : Nat → Value := fun b => .agg #[.slice (some ⟨b, 0, none⟩) n n, gi d, gi v]
noncomputable def accE (k : List Int) : Nat → Nat → Int
 | 0, j => 0 + k.getD 0 0 * k.getD j 0
 | i + 1, 0 => 0 + k.getD (i + 1) 0 * k.getD 0 0
 | i + 1, j + 1 => accE k i j + k.getD (i + 1) 0 * k.getD (j + 1) 0
noncomputable def asksE (k : List Int) (R : Prop) : Prop := (List.range k.length).foldr (fun i P => (List.range k.length).foldr (fun j Q => inI64 (k.getD i 0 * k.getD j 0) = true ∧ inI64 (accE k i j) = true ∧ Q) P) R
noncomputable def lstY (k : List Int) (Q : List Int → Prop) : Prop := (List.all (k.map gi) (flat 3) = true ∧ True) ∧ true = true ∧ ∃ x : List Int, k.map gi = List.map gi x ∧ ((0 : Nat) < k.length ∧ x.length = k.length ∧ k.length ≤ 65536) ∧ noC x [] ∧ Q x
theorem lstY_ok {k : List Int} {Q : List Int → Prop} (h1 : 1 ≤ k.length) (h2 : k.length ≤ 7) (hf : List.all (k.map gi) (flat 3) = true ∧ True) (h : Q k) : lstY k Q := ⟨hf, rfl, _, rfl, ⟨by omega, rfl, by omega⟩, rfl, h⟩
section
variable (l : List Int) (h1 : 1 ≤ l.length) (h2 : l.length ≤ 7) (e row k : Nat) (K : Value → Option AObj → Prop)
include h1 h2
theorem th_e : callR Tryz.prog orcKb (fun _ => syOf [(13, 7)]) askKb 60 49 #[liP l.length k] (canon Tryz.prog [(l.map gi, e, row)]) (fun v h => K v (h.get (nG1 + 3))) = lstY l fun x => K (agM l.length (1 - (l.length : Int)) (sumW x) (nG1 + 3)) (some (.cells (List.map gi (List.reverse l)) 3 2 false)) := by
 match l, h1, h2 with
 | [_], _, _ => show _ = _; kernel_rfl
 | [_, _], _, _ => show _ = _; kernel_rfl
 | [_, _, _], _, _ => show _ = _; kernel_rfl
 | [_, _, _, _], _, _ => show _ = _; kernel_rfl
 | [_, _, _, _, _], _, _ => show _ = _; kernel_rfl
 | [_, _, _, _, _, _], _, _ => show _ = _; kernel_rfl
 | [_, _, _, _, _, _, _], _, _ => show _ = _; kernel_rfl
theorem tb_e : callR Tryz.prog orcKb (fun _ => syOf [(40, 7), (42, 7), (32, 33), (33, 33), (43, 33)]) askKb 200 50 #[liP l.length k] (canon Tryz.prog [(l.map gi, e, row)]) (fun v h => K v (h.get (nG1 + (3 + 2 * (2 * l.length - 1))))) = asksE l (lstY l fun x => lstY l fun y => inI64 (sumW x * sumW y) = true ∧ K (agM (2 * l.length - 1) (1 - (l.length : Int)) (sumW x * sumW y) (nG1 + (3 + 2 * (2 * l.length - 1)))) (some (.cells (List.map gi (wtsE l)) 3 2 false))) := by
 match l, h1, h2 with
 | [_], _, _ => show _ = _; kernel_rfl
 | [_, _], _, _ => show _ = _; kernel_rfl
 | [_, _, _], _, _ => show _ = _; kernel_rfl
 | [_, _, _, _], _, _ => show _ = _; kernel_rfl
 | [_, _, _, _, _], _, _ => show _ = _; kernel_rfl
 | [_, _, _, _, _, _], _, _ => show _ = _; kernel_rfl
 | [_, _, _, _, _, _, _], _, _ => show _ = _; kernel_rfl
theorem rw_e : callR Tryz.prog orcKb (fun _ => syOf [(46, 33), (47, 33), (51, 7), (53, 7), (54, 33)]) askKb 200 18 #[liP l.length k] (canon Tryz.prog [(l.map gi, e, row)]) (fun v h => K v (h.get (nG1 + 1))) = asksE l (lstY l fun x => lstY l fun y => inI64 (sumW x * sumW y) = true ∧ K (Value.tuple #[slO (2 * l.length - 1) (2 * l.length - 1), gi (sumW x * sumW y)]) (some (.cells (List.map gi (wtsE l)) 3 2 false))) := by
 match l, h1, h2 with
 | [_], _, _ => show _ = _; kernel_rfl
 | [_, _], _, _ => show _ = _; kernel_rfl
 | [_, _, _], _, _ => show _ = _; kernel_rfl
 | [_, _, _, _], _, _ => show _ = _; kernel_rfl
 | [_, _, _, _, _], _, _ => show _ = _; kernel_rfl
 | [_, _, _, _, _, _], _, _ => show _ = _; kernel_rfl
 | [_, _, _, _, _, _, _], _, _ => show _ = _; kernel_rfl
end
theorem getD_bd {k : List Int} (h : ∀ a ∈ k, Bd 100 a) (i : Nat) : Bd 100 (k.getD i 0) := by
 rw [List.getD_eq_getElem?_getD]
 cases e : k[i]? with
 | none => exact Bd.zero.le (by omega)
 | some a => exact h a (List.mem_of_getElem? e)
theorem accE_bd {k : List Int} (h : ∀ a ∈ k, Bd 100 a) : ∀ i j, Bd ((i + 1) * 10000) (accE k i j)
 | 0, j => (Bd.add Bd.zero (Bd.mul (getD_bd h 0) (getD_bd h j))).le (by omega)
 | i + 1, 0 => (Bd.add Bd.zero (Bd.mul (getD_bd h (i + 1)) (getD_bd h 0))).le (by omega)
 | i + 1, j + 1 => (Bd.add (accE_bd h i j) (Bd.mul (getD_bd h (i + 1)) (getD_bd h (j + 1)))).le (by omega)
theorem foldr_holds {α : Type} {f : α → Prop → Prop} {R : Prop} (hR : R) : ∀ {l : List α}, (∀ a ∈ l, ∀ P, P → f a P) → l.foldr f R
 | [], _ => hR
 | a :: l, h => h a (by simp) _ (foldr_holds hR fun b hb => h b (by simp [hb]))
theorem asksE_ok {k : List Int} (h : ∀ a ∈ k, Bd 100 a) (h7 : k.length ≤ 7) {R : Prop} (hR : R) : asksE k R :=
 foldr_holds hR fun i hi P hP => foldr_holds hP fun j _ Q hQ => ⟨(Bd.mul (getD_bd h i) (getD_bd h j)).in (by omega), (accE_bd h i j).in (by have := List.mem_range.mp hi; omega), hQ⟩
end Go.Proofs.YthgojmebbhpbbaaGreatDoor
