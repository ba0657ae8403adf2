/-
  OWN WORK. Kernels: checks as known calls; masks.
-/
import Derived.Test.YthgojmebbhpbbaaGreatDoorKaB
import Derived.Test.YthgojmebbhpbbaaGreatDoorAmV
namespace Go.Proofs.YthgojmebbhpbbaaGreatDoor
open Go Go.Am
theorem kc_run (l : List Int) (m e row k : Nat) (K : Value → Prop) : callC Tryz.prog (exec Tryz.prog orcKb 10) (syOf [(12, 7), (14, 7)]) askKb (noLoops _) 20 19 #[liP (m + 1) k] (canon Tryz.prog [(l.map gi, e, row)]) (fun v _ => K v) = (((List.all (List.map gi l) (flat 3) = true ∧ True) ∧ (true && List.all [Value.func (.func 61) #[] #[]] (fun v => match v with | Value.func (Fn.func f) a b => a.isEmpty && b.isEmpty | v => flat 3 v)) = true ∧ (∃ x1 : List Int, (List.map gi l = List.map gi x1 ∧ ((0 : Nat) < (m + 1) ∧ List.length x1 = (m + 1) ∧ ((m + 1) : Nat) ≤ 65536) ∧ eiC x1 [Value.func (.func 61) #[] #[]] ∧ (List.all (List.map gi l) (flat 3) = true ∧ True) ∧ true = true ∧ (∃ x2 : List Int, (List.map gi l = List.map gi x2 ∧ ((0 : Nat) < (m + 1) ∧ List.length x2 = (m + 1) ∧ ((m + 1) : Nat) ≤ 65536) ∧ noC x2 [] ∧ K (gi (firstS [whenS (ieq (Int.ofNat (m + 1)) 0) 12, whenS (ilt 7 (Int.ofNat (m + 1))) 5, firstE wE x1, whenS (!(ilt 0 (sumW x2))) 6])))))))) := by kernel_rfl
theorem kc_nil : (call Tryz.prog orcKa 40 19 #[nilS] (emp Tryz.prog)).map (·.1) = some (gi 12) := by kernel_rfl
theorem kc_emp (k : Nat) : (call Tryz.prog orcKa 40 19 #[.slice (some ⟨0, 0, none⟩) 0 k] (emp Tryz.prog)).map (·.1) = some (gi 12) := by kernel_rfl
theorem Kc_nil : (call Tryz.prog orcKa 40 13 #[nilS] (emp Tryz.prog)).map (·.1) = some (gi 12) := by kernel_rfl
theorem Kc_emp (k : Nat) : (call Tryz.prog orcKa 40 13 #[.slice (some ⟨0, 0, none⟩) 0 k] (emp Tryz.prog)).map (·.1) = some (gi 12) := by kernel_rfl
end Go.Proofs.YthgojmebbhpbbaaGreatDoor
