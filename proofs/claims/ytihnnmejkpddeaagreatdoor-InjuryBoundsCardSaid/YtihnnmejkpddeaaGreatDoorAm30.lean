/-
  OWN WORK. 'Am': loops that only read: rounds that are counted.
-/
import Derived.Test.YtihnnmejkpddeaaGreatDoorAmX
namespace Go.Am
section
variable {P : Program}
theorem scan_rule {n : Nat} {ts : List Nat} {body : Code} (h₀ : AHeap) (V : Nat → List Value) (I : Nat → Prop) (m : Nat) (hI : I 0) (Out : Exit → List Value → AHeap → Prop)
  (step : ∀ j, j < m → I j → ∀ g, J P body (stOf n (ts.zip (V j)) g) h₀ (told n ts fun ex vs h => match ex with
   | .normal => I (j + 1) ∧ vs = V (j + 1) ∧ h = h₀
   | ex => Out ex vs h))
  (last : I m → ∀ g, J P body (stOf n (ts.zip (V m)) g) h₀ (told n ts fun ex vs h => match ex with
   | .normal => False
   | ex => Out ex vs h)) :
  ∀ a, a.n = n → a.marks = [] → ts.map a.tmp = V 0 → J P (.loop body) a h₀ (told n ts Out) := by
 intro a ha hm hv
 refine loop_rule (fun q vs h => ∃ j, j ≤ m ∧ q = m - j ∧ I j ∧ vs = V j ∧ h = h₀) Out ?_ m _ h₀ a ⟨0, Nat.zero_le _, rfl, hI, hv, rfl⟩ ha hm rfl
 rintro q vs h g ⟨j, hj, rfl, hIj, rfl, rfl⟩
 by_cases hjm : j < m
 ·refine (step j hjm hIj g).mono fun ex a' h' q => ?_
  obtain ⟨q1, q2, q3⟩ := told_facts q
  simp only [told, q1, q2, Nat.beq_refl]
  cases ex with
  | normal => exact (⟨m - (j + 1), by omega, j + 1, by omega, rfl, q3.1, q3.2.1, q3.2.2⟩)
  | _ => simpa using q3
 ·obtain rfl : j = m := by omega
  refine (last hIj g).mono fun ex a' h' q => ?_
  obtain ⟨q1, q2, q3⟩ := told_facts q
  simp only [told, q1, q2]
  cases ex with
  | normal => exact q3.elim
  | _ => simpa using q3
end
end Go.Am
