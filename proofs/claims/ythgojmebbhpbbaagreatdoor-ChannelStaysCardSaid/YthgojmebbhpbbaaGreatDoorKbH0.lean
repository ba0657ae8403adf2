/-
  OWN WORK. Kernels: small facts that laws share.
-/
import Derived.Test.YthgojmebbhpbbaaGreatDoorKdE
namespace Go.Proofs.YthgojmebbhpbbaaGreatDoor
open Go Go.Am
theorem sample_fin' {u : Int} (h : okU u) : fin32 (sampleE u) := by
 have hb := okU_iff.1 h
 unfold Bd at hb
 obtain ⟨b, hb, hf, _⟩ := smI_some (u := u) (by omega) (by omega)
 unfold sampleE
 rw [hb]; exact hf
theorem sk_le {n : Nat} (h : (!(!(ilt 8 (Int.ofNat n)))) = false) : n ≤ 8 := by
 rw [ilt_say] at h
 simp at h
 omega
theorem ble_self (n : Nat) : Nat.ble n n = true := by rw [Nat.ble_eq]; exact Nat.le_refl n
end Go.Proofs.YthgojmebbhpbbaaGreatDoor
