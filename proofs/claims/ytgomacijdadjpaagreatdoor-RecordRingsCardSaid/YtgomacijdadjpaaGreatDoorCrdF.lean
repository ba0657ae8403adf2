/-
  OWN WORK. What the cards of laws on samples have in common.
-/
import Derived.Test.YtgomacijdadjpaaGreatDoorCrd
import Derived.Test.YtgomacijdadjpaaGreatDoorFlZ
namespace Go.Proofs.YtgomacijdadjpaaGreatDoor
open Go Go.Am Go.ChangeShapes Go.WideShapes Go.ChangeAt Go.RowKit

theorem uF32 : Tryz.prog.underlying 49 = some (.float .f32) := by kernel_rfl
theorem cF32 : Tryz.prog.cellsOf 49 = 1 := by kernel_rfl
theorem uFs : Tryz.prog.underlying 22 = some (.slice 49) := by kernel_rfl
theorem cFs : Tryz.prog.cellsOf 22 = 1 := by kernel_rfl
theorem trod_f32 {H : Type} {enc : TypeId × Value → H} {W : World} {base : Nat} {sp : Nat → Bool} {held : Bool} (m : Nat) (v : Value) (y : DataW H × List MemPlace) (h : DataW.trod enc Tryz.prog W base sp held m 49 [v] = some y) : ∃ z, v = gf z := by
  cases m with
  | zero => cases h
  | succ m =>
    unfold DataW.trod at h
    rw [uF32] at h
    cases v with
    | float k b =>
      simp only at h
      split at h
      · rename_i hk
        obtain ⟨rfl, _⟩ := hk
        exact ⟨b, rfl⟩
      · cases h
    | _ => cases h
end Go.Proofs.YtgomacijdadjpaaGreatDoor
