/-
  OWN WORK. Stage 8: awake as a known call.
-/
import Derived.Test.YtkggjnjiggekeaaGreatDoorApZ
import Derived.Test.YtkggjnjiggekeaaGreatDoorAmY
namespace Go.Proofs.YtkggjnjiggekeaaGreatDoor
open Go Go.Am

/-! awake -/
theorem awake8_call (es : Nat → TypeId) : CallJ Tryz.prog 7 #[] (base tabs8 es Tryz.prog.globals.size) (fun v _ => v = .bool true) :=
  CallJ.pieces (fn := Tryz.f7) (v := .bool true) (by kernel_rfl) (by kernel_rfl) (fun g => atAp_0 es g)
def wake8 : List Value → Option Value
  | [] => some (.bool true)
  | _ => none
noncomputable abbrev wkO (orc : Orc) : Orc := orElse 7 (tabSpec tabs8 wake8) orc
theorem wkO_ok {orc : Orc} (ho : OrcOk Tryz.prog orc) : OrcOk Tryz.prog (wkO orc) := by
  refine tabSpec_ok tabs8_flat (fun l v h => ?_) ho
  unfold wake8 at h
  split at h
  · cases h
    exact ⟨rfl, rfl, fun es => awake8_call es⟩
  · cases h
end Go.Proofs.YtkggjnjiggekeaaGreatDoor
