/-
  OWN WORK. Stage 4: awake as a known call.
-/
import Derived.Test.YtfkiiacbchbgdaaGreatDoorAjZ
import Derived.Test.YtfkiiacbchbgdaaGreatDoorAmY
namespace Go.Proofs.YtfkiiacbchbgdaaGreatDoor
open Go Go.Am

/-! awake -/
theorem awake4_call (es : Nat → TypeId) : CallJ Tryz.prog 6 #[] (base tabs4 es Tryz.prog.globals.size) (fun v _ => v = .bool true) :=
  CallJ.pieces (fn := Tryz.f6) (v := .bool true) (by kernel_rfl) (by kernel_rfl) (fun g => atAj_0 es g)
def wake4 : List Value → Option Value
  | [] => some (.bool true)
  | _ => none
noncomputable abbrev wkO (orc : Orc) : Orc := orElse 6 (tabSpec tabs4 wake4) orc
theorem wkO_ok {orc : Orc} (ho : OrcOk Tryz.prog orc) : OrcOk Tryz.prog (wkO orc) := by
  refine tabSpec_ok tabs4_flat (fun l v h => ?_) ho
  unfold wake4 at h
  split at h
  · cases h
    exact ⟨rfl, rfl, fun es => awake4_call es⟩
  · cases h
end Go.Proofs.YtfkiiacbchbgdaaGreatDoor
