/-
  OWN WORK. Stage 6: awake as a known call.
-/
import Derived.Test.YtihnnmejkpddeaaGreatDoorAqZ
import Derived.Test.YtihnnmejkpddeaaGreatDoorAmY
namespace Go.Proofs.YtihnnmejkpddeaaGreatDoor
open Go Go.Am
theorem awake6_call (es : Nat → TypeId) : CallJ Tryz.prog 13 #[] (base tabs6 es Tryz.prog.globals.size) (fun v _ => v = .bool true) :=
 CallJ.pieces (fn := Tryz.f13) (v := .bool true) (by kernel_rfl) (by kernel_rfl) (fun g => atAq_0 es g)
def wake6 : List Value → Option Value
 | [] => some (.bool true)
 | _ => none
noncomputable abbrev wkO (orc : Orc) : Orc := orElse 13 (tabSpec tabs6 wake6) orc
theorem wkO_ok {orc : Orc} (ho : OrcOk Tryz.prog orc) : OrcOk Tryz.prog (wkO orc) := by
 refine tabSpec_ok tabs6_flat (fun l v h => ?_) ho
 unfold wake6 at h
 split at h
 ·cases h
  exact ⟨rfl, rfl, fun es => awake6_call es⟩
 ·cases h
end Go.Proofs.YtihnnmejkpddeaaGreatDoor
