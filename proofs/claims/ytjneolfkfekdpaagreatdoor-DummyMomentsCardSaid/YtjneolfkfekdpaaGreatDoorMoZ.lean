/-
  OWN WORK. DummyMoments returns true for all vectors, and leaves its arguments as they were: its card.
  Conditions: those of the card itself (the listed variables read as the program's text lays them).
-/
import Derived.Test.YtjneolfkfekdpaaGreatDoorMomC
import Derived.Test.YtjneolfkfekdpaaGreatDoorAgZ
namespace Go.Proofs.YtjneolfkfekdpaaGreatDoor
open Go Go.Am

theorem awake3_call (es : Nat → TypeId) : CallJ Tryz.prog 9 #[] (base tabs3 es Tryz.prog.globals.size) (fun v _ => v = .bool true) :=
  CallJ.pieces (fn := Tryz.f9) (v := .bool true) (by kernel_rfl) (by kernel_rfl) (fun g => atAg_0 es g)
theorem orm7_ok : OrcOk Tryz.prog orm7 := known_okJ orm6_ok tabs3_flat (by decide) (by decide) awake3_call
/-- ████ THE CARD ████ -/
theorem dummyMoments_holds : Rows.DummyMomentsCardSaid := moments_card (law_true orm7_ok)
#print axioms dummyMoments_holds
end Go.Proofs.YtjneolfkfekdpaaGreatDoor
