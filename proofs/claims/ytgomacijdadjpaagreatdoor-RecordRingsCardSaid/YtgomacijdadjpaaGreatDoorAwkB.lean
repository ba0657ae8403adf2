/-
  OWN WORK. awake returns true in whatever heap that holds the tables.
-/
import Derived.Test.YtgomacijdadjpaaGreatDoorAwkA
namespace Go.Proofs.YtgomacijdadjpaaGreatDoor
open Go Go.Am
theorem awake_run (es : Nat → TypeId) : (call Tryz.prog pieces 3000 7 #[] (base tabs es Tryz.prog.globals.size)).map (·.1) = some (.bool true) := by kernel_rfl
noncomputable def woken : Orc := known tabs pieces 7 #[] (.bool true)
theorem woken_ok : OrcOk Tryz.prog woken := known_ok mixed pieces_ok tabs_flat (by decide) (by decide) awake_run
end Go.Proofs.YtgomacijdadjpaaGreatDoor
