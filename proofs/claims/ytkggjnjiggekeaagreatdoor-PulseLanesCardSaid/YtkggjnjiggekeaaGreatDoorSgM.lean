/-
  OWN WORK. The program follows mixed orders.
-/
import Derived.Test.YtkggjnjiggekeaaGreatDoorAm5
import Derived.Test.YtkggjnjiggekeaaGreatDoorProg
import Derived.KernelRfl
namespace Go.Proofs.YtkggjnjiggekeaaGreatDoor
open Go Go.Am
theorem mixed : Tryz.prog.follows .mixedOrders = true := by kernel_rfl
end Go.Proofs.YtkggjnjiggekeaaGreatDoor
