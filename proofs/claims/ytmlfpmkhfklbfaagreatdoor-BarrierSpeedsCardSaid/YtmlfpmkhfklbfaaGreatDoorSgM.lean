/-
  OWN WORK. The program follows mixed orders.
-/
import Derived.Test.YtmlfpmkhfklbfaaGreatDoorAm5
import Derived.Test.YtmlfpmkhfklbfaaGreatDoorProg
import Derived.KernelRfl
namespace Go.Proofs.YtmlfpmkhfklbfaaGreatDoor
open Go Go.Am
theorem mixed : Tryz.prog.follows .mixedOrders = true := by kernel_rfl
end Go.Proofs.YtmlfpmkhfklbfaaGreatDoor
