/-
  OWN WORK. The program follows mixed orders.
-/
import Derived.Test.YtclohbagdmelbaaGreatDoorAm5
import Derived.Test.YtclohbagdmelbaaGreatDoorProg
import Derived.KernelRfl
namespace Go.Proofs.YtclohbagdmelbaaGreatDoor
open Go Go.Am
theorem mixed : Tryz.prog.follows .mixedOrders = true := by kernel_rfl
end Go.Proofs.YtclohbagdmelbaaGreatDoor
