/-
  OWN WORK. The program follows mixed orders.
-/
import Derived.Test.YtihnnmejkpddeaaGreatDoorAm5
import Derived.Test.YtihnnmejkpddeaaGreatDoorProg
import Derived.KernelRfl
namespace Go.Proofs.YtihnnmejkpddeaaGreatDoor
open Go Go.Am
theorem mixed : Tryz.prog.follows .mixedOrders = true := by kernel_rfl
end Go.Proofs.YtihnnmejkpddeaaGreatDoor
