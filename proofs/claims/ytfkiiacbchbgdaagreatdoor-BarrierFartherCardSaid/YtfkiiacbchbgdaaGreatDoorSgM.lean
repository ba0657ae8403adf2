/-
  OWN WORK. The program follows mixed orders.
-/
import Derived.Test.YtfkiiacbchbgdaaGreatDoorAm5
import Derived.Test.YtfkiiacbchbgdaaGreatDoorProg
import Derived.KernelRfl
namespace Go.Proofs.YtfkiiacbchbgdaaGreatDoor
open Go Go.Am
theorem mixed : Tryz.prog.follows .mixedOrders = true := by kernel_rfl
end Go.Proofs.YtfkiiacbchbgdaaGreatDoor
