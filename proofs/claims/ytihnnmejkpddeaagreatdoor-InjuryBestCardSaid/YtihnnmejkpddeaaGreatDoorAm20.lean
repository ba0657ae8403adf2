/-
  OWN WORK. 'Am': arguments that are slices whose elements have several cells.
-/
import Derived.Test.YtihnnmejkpddeaaGreatDoorAmBr
namespace Go.Am
section
variable {P : Program} {W : World}
end
end Go.Am
