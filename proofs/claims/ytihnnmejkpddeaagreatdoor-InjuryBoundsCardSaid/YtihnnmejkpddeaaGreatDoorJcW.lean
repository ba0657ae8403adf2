/-
  OWN WORK. Stage 6: what awake's pieces stand on: strings.Join by the library's contract; the tables.
-/
import Derived.Test.YtihnnmejkpddeaaGreatDoorJcT
import Derived.Test.YtihnnmejkpddeaaGreatDoorJn
namespace Go.Proofs.YtihnnmejkpddeaaGreatDoor
open Go Go.Am
noncomputable abbrev pieces6 : Orc := orj
theorem pieces6_ok : OrcOk Tryz.prog pieces6 := orj_ok
end Go.Proofs.YtihnnmejkpddeaaGreatDoor
