/-
  OWN WORK. Stage 4: what awake's pieces stand on: strings.Join by the library's contract; the tables.
-/
import Derived.Test.YtclohbagdmelbaaGreatDoorStT
import Derived.Test.YtclohbagdmelbaaGreatDoorJn
namespace Go.Proofs.YtclohbagdmelbaaGreatDoor
open Go Go.Am
noncomputable abbrev pieces4 : Orc := orj
theorem pieces4_ok : OrcOk Tryz.prog pieces4 := orj_ok
end Go.Proofs.YtclohbagdmelbaaGreatDoor
