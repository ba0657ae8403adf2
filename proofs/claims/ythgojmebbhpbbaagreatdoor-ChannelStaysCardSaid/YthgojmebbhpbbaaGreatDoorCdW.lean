/-
  OWN WORK. Stage 2: what awake's pieces stand on: strings.Join by the library's contract; the tables.
-/
import Derived.Test.YthgojmebbhpbbaaGreatDoorCdA
import Derived.Test.YthgojmebbhpbbaaGreatDoorJn
namespace Go.Proofs.YthgojmebbhpbbaaGreatDoor
open Go Go.Am
noncomputable abbrev pieces2 : Orc := orj
theorem pieces2_ok : OrcOk Tryz.prog pieces2 := orj_ok
end Go.Proofs.YthgojmebbhpbbaaGreatDoor
