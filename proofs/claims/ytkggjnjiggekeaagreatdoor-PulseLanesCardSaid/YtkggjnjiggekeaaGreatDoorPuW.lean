/-
  OWN WORK. Stage 8: what awake's pieces stand on: strings.Join by the library's contract; the tables.
-/
import Derived.Test.YtkggjnjiggekeaaGreatDoorPuT
import Derived.Test.YtkggjnjiggekeaaGreatDoorJn
namespace Go.Proofs.YtkggjnjiggekeaaGreatDoor
open Go Go.Am
noncomputable abbrev pieces8 : Orc := orj
theorem pieces8_ok : OrcOk Tryz.prog pieces8 := orj_ok
end Go.Proofs.YtkggjnjiggekeaaGreatDoor
