/-
  OWN WORK. Stage 7: what awake's pieces stand on: strings.Join by the library's contract; the tables.
-/
import Derived.Test.YtmlfpmkhfklbfaaGreatDoorSgT
import Derived.Test.YtmlfpmkhfklbfaaGreatDoorJn
namespace Go.Proofs.YtmlfpmkhfklbfaaGreatDoor
open Go Go.Am
noncomputable abbrev pieces7 : Orc := orj
theorem pieces7_ok : OrcOk Tryz.prog pieces7 := orj_ok
end Go.Proofs.YtmlfpmkhfklbfaaGreatDoor
