/-
  OWN WORK. Stage 4: what awake's pieces stand on: strings.Join by the library's contract; the tables.
-/
import Derived.Test.YtfkiiacbchbgdaaGreatDoorStT
import Derived.Test.YtfkiiacbchbgdaaGreatDoorJn
namespace Go.Proofs.YtfkiiacbchbgdaaGreatDoor
open Go Go.Am
noncomputable abbrev pieces4 : Orc := orj
theorem pieces4_ok : OrcOk Tryz.prog pieces4 := orj_ok
end Go.Proofs.YtfkiiacbchbgdaaGreatDoor
