/-
  DERIVED. GIVEN WITH THE SEED: THE CARDS: each row of YtfkiiacbchbgdaaGreatDoorRows.lean that lists a variable, with what it lists TIED to the program's text (the seventh form; the later family's looks); each row that meets fmt, with fmt's text TOLD by the authors' own Lean function (tested against real Go, not proved from fmt's source: count such statements apart). THE CARD IS WHAT COUNTS. Prove the row's statement (the work); the ties are given (YtfkiiacbchbgdaaGreatDoorTie.lean); close each card by the builder's one call (the guide's Derived/Test/ToyasCard.lean, 'card_holds'). Laid BY PROGRAM, IN A SANDBOX (cutbox-door.mjs). By AI agents, Wed Nov 11 2026. No macro, syntax, notation, axiom, sorry.
-/
import Derived.Test.YtfkiiacbchbgdaaGreatDoorRows
import GoSem.ClaimSeven
namespace Go.Proofs.YtfkiiacbchbgdaaGreatDoor
namespace Rows

/-- THE TIED CARD OF 'crumplelaw04.BarrierTows'. -/
def barrierTowsCard : Claim7 := { stood := { row := barrierTowsRow, standIns := [], harness := (true, "ab48137ff71291c73f3c1c8aec9e386f5f32b2cb7b7a49f32b1a137ed4c7dcb4"), looks := false }, kinds := [], alts := [], laidByText := true, laidKinds := [.data, .data, .data, .data, .data, .pinned], laidTests := true, laidLooks := .later }
def BarrierTowsCardSaid : Prop := Claim7.holds Tryz.pinned (.plain (OpenSpec.ofChange barrierTowsSpec)) barrierTowsCard

/-- THE TIED CARD OF 'crumplelaw04.BarrierTables'. -/
def barrierTablesCard : Claim7 := { stood := { row := barrierTablesRow, standIns := [], harness := (true, "ab48137ff71291c73f3c1c8aec9e386f5f32b2cb7b7a49f32b1a137ed4c7dcb4"), looks := false }, kinds := [], alts := [], laidByText := true, laidKinds := [.data, .data, .data, .data, .data, .pinned], laidTests := true, laidLooks := .later }
def BarrierTablesCardSaid : Prop := Claim7.holds Tryz.pinned (.plain (OpenSpec.ofChange barrierTablesSpec)) barrierTablesCard

/-- THE TIED CARD OF 'crumplelaw04.BarrierFarther'. -/
def barrierFartherCard : Claim7 := { stood := { row := barrierFartherRow, standIns := [], harness := (true, "ab48137ff71291c73f3c1c8aec9e386f5f32b2cb7b7a49f32b1a137ed4c7dcb4"), looks := false }, kinds := [], alts := [], laidByText := true, laidKinds := [.data, .data, .data, .data, .data, .pinned], laidTests := true, laidLooks := .later }
def BarrierFartherCardSaid : Prop := Claim7.holds Tryz.pinned (.plain (OpenSpec.ofChange barrierFartherSpec)) barrierFartherCard

/-- THE SECOND FORM's CARD OF 'crumplelaw04.BarrierTows'. -/
def barrierTowsUptoCard : Claim7 := { stood := { row := barrierTowsUptoRow, standIns := [], harness := (true, "ab48137ff71291c73f3c1c8aec9e386f5f32b2cb7b7a49f32b1a137ed4c7dcb4"), looks := false }, kinds := [], alts := [], laidByText := true, laidKinds := [.data, .data, .data, .data, .data, .pinned], laidTests := true, laidLooks := .later }
def BarrierTowsUptoCardSaid : Prop := Claim7.holds Tryz.pinned (.plain (OpenSpec.upto barrierTowsSpec)) barrierTowsUptoCard

/-- THE SECOND FORM's CARD OF 'crumplelaw04.BarrierTables'. -/
def barrierTablesUptoCard : Claim7 := { stood := { row := barrierTablesUptoRow, standIns := [], harness := (true, "ab48137ff71291c73f3c1c8aec9e386f5f32b2cb7b7a49f32b1a137ed4c7dcb4"), looks := false }, kinds := [], alts := [], laidByText := true, laidKinds := [.data, .data, .data, .data, .data, .pinned], laidTests := true, laidLooks := .later }
def BarrierTablesUptoCardSaid : Prop := Claim7.holds Tryz.pinned (.plain (OpenSpec.upto barrierTablesSpec)) barrierTablesUptoCard

/-- THE SECOND FORM's CARD OF 'crumplelaw04.BarrierFarther'. -/
def barrierFartherUptoCard : Claim7 := { stood := { row := barrierFartherUptoRow, standIns := [], harness := (true, "ab48137ff71291c73f3c1c8aec9e386f5f32b2cb7b7a49f32b1a137ed4c7dcb4"), looks := false }, kinds := [], alts := [], laidByText := true, laidKinds := [.data, .data, .data, .data, .data, .pinned], laidTests := true, laidLooks := .later }
def BarrierFartherUptoCardSaid : Prop := Claim7.holds Tryz.pinned (.plain (OpenSpec.upto barrierFartherSpec)) barrierFartherUptoCard
end Rows
end Go.Proofs.YtfkiiacbchbgdaaGreatDoor
