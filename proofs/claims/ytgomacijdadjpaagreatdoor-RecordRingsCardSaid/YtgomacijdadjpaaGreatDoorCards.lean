/-
  DERIVED. GIVEN WITH THE SEED: THE CARDS: each row of YtgomacijdadjpaaGreatDoorRows.lean that lists a variable, with what it lists TIED to the program's text (the seventh form; the later family's looks); each row that meets fmt, with fmt's text TOLD by the authors' own Lean function (tested against real Go, not proved from fmt's source: count such statements apart). THE CARD IS WHAT COUNTS. Prove the row's statement (the work); the ties are given (YtgomacijdadjpaaGreatDoorTie.lean); close each card by the builder's one call (the guide's Derived/Test/ToyasCard.lean, 'card_holds'). Laid BY PROGRAM, IN A SANDBOX (cutbox-door.mjs). By AI agents, Wed Nov 11 2026. No macro, syntax, notation, axiom, sorry.
-/
import Derived.Test.YtgomacijdadjpaaGreatDoorRows
import GoSem.ClaimSeven
namespace Go.Proofs.YtgomacijdadjpaaGreatDoor
namespace Rows

/-- THE TIED CARD OF 'crumplelaw01.RecordRings'. -/
def recordRingsCard : Claim7 := { stood := { row := recordRingsRow, standIns := [], harness := (true, "c09ab99e07b6a73c9b4fb70af4f59f7c70d91e3bb4f20c5dd5795b95ccf8ec11"), looks := false }, kinds := [], alts := [], laidByText := true, laidKinds := [.data, .data, .data, .data], laidTests := true, laidLooks := .later }
def RecordRingsCardSaid : Prop := Claim7.holds Tryz.pinned (.plain (OpenSpec.ofChange recordRingsSpec)) recordRingsCard

/-- THE TIED CARD OF 'crumplelaw01.RecordRuns'. -/
def recordRunsCard : Claim7 := { stood := { row := recordRunsRow, standIns := [], harness := (true, "c09ab99e07b6a73c9b4fb70af4f59f7c70d91e3bb4f20c5dd5795b95ccf8ec11"), looks := false }, kinds := [], alts := [], laidByText := true, laidKinds := [.data, .data, .data, .data], laidTests := true, laidLooks := .later }
def RecordRunsCardSaid : Prop := Claim7.holds Tryz.pinned (.plain (OpenSpec.ofChange recordRunsSpec)) recordRunsCard

/-- THE SECOND FORM's CARD OF 'crumplelaw01.RecordRings'. -/
def recordRingsUptoCard : Claim7 := { stood := { row := recordRingsUptoRow, standIns := [], harness := (true, "c09ab99e07b6a73c9b4fb70af4f59f7c70d91e3bb4f20c5dd5795b95ccf8ec11"), looks := false }, kinds := [], alts := [], laidByText := true, laidKinds := [.data, .data, .data, .data], laidTests := true, laidLooks := .later }
def RecordRingsUptoCardSaid : Prop := Claim7.holds Tryz.pinned (.plain (OpenSpec.upto recordRingsSpec)) recordRingsUptoCard

/-- THE SECOND FORM's CARD OF 'crumplelaw01.RecordRuns'. -/
def recordRunsUptoCard : Claim7 := { stood := { row := recordRunsUptoRow, standIns := [], harness := (true, "c09ab99e07b6a73c9b4fb70af4f59f7c70d91e3bb4f20c5dd5795b95ccf8ec11"), looks := false }, kinds := [], alts := [], laidByText := true, laidKinds := [.data, .data, .data, .data], laidTests := true, laidLooks := .later }
def RecordRunsUptoCardSaid : Prop := Claim7.holds Tryz.pinned (.plain (OpenSpec.upto recordRunsSpec)) recordRunsUptoCard
end Rows
end Go.Proofs.YtgomacijdadjpaaGreatDoor
