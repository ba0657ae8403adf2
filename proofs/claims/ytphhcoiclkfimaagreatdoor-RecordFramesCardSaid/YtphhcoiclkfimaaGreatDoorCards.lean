/-
  DERIVED. GIVEN WITH THE SEED: THE CARDS: each row of YtphhcoiclkfimaaGreatDoorRows.lean that lists a variable, with what it lists TIED to the program's text (the seventh form; the later family's looks); each row that meets fmt, with fmt's text TOLD by the authors' own Lean function (tested against real Go, not proved from fmt's source: count such statements apart). THE CARD IS WHAT COUNTS. Prove the row's statement (the work); the ties are given (YtphhcoiclkfimaaGreatDoorTie.lean); close each card by the builder's one call (the guide's Derived/Test/ToyasCard.lean, 'card_holds'). Laid BY PROGRAM, IN A SANDBOX (cutbox-door.mjs). By AI agents, Wed Nov 11 2026. No macro, syntax, notation, axiom, sorry.
-/
import Derived.Test.YtphhcoiclkfimaaGreatDoorRows
import GoSem.ClaimSeven
namespace Go.Proofs.YtphhcoiclkfimaaGreatDoor
namespace Rows

/-- THE TIED CARD OF 'crumplelaw01.RecordRings'. -/
def recordRingsCard : Claim7 := { stood := { row := recordRingsRow, standIns := [], harness := (true, "c1321f10b5f50efba70d5e991e6496f9976c995ec08a1ae8b18b9ad5b6b296a5"), looks := false }, kinds := [], alts := [], laidByText := true, laidKinds := [.data, .data, .data, .data], laidTests := true, laidLooks := .later }
def RecordRingsCardSaid : Prop := Claim7.holds Tryz.pinned (.plain (OpenSpec.ofChange recordRingsSpec)) recordRingsCard

/-- THE TIED CARD OF 'crumplelaw01.RecordFrames'. -/
def recordFramesCard : Claim7 := { stood := { row := recordFramesRow, standIns := [], harness := (true, "c1321f10b5f50efba70d5e991e6496f9976c995ec08a1ae8b18b9ad5b6b296a5"), looks := false }, kinds := [], alts := [], laidByText := true, laidKinds := [.data, .data, .data, .data], laidTests := true, laidLooks := .later }
def RecordFramesCardSaid : Prop := Claim7.holds Tryz.pinned (.plain (OpenSpec.ofChange recordFramesSpec)) recordFramesCard

/-- THE TIED CARD OF 'crumplelaw01.RecordStreams'. -/
def recordStreamsCard : Claim7 := { stood := { row := recordStreamsRow, standIns := [], harness := (true, "c1321f10b5f50efba70d5e991e6496f9976c995ec08a1ae8b18b9ad5b6b296a5"), looks := false }, kinds := [], alts := [], laidByText := true, laidKinds := [.data, .data, .data, .data], laidTests := true, laidLooks := .later }
def RecordStreamsCardSaid : Prop := Claim7.holds Tryz.pinned (.plain (OpenSpec.ofChange recordStreamsSpec)) recordStreamsCard

/-- THE TIED CARD OF 'crumplelaw01.RecordStrings'. -/
def recordStringsCard : Claim7 := { stood := { row := recordStringsRow, standIns := [], harness := (true, "c1321f10b5f50efba70d5e991e6496f9976c995ec08a1ae8b18b9ad5b6b296a5"), looks := false }, kinds := [], alts := [], laidByText := true, laidKinds := [.data, .data, .data, .data, .data, .pinned], laidTests := true, laidLooks := .later }
def RecordStringsCardSaid : Prop := Claim7.holds Tryz.pinned (.plain (OpenSpec.ofChange recordStringsSpec)) recordStringsCard

/-- THE SECOND FORM's CARD OF 'crumplelaw01.RecordRings'. -/
def recordRingsUptoCard : Claim7 := { stood := { row := recordRingsUptoRow, standIns := [], harness := (true, "c1321f10b5f50efba70d5e991e6496f9976c995ec08a1ae8b18b9ad5b6b296a5"), looks := false }, kinds := [], alts := [], laidByText := true, laidKinds := [.data, .data, .data, .data], laidTests := true, laidLooks := .later }
def RecordRingsUptoCardSaid : Prop := Claim7.holds Tryz.pinned (.plain (OpenSpec.upto recordRingsSpec)) recordRingsUptoCard

/-- THE SECOND FORM's CARD OF 'crumplelaw01.RecordFrames'. -/
def recordFramesUptoCard : Claim7 := { stood := { row := recordFramesUptoRow, standIns := [], harness := (true, "c1321f10b5f50efba70d5e991e6496f9976c995ec08a1ae8b18b9ad5b6b296a5"), looks := false }, kinds := [], alts := [], laidByText := true, laidKinds := [.data, .data, .data, .data], laidTests := true, laidLooks := .later }
def RecordFramesUptoCardSaid : Prop := Claim7.holds Tryz.pinned (.plain (OpenSpec.upto recordFramesSpec)) recordFramesUptoCard

/-- THE SECOND FORM's CARD OF 'crumplelaw01.RecordStreams'. -/
def recordStreamsUptoCard : Claim7 := { stood := { row := recordStreamsUptoRow, standIns := [], harness := (true, "c1321f10b5f50efba70d5e991e6496f9976c995ec08a1ae8b18b9ad5b6b296a5"), looks := false }, kinds := [], alts := [], laidByText := true, laidKinds := [.data, .data, .data, .data], laidTests := true, laidLooks := .later }
def RecordStreamsUptoCardSaid : Prop := Claim7.holds Tryz.pinned (.plain (OpenSpec.upto recordStreamsSpec)) recordStreamsUptoCard

/-- THE SECOND FORM's CARD OF 'crumplelaw01.RecordStrings'. -/
def recordStringsUptoCard : Claim7 := { stood := { row := recordStringsUptoRow, standIns := [], harness := (true, "c1321f10b5f50efba70d5e991e6496f9976c995ec08a1ae8b18b9ad5b6b296a5"), looks := false }, kinds := [], alts := [], laidByText := true, laidKinds := [.data, .data, .data, .data, .data, .pinned], laidTests := true, laidLooks := .later }
def RecordStringsUptoCardSaid : Prop := Claim7.holds Tryz.pinned (.plain (OpenSpec.upto recordStringsSpec)) recordStringsUptoCard
end Rows
end Go.Proofs.YtphhcoiclkfimaaGreatDoor
