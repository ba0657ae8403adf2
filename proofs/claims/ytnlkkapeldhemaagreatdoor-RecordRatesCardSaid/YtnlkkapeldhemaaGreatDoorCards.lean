/-
  DERIVED. GIVEN WITH THE SEED: THE CARDS: each row of YtnlkkapeldhemaaGreatDoorRows.lean that lists a variable, with what it lists TIED to the program's text (the seventh form; the later family's looks); each row that meets fmt, with fmt's text TOLD by the authors' own Lean function (tested against real Go, not proved from fmt's source: count such statements apart). THE CARD IS WHAT COUNTS. Prove the row's statement (the work); the ties are given (YtnlkkapeldhemaaGreatDoorTie.lean); close each card by the builder's one call (the guide's Derived/Test/ToyasCard.lean, 'card_holds'). Laid BY PROGRAM, IN A SANDBOX (cutbox-door.mjs). By AI agents, Wed Nov 11 2026. No macro, syntax, notation, axiom, sorry.
-/
import Derived.Test.YtnlkkapeldhemaaGreatDoorRows
import GoSem.ClaimSeven
namespace Go.Proofs.YtnlkkapeldhemaaGreatDoor
namespace Rows

/-- THE TIED CARD OF 'crumplelaw01.RecordRings'. -/
def recordRingsCard : Claim7 := { stood := { row := recordRingsRow, standIns := [], harness := (true, "8f912f2e3ac9d31d644089f0de19e68c071e6a2486873daecdac7e992c0c653b"), looks := false }, kinds := [], alts := [], laidByText := true, laidKinds := [.data, .data, .data, .data], laidTests := true, laidLooks := .later }
def RecordRingsCardSaid : Prop := Claim7.holds Tryz.pinned (.plain (OpenSpec.ofChange recordRingsSpec)) recordRingsCard

/-- THE TIED CARD OF 'crumplelaw01.RecordTriggers'. -/
def recordTriggersCard : Claim7 := { stood := { row := recordTriggersRow, standIns := [], harness := (true, "8f912f2e3ac9d31d644089f0de19e68c071e6a2486873daecdac7e992c0c653b"), looks := false }, kinds := [], alts := [], laidByText := true, laidKinds := [.data, .data, .data, .data], laidTests := true, laidLooks := .later }
def RecordTriggersCardSaid : Prop := Claim7.holds Tryz.pinned (.plain (OpenSpec.ofChange recordTriggersSpec)) recordTriggersCard

/-- THE TIED CARD OF 'crumplelaw01.RecordRates'. -/
def recordRatesCard : Claim7 := { stood := { row := recordRatesRow, standIns := [], harness := (true, "8f912f2e3ac9d31d644089f0de19e68c071e6a2486873daecdac7e992c0c653b"), looks := false }, kinds := [], alts := [], laidByText := true, laidKinds := [.data, .data, .data, .data], laidTests := true, laidLooks := .later }
def RecordRatesCardSaid : Prop := Claim7.holds Tryz.pinned (.plain (OpenSpec.ofChange recordRatesSpec)) recordRatesCard

/-- THE TIED CARD OF 'crumplelaw01.RecordFrames'. -/
def recordFramesCard : Claim7 := { stood := { row := recordFramesRow, standIns := [], harness := (true, "8f912f2e3ac9d31d644089f0de19e68c071e6a2486873daecdac7e992c0c653b"), looks := false }, kinds := [], alts := [], laidByText := true, laidKinds := [.data, .data, .data, .data], laidTests := true, laidLooks := .later }
def RecordFramesCardSaid : Prop := Claim7.holds Tryz.pinned (.plain (OpenSpec.ofChange recordFramesSpec)) recordFramesCard

/-- THE TIED CARD OF 'crumplelaw01.RecordReceives'. -/
def recordReceivesCard : Claim7 := { stood := { row := recordReceivesRow, standIns := [], harness := (true, "8f912f2e3ac9d31d644089f0de19e68c071e6a2486873daecdac7e992c0c653b"), looks := false }, kinds := [], alts := [], laidByText := true, laidKinds := [.data, .data, .data, .data], laidTests := true, laidLooks := .later }
def RecordReceivesCardSaid : Prop := Claim7.holds Tryz.pinned (.plain (OpenSpec.ofChange recordReceivesSpec)) recordReceivesCard

/-- THE TIED CARD OF 'crumplelaw01.RecordStreams'. -/
def recordStreamsCard : Claim7 := { stood := { row := recordStreamsRow, standIns := [], harness := (true, "8f912f2e3ac9d31d644089f0de19e68c071e6a2486873daecdac7e992c0c653b"), looks := false }, kinds := [], alts := [], laidByText := true, laidKinds := [.data, .data, .data, .data], laidTests := true, laidLooks := .later }
def RecordStreamsCardSaid : Prop := Claim7.holds Tryz.pinned (.plain (OpenSpec.ofChange recordStreamsSpec)) recordStreamsCard

/-- THE TIED CARD OF 'crumplelaw01.RecordStrings'. -/
def recordStringsCard : Claim7 := { stood := { row := recordStringsRow, standIns := [], harness := (true, "8f912f2e3ac9d31d644089f0de19e68c071e6a2486873daecdac7e992c0c653b"), looks := false }, kinds := [], alts := [], laidByText := true, laidKinds := [.data, .data, .data, .data, .data, .pinned], laidTests := true, laidLooks := .later }
def RecordStringsCardSaid : Prop := Claim7.holds Tryz.pinned (.plain (OpenSpec.ofChange recordStringsSpec)) recordStringsCard

/-- THE TIED CARD OF 'crumplelaw01.RecordRuns'. -/
def recordRunsCard : Claim7 := { stood := { row := recordRunsRow, standIns := [], harness := (true, "8f912f2e3ac9d31d644089f0de19e68c071e6a2486873daecdac7e992c0c653b"), looks := false }, kinds := [], alts := [], laidByText := true, laidKinds := [.data, .data, .data, .data], laidTests := true, laidLooks := .later }
def RecordRunsCardSaid : Prop := Claim7.holds Tryz.pinned (.plain (OpenSpec.ofChange recordRunsSpec)) recordRunsCard

/-- THE TIED CARD OF 'crumplelaw01.RecordTurns'. -/
def recordTurnsCard : Claim7 := { stood := { row := recordTurnsRow, standIns := [], harness := (true, "8f912f2e3ac9d31d644089f0de19e68c071e6a2486873daecdac7e992c0c653b"), looks := false }, kinds := [], alts := [], laidByText := true, laidKinds := [.data, .data, .data, .data], laidTests := true, laidLooks := .later }
def RecordTurnsCardSaid : Prop := Claim7.holds Tryz.pinned (.plain (OpenSpec.ofChange recordTurnsSpec)) recordTurnsCard

/-- THE TIED CARD OF 'crumplelaw01.RecordFound'. -/
def recordFoundCard : Claim7 := { stood := { row := recordFoundRow, standIns := [], harness := (true, "8f912f2e3ac9d31d644089f0de19e68c071e6a2486873daecdac7e992c0c653b"), looks := false }, kinds := [], alts := [], laidByText := true, laidKinds := [.data, .data, .data, .data], laidTests := true, laidLooks := .later }
def RecordFoundCardSaid : Prop := Claim7.holds Tryz.pinned (.plain (OpenSpec.ofChange recordFoundSpec)) recordFoundCard

/-- THE TIED CARD OF 'crumplelaw01.RecordBack'. -/
def recordBackCard : Claim7 := { stood := { row := recordBackRow, standIns := [], harness := (true, "8f912f2e3ac9d31d644089f0de19e68c071e6a2486873daecdac7e992c0c653b"), looks := false }, kinds := [], alts := [], laidByText := true, laidKinds := [.data, .data, .data, .data, .data, .pinned], laidTests := true, laidLooks := .later }
def RecordBackCardSaid : Prop := Claim7.holds Tryz.pinned (.plain (OpenSpec.ofChange recordBackSpec)) recordBackCard

/-- THE SECOND FORM's CARD OF 'crumplelaw01.RecordRings'. -/
def recordRingsUptoCard : Claim7 := { stood := { row := recordRingsUptoRow, standIns := [], harness := (true, "8f912f2e3ac9d31d644089f0de19e68c071e6a2486873daecdac7e992c0c653b"), looks := false }, kinds := [], alts := [], laidByText := true, laidKinds := [.data, .data, .data, .data], laidTests := true, laidLooks := .later }
def RecordRingsUptoCardSaid : Prop := Claim7.holds Tryz.pinned (.plain (OpenSpec.upto recordRingsSpec)) recordRingsUptoCard

/-- THE SECOND FORM's CARD OF 'crumplelaw01.RecordTriggers'. -/
def recordTriggersUptoCard : Claim7 := { stood := { row := recordTriggersUptoRow, standIns := [], harness := (true, "8f912f2e3ac9d31d644089f0de19e68c071e6a2486873daecdac7e992c0c653b"), looks := false }, kinds := [], alts := [], laidByText := true, laidKinds := [.data, .data, .data, .data], laidTests := true, laidLooks := .later }
def RecordTriggersUptoCardSaid : Prop := Claim7.holds Tryz.pinned (.plain (OpenSpec.upto recordTriggersSpec)) recordTriggersUptoCard

/-- THE SECOND FORM's CARD OF 'crumplelaw01.RecordRates'. -/
def recordRatesUptoCard : Claim7 := { stood := { row := recordRatesUptoRow, standIns := [], harness := (true, "8f912f2e3ac9d31d644089f0de19e68c071e6a2486873daecdac7e992c0c653b"), looks := false }, kinds := [], alts := [], laidByText := true, laidKinds := [.data, .data, .data, .data], laidTests := true, laidLooks := .later }
def RecordRatesUptoCardSaid : Prop := Claim7.holds Tryz.pinned (.plain (OpenSpec.upto recordRatesSpec)) recordRatesUptoCard

/-- THE SECOND FORM's CARD OF 'crumplelaw01.RecordFrames'. -/
def recordFramesUptoCard : Claim7 := { stood := { row := recordFramesUptoRow, standIns := [], harness := (true, "8f912f2e3ac9d31d644089f0de19e68c071e6a2486873daecdac7e992c0c653b"), looks := false }, kinds := [], alts := [], laidByText := true, laidKinds := [.data, .data, .data, .data], laidTests := true, laidLooks := .later }
def RecordFramesUptoCardSaid : Prop := Claim7.holds Tryz.pinned (.plain (OpenSpec.upto recordFramesSpec)) recordFramesUptoCard

/-- THE SECOND FORM's CARD OF 'crumplelaw01.RecordReceives'. -/
def recordReceivesUptoCard : Claim7 := { stood := { row := recordReceivesUptoRow, standIns := [], harness := (true, "8f912f2e3ac9d31d644089f0de19e68c071e6a2486873daecdac7e992c0c653b"), looks := false }, kinds := [], alts := [], laidByText := true, laidKinds := [.data, .data, .data, .data], laidTests := true, laidLooks := .later }
def RecordReceivesUptoCardSaid : Prop := Claim7.holds Tryz.pinned (.plain (OpenSpec.upto recordReceivesSpec)) recordReceivesUptoCard

/-- THE SECOND FORM's CARD OF 'crumplelaw01.RecordStreams'. -/
def recordStreamsUptoCard : Claim7 := { stood := { row := recordStreamsUptoRow, standIns := [], harness := (true, "8f912f2e3ac9d31d644089f0de19e68c071e6a2486873daecdac7e992c0c653b"), looks := false }, kinds := [], alts := [], laidByText := true, laidKinds := [.data, .data, .data, .data], laidTests := true, laidLooks := .later }
def RecordStreamsUptoCardSaid : Prop := Claim7.holds Tryz.pinned (.plain (OpenSpec.upto recordStreamsSpec)) recordStreamsUptoCard

/-- THE SECOND FORM's CARD OF 'crumplelaw01.RecordStrings'. -/
def recordStringsUptoCard : Claim7 := { stood := { row := recordStringsUptoRow, standIns := [], harness := (true, "8f912f2e3ac9d31d644089f0de19e68c071e6a2486873daecdac7e992c0c653b"), looks := false }, kinds := [], alts := [], laidByText := true, laidKinds := [.data, .data, .data, .data, .data, .pinned], laidTests := true, laidLooks := .later }
def RecordStringsUptoCardSaid : Prop := Claim7.holds Tryz.pinned (.plain (OpenSpec.upto recordStringsSpec)) recordStringsUptoCard

/-- THE SECOND FORM's CARD OF 'crumplelaw01.RecordRuns'. -/
def recordRunsUptoCard : Claim7 := { stood := { row := recordRunsUptoRow, standIns := [], harness := (true, "8f912f2e3ac9d31d644089f0de19e68c071e6a2486873daecdac7e992c0c653b"), looks := false }, kinds := [], alts := [], laidByText := true, laidKinds := [.data, .data, .data, .data], laidTests := true, laidLooks := .later }
def RecordRunsUptoCardSaid : Prop := Claim7.holds Tryz.pinned (.plain (OpenSpec.upto recordRunsSpec)) recordRunsUptoCard

/-- THE SECOND FORM's CARD OF 'crumplelaw01.RecordTurns'. -/
def recordTurnsUptoCard : Claim7 := { stood := { row := recordTurnsUptoRow, standIns := [], harness := (true, "8f912f2e3ac9d31d644089f0de19e68c071e6a2486873daecdac7e992c0c653b"), looks := false }, kinds := [], alts := [], laidByText := true, laidKinds := [.data, .data, .data, .data], laidTests := true, laidLooks := .later }
def RecordTurnsUptoCardSaid : Prop := Claim7.holds Tryz.pinned (.plain (OpenSpec.upto recordTurnsSpec)) recordTurnsUptoCard

/-- THE SECOND FORM's CARD OF 'crumplelaw01.RecordFound'. -/
def recordFoundUptoCard : Claim7 := { stood := { row := recordFoundUptoRow, standIns := [], harness := (true, "8f912f2e3ac9d31d644089f0de19e68c071e6a2486873daecdac7e992c0c653b"), looks := false }, kinds := [], alts := [], laidByText := true, laidKinds := [.data, .data, .data, .data], laidTests := true, laidLooks := .later }
def RecordFoundUptoCardSaid : Prop := Claim7.holds Tryz.pinned (.plain (OpenSpec.upto recordFoundSpec)) recordFoundUptoCard

/-- THE SECOND FORM's CARD OF 'crumplelaw01.RecordBack'. -/
def recordBackUptoCard : Claim7 := { stood := { row := recordBackUptoRow, standIns := [], harness := (true, "8f912f2e3ac9d31d644089f0de19e68c071e6a2486873daecdac7e992c0c653b"), looks := false }, kinds := [], alts := [], laidByText := true, laidKinds := [.data, .data, .data, .data, .data, .pinned], laidTests := true, laidLooks := .later }
def RecordBackUptoCardSaid : Prop := Claim7.holds Tryz.pinned (.plain (OpenSpec.upto recordBackSpec)) recordBackUptoCard
end Rows
end Go.Proofs.YtnlkkapeldhemaaGreatDoor
