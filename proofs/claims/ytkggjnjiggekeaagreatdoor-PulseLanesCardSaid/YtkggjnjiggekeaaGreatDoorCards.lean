/-
  DERIVED. GIVEN WITH THE SEED: THE CARDS: each row of YtkggjnjiggekeaaGreatDoorRows.lean that lists a variable, with what it lists TIED to the program's text (the seventh form; the later family's looks); each row that meets fmt, with fmt's text TOLD by the authors' own Lean function (tested against real Go, not proved from fmt's source: count such statements apart). THE CARD IS WHAT COUNTS. Prove the row's statement (the work); the ties are given (YtkggjnjiggekeaaGreatDoorTie.lean); close each card by the builder's one call (the guide's Derived/Test/ToyasCard.lean, 'card_holds'). Laid BY PROGRAM, IN A SANDBOX (cutbox-door.mjs). By AI agents, Wed Nov 11 2026. No macro, syntax, notation, axiom, sorry.
-/
import Derived.Test.YtkggjnjiggekeaaGreatDoorRows
import GoSem.ClaimSeven
namespace Go.Proofs.YtkggjnjiggekeaaGreatDoor
namespace Rows

/-- THE TIED CARD OF 'crumplelaw08.PulseRuns'. -/
def pulseRunsCard : Claim7 := { stood := { row := pulseRunsRow, standIns := [], harness := (true, "544c792590d0307e85ef2e5cf0619c791fc557507dd7b83e3c3ec4543b81c922"), looks := false }, kinds := [], alts := [], laidByText := true, laidKinds := [.data, .data, .data, .data, .data, .pinned], laidTests := true, laidLooks := .later }
def PulseRunsCardSaid : Prop := Claim7.holds Tryz.pinned (.plain (OpenSpec.ofChange pulseRunsSpec)) pulseRunsCard

/-- THE TIED CARD OF 'crumplelaw08.PulseLanes'. -/
def pulseLanesCard : Claim7 := { stood := { row := pulseLanesRow, standIns := [], harness := (true, "544c792590d0307e85ef2e5cf0619c791fc557507dd7b83e3c3ec4543b81c922"), looks := false }, kinds := [], alts := [], laidByText := true, laidKinds := [.data, .data, .data, .data, .data, .pinned], laidTests := true, laidLooks := .later }
def PulseLanesCardSaid : Prop := Claim7.holds Tryz.pinned (.plain (OpenSpec.ofChange pulseLanesSpec)) pulseLanesCard

/-- THE TIED CARD OF 'crumplelaw08.PulseLearns'. -/
def pulseLearnsCard : Claim7 := { stood := { row := pulseLearnsRow, standIns := [], harness := (true, "544c792590d0307e85ef2e5cf0619c791fc557507dd7b83e3c3ec4543b81c922"), looks := false }, kinds := [], alts := [], laidByText := true, laidKinds := [.data, .data, .data, .data, .data, .pinned], laidTests := true, laidLooks := .later }
def PulseLearnsCardSaid : Prop := Claim7.holds Tryz.pinned (.plain (OpenSpec.ofChange pulseLearnsSpec)) pulseLearnsCard

/-- THE TIED CARD OF 'crumplelaw08.PulseBelow'. -/
def pulseBelowCard : Claim7 := { stood := { row := pulseBelowRow, standIns := [], harness := (true, "544c792590d0307e85ef2e5cf0619c791fc557507dd7b83e3c3ec4543b81c922"), looks := false }, kinds := [], alts := [], laidByText := true, laidKinds := [.data, .data, .data, .data, .data, .pinned], laidTests := true, laidLooks := .later }
def PulseBelowCardSaid : Prop := Claim7.holds Tryz.pinned (.plain (OpenSpec.ofChange pulseBelowSpec)) pulseBelowCard

/-- THE SECOND FORM's CARD OF 'crumplelaw08.PulseRuns'. -/
def pulseRunsUptoCard : Claim7 := { stood := { row := pulseRunsUptoRow, standIns := [], harness := (true, "544c792590d0307e85ef2e5cf0619c791fc557507dd7b83e3c3ec4543b81c922"), looks := false }, kinds := [], alts := [], laidByText := true, laidKinds := [.data, .data, .data, .data, .data, .pinned], laidTests := true, laidLooks := .later }
def PulseRunsUptoCardSaid : Prop := Claim7.holds Tryz.pinned (.plain (OpenSpec.upto pulseRunsSpec)) pulseRunsUptoCard

/-- THE SECOND FORM's CARD OF 'crumplelaw08.PulseLanes'. -/
def pulseLanesUptoCard : Claim7 := { stood := { row := pulseLanesUptoRow, standIns := [], harness := (true, "544c792590d0307e85ef2e5cf0619c791fc557507dd7b83e3c3ec4543b81c922"), looks := false }, kinds := [], alts := [], laidByText := true, laidKinds := [.data, .data, .data, .data, .data, .pinned], laidTests := true, laidLooks := .later }
def PulseLanesUptoCardSaid : Prop := Claim7.holds Tryz.pinned (.plain (OpenSpec.upto pulseLanesSpec)) pulseLanesUptoCard

/-- THE SECOND FORM's CARD OF 'crumplelaw08.PulseLearns'. -/
def pulseLearnsUptoCard : Claim7 := { stood := { row := pulseLearnsUptoRow, standIns := [], harness := (true, "544c792590d0307e85ef2e5cf0619c791fc557507dd7b83e3c3ec4543b81c922"), looks := false }, kinds := [], alts := [], laidByText := true, laidKinds := [.data, .data, .data, .data, .data, .pinned], laidTests := true, laidLooks := .later }
def PulseLearnsUptoCardSaid : Prop := Claim7.holds Tryz.pinned (.plain (OpenSpec.upto pulseLearnsSpec)) pulseLearnsUptoCard

/-- THE SECOND FORM's CARD OF 'crumplelaw08.PulseBelow'. -/
def pulseBelowUptoCard : Claim7 := { stood := { row := pulseBelowUptoRow, standIns := [], harness := (true, "544c792590d0307e85ef2e5cf0619c791fc557507dd7b83e3c3ec4543b81c922"), looks := false }, kinds := [], alts := [], laidByText := true, laidKinds := [.data, .data, .data, .data, .data, .pinned], laidTests := true, laidLooks := .later }
def PulseBelowUptoCardSaid : Prop := Claim7.holds Tryz.pinned (.plain (OpenSpec.upto pulseBelowSpec)) pulseBelowUptoCard
end Rows
end Go.Proofs.YtkggjnjiggekeaaGreatDoor
