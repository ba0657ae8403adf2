/-
  DERIVED. GIVEN WITH THE SEED: THE CARDS: each row of YtpdpaifagakipaaGreatDoorRows.lean that lists a variable, with what it lists TIED to the program's text (the seventh form; the later family's looks); each row that meets fmt, with fmt's text TOLD by the authors' own Lean function (tested against real Go, not proved from fmt's source: count such statements apart). THE CARD IS WHAT COUNTS. Prove the row's statement (the work); the ties are given (YtpdpaifagakipaaGreatDoorTie.lean); close each card by the builder's one call (the guide's Derived/Test/ToyasCard.lean, 'card_holds'). Laid BY PROGRAM, IN A SANDBOX (cutbox-door.mjs). By AI agents, Wed Nov 11 2026. No macro, syntax, notation, axiom, sorry.
-/
import Derived.Test.YtpdpaifagakipaaGreatDoorRows
import GoSem.ClaimSeven
namespace Go.Proofs.YtpdpaifagakipaaGreatDoor
namespace Rows

/-- THE TIED CARD OF 'crumplelaw01.RecordSamples'. -/
def recordSamplesCard : Claim7 := { stood := { row := recordSamplesRow, standIns := [], harness := (true, "be9e85dd4010f6af17ad86e8e0e19dc1d42ff385861a406af7196da3b49e9585"), looks := false }, kinds := [], alts := [], laidByText := true, laidKinds := [.data, .data, .data, .data], laidTests := true, laidLooks := .later }
def RecordSamplesCardSaid : Prop := Claim7.holds Tryz.pinned (.plain (OpenSpec.ofChange recordSamplesSpec)) recordSamplesCard

/-- THE TIED CARD OF 'crumplelaw01.RecordRings'. -/
def recordRingsCard : Claim7 := { stood := { row := recordRingsRow, standIns := [], harness := (true, "be9e85dd4010f6af17ad86e8e0e19dc1d42ff385861a406af7196da3b49e9585"), looks := false }, kinds := [], alts := [], laidByText := true, laidKinds := [.data, .data, .data, .data], laidTests := true, laidLooks := .later }
def RecordRingsCardSaid : Prop := Claim7.holds Tryz.pinned (.plain (OpenSpec.ofChange recordRingsSpec)) recordRingsCard

/-- THE TIED CARD OF 'crumplelaw01.RecordTriggers'. -/
def recordTriggersCard : Claim7 := { stood := { row := recordTriggersRow, standIns := [], harness := (true, "be9e85dd4010f6af17ad86e8e0e19dc1d42ff385861a406af7196da3b49e9585"), looks := false }, kinds := [], alts := [], laidByText := true, laidKinds := [.data, .data, .data, .data], laidTests := true, laidLooks := .later }
def RecordTriggersCardSaid : Prop := Claim7.holds Tryz.pinned (.plain (OpenSpec.ofChange recordTriggersSpec)) recordTriggersCard

/-- THE TIED CARD OF 'crumplelaw01.RecordSums'. -/
def recordSumsCard : Claim7 := { stood := { row := recordSumsRow, standIns := [], harness := (true, "be9e85dd4010f6af17ad86e8e0e19dc1d42ff385861a406af7196da3b49e9585"), looks := false }, kinds := [], alts := [], laidByText := true, laidKinds := [.data, .data, .data, .data], laidTests := true, laidLooks := .later }
def RecordSumsCardSaid : Prop := Claim7.holds Tryz.pinned (.plain (OpenSpec.ofChange recordSumsSpec)) recordSumsCard

/-- THE TIED CARD OF 'crumplelaw01.RecordRates'. -/
def recordRatesCard : Claim7 := { stood := { row := recordRatesRow, standIns := [], harness := (true, "be9e85dd4010f6af17ad86e8e0e19dc1d42ff385861a406af7196da3b49e9585"), looks := false }, kinds := [], alts := [], laidByText := true, laidKinds := [.data, .data, .data, .data], laidTests := true, laidLooks := .later }
def RecordRatesCardSaid : Prop := Claim7.holds Tryz.pinned (.plain (OpenSpec.ofChange recordRatesSpec)) recordRatesCard

/-- THE SECOND FORM's CARD OF 'crumplelaw01.RecordSamples'. -/
def recordSamplesUptoCard : Claim7 := { stood := { row := recordSamplesUptoRow, standIns := [], harness := (true, "be9e85dd4010f6af17ad86e8e0e19dc1d42ff385861a406af7196da3b49e9585"), looks := false }, kinds := [], alts := [], laidByText := true, laidKinds := [.data, .data, .data, .data], laidTests := true, laidLooks := .later }
def RecordSamplesUptoCardSaid : Prop := Claim7.holds Tryz.pinned (.plain (OpenSpec.upto recordSamplesSpec)) recordSamplesUptoCard

/-- THE SECOND FORM's CARD OF 'crumplelaw01.RecordRings'. -/
def recordRingsUptoCard : Claim7 := { stood := { row := recordRingsUptoRow, standIns := [], harness := (true, "be9e85dd4010f6af17ad86e8e0e19dc1d42ff385861a406af7196da3b49e9585"), looks := false }, kinds := [], alts := [], laidByText := true, laidKinds := [.data, .data, .data, .data], laidTests := true, laidLooks := .later }
def RecordRingsUptoCardSaid : Prop := Claim7.holds Tryz.pinned (.plain (OpenSpec.upto recordRingsSpec)) recordRingsUptoCard

/-- THE SECOND FORM's CARD OF 'crumplelaw01.RecordTriggers'. -/
def recordTriggersUptoCard : Claim7 := { stood := { row := recordTriggersUptoRow, standIns := [], harness := (true, "be9e85dd4010f6af17ad86e8e0e19dc1d42ff385861a406af7196da3b49e9585"), looks := false }, kinds := [], alts := [], laidByText := true, laidKinds := [.data, .data, .data, .data], laidTests := true, laidLooks := .later }
def RecordTriggersUptoCardSaid : Prop := Claim7.holds Tryz.pinned (.plain (OpenSpec.upto recordTriggersSpec)) recordTriggersUptoCard

/-- THE SECOND FORM's CARD OF 'crumplelaw01.RecordSums'. -/
def recordSumsUptoCard : Claim7 := { stood := { row := recordSumsUptoRow, standIns := [], harness := (true, "be9e85dd4010f6af17ad86e8e0e19dc1d42ff385861a406af7196da3b49e9585"), looks := false }, kinds := [], alts := [], laidByText := true, laidKinds := [.data, .data, .data, .data], laidTests := true, laidLooks := .later }
def RecordSumsUptoCardSaid : Prop := Claim7.holds Tryz.pinned (.plain (OpenSpec.upto recordSumsSpec)) recordSumsUptoCard

/-- THE SECOND FORM's CARD OF 'crumplelaw01.RecordRates'. -/
def recordRatesUptoCard : Claim7 := { stood := { row := recordRatesUptoRow, standIns := [], harness := (true, "be9e85dd4010f6af17ad86e8e0e19dc1d42ff385861a406af7196da3b49e9585"), looks := false }, kinds := [], alts := [], laidByText := true, laidKinds := [.data, .data, .data, .data], laidTests := true, laidLooks := .later }
def RecordRatesUptoCardSaid : Prop := Claim7.holds Tryz.pinned (.plain (OpenSpec.upto recordRatesSpec)) recordRatesUptoCard
end Rows
end Go.Proofs.YtpdpaifagakipaaGreatDoor
