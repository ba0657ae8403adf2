/-
  DERIVED. GIVEN WITH THE SEED: THE CARDS: each row of YtmfepbkpojafnaaGreatDoorRows.lean that lists a variable, with what it lists TIED to the program's text (the seventh form; the later family's looks); each row that meets fmt, with fmt's text TOLD by the authors' own Lean function (tested against real Go, not proved from fmt's source: count such statements apart). THE CARD IS WHAT COUNTS. Prove the row's statement (the work); the ties are given (YtmfepbkpojafnaaGreatDoorTie.lean); close each card by the builder's one call (the guide's Derived/Test/ToyasCard.lean, 'card_holds'). Laid BY PROGRAM, IN A SANDBOX (cutbox-door.mjs). By AI agents, Wed Nov 11 2026. No macro, syntax, notation, axiom, sorry.
-/
import Derived.Test.YtmfepbkpojafnaaGreatDoorRows
import GoSem.ClaimSeven
namespace Go.Proofs.YtmfepbkpojafnaaGreatDoor
namespace Rows

/-- THE TIED CARD OF 'crumplelaw01.RecordNumbers'. -/
def recordNumbersCard : Claim7 := { stood := { row := recordNumbersRow, standIns := [], harness := (true, "7138b07f49f82c43189fbc9a1096bc4c2ecdaa9394925c4fcb73c7f0f5ed51ce"), looks := false }, kinds := [], alts := [], laidByText := true, laidKinds := [.data, .data, .data, .data], laidTests := true, laidLooks := .later }
def RecordNumbersCardSaid : Prop := Claim7.holds Tryz.pinned (.plain (OpenSpec.ofChange recordNumbersSpec)) recordNumbersCard

/-- THE TIED CARD OF 'crumplelaw01.RecordSamples'. -/
def recordSamplesCard : Claim7 := { stood := { row := recordSamplesRow, standIns := [], harness := (true, "7138b07f49f82c43189fbc9a1096bc4c2ecdaa9394925c4fcb73c7f0f5ed51ce"), looks := false }, kinds := [], alts := [], laidByText := true, laidKinds := [.data, .data, .data, .data], laidTests := true, laidLooks := .later }
def RecordSamplesCardSaid : Prop := Claim7.holds Tryz.pinned (.plain (OpenSpec.ofChange recordSamplesSpec)) recordSamplesCard

/-- THE TIED CARD OF 'crumplelaw01.RecordRings'. -/
def recordRingsCard : Claim7 := { stood := { row := recordRingsRow, standIns := [], harness := (true, "7138b07f49f82c43189fbc9a1096bc4c2ecdaa9394925c4fcb73c7f0f5ed51ce"), looks := false }, kinds := [], alts := [], laidByText := true, laidKinds := [.data, .data, .data, .data], laidTests := true, laidLooks := .later }
def RecordRingsCardSaid : Prop := Claim7.holds Tryz.pinned (.plain (OpenSpec.ofChange recordRingsSpec)) recordRingsCard

/-- THE TIED CARD OF 'crumplelaw01.RecordTriggers'. -/
def recordTriggersCard : Claim7 := { stood := { row := recordTriggersRow, standIns := [], harness := (true, "7138b07f49f82c43189fbc9a1096bc4c2ecdaa9394925c4fcb73c7f0f5ed51ce"), looks := false }, kinds := [], alts := [], laidByText := true, laidKinds := [.data, .data, .data, .data], laidTests := true, laidLooks := .later }
def RecordTriggersCardSaid : Prop := Claim7.holds Tryz.pinned (.plain (OpenSpec.ofChange recordTriggersSpec)) recordTriggersCard

/-- THE TIED CARD OF 'crumplelaw01.RecordSums'. -/
def recordSumsCard : Claim7 := { stood := { row := recordSumsRow, standIns := [], harness := (true, "7138b07f49f82c43189fbc9a1096bc4c2ecdaa9394925c4fcb73c7f0f5ed51ce"), looks := false }, kinds := [], alts := [], laidByText := true, laidKinds := [.data, .data, .data, .data], laidTests := true, laidLooks := .later }
def RecordSumsCardSaid : Prop := Claim7.holds Tryz.pinned (.plain (OpenSpec.ofChange recordSumsSpec)) recordSumsCard

/-- THE TIED CARD OF 'crumplelaw01.RecordRates'. -/
def recordRatesCard : Claim7 := { stood := { row := recordRatesRow, standIns := [], harness := (true, "7138b07f49f82c43189fbc9a1096bc4c2ecdaa9394925c4fcb73c7f0f5ed51ce"), looks := false }, kinds := [], alts := [], laidByText := true, laidKinds := [.data, .data, .data, .data], laidTests := true, laidLooks := .later }
def RecordRatesCardSaid : Prop := Claim7.holds Tryz.pinned (.plain (OpenSpec.ofChange recordRatesSpec)) recordRatesCard

/-- THE SECOND FORM's CARD OF 'crumplelaw01.RecordNumbers'. -/
def recordNumbersUptoCard : Claim7 := { stood := { row := recordNumbersUptoRow, standIns := [], harness := (true, "7138b07f49f82c43189fbc9a1096bc4c2ecdaa9394925c4fcb73c7f0f5ed51ce"), looks := false }, kinds := [], alts := [], laidByText := true, laidKinds := [.data, .data, .data, .data], laidTests := true, laidLooks := .later }
def RecordNumbersUptoCardSaid : Prop := Claim7.holds Tryz.pinned (.plain (OpenSpec.upto recordNumbersSpec)) recordNumbersUptoCard

/-- THE SECOND FORM's CARD OF 'crumplelaw01.RecordSamples'. -/
def recordSamplesUptoCard : Claim7 := { stood := { row := recordSamplesUptoRow, standIns := [], harness := (true, "7138b07f49f82c43189fbc9a1096bc4c2ecdaa9394925c4fcb73c7f0f5ed51ce"), looks := false }, kinds := [], alts := [], laidByText := true, laidKinds := [.data, .data, .data, .data], laidTests := true, laidLooks := .later }
def RecordSamplesUptoCardSaid : Prop := Claim7.holds Tryz.pinned (.plain (OpenSpec.upto recordSamplesSpec)) recordSamplesUptoCard

/-- THE SECOND FORM's CARD OF 'crumplelaw01.RecordRings'. -/
def recordRingsUptoCard : Claim7 := { stood := { row := recordRingsUptoRow, standIns := [], harness := (true, "7138b07f49f82c43189fbc9a1096bc4c2ecdaa9394925c4fcb73c7f0f5ed51ce"), looks := false }, kinds := [], alts := [], laidByText := true, laidKinds := [.data, .data, .data, .data], laidTests := true, laidLooks := .later }
def RecordRingsUptoCardSaid : Prop := Claim7.holds Tryz.pinned (.plain (OpenSpec.upto recordRingsSpec)) recordRingsUptoCard

/-- THE SECOND FORM's CARD OF 'crumplelaw01.RecordTriggers'. -/
def recordTriggersUptoCard : Claim7 := { stood := { row := recordTriggersUptoRow, standIns := [], harness := (true, "7138b07f49f82c43189fbc9a1096bc4c2ecdaa9394925c4fcb73c7f0f5ed51ce"), looks := false }, kinds := [], alts := [], laidByText := true, laidKinds := [.data, .data, .data, .data], laidTests := true, laidLooks := .later }
def RecordTriggersUptoCardSaid : Prop := Claim7.holds Tryz.pinned (.plain (OpenSpec.upto recordTriggersSpec)) recordTriggersUptoCard

/-- THE SECOND FORM's CARD OF 'crumplelaw01.RecordSums'. -/
def recordSumsUptoCard : Claim7 := { stood := { row := recordSumsUptoRow, standIns := [], harness := (true, "7138b07f49f82c43189fbc9a1096bc4c2ecdaa9394925c4fcb73c7f0f5ed51ce"), looks := false }, kinds := [], alts := [], laidByText := true, laidKinds := [.data, .data, .data, .data], laidTests := true, laidLooks := .later }
def RecordSumsUptoCardSaid : Prop := Claim7.holds Tryz.pinned (.plain (OpenSpec.upto recordSumsSpec)) recordSumsUptoCard

/-- THE SECOND FORM's CARD OF 'crumplelaw01.RecordRates'. -/
def recordRatesUptoCard : Claim7 := { stood := { row := recordRatesUptoRow, standIns := [], harness := (true, "7138b07f49f82c43189fbc9a1096bc4c2ecdaa9394925c4fcb73c7f0f5ed51ce"), looks := false }, kinds := [], alts := [], laidByText := true, laidKinds := [.data, .data, .data, .data], laidTests := true, laidLooks := .later }
def RecordRatesUptoCardSaid : Prop := Claim7.holds Tryz.pinned (.plain (OpenSpec.upto recordRatesSpec)) recordRatesUptoCard
end Rows
end Go.Proofs.YtmfepbkpojafnaaGreatDoor
