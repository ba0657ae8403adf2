/-
  DERIVED. GIVEN WITH THE SEED: THE CARDS: each row of YtjimnbmnkfdfcaaGreatDoorRows.lean that lists a variable, with what it lists TIED to the program's text (the seventh form; the later family's looks); each row that meets fmt, with fmt's text TOLD by the authors' own Lean function (tested against real Go, not proved from fmt's source: count such statements apart). THE CARD IS WHAT COUNTS. Prove the row's statement (the work); the ties are given (YtjimnbmnkfdfcaaGreatDoorTie.lean); close each card by the builder's one call (the guide's Derived/Test/ToyasCard.lean, 'card_holds'). Laid BY PROGRAM, IN A SANDBOX (cutbox-door.mjs). By AI agents, Wed Nov 11 2026. No macro, syntax, notation, axiom, sorry.
-/
import Derived.Test.YtjimnbmnkfdfcaaGreatDoorRows
import GoSem.ClaimSeven
namespace Go.Proofs.YtjimnbmnkfdfcaaGreatDoor
namespace Rows

/-- THE TIED CARD OF 'crumplelaw02.ChannelKernels'. -/
def channelKernelsCard : Claim7 := { stood := { row := channelKernelsRow, standIns := [], harness := (true, "4df9cdac1fdd26b3762bc4c28d52b4b02010152a3bb5d958b5dc3dcde6f781ca"), looks := false }, kinds := [], alts := [], laidByText := true, laidKinds := [.data, .data, .data, .data], laidTests := true, laidLooks := .later }
def ChannelKernelsCardSaid : Prop := Claim7.holds Tryz.pinned (.plain (OpenSpec.ofChange channelKernelsSpec)) channelKernelsCard

/-- THE TIED CARD OF 'crumplelaw02.ChannelEncloses'. -/
def channelEnclosesCard : Claim7 := { stood := { row := channelEnclosesRow, standIns := [], harness := (true, "4df9cdac1fdd26b3762bc4c28d52b4b02010152a3bb5d958b5dc3dcde6f781ca"), looks := false }, kinds := [], alts := [], laidByText := true, laidKinds := [.data, .data, .data, .data], laidTests := true, laidLooks := .later }
def ChannelEnclosesCardSaid : Prop := Claim7.holds Tryz.pinned (.plain (OpenSpec.ofChange channelEnclosesSpec)) channelEnclosesCard

/-- THE TIED CARD OF 'crumplelaw02.ChannelValues'. -/
def channelValuesCard : Claim7 := { stood := { row := channelValuesRow, standIns := [], harness := (true, "4df9cdac1fdd26b3762bc4c28d52b4b02010152a3bb5d958b5dc3dcde6f781ca"), looks := false }, kinds := [], alts := [], laidByText := true, laidKinds := [.data, .data, .data, .data], laidTests := true, laidLooks := .later }
def ChannelValuesCardSaid : Prop := Claim7.holds Tryz.pinned (.plain (OpenSpec.ofChange channelValuesSpec)) channelValuesCard

/-- THE TIED CARD OF 'crumplelaw02.ChannelSums'. -/
def channelSumsCard : Claim7 := { stood := { row := channelSumsRow, standIns := [], harness := (true, "4df9cdac1fdd26b3762bc4c28d52b4b02010152a3bb5d958b5dc3dcde6f781ca"), looks := false }, kinds := [], alts := [], laidByText := true, laidKinds := [.data, .data, .data, .data], laidTests := true, laidLooks := .later }
def ChannelSumsCardSaid : Prop := Claim7.holds Tryz.pinned (.plain (OpenSpec.ofChange channelSumsSpec)) channelSumsCard

/-- THE SECOND FORM's CARD OF 'crumplelaw02.ChannelKernels'. -/
def channelKernelsUptoCard : Claim7 := { stood := { row := channelKernelsUptoRow, standIns := [], harness := (true, "4df9cdac1fdd26b3762bc4c28d52b4b02010152a3bb5d958b5dc3dcde6f781ca"), looks := false }, kinds := [], alts := [], laidByText := true, laidKinds := [.data, .data, .data, .data], laidTests := true, laidLooks := .later }
def ChannelKernelsUptoCardSaid : Prop := Claim7.holds Tryz.pinned (.plain (OpenSpec.upto channelKernelsSpec)) channelKernelsUptoCard

/-- THE SECOND FORM's CARD OF 'crumplelaw02.ChannelEncloses'. -/
def channelEnclosesUptoCard : Claim7 := { stood := { row := channelEnclosesUptoRow, standIns := [], harness := (true, "4df9cdac1fdd26b3762bc4c28d52b4b02010152a3bb5d958b5dc3dcde6f781ca"), looks := false }, kinds := [], alts := [], laidByText := true, laidKinds := [.data, .data, .data, .data], laidTests := true, laidLooks := .later }
def ChannelEnclosesUptoCardSaid : Prop := Claim7.holds Tryz.pinned (.plain (OpenSpec.upto channelEnclosesSpec)) channelEnclosesUptoCard

/-- THE SECOND FORM's CARD OF 'crumplelaw02.ChannelValues'. -/
def channelValuesUptoCard : Claim7 := { stood := { row := channelValuesUptoRow, standIns := [], harness := (true, "4df9cdac1fdd26b3762bc4c28d52b4b02010152a3bb5d958b5dc3dcde6f781ca"), looks := false }, kinds := [], alts := [], laidByText := true, laidKinds := [.data, .data, .data, .data], laidTests := true, laidLooks := .later }
def ChannelValuesUptoCardSaid : Prop := Claim7.holds Tryz.pinned (.plain (OpenSpec.upto channelValuesSpec)) channelValuesUptoCard

/-- THE SECOND FORM's CARD OF 'crumplelaw02.ChannelSums'. -/
def channelSumsUptoCard : Claim7 := { stood := { row := channelSumsUptoRow, standIns := [], harness := (true, "4df9cdac1fdd26b3762bc4c28d52b4b02010152a3bb5d958b5dc3dcde6f781ca"), looks := false }, kinds := [], alts := [], laidByText := true, laidKinds := [.data, .data, .data, .data], laidTests := true, laidLooks := .later }
def ChannelSumsUptoCardSaid : Prop := Claim7.holds Tryz.pinned (.plain (OpenSpec.upto channelSumsSpec)) channelSumsUptoCard
end Rows
end Go.Proofs.YtjimnbmnkfdfcaaGreatDoor
