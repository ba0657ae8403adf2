/-
  DERIVED. GIVEN WITH THE SEED: THE CARDS: each row of YtojfhklkcelblaaGreatDoorRows.lean that lists a variable, with what it lists TIED to the program's text (the seventh form; the later family's looks); each row that meets fmt, with fmt's text TOLD by the authors' own Lean function (tested against real Go, not proved from fmt's source: count such statements apart). THE CARD IS WHAT COUNTS. Prove the row's statement (the work); the ties are given (YtojfhklkcelblaaGreatDoorTie.lean); close each card by the builder's one call (the guide's Derived/Test/ToyasCard.lean, 'card_holds'). Laid BY PROGRAM, IN A SANDBOX (cutbox-door.mjs). By AI agents, Wed Nov 11 2026. No macro, syntax, notation, axiom, sorry.
-/
import Derived.Test.YtojfhklkcelblaaGreatDoorRows
import GoSem.ClaimSeven
namespace Go.Proofs.YtojfhklkcelblaaGreatDoor
namespace Rows

/-- THE TIED CARD OF 'crumplelaw02.ChannelCodes'. -/
def channelCodesCard : Claim7 := { stood := { row := channelCodesRow, standIns := [], harness := (true, "d8b40057f512c171540bdd48190064a344cc2f1d767e443de52feafa4ebdf47a"), looks := false }, kinds := [], alts := [], laidByText := true, laidKinds := [.data, .data, .data, .data], laidTests := true, laidLooks := .later }
def ChannelCodesCardSaid : Prop := Claim7.holds Tryz.pinned (.plain (OpenSpec.ofChange channelCodesSpec)) channelCodesCard

/-- THE TIED CARD OF 'crumplelaw02.ChannelSensors'. -/
def channelSensorsCard : Claim7 := { stood := { row := channelSensorsRow, standIns := [], harness := (true, "d8b40057f512c171540bdd48190064a344cc2f1d767e443de52feafa4ebdf47a"), looks := false }, kinds := [], alts := [], laidByText := true, laidKinds := [.data, .data, .data, .data], laidTests := true, laidLooks := .later }
def ChannelSensorsCardSaid : Prop := Claim7.holds Tryz.pinned (.plain (OpenSpec.ofChange channelSensorsSpec)) channelSensorsCard

/-- THE SECOND FORM's CARD OF 'crumplelaw02.ChannelCodes'. -/
def channelCodesUptoCard : Claim7 := { stood := { row := channelCodesUptoRow, standIns := [], harness := (true, "d8b40057f512c171540bdd48190064a344cc2f1d767e443de52feafa4ebdf47a"), looks := false }, kinds := [], alts := [], laidByText := true, laidKinds := [.data, .data, .data, .data], laidTests := true, laidLooks := .later }
def ChannelCodesUptoCardSaid : Prop := Claim7.holds Tryz.pinned (.plain (OpenSpec.upto channelCodesSpec)) channelCodesUptoCard

/-- THE SECOND FORM's CARD OF 'crumplelaw02.ChannelSensors'. -/
def channelSensorsUptoCard : Claim7 := { stood := { row := channelSensorsUptoRow, standIns := [], harness := (true, "d8b40057f512c171540bdd48190064a344cc2f1d767e443de52feafa4ebdf47a"), looks := false }, kinds := [], alts := [], laidByText := true, laidKinds := [.data, .data, .data, .data], laidTests := true, laidLooks := .later }
def ChannelSensorsUptoCardSaid : Prop := Claim7.holds Tryz.pinned (.plain (OpenSpec.upto channelSensorsSpec)) channelSensorsUptoCard
end Rows
end Go.Proofs.YtojfhklkcelblaaGreatDoor
