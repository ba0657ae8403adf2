/-
  DERIVED. GIVEN WITH THE SEED: THE CARDS: each row of YthgojmebbhpbbaaGreatDoorRows.lean that lists a variable, with what it lists TIED to the program's text (the seventh form; the later family's looks); each row that meets fmt, with fmt's text TOLD by the authors' own Lean function (tested against real Go, not proved from fmt's source: count such statements apart). THE CARD IS WHAT COUNTS. Prove the row's statement (the work); the ties are given (YthgojmebbhpbbaaGreatDoorTie.lean); close each card by the builder's one call (the guide's Derived/Test/ToyasCard.lean, 'card_holds'). Laid BY PROGRAM, IN A SANDBOX (cutbox-door.mjs). By AI agents, Wed Nov 11 2026. No macro, syntax, notation, axiom, sorry.
-/
import Derived.Test.YthgojmebbhpbbaaGreatDoorRows
import GoSem.ClaimSeven
namespace Go.Proofs.YthgojmebbhpbbaaGreatDoor
namespace Rows

/-- THE TIED CARD OF 'crumplelaw02.ChannelKernels'. -/
def channelKernelsCard : Claim7 := { stood := { row := channelKernelsRow, standIns := [], harness := (true, "95a951a2b3f08134bbd5793e1f3dcd8bb216aa7d507413a1c48515f8e7c0951d"), looks := false }, kinds := [], alts := [], laidByText := true, laidKinds := [.data, .data, .data, .data], laidTests := true, laidLooks := .later }
def ChannelKernelsCardSaid : Prop := Claim7.holds Tryz.pinned (.plain (OpenSpec.ofChange channelKernelsSpec)) channelKernelsCard

/-- THE TIED CARD OF 'crumplelaw02.ChannelStays'. -/
def channelStaysCard : Claim7 := { stood := { row := channelStaysRow, standIns := [], harness := (true, "95a951a2b3f08134bbd5793e1f3dcd8bb216aa7d507413a1c48515f8e7c0951d"), looks := false }, kinds := [], alts := [], laidByText := true, laidKinds := [.data, .data, .data, .data], laidTests := true, laidLooks := .later }
def ChannelStaysCardSaid : Prop := Claim7.holds Tryz.pinned (.plain (OpenSpec.ofChange channelStaysSpec)) channelStaysCard

/-- THE SECOND FORM's CARD OF 'crumplelaw02.ChannelKernels'. -/
def channelKernelsUptoCard : Claim7 := { stood := { row := channelKernelsUptoRow, standIns := [], harness := (true, "95a951a2b3f08134bbd5793e1f3dcd8bb216aa7d507413a1c48515f8e7c0951d"), looks := false }, kinds := [], alts := [], laidByText := true, laidKinds := [.data, .data, .data, .data], laidTests := true, laidLooks := .later }
def ChannelKernelsUptoCardSaid : Prop := Claim7.holds Tryz.pinned (.plain (OpenSpec.upto channelKernelsSpec)) channelKernelsUptoCard

/-- THE SECOND FORM's CARD OF 'crumplelaw02.ChannelStays'. -/
def channelStaysUptoCard : Claim7 := { stood := { row := channelStaysUptoRow, standIns := [], harness := (true, "95a951a2b3f08134bbd5793e1f3dcd8bb216aa7d507413a1c48515f8e7c0951d"), looks := false }, kinds := [], alts := [], laidByText := true, laidKinds := [.data, .data, .data, .data], laidTests := true, laidLooks := .later }
def ChannelStaysUptoCardSaid : Prop := Claim7.holds Tryz.pinned (.plain (OpenSpec.upto channelStaysSpec)) channelStaysUptoCard
end Rows
end Go.Proofs.YthgojmebbhpbbaaGreatDoor
