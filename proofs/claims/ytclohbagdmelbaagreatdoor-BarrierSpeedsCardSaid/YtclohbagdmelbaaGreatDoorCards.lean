/-
  DERIVED. GIVEN WITH THE SEED: THE CARDS: each row of YtclohbagdmelbaaGreatDoorRows.lean that lists a variable, with what it lists TIED to the program's text (the seventh form; the later family's looks); each row that meets fmt, with fmt's text TOLD by the authors' own Lean function (tested against real Go, not proved from fmt's source: count such statements apart). THE CARD IS WHAT COUNTS. Prove the row's statement (the work); the ties are given (YtclohbagdmelbaaGreatDoorTie.lean); close each card by the builder's one call (the guide's Derived/Test/ToyasCard.lean, 'card_holds'). Laid BY PROGRAM, IN A SANDBOX (cutbox-door.mjs). By AI agents, Wed Nov 11 2026. No macro, syntax, notation, axiom, sorry.
-/
import Derived.Test.YtclohbagdmelbaaGreatDoorRows
import GoSem.ClaimSeven
namespace Go.Proofs.YtclohbagdmelbaaGreatDoor
namespace Rows

/-- THE TIED CARD OF 'crumplelaw04.BarrierSpeeds'. -/
def barrierSpeedsCard : Claim7 := { stood := { row := barrierSpeedsRow, standIns := [], harness := (true, "15beb5d02467725e1a5312f7eba49b123e1f9a424448b4fad25e79494e537325"), looks := false }, kinds := [], alts := [], laidByText := true, laidKinds := [.data, .data, .data, .data, .data, .pinned], laidTests := true, laidLooks := .later }
def BarrierSpeedsCardSaid : Prop := Claim7.holds Tryz.pinned (.plain (OpenSpec.ofChange barrierSpeedsSpec)) barrierSpeedsCard

/-- THE SECOND FORM's CARD OF 'crumplelaw04.BarrierSpeeds'. -/
def barrierSpeedsUptoCard : Claim7 := { stood := { row := barrierSpeedsUptoRow, standIns := [], harness := (true, "15beb5d02467725e1a5312f7eba49b123e1f9a424448b4fad25e79494e537325"), looks := false }, kinds := [], alts := [], laidByText := true, laidKinds := [.data, .data, .data, .data, .data, .pinned], laidTests := true, laidLooks := .later }
def BarrierSpeedsUptoCardSaid : Prop := Claim7.holds Tryz.pinned (.plain (OpenSpec.upto barrierSpeedsSpec)) barrierSpeedsUptoCard
end Rows
end Go.Proofs.YtclohbagdmelbaaGreatDoor
