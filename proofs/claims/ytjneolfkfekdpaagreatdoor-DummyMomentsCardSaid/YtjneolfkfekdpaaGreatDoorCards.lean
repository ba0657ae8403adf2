/-
  DERIVED. GIVEN WITH THE SEED: THE CARDS: each row of YtjneolfkfekdpaaGreatDoorRows.lean that lists a variable, with what it lists TIED to the program's text (the seventh form; the later family's looks); each row that meets fmt, with fmt's text TOLD by the authors' own Lean function (tested against real Go, not proved from fmt's source: count such statements apart). THE CARD IS WHAT COUNTS. Prove the row's statement (the work); the ties are given (YtjneolfkfekdpaaGreatDoorTie.lean); close each card by the builder's one call (the guide's Derived/Test/ToyasCard.lean, 'card_holds'). Laid BY PROGRAM, IN A SANDBOX (cutbox-door.mjs). By AI agents, Wed Nov 11 2026. No macro, syntax, notation, axiom, sorry.
-/
import Derived.Test.YtjneolfkfekdpaaGreatDoorRows
import GoSem.ClaimSeven
namespace Go.Proofs.YtjneolfkfekdpaaGreatDoor
namespace Rows

/-- THE TIED CARD OF 'crumplelaw03.DummyMoments'. -/
def dummyMomentsCard : Claim7 := { stood := { row := dummyMomentsRow, standIns := [], harness := (true, "0e4c0a3a0d07ec43b89d28e39f4f5752b96faacf859ed564e57a740b1f694a6b"), looks := false }, kinds := [], alts := [], laidByText := true, laidKinds := [.data, .data, .data], laidTests := true, laidLooks := .later }
def DummyMomentsCardSaid : Prop := Claim7.holds Tryz.pinned (.plain (OpenSpec.ofChange dummyMomentsSpec)) dummyMomentsCard

/-- THE SECOND FORM's CARD OF 'crumplelaw03.DummyMoments'. -/
def dummyMomentsUptoCard : Claim7 := { stood := { row := dummyMomentsUptoRow, standIns := [], harness := (true, "0e4c0a3a0d07ec43b89d28e39f4f5752b96faacf859ed564e57a740b1f694a6b"), looks := false }, kinds := [], alts := [], laidByText := true, laidKinds := [.data, .data, .data], laidTests := true, laidLooks := .later }
def DummyMomentsUptoCardSaid : Prop := Claim7.holds Tryz.pinned (.plain (OpenSpec.upto dummyMomentsSpec)) dummyMomentsUptoCard
end Rows
end Go.Proofs.YtjneolfkfekdpaaGreatDoor
