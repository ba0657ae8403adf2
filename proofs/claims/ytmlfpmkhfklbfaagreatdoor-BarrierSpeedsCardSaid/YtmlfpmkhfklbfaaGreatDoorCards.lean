/-
  DERIVED. GIVEN WITH THE SEED: THE CARDS: each row of YtmlfpmkhfklbfaaGreatDoorRows.lean that lists a variable, with what it lists TIED to the program's text (the seventh form; the later family's looks); each row that meets fmt, with fmt's text TOLD by the authors' own Lean function (tested against real Go, not proved from fmt's source: count such statements apart). THE CARD IS WHAT COUNTS. Prove the row's statement (the work); the ties are given (YtmlfpmkhfklbfaaGreatDoorTie.lean); close each card by the builder's one call (the guide's Derived/Test/ToyasCard.lean, 'card_holds'). Laid BY PROGRAM, IN A SANDBOX (cutbox-door.mjs). By AI agents, Wed Nov 11 2026. No macro, syntax, notation, axiom, sorry.
-/
import Derived.Test.YtmlfpmkhfklbfaaGreatDoorRows
import GoSem.ClaimSeven
namespace Go.Proofs.YtmlfpmkhfklbfaaGreatDoor
namespace Rows

/-- THE TIED CARD OF 'crumplelaw04.BarrierSpeeds'. -/
def barrierSpeedsCard : Claim7 := { stood := { row := barrierSpeedsRow, standIns := [], harness := (true, "ff905c1f06c697cd129b3395704c4cd055d727a52559045f5c8798fd0ce15919"), looks := false }, kinds := [], alts := [], laidByText := true, laidKinds := [.data, .data, .data, .data, .data, .pinned], laidTests := true, laidLooks := .later }
def BarrierSpeedsCardSaid : Prop := Claim7.holds Tryz.pinned (.plain (OpenSpec.ofChange barrierSpeedsSpec)) barrierSpeedsCard

/-- THE TIED CARD OF 'crumplelaw07.RestraintSprings'. -/
def restraintSpringsCard : Claim7 := { stood := { row := restraintSpringsRow, standIns := [], harness := (true, "ff905c1f06c697cd129b3395704c4cd055d727a52559045f5c8798fd0ce15919"), looks := false }, kinds := [], alts := [], laidByText := true, laidKinds := [.data, .data, .data, .data], laidTests := true, laidLooks := .later }
def RestraintSpringsCardSaid : Prop := Claim7.holds Tryz.pinned (.plain (OpenSpec.ofChange restraintSpringsSpec)) restraintSpringsCard

/-- THE SECOND FORM's CARD OF 'crumplelaw04.BarrierSpeeds'. -/
def barrierSpeedsUptoCard : Claim7 := { stood := { row := barrierSpeedsUptoRow, standIns := [], harness := (true, "ff905c1f06c697cd129b3395704c4cd055d727a52559045f5c8798fd0ce15919"), looks := false }, kinds := [], alts := [], laidByText := true, laidKinds := [.data, .data, .data, .data, .data, .pinned], laidTests := true, laidLooks := .later }
def BarrierSpeedsUptoCardSaid : Prop := Claim7.holds Tryz.pinned (.plain (OpenSpec.upto barrierSpeedsSpec)) barrierSpeedsUptoCard

/-- THE SECOND FORM's CARD OF 'crumplelaw07.RestraintSprings'. -/
def restraintSpringsUptoCard : Claim7 := { stood := { row := restraintSpringsUptoRow, standIns := [], harness := (true, "ff905c1f06c697cd129b3395704c4cd055d727a52559045f5c8798fd0ce15919"), looks := false }, kinds := [], alts := [], laidByText := true, laidKinds := [.data, .data, .data, .data], laidTests := true, laidLooks := .later }
def RestraintSpringsUptoCardSaid : Prop := Claim7.holds Tryz.pinned (.plain (OpenSpec.upto restraintSpringsSpec)) restraintSpringsUptoCard
end Rows
end Go.Proofs.YtmlfpmkhfklbfaaGreatDoor
