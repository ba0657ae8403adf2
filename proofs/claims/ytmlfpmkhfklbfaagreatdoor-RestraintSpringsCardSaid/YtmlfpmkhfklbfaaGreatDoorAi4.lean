/-
  OWN WORK. Pieces of crumple/crumplelaw07.awake, carried out by the kernel.
-/
import Derived.Test.YtmlfpmkhfklbfaaGreatDoorSgW
import Derived.Test.YtmlfpmkhfklbfaaGreatDoorAm5
import Derived.Test.YtmlfpmkhfklbfaaGreatDoorAm27
namespace Go.Proofs.YtmlfpmkhfklbfaaGreatDoor
open Go Go.Am

theorem segAi_17 (es : Nat → TypeId) (g : Nat → Value) : (exec Tryz.prog pieces7 3000 none (fstS (codeAt Tryz.prog 18 17)) (stOf 326 [(3, .slice (some ⟨(Tryz.prog.globals.size + 0), 0, none⟩) 2 2), (24, .slice (some ⟨(Tryz.prog.globals.size + 1), 0, none⟩) 1 1), (25, .int .i64 0), (26, .pointer (some ⟨(Tryz.prog.globals.size + 2), 0, none⟩)), (27, .int .i64 0)] g) (canonT tabs7 es Tryz.prog.globals.size [([.string ⟨#[97]⟩, .int .i64 10, .int .i64 10, .int .i64 10, .int .i64 20, .int .i64 30, .int .i64 25, .int .i64 25, .string ⟨#[98]⟩, .int .i64 10, .int .i64 10, .int .i64 10, .int .i64 20, .int .i64 30, .int .i64 5, .int .i64 5], 127, 9, false), ([.int .i64 0, .int .i64 1], 161, 3, false), ([.int .i64 10, .int .i64 10, .int .i64 25, .int .i64 25, .int .i64 25, .int .i64 25], 125, 0, false)])).bind (shrink Tryz.prog.globals.size tabs7 326 [3, 24, 25, 26, 27, 28, 29, 30]) =
  some ([.slice (some ⟨(Tryz.prog.globals.size + 0), 0, none⟩) 2 2, .slice (some ⟨(Tryz.prog.globals.size + 1), 0, none⟩) 1 1, .int .i64 0, .pointer (some ⟨(Tryz.prog.globals.size + 2), 0, none⟩), .int .i64 0, .pointer (some ⟨(Tryz.prog.globals.size + 3), 0, none⟩), .int .i64 20, .int .i64 0], [([.string ⟨#[97]⟩, .int .i64 10, .int .i64 10, .int .i64 10, .int .i64 20, .int .i64 30, .int .i64 25, .int .i64 25, .string ⟨#[98]⟩, .int .i64 10, .int .i64 10, .int .i64 10, .int .i64 20, .int .i64 30, .int .i64 5, .int .i64 5], 127, 9, false), ([.int .i64 0, .int .i64 1], 161, 3, false), ([.int .i64 10, .int .i64 10, .int .i64 25, .int .i64 25, .int .i64 25, .int .i64 25], 125, 0, false), ([.int .i64 0, .int .i64 10, .int .i64 2], 124, 0, false)]) := by kernel_rfl
end Go.Proofs.YtmlfpmkhfklbfaaGreatDoor
