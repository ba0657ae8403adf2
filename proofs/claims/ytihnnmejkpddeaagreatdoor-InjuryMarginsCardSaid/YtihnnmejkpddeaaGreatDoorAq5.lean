/-
  OWN WORK. Pieces of crumple/crumplelaw06.awake, carried out by the kernel.
-/
import Derived.Test.YtihnnmejkpddeaaGreatDoorJcW
import Derived.Test.YtihnnmejkpddeaaGreatDoorAm5
namespace Go.Proofs.YtihnnmejkpddeaaGreatDoor
open Go Go.Am

theorem segAq_28 (es : Nat → TypeId) (g : Nat → Value) : (exec Tryz.prog pieces6 3000 none (fstS (codeAt Tryz.prog 13 28)) (stOf 414 [(27, .pointer (some ⟨(Tryz.prog.globals.size + 0), 0, none⟩)), (28, .int .i64 0), (29, .pointer (some ⟨(Tryz.prog.globals.size + 1), 0, none⟩)), (30, .int .i64 0), (32, .int .i64 (-1)), (33, .int .i64 0), (34, .int .i64 1), (35, .int .i64 0), (36, .int .i64 0), (37, .int .i64 0), (38, .int .i64 100), (39, .int .i64 0), (40, .pointer (some ⟨(Tryz.prog.globals.size + 2), 0, none⟩)), (41, .int .i64 0), (42, .pointer (some ⟨(Tryz.prog.globals.size + 3), 0, none⟩)), (43, .int .i64 0), (44, .slice (some ⟨(Tryz.prog.globals.size + 4), 0, none⟩) 3 3), (45, .int .i64 0), (46, .string ⟨#[115, 116, 101, 112, 32, 49, 48, 32, 49, 32, 49, 48, 48, 10, 115, 116, 101, 112, 32, 52, 49, 32, 49, 32, 53, 48, 48, 10]⟩), (47, .int .i64 0), (48, .int .i64 1), (49, .pointer (some ⟨(Tryz.prog.globals.size + 5), 0, none⟩)), (50, .int .i64 0), (51, .pointer (some ⟨(Tryz.prog.globals.size + 6), 0, none⟩)), (52, .int .i64 0), (53, .pointer (some ⟨(Tryz.prog.globals.size + 7), 0, none⟩)), (54, .int .i64 0), (55, .int .i64 0), (56, .int .i64 19)] g) (canonT tabs6 es Tryz.prog.globals.size [([.int .i64 49, .int .i64 2, .int .i64 81, .int .i64 2, .bool true], 91, 0, false), ([.int .i64 9, .int .i64 1, .int .i64 81, .int .i64 2, .bool false], 91, 0, false), ([.int .i64 100, .int .i64 500], 26, 0, false), ([.int .i64 7, .int .i64 3], 28, 0, false), ([.int .i64 1, .int .i64 2, .int .i64 0], 3, 2, false), ([.int .i64 36, .int .i64 1], 28, 0, false), ([.int .i64 3, .int .i64 1, .int .i64 4, .int .i64 1, .bool false], 91, 0, false), ([.int .i64 6, .int .i64 1, .int .i64 15, .int .i64 2, .bool false], 91, 0, false)])).bind (shrink Tryz.prog.globals.size tabs6 414 [0]) =
  some ([.bool true], []) := by kernel_rfl
end Go.Proofs.YtihnnmejkpddeaaGreatDoor
