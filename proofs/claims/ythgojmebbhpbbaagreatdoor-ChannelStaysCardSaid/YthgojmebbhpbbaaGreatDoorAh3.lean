/-
  OWN WORK. Pieces of crumple/crumplelaw02.awake, carried out by the kernel.
-/
import Derived.Test.YthgojmebbhpbbaaGreatDoorCdW
import Derived.Test.YthgojmebbhpbbaaGreatDoorAm5
namespace Go.Proofs.YthgojmebbhpbbaaGreatDoor
open Go Go.Am
theorem segAh_26 (es : Nat → TypeId) (g : Nat → Value) : (exec Tryz.prog pieces2 3000 none (fstS (codeAt Tryz.prog 7 26)) (stOf 387 [(27, .pointer (some ⟨(Tryz.prog.globals.size + 0), 0, none⟩)), (28, .bool true), (29, .int .i64 0), (30, .slice (some ⟨(Tryz.prog.globals.size + 1), 0, none⟩) 1 1), (31, .int .i64 0), (32, .slice (some ⟨(Tryz.prog.globals.size + 2), 0, none⟩) 4 4), (33, .int .i64 0), (34, .slice (some ⟨(Tryz.prog.globals.size + 3), 0, none⟩) 2 2), (35, .int .i64 0), (37, .int .i64 24), (38, .slice (some ⟨(Tryz.prog.globals.size + 4), 0, none⟩) 3 3), (39, .int .i64 0), (40, .slice (some ⟨(Tryz.prog.globals.size + 5), 0, none⟩) 3 3), (41, .int .i64 0), (42, .int .i64 (-1)), (43, .int .i64 0), (44, .slice (some ⟨(Tryz.prog.globals.size + 6), 0, none⟩) 3 3), (45, .int .i64 0), (46, .slice (some ⟨(Tryz.prog.globals.size + 7), 0, none⟩) 2 2), (47, .int .i64 0), (48, .string ⟨#[115, 101, 110, 115, 111, 114, 32, 115, 32, 49, 54, 48, 48, 32, 57, 57, 48, 32, 49, 48, 49, 48, 10]⟩), (49, .int .i64 0)] g) (canonT tabs2 es Tryz.prog.globals.size [([.int .i64 156, .int .i64 900], 60, 0, false), ([.int .i64 2, .int .i64 3], 89, 3, false), ([.int .i64 0, .int .i64 0, .int .i64 0, .int .i64 3, .int .i64 3, .int .i64 6, .int .i64 6, .int .i64 6], 60, 3, false), ([.int .i64 2, .int .i64 8, .int .i64 5, .int .i64 5], 60, 3, false), ([.int .i64 11, .int .i64 9, .int .i64 12], 3, 2, false), ([.int .i64 11, .int .i64 20, .int .i64 32], 3, 2, false), ([.int .i64 2, .int .i64 8, .int .i64 18], 3, 2, false), ([.float .f32 3212836864, .float .f32 1073741824], 50, 2, false)])).bind (shrink Tryz.prog.globals.size tabs2 387 [0]) =
 some ([.bool true], []) := by kernel_rfl
end Go.Proofs.YthgojmebbhpbbaaGreatDoor
