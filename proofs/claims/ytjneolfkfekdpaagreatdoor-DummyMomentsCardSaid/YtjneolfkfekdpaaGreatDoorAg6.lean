/-
  OWN WORK. Pieces of crumple/crumplelaw03.awake, carried out by the kernel.
-/
import Derived.Test.YtjneolfkfekdpaaGreatDoorAw3A
import Derived.Test.YtjneolfkfekdpaaGreatDoorAm5
namespace Go.Proofs.YtjneolfkfekdpaaGreatDoor
open Go Go.Am

theorem segAg_18 (es : Nat → TypeId) (g : Nat → Value) : (exec Tryz.prog pieces3 3000 none (fstS (codeAt Tryz.prog 9 18)) (stOf 366 [(0, .bool false), (25, .slice (some ⟨(Tryz.prog.globals.size + 0), 0, none⟩) 1 1), (26, .int .i64 0), (27, .slice (some ⟨(Tryz.prog.globals.size + 1), 0, none⟩) 1 1), (28, .int .i64 0), (29, .slice (some ⟨(Tryz.prog.globals.size + 2), 0, none⟩) 1 1), (30, .int .i64 0), (31, .slice (some ⟨(Tryz.prog.globals.size + 3), 0, none⟩) 3 3), (32, .int .i64 0)] g) (canonT tabs3 es Tryz.prog.globals.size [([.string ⟨#[119, 111, 114, 110]⟩], 9, 2, false), ([.string ⟨#[111, 108, 100]⟩], 9, 2, false), ([.string ⟨#[109, 105, 115, 115, 105, 110, 103]⟩], 9, 2, false), ([.string ⟨#[116, 49]⟩, .string ⟨#[116, 50]⟩, .string ⟨#[116, 52]⟩], 9, 2, false)])).bind (shrink Tryz.prog.globals.size tabs3 366 [0, 25, 26, 27, 28, 29, 30, 31, 32, 33, 34]) =
  some ([.bool false, .slice (some ⟨(Tryz.prog.globals.size + 0), 0, none⟩) 1 1, .int .i64 0, .slice (some ⟨(Tryz.prog.globals.size + 1), 0, none⟩) 1 1, .int .i64 0, .slice (some ⟨(Tryz.prog.globals.size + 2), 0, none⟩) 1 1, .int .i64 0, .slice (some ⟨(Tryz.prog.globals.size + 3), 0, none⟩) 3 3, .int .i64 0, .slice (some ⟨(Tryz.prog.globals.size + 4), 0, none⟩) 3 3, .int .i64 0], [([.string ⟨#[119, 111, 114, 110]⟩], 9, 2, false), ([.string ⟨#[111, 108, 100]⟩], 9, 2, false), ([.string ⟨#[109, 105, 115, 115, 105, 110, 103]⟩], 9, 2, false), ([.string ⟨#[116, 49]⟩, .string ⟨#[116, 50]⟩, .string ⟨#[116, 52]⟩], 9, 2, false), ([.string ⟨#[116, 49]⟩, .string ⟨#[116, 50]⟩, .string ⟨#[116, 51]⟩], 9, 2, false)]) := by kernel_rfl
end Go.Proofs.YtjneolfkfekdpaaGreatDoor
