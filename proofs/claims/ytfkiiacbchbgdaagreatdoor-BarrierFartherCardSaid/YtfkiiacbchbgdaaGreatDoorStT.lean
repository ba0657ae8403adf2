/-
  OWN WORK. Stage 4: its tables.
-/
import Derived.Test.YtfkiiacbchbgdaaGreatDoorSgM
namespace Go.Proofs.YtfkiiacbchbgdaaGreatDoor
open Go Go.Am
/-- The tables: the words of the lines of a tow, and the powers of ten. -/
noncomputable def tabs4 : Tabs := [(0, [.string ⟨#[119, 97, 108, 108]⟩, .string ⟨#[102, 114, 105, 99, 116, 105, 111, 110]⟩, .string ⟨#[98, 114, 97, 107, 101]⟩, .string ⟨#[112, 117, 108, 108]⟩]), (1, [.int .u64 1, .int .u64 10, .int .u64 100, .int .u64 1000, .int .u64 10000, .int .u64 100000, .int .u64 1000000, .int .u64 10000000, .int .u64 100000000, .int .u64 1000000000, .int .u64 10000000000, .int .u64 100000000000, .int .u64 1000000000000, .int .u64 10000000000000, .int .u64 100000000000000, .int .u64 1000000000000000, .int .u64 10000000000000000, .int .u64 100000000000000000, .int .u64 1000000000000000000, .int .u64 10000000000000000000])]
theorem tabs4_flat : tabsFlat Tryz.prog.globals.size tabs4 = true := by kernel_rfl
end Go.Proofs.YtfkiiacbchbgdaaGreatDoor
