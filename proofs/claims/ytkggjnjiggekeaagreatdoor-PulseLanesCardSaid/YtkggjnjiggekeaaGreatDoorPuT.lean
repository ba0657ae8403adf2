/-
  OWN WORK. Stage 8: its tables.
-/
import Derived.Test.YtkggjnjiggekeaaGreatDoorSgM
namespace Go.Proofs.YtkggjnjiggekeaaGreatDoor
open Go Go.Am
/-- The tables: the word of the lines of a setting, and the powers of ten. -/
noncomputable def tabs8 : Tabs := [(0, [.string ⟨#[115, 116, 101, 112]⟩]), (1, [.int .u64 1, .int .u64 10, .int .u64 100, .int .u64 1000, .int .u64 10000, .int .u64 100000, .int .u64 1000000, .int .u64 10000000, .int .u64 100000000, .int .u64 1000000000, .int .u64 10000000000, .int .u64 100000000000, .int .u64 1000000000000, .int .u64 10000000000000, .int .u64 100000000000000, .int .u64 1000000000000000, .int .u64 10000000000000000, .int .u64 100000000000000000, .int .u64 1000000000000000000, .int .u64 10000000000000000000])]
theorem tabs8_flat : tabsFlat Tryz.prog.globals.size tabs8 = true := by kernel_rfl
end Go.Proofs.YtkggjnjiggekeaaGreatDoor
