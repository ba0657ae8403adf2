/-
  OWN WORK. Stage 7: its tables.
-/
import Derived.Test.YtmlfpmkhfklbfaaGreatDoorAm5
import Derived.Test.YtmlfpmkhfklbfaaGreatDoorProg
import Derived.KernelRfl
namespace Go.Proofs.YtmlfpmkhfklbfaaGreatDoor
open Go Go.Am
/-- The tables: the words of the lines of a model, and the powers of ten. -/
noncomputable def tabs7 : Tabs := [(1, [.string ⟨#[109, 97, 115, 115, 101, 115]⟩, .string ⟨#[98, 97, 103]⟩, .string ⟨#[102, 114, 111, 110, 116]⟩, .string ⟨#[98, 101, 108, 116]⟩, .string ⟨#[99, 117, 115, 104, 105, 111, 110]⟩]), (2, [.int .u64 1, .int .u64 10, .int .u64 100, .int .u64 1000, .int .u64 10000, .int .u64 100000, .int .u64 1000000, .int .u64 10000000, .int .u64 100000000, .int .u64 1000000000, .int .u64 10000000000, .int .u64 100000000000, .int .u64 1000000000000, .int .u64 10000000000000, .int .u64 100000000000000, .int .u64 1000000000000000, .int .u64 10000000000000000, .int .u64 100000000000000000, .int .u64 1000000000000000000, .int .u64 10000000000000000000])]
theorem mixed : Tryz.prog.follows .mixedOrders = true := by kernel_rfl
theorem tabs7_flat : tabsFlat Tryz.prog.globals.size tabs7 = true := by kernel_rfl
end Go.Proofs.YtmlfpmkhfklbfaaGreatDoor
