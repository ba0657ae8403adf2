/-
  OWN WORK. Stage 6: its tables.
-/
import Derived.Test.YtihnnmejkpddeaaGreatDoorSgM
namespace Go.Proofs.YtihnnmejkpddeaaGreatDoor
open Go Go.Am
noncomputable def tabs6 : Tabs := [(0, [.int .u64 1, .int .u64 10, .int .u64 100, .int .u64 1000, .int .u64 10000, .int .u64 100000, .int .u64 1000000, .int .u64 10000000, .int .u64 100000000, .int .u64 1000000000, .int .u64 10000000000, .int .u64 100000000000, .int .u64 1000000000000, .int .u64 10000000000000, .int .u64 100000000000000, .int .u64 1000000000000000, .int .u64 10000000000000000, .int .u64 100000000000000000, .int .u64 1000000000000000000, .int .u64 10000000000000000000])]
theorem tabs6_flat : tabsFlat Tryz.prog.globals.size tabs6 = true := by kernel_rfl
end Go.Proofs.YtihnnmejkpddeaaGreatDoor
