/-
  OWN WORK. What the pieces of awake come to, carried out on the abstract machine by the kernel.
-/
import Derived.Test.YtgomacijdadjpaaGreatDoorAm3
import Derived.Test.YtgomacijdadjpaaGreatDoorProg
import Derived.KernelRfl
namespace Go.Proofs.YtgomacijdadjpaaGreatDoor
open Go Go.Am

/-- The tables: of powers, and of powers of ten. -/
noncomputable def tabs : Tabs := [(0, [.int .i64 1, .int .i64 0, .int .i64 0, .int .i64 (-1), .int .i64 (-1), .int .i64 0, .int .i64 0, .int .i64 1]), (2, [.int .u64 1, .int .u64 10, .int .u64 100, .int .u64 1000, .int .u64 10000, .int .u64 100000, .int .u64 1000000, .int .u64 10000000, .int .u64 100000000, .int .u64 1000000000, .int .u64 10000000000, .int .u64 100000000000, .int .u64 1000000000000, .int .u64 10000000000000, .int .u64 100000000000000, .int .u64 1000000000000000, .int .u64 10000000000000000, .int .u64 100000000000000000, .int .u64 1000000000000000000, .int .u64 10000000000000000000])]
theorem mixed : Tryz.prog.follows .mixedOrders = true := by kernel_rfl
theorem tabs_flat : tabsFlat Tryz.prog.globals.size tabs = true := by kernel_rfl
noncomputable def orc0 : Orc := fun _ _ _ => none
theorem orc0_ok : OrcOk Tryz.prog orc0 := fun _ _ _ _ _ h => by cases h
theorem run0 (es : Nat → TypeId) : (call Tryz.prog orc0 1000 53 #[.float .f32 0] (base tabs es Tryz.prog.globals.size)).map (·.1) = some (.int .i64 0) := by kernel_rfl
noncomputable def orc1 : Orc := known tabs orc0 53 #[.float .f32 0] (.int .i64 0)
theorem orc1_ok : OrcOk Tryz.prog orc1 := known_ok mixed orc0_ok tabs_flat (by decide) (by decide) run0
theorem run1 (es : Nat → TypeId) : (call Tryz.prog orc1 1000 53 #[.float .f32 1065353216] (base tabs es Tryz.prog.globals.size)).map (·.1) = some (.int .i64 0) := by kernel_rfl
noncomputable def orc2 : Orc := known tabs orc1 53 #[.float .f32 1065353216] (.int .i64 0)
theorem orc2_ok : OrcOk Tryz.prog orc2 := known_ok mixed orc1_ok tabs_flat (by decide) (by decide) run1
theorem run2 (es : Nat → TypeId) : (call Tryz.prog orc2 1000 53 #[.float .f32 3212836864] (base tabs es Tryz.prog.globals.size)).map (·.1) = some (.int .i64 0) := by kernel_rfl
noncomputable def orc3 : Orc := known tabs orc2 53 #[.float .f32 3212836864] (.int .i64 0)
theorem orc3_ok : OrcOk Tryz.prog orc3 := known_ok mixed orc2_ok tabs_flat (by decide) (by decide) run2
theorem run3 (es : Nat → TypeId) : (call Tryz.prog orc3 1000 53 #[.float .f32 1073741824] (base tabs es Tryz.prog.globals.size)).map (·.1) = some (.int .i64 0) := by kernel_rfl
noncomputable def orc4 : Orc := known tabs orc3 53 #[.float .f32 1073741824] (.int .i64 0)
theorem orc4_ok : OrcOk Tryz.prog orc4 := known_ok mixed orc3_ok tabs_flat (by decide) (by decide) run3
theorem run4 (es : Nat → TypeId) : (call Tryz.prog orc4 1000 53 #[.float .f32 1077936128] (base tabs es Tryz.prog.globals.size)).map (·.1) = some (.int .i64 0) := by kernel_rfl
noncomputable def orc5 : Orc := known tabs orc4 53 #[.float .f32 1077936128] (.int .i64 0)
theorem orc5_ok : OrcOk Tryz.prog orc5 := known_ok mixed orc4_ok tabs_flat (by decide) (by decide) run4
theorem run5 (es : Nat → TypeId) : (call Tryz.prog orc5 1000 53 #[.float .f32 1082130432] (base tabs es Tryz.prog.globals.size)).map (·.1) = some (.int .i64 0) := by kernel_rfl
noncomputable def orc6 : Orc := known tabs orc5 53 #[.float .f32 1082130432] (.int .i64 0)
theorem orc6_ok : OrcOk Tryz.prog orc6 := known_ok mixed orc5_ok tabs_flat (by decide) (by decide) run5
theorem run6 (es : Nat → TypeId) : (call Tryz.prog orc6 1000 53 #[.float .f32 1084227584] (base tabs es Tryz.prog.globals.size)).map (·.1) = some (.int .i64 0) := by kernel_rfl
noncomputable def orc7 : Orc := known tabs orc6 53 #[.float .f32 1084227584] (.int .i64 0)
theorem orc7_ok : OrcOk Tryz.prog orc7 := known_ok mixed orc6_ok tabs_flat (by decide) (by decide) run6
theorem run7 (es : Nat → TypeId) : (call Tryz.prog orc7 1000 53 #[.float .f32 1086324736] (base tabs es Tryz.prog.globals.size)).map (·.1) = some (.int .i64 0) := by kernel_rfl
noncomputable def orc8 : Orc := known tabs orc7 53 #[.float .f32 1086324736] (.int .i64 0)
theorem orc8_ok : OrcOk Tryz.prog orc8 := known_ok mixed orc7_ok tabs_flat (by decide) (by decide) run7
theorem run8 (es : Nat → TypeId) : (call Tryz.prog orc8 1000 53 #[.float .f32 1088421888] (base tabs es Tryz.prog.globals.size)).map (·.1) = some (.int .i64 0) := by kernel_rfl
noncomputable def orc9 : Orc := known tabs orc8 53 #[.float .f32 1088421888] (.int .i64 0)
theorem orc9_ok : OrcOk Tryz.prog orc9 := known_ok mixed orc8_ok tabs_flat (by decide) (by decide) run8
theorem run9 (es : Nat → TypeId) : (call Tryz.prog orc9 1000 53 #[.float .f32 1090519040] (base tabs es Tryz.prog.globals.size)).map (·.1) = some (.int .i64 0) := by kernel_rfl
noncomputable def orc10 : Orc := known tabs orc9 53 #[.float .f32 1090519040] (.int .i64 0)
theorem orc10_ok : OrcOk Tryz.prog orc10 := known_ok mixed orc9_ok tabs_flat (by decide) (by decide) run9
theorem run10 (es : Nat → TypeId) : (call Tryz.prog orc10 1000 53 #[.float .f32 3225419776] (base tabs es Tryz.prog.globals.size)).map (·.1) = some (.int .i64 0) := by kernel_rfl
noncomputable def orc11 : Orc := known tabs orc10 53 #[.float .f32 3225419776] (.int .i64 0)
theorem orc11_ok : OrcOk Tryz.prog orc11 := known_ok mixed orc10_ok tabs_flat (by decide) (by decide) run10
theorem run11 (es : Nat → TypeId) : (call Tryz.prog orc11 1000 53 #[.float .f32 1031798784] (base tabs es Tryz.prog.globals.size)).map (·.1) = some (.int .i64 0) := by kernel_rfl
noncomputable def orc12 : Orc := known tabs orc11 53 #[.float .f32 1031798784] (.int .i64 0)
theorem orc12_ok : OrcOk Tryz.prog orc12 := known_ok mixed orc11_ok tabs_flat (by decide) (by decide) run11
theorem run12 (es : Nat → TypeId) : (call Tryz.prog orc12 1000 53 #[.float .f32 3204448256] (base tabs es Tryz.prog.globals.size)).map (·.1) = some (.int .i64 0) := by kernel_rfl
noncomputable def orc13 : Orc := known tabs orc12 53 #[.float .f32 3204448256] (.int .i64 0)
theorem orc13_ok : OrcOk Tryz.prog orc13 := known_ok mixed orc12_ok tabs_flat (by decide) (by decide) run12
theorem run13 (es : Nat → TypeId) : (call Tryz.prog orc13 1000 31 #[.agg #[.float .f32 1065353216, .float .f32 1073741824, .float .f32 1077936128, .float .f32 1082130432]] (base tabs es Tryz.prog.globals.size)).map (·.1) = some (.tuple #[.agg #[.complex .f32 1092616192 0, .complex .f32 3221225472 1073741824, .complex .f32 3221225472 0, .complex .f32 3221225472 3221225472], .int .i64 0]) := by kernel_rfl
noncomputable def orc14 : Orc := known tabs orc13 31 #[.agg #[.float .f32 1065353216, .float .f32 1073741824, .float .f32 1077936128, .float .f32 1082130432]] (.tuple #[.agg #[.complex .f32 1092616192 0, .complex .f32 3221225472 1073741824, .complex .f32 3221225472 0, .complex .f32 3221225472 3221225472], .int .i64 0])
theorem orc14_ok : OrcOk Tryz.prog orc14 := known_ok mixed orc13_ok tabs_flat (by decide) (by decide) run13
theorem run14 (es : Nat → TypeId) : (call Tryz.prog orc14 1000 32 #[.agg #[.complex .f32 1092616192 0, .complex .f32 3221225472 1073741824, .complex .f32 3221225472 0, .complex .f32 3221225472 3221225472]] (base tabs es Tryz.prog.globals.size)).map (·.1) = some (.tuple #[.agg #[.float .f32 1065353216, .float .f32 1073741824, .float .f32 1077936128, .float .f32 1082130432], .int .i64 0]) := by kernel_rfl
noncomputable def orc15 : Orc := known tabs orc14 32 #[.agg #[.complex .f32 1092616192 0, .complex .f32 3221225472 1073741824, .complex .f32 3221225472 0, .complex .f32 3221225472 3221225472]] (.tuple #[.agg #[.float .f32 1065353216, .float .f32 1073741824, .float .f32 1077936128, .float .f32 1082130432], .int .i64 0])
theorem orc15_ok : OrcOk Tryz.prog orc15 := known_ok mixed orc14_ok tabs_flat (by decide) (by decide) run14
theorem run15 (es : Nat → TypeId) : (call Tryz.prog orc15 1000 33 #[.agg #[.complex .f32 1092616192 0, .complex .f32 3221225472 1073741824, .complex .f32 3221225472 0, .complex .f32 3221225472 3221225472], .agg #[.complex .f32 1065353216 0, .complex .f32 1065353216 0, .complex .f32 1065353216 0, .complex .f32 1065353216 0]] (base tabs es Tryz.prog.globals.size)).map (·.1) = some (.tuple #[.agg #[.int .i64 2560, .int .i64 0, .int .i64 (-512), .int .i64 512, .int .i64 (-512), .int .i64 0, .int .i64 (-512), .int .i64 (-512)], .int .i64 0]) := by kernel_rfl
noncomputable def orc16 : Orc := known tabs orc15 33 #[.agg #[.complex .f32 1092616192 0, .complex .f32 3221225472 1073741824, .complex .f32 3221225472 0, .complex .f32 3221225472 3221225472], .agg #[.complex .f32 1065353216 0, .complex .f32 1065353216 0, .complex .f32 1065353216 0, .complex .f32 1065353216 0]] (.tuple #[.agg #[.int .i64 2560, .int .i64 0, .int .i64 (-512), .int .i64 512, .int .i64 (-512), .int .i64 0, .int .i64 (-512), .int .i64 (-512)], .int .i64 0])
theorem orc16_ok : OrcOk Tryz.prog orc16 := known_ok mixed orc15_ok tabs_flat (by decide) (by decide) run15
theorem run16 (es : Nat → TypeId) : (call Tryz.prog orc16 1000 70 #[.agg #[.int .i64 4, .int .i64 258, .int .i64 2, .float .f32 1065353216, .float .f32 3212836864, .float .f32 0, .float .f32 0, .float .f32 0, .float .f32 0, .float .f32 0, .float .f32 0]] (base tabs es Tryz.prog.globals.size)).map (·.1) = some (.int .i64 0) := by kernel_rfl
noncomputable def orc17 : Orc := known tabs orc16 70 #[.agg #[.int .i64 4, .int .i64 258, .int .i64 2, .float .f32 1065353216, .float .f32 3212836864, .float .f32 0, .float .f32 0, .float .f32 0, .float .f32 0, .float .f32 0, .float .f32 0]] (.int .i64 0)
theorem orc17_ok : OrcOk Tryz.prog orc17 := known_ok mixed orc16_ok tabs_flat (by decide) (by decide) run16
theorem run17 (es : Nat → TypeId) : (call Tryz.prog orc17 1000 35 #[.agg #[.int .u8 0, .int .u8 0, .int .u8 0, .int .u8 0, .int .u8 0, .int .u8 0, .int .u8 0, .int .u8 0], .agg #[.int .i64 4, .int .i64 258, .int .i64 2, .float .f32 1065353216, .float .f32 3212836864, .float .f32 0, .float .f32 0, .float .f32 0, .float .f32 0, .float .f32 0, .float .f32 0]] (base tabs es Tryz.prog.globals.size)).map (·.1) = some (.tuple #[.agg #[.int .u8 211, .int .u8 4, .int .u8 0, .int .u8 1, .int .u8 2, .int .u8 2, .int .u8 0, .int .u8 16, .int .u8 255, .int .u8 240, .int .u8 0, .int .u8 0, .int .u8 0, .int .u8 0, .int .u8 0, .int .u8 0, .int .u8 0, .int .u8 0, .int .u8 0, .int .u8 0, .int .u8 0, .int .u8 0, .int .u8 153, .int .u8 67, .int .u8 33, .int .u8 99, .int .u8 121, .int .u8 19, .int .u8 33, .int .u8 211], .int .i64 0]) := by kernel_rfl
noncomputable def orc18 : Orc := known tabs orc17 35 #[.agg #[.int .u8 0, .int .u8 0, .int .u8 0, .int .u8 0, .int .u8 0, .int .u8 0, .int .u8 0, .int .u8 0], .agg #[.int .i64 4, .int .i64 258, .int .i64 2, .float .f32 1065353216, .float .f32 3212836864, .float .f32 0, .float .f32 0, .float .f32 0, .float .f32 0, .float .f32 0, .float .f32 0]] (.tuple #[.agg #[.int .u8 211, .int .u8 4, .int .u8 0, .int .u8 1, .int .u8 2, .int .u8 2, .int .u8 0, .int .u8 16, .int .u8 255, .int .u8 240, .int .u8 0, .int .u8 0, .int .u8 0, .int .u8 0, .int .u8 0, .int .u8 0, .int .u8 0, .int .u8 0, .int .u8 0, .int .u8 0, .int .u8 0, .int .u8 0, .int .u8 153, .int .u8 67, .int .u8 33, .int .u8 99, .int .u8 121, .int .u8 19, .int .u8 33, .int .u8 211], .int .i64 0])
theorem orc18_ok : OrcOk Tryz.prog orc18 := known_ok mixed orc17_ok tabs_flat (by decide) (by decide) run17
theorem run18 (es : Nat → TypeId) : (call Tryz.prog orc18 1000 97 #[.agg #[.int .u8 0, .int .u8 0, .int .u8 0, .int .u8 0, .int .u8 0, .int .u8 0, .int .u8 0, .int .u8 0], .agg #[.int .u8 211, .int .u8 4, .int .u8 0, .int .u8 1, .int .u8 2, .int .u8 2, .int .u8 0, .int .u8 16, .int .u8 255, .int .u8 240, .int .u8 0, .int .u8 0, .int .u8 0, .int .u8 0, .int .u8 0, .int .u8 0, .int .u8 0, .int .u8 0, .int .u8 0, .int .u8 0, .int .u8 0, .int .u8 0, .int .u8 153, .int .u8 67, .int .u8 33, .int .u8 99, .int .u8 121, .int .u8 19, .int .u8 33, .int .u8 211]] (base tabs es Tryz.prog.globals.size)).map (·.1) = some (.tuple #[.agg #[.int .i64 4, .int .i64 258, .int .i64 2, .float .f32 1065353216, .float .f32 3212836864, .float .f32 0, .float .f32 0, .float .f32 0, .float .f32 0, .float .f32 0, .float .f32 0], .int .i64 0]) := by kernel_rfl
noncomputable def orc19 : Orc := known tabs orc18 97 #[.agg #[.int .u8 0, .int .u8 0, .int .u8 0, .int .u8 0, .int .u8 0, .int .u8 0, .int .u8 0, .int .u8 0], .agg #[.int .u8 211, .int .u8 4, .int .u8 0, .int .u8 1, .int .u8 2, .int .u8 2, .int .u8 0, .int .u8 16, .int .u8 255, .int .u8 240, .int .u8 0, .int .u8 0, .int .u8 0, .int .u8 0, .int .u8 0, .int .u8 0, .int .u8 0, .int .u8 0, .int .u8 0, .int .u8 0, .int .u8 0, .int .u8 0, .int .u8 153, .int .u8 67, .int .u8 33, .int .u8 99, .int .u8 121, .int .u8 19, .int .u8 33, .int .u8 211]] (.tuple #[.agg #[.int .i64 4, .int .i64 258, .int .i64 2, .float .f32 1065353216, .float .f32 3212836864, .float .f32 0, .float .f32 0, .float .f32 0, .float .f32 0, .float .f32 0, .float .f32 0], .int .i64 0])
theorem orc19_ok : OrcOk Tryz.prog orc19 := known_ok mixed orc18_ok tabs_flat (by decide) (by decide) run18
noncomputable def pieces : Orc := orc19
theorem pieces_ok : OrcOk Tryz.prog pieces := orc19_ok
end Go.Proofs.YtgomacijdadjpaaGreatDoor
