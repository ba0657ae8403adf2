/-
  OWN WORK. What the pieces of stage 3's awake come to, carried out on the abstract machine by the kernel.
-/
import Derived.Test.YtjneolfkfekdpaaGreatDoorJn
import Derived.Test.YtjneolfkfekdpaaGreatDoorProg
import Derived.KernelRfl
namespace Go.Proofs.YtjneolfkfekdpaaGreatDoor
open Go Go.Am

/-- The table of powers of ten. -/
noncomputable def tabs3 : Tabs := [(0, [.int .u64 1, .int .u64 10, .int .u64 100, .int .u64 1000, .int .u64 10000, .int .u64 100000, .int .u64 1000000, .int .u64 10000000, .int .u64 100000000, .int .u64 1000000000, .int .u64 10000000000, .int .u64 100000000000, .int .u64 1000000000000, .int .u64 10000000000000, .int .u64 100000000000000, .int .u64 1000000000000000, .int .u64 10000000000000000, .int .u64 100000000000000000, .int .u64 1000000000000000000, .int .u64 10000000000000000000])]
theorem mixed3 : Tryz.prog.follows .mixedOrders = true := by kernel_rfl
theorem tabs3_flat : tabsFlat Tryz.prog.globals.size tabs3 = true := by kernel_rfl
noncomputable def ork0 : Orc := orj
theorem ork0_ok : OrcOk Tryz.prog ork0 := orj_ok
theorem rum0 (es : Nat → TypeId) : (call Tryz.prog ork0 1000 11 #[.agg #[.int .i64 0, .int .i64 0, .int .i64 0], .int .i64 10000] (base tabs3 es Tryz.prog.globals.size)).map (·.1) = some (.int .i64 0) := by kernel_rfl
noncomputable def ork1 : Orc := known tabs3 ork0 11 #[.agg #[.int .i64 0, .int .i64 0, .int .i64 0], .int .i64 10000] (.int .i64 0)
theorem ork1_ok : OrcOk Tryz.prog ork1 := known_ok mixed3 ork0_ok tabs3_flat (by decide) (by decide) rum0
theorem rum1 (es : Nat → TypeId) : (call Tryz.prog ork1 1000 11 #[.agg #[.int .i64 0, .int .i64 0, .int .i64 40], .int .i64 10000] (base tabs3 es Tryz.prog.globals.size)).map (·.1) = some (.int .i64 0) := by kernel_rfl
noncomputable def ork2 : Orc := known tabs3 ork1 11 #[.agg #[.int .i64 0, .int .i64 0, .int .i64 40], .int .i64 10000] (.int .i64 0)
theorem ork2_ok : OrcOk Tryz.prog ork2 := known_ok mixed3 ork1_ok tabs3_flat (by decide) (by decide) rum1
theorem rum2 (es : Nat → TypeId) : (call Tryz.prog ork2 1000 11 #[.agg #[.int .i64 2, .int .i64 0, .int .i64 30], .int .i64 10000] (base tabs3 es Tryz.prog.globals.size)).map (·.1) = some (.int .i64 0) := by kernel_rfl
noncomputable def ork3 : Orc := known tabs3 ork2 11 #[.agg #[.int .i64 2, .int .i64 0, .int .i64 30], .int .i64 10000] (.int .i64 0)
theorem ork3_ok : OrcOk Tryz.prog ork3 := known_ok mixed3 ork2_ok tabs3_flat (by decide) (by decide) rum2
theorem rum3 (es : Nat → TypeId) : (call Tryz.prog ork3 1000 91 #[.string ⟨#[112, 101, 108, 118, 105, 115]⟩] (base tabs3 es Tryz.prog.globals.size)).map (·.1) = some (.int .i64 0) := by kernel_rfl
noncomputable def ork4 : Orc := known tabs3 ork3 91 #[.string ⟨#[112, 101, 108, 118, 105, 115]⟩] (.int .i64 0)
theorem ork4_ok : OrcOk Tryz.prog ork4 := known_ok mixed3 ork3_ok tabs3_flat (by decide) (by decide) rum3
theorem rum4 (es : Nat → TypeId) : (call Tryz.prog ork4 1000 91 #[.string ⟨#[99, 104, 101, 115, 116]⟩] (base tabs3 es Tryz.prog.globals.size)).map (·.1) = some (.int .i64 0) := by kernel_rfl
noncomputable def ork5 : Orc := known tabs3 ork4 91 #[.string ⟨#[99, 104, 101, 115, 116]⟩] (.int .i64 0)
theorem ork5_ok : OrcOk Tryz.prog ork5 := known_ok mixed3 ork4_ok tabs3_flat (by decide) (by decide) rum4
theorem rum5 (es : Nat → TypeId) : (call Tryz.prog ork5 1000 91 #[.string ⟨#[104, 101, 97, 100]⟩] (base tabs3 es Tryz.prog.globals.size)).map (·.1) = some (.int .i64 0) := by kernel_rfl
noncomputable def ork6 : Orc := known tabs3 ork5 91 #[.string ⟨#[104, 101, 97, 100]⟩] (.int .i64 0)
theorem ork6_ok : OrcOk Tryz.prog ork6 := known_ok mixed3 ork5_ok tabs3_flat (by decide) (by decide) rum5
theorem rum6 (es : Nat → TypeId) : (call Tryz.prog ork6 1000 91 #[.string ⟨#[104, 49]⟩] (base tabs3 es Tryz.prog.globals.size)).map (·.1) = some (.int .i64 0) := by kernel_rfl
noncomputable def ork7 : Orc := known tabs3 ork6 91 #[.string ⟨#[104, 49]⟩] (.int .i64 0)
theorem ork7_ok : OrcOk Tryz.prog ork7 := known_ok mixed3 ork6_ok tabs3_flat (by decide) (by decide) rum6
theorem rum7 (es : Nat → TypeId) : (call Tryz.prog ork7 1000 91 #[.string ⟨#[99, 49]⟩] (base tabs3 es Tryz.prog.globals.size)).map (·.1) = some (.int .i64 0) := by kernel_rfl
noncomputable def ork8 : Orc := known tabs3 ork7 91 #[.string ⟨#[99, 49]⟩] (.int .i64 0)
theorem ork8_ok : OrcOk Tryz.prog ork8 := known_ok mixed3 ork7_ok tabs3_flat (by decide) (by decide) rum7
theorem rum8 (es : Nat → TypeId) : (call Tryz.prog ork8 1000 91 #[.string ⟨#[104, 50]⟩] (base tabs3 es Tryz.prog.globals.size)).map (·.1) = some (.int .i64 0) := by kernel_rfl
noncomputable def ork9 : Orc := known tabs3 ork8 91 #[.string ⟨#[104, 50]⟩] (.int .i64 0)
theorem ork9_ok : OrcOk Tryz.prog ork9 := known_ok mixed3 ork8_ok tabs3_flat (by decide) (by decide) rum8
theorem rum9 (es : Nat → TypeId) : (call Tryz.prog ork9 1000 91 #[.string ⟨#[107, 49]⟩] (base tabs3 es Tryz.prog.globals.size)).map (·.1) = some (.int .i64 0) := by kernel_rfl
noncomputable def ork10 : Orc := known tabs3 ork9 91 #[.string ⟨#[107, 49]⟩] (.int .i64 0)
theorem ork10_ok : OrcOk Tryz.prog ork10 := known_ok mixed3 ork9_ok tabs3_flat (by decide) (by decide) rum9
theorem rum10 (es : Nat → TypeId) : (call Tryz.prog ork10 1000 91 #[.string ⟨#[107, 50]⟩] (base tabs3 es Tryz.prog.globals.size)).map (·.1) = some (.int .i64 0) := by kernel_rfl
noncomputable def ork11 : Orc := known tabs3 ork10 91 #[.string ⟨#[107, 50]⟩] (.int .i64 0)
theorem ork11_ok : OrcOk Tryz.prog ork11 := known_ok mixed3 ork10_ok tabs3_flat (by decide) (by decide) rum10
theorem rum11 (es : Nat → TypeId) : (call Tryz.prog ork11 1000 91 #[.string ⟨#[107, 51]⟩] (base tabs3 es Tryz.prog.globals.size)).map (·.1) = some (.int .i64 0) := by kernel_rfl
noncomputable def ork12 : Orc := known tabs3 ork11 91 #[.string ⟨#[107, 51]⟩] (.int .i64 0)
theorem ork12_ok : OrcOk Tryz.prog ork12 := known_ok mixed3 ork11_ok tabs3_flat (by decide) (by decide) rum11
theorem rum12 (es : Nat → TypeId) : (call Tryz.prog ork12 1000 91 #[.string ⟨#[107, 52]⟩] (base tabs3 es Tryz.prog.globals.size)).map (·.1) = some (.int .i64 0) := by kernel_rfl
noncomputable def ork13 : Orc := known tabs3 ork12 91 #[.string ⟨#[107, 52]⟩] (.int .i64 0)
theorem ork13_ok : OrcOk Tryz.prog ork13 := known_ok mixed3 ork12_ok tabs3_flat (by decide) (by decide) rum12
theorem rum13 (es : Nat → TypeId) : (call Tryz.prog ork13 1000 91 #[.string ⟨#[116, 49]⟩] (base tabs3 es Tryz.prog.globals.size)).map (·.1) = some (.int .i64 0) := by kernel_rfl
noncomputable def ork14 : Orc := known tabs3 ork13 91 #[.string ⟨#[116, 49]⟩] (.int .i64 0)
theorem ork14_ok : OrcOk Tryz.prog ork14 := known_ok mixed3 ork13_ok tabs3_flat (by decide) (by decide) rum13
theorem rum14 (es : Nat → TypeId) : (call Tryz.prog ork14 1000 91 #[.string ⟨#[116, 50]⟩] (base tabs3 es Tryz.prog.globals.size)).map (·.1) = some (.int .i64 0) := by kernel_rfl
noncomputable def ork15 : Orc := known tabs3 ork14 91 #[.string ⟨#[116, 50]⟩] (.int .i64 0)
theorem ork15_ok : OrcOk Tryz.prog ork15 := known_ok mixed3 ork14_ok tabs3_flat (by decide) (by decide) rum14
theorem rum15 (es : Nat → TypeId) : (call Tryz.prog ork15 1000 91 #[.string ⟨#[116, 51]⟩] (base tabs3 es Tryz.prog.globals.size)).map (·.1) = some (.int .i64 0) := by kernel_rfl
noncomputable def ork16 : Orc := known tabs3 ork15 91 #[.string ⟨#[116, 51]⟩] (.int .i64 0)
theorem ork16_ok : OrcOk Tryz.prog ork16 := known_ok mixed3 ork15_ok tabs3_flat (by decide) (by decide) rum15
theorem rum16 (es : Nat → TypeId) : (call Tryz.prog ork16 1000 91 #[.string ⟨#[116, 52]⟩] (base tabs3 es Tryz.prog.globals.size)).map (·.1) = some (.int .i64 0) := by kernel_rfl
noncomputable def ork17 : Orc := known tabs3 ork16 91 #[.string ⟨#[116, 52]⟩] (.int .i64 0)
theorem ork17_ok : OrcOk Tryz.prog ork17 := known_ok mixed3 ork16_ok tabs3_flat (by decide) (by decide) rum16
theorem rum17 (es : Nat → TypeId) : (call Tryz.prog ork17 1000 91 #[.string ⟨#[116, 53]⟩] (base tabs3 es Tryz.prog.globals.size)).map (·.1) = some (.int .i64 0) := by kernel_rfl
noncomputable def ork18 : Orc := known tabs3 ork17 91 #[.string ⟨#[116, 53]⟩] (.int .i64 0)
theorem ork18_ok : OrcOk Tryz.prog ork18 := known_ok mixed3 ork17_ok tabs3_flat (by decide) (by decide) rum17
theorem rum18 (es : Nat → TypeId) : (call Tryz.prog ork18 1000 91 #[.string ⟨#[116, 54]⟩] (base tabs3 es Tryz.prog.globals.size)).map (·.1) = some (.int .i64 0) := by kernel_rfl
noncomputable def ork19 : Orc := known tabs3 ork18 91 #[.string ⟨#[116, 54]⟩] (.int .i64 0)
theorem ork19_ok : OrcOk Tryz.prog ork19 := known_ok mixed3 ork18_ok tabs3_flat (by decide) (by decide) rum18
theorem rum19 (es : Nat → TypeId) : (call Tryz.prog ork19 1000 91 #[.string ⟨#[102, 117, 101, 108]⟩] (base tabs3 es Tryz.prog.globals.size)).map (·.1) = some (.int .i64 0) := by kernel_rfl
noncomputable def ork20 : Orc := known tabs3 ork19 91 #[.string ⟨#[102, 117, 101, 108]⟩] (.int .i64 0)
theorem ork20_ok : OrcOk Tryz.prog ork20 := known_ok mixed3 ork19_ok tabs3_flat (by decide) (by decide) rum19
theorem rum20 (es : Nat → TypeId) : (call Tryz.prog ork20 1000 91 #[.string ⟨#[97, 114, 109]⟩] (base tabs3 es Tryz.prog.globals.size)).map (·.1) = some (.int .i64 0) := by kernel_rfl
noncomputable def ork21 : Orc := known tabs3 ork20 91 #[.string ⟨#[97, 114, 109]⟩] (.int .i64 0)
theorem ork21_ok : OrcOk Tryz.prog ork21 := known_ok mixed3 ork20_ok tabs3_flat (by decide) (by decide) rum20
theorem rum21 (es : Nat → TypeId) : (call Tryz.prog ork21 1000 91 #[.string ⟨#[97, 110, 110]⟩] (base tabs3 es Tryz.prog.globals.size)).map (·.1) = some (.int .i64 0) := by kernel_rfl
noncomputable def ork22 : Orc := known tabs3 ork21 91 #[.string ⟨#[97, 110, 110]⟩] (.int .i64 0)
theorem ork22_ok : OrcOk Tryz.prog ork22 := known_ok mixed3 ork21_ok tabs3_flat (by decide) (by decide) rum21
theorem rum22 (es : Nat → TypeId) : (call Tryz.prog ork22 1000 128 #[.agg #[.int .i64 0, .int .i64 10], .int .i64 (-1000000), .int .i64 1000000] (base tabs3 es Tryz.prog.globals.size)).map (·.1) = some (.int .i64 0) := by kernel_rfl
noncomputable def ork23 : Orc := known tabs3 ork22 128 #[.agg #[.int .i64 0, .int .i64 10], .int .i64 (-1000000), .int .i64 1000000] (.int .i64 0)
theorem ork23_ok : OrcOk Tryz.prog ork23 := known_ok mixed3 ork22_ok tabs3_flat (by decide) (by decide) rum22
theorem rum23 (es : Nat → TypeId) : (call Tryz.prog ork23 1000 128 #[.agg #[.int .i64 50, .int .i64 60], .int .i64 (-1000000), .int .i64 1000000] (base tabs3 es Tryz.prog.globals.size)).map (·.1) = some (.int .i64 0) := by kernel_rfl
noncomputable def ork24 : Orc := known tabs3 ork23 128 #[.agg #[.int .i64 50, .int .i64 60], .int .i64 (-1000000), .int .i64 1000000] (.int .i64 0)
theorem ork24_ok : OrcOk Tryz.prog ork24 := known_ok mixed3 ork23_ok tabs3_flat (by decide) (by decide) rum23
theorem rum24 (es : Nat → TypeId) : (call Tryz.prog ork24 1000 128 #[.agg #[.int .i64 5, .int .i64 5], .int .i64 (-1000000), .int .i64 1000000] (base tabs3 es Tryz.prog.globals.size)).map (·.1) = some (.int .i64 0) := by kernel_rfl
noncomputable def ork25 : Orc := known tabs3 ork24 128 #[.agg #[.int .i64 5, .int .i64 5], .int .i64 (-1000000), .int .i64 1000000] (.int .i64 0)
theorem ork25_ok : OrcOk Tryz.prog ork25 := known_ok mixed3 ork24_ok tabs3_flat (by decide) (by decide) rum24
theorem rum25 (es : Nat → TypeId) : (call Tryz.prog ork25 1000 128 #[.agg #[.int .i64 100, .int .i64 120], .int .i64 (-1000000), .int .i64 1000000] (base tabs3 es Tryz.prog.globals.size)).map (·.1) = some (.int .i64 0) := by kernel_rfl
noncomputable def ork26 : Orc := known tabs3 ork25 128 #[.agg #[.int .i64 100, .int .i64 120], .int .i64 (-1000000), .int .i64 1000000] (.int .i64 0)
theorem ork26_ok : OrcOk Tryz.prog ork26 := known_ok mixed3 ork25_ok tabs3_flat (by decide) (by decide) rum25
noncomputable def pieces3 : Orc := ork26
theorem pieces3_ok : OrcOk Tryz.prog pieces3 := ork26_ok
end Go.Proofs.YtjneolfkfekdpaaGreatDoor
