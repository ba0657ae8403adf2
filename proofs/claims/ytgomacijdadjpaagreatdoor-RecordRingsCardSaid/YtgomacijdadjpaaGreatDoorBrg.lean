/-
  OWN WORK. What a row's list of variables gives: the tables are there.
-/
import Derived.Test.YtgomacijdadjpaaGreatDoorAmBr
import Derived.Test.YtgomacijdadjpaaGreatDoorAwkB
import Derived.Test.YtgomacijdadjpaaGreatDoorRows
namespace Go.Proofs.YtgomacijdadjpaaGreatDoor
open Go Go.Am

theorem laidOut : laidOutB Tryz.prog = true := by kernel_rfl
theorem gPow : Tryz.prog.globalNamed "crumple/record.powers" = some 0 := by kernel_rfl
theorem gPowType : (Tryz.prog.globals[0]?).map (·.type) = some 79 := by kernel_rfl
theorem gTen : Tryz.prog.globalNamed "internal/strconv.uint64pow10" = some 2 := by kernel_rfl
theorem gTenType : (Tryz.prog.globals[2]?).map (·.type) = some 188 := by kernel_rfl
theorem uTen : Tryz.prog.underlying 188 = some (.array 20 177) := by kernel_rfl
theorem uU64 : Tryz.prog.underlying 177 = some (.int .u64) := by kernel_rfl
theorem cU64 : Tryz.prog.cellsOf 177 = 1 := by kernel_rfl
theorem cTen : Tryz.prog.cellsOf 188 = 20 := by kernel_rfl
theorem uPow : Tryz.prog.underlying 79 = some (.array 4 78) := by kernel_rfl
theorem cPow : Tryz.prog.cellsOf 79 = 8 := by kernel_rfl
theorem cGauss : Tryz.prog.cellsOf 78 = 2 := by kernel_rfl
theorem uInt : Tryz.prog.underlying 3 = some (.int .i64) := by kernel_rfl
theorem cInt : Tryz.prog.cellsOf 3 = 1 := by kernel_rfl
theorem uBool : Tryz.prog.underlying 4 = some .bool := by kernel_rfl
theorem uString : Tryz.prog.underlying 9 = some .string := by kernel_rfl

theorem pow_cells {W : World} (cs : List Value) (fuel : Nat) (p : List MemPlace) (h : DataW.trod (fun _ => ()) Tryz.prog W 0 (fun _ => true) false fuel 79 cs = some (Rows.laid_crumple_record_powers, p)) :
    cs = [.int .i64 1, .int .i64 0, .int .i64 0, .int .i64 (-1), .int .i64 (-1), .int .i64 0, .int .i64 0, .int .i64 1] := by
  obtain ⟨xs, m, _, hx, hl, hn, hi⟩ := DataW.trod_array uPow h
  rw [cPow] at hl
  simp only [cGauss] at hi
  match cs, hl with
  | [c0, c1, c2, c3, c4, c5, c6, c7], _ =>
  match xs, hn with
  | [x0, x1, x2, x3], _ =>
  have h0 := hi 0 (by omega)
  have h1 := hi 1 (by omega)
  have h2 := hi 2 (by omega)
  have h3 := hi 3 (by omega)
  simp only [List.getElem?_cons_zero, List.getElem?_cons_succ] at h0 h1 h2 h3
  have one : ∀ (a b : Value) (x : DataW Unit × List MemPlace) (u v : Int), DataW.trod (fun _ => ()) Tryz.prog W 0 (fun _ => true) false m 78 [a, b] = some x → x.1 = .agg [.lit (.int .i64 u), .lit (.int .i64 v)] → a = .int .i64 u ∧ b = .int .i64 v := by
    intro a b x u v hx e
    obtain ⟨y0, y1, n, rfl, _, k0, k1⟩ := Go.ChangeShapes.trod_struct2 Tryz.underlying78 hx
    rw [show Tryz.prog.cellsOf _ = 1 from cInt] at k0 k1
    obtain ⟨z0, q0, rfl, _⟩ := DataW.trod_int uInt k0
    obtain ⟨z1, q1, rfl, _⟩ := DataW.trod_int uInt k1
    simp at q0 q1 e
    exact ⟨by rw [q0, e.1], by rw [q1, e.2]⟩
  simp only [Rows.laid_crumple_record_powers, Prod.mk.injEq, DataW.agg.injEq, List.map_cons, List.map_nil, List.cons.injEq, and_true] at hx
  obtain ⟨⟨e0, e1, e2, e3⟩, _⟩ := hx
  obtain ⟨rfl, rfl⟩ := one c0 c1 x0 1 0 h0 e0.symm
  obtain ⟨rfl, rfl⟩ := one c2 c3 x1 0 (-1) h1 e1.symm
  obtain ⟨rfl, rfl⟩ := one c4 c5 x2 (-1) 0 h2 e2.symm
  obtain ⟨rfl, rfl⟩ := one c6 c7 x3 0 1 h3 e3.symm
  rfl
theorem ten_cells {W : World} (cs : List Value) (fuel : Nat) (p : List MemPlace) (h : DataW.trod (fun _ => ()) Tryz.prog W 0 (fun _ => true) false fuel 188 cs = some (Rows.laid_internal_strconv_uint64pow10, p)) :
    cs = [1, 10, 100, 1000, 10000, 100000, 1000000, 10000000, 100000000, 1000000000, 10000000000, 100000000000, 1000000000000, 10000000000000, 100000000000000, 1000000000000000, 10000000000000000, 100000000000000000, 1000000000000000000, 10000000000000000000].map (Value.int .u64) :=
  Lib.cells_of_tab (zs := [1, 10, 100, 1000, 10000, 100000, 1000000, 10000000, 100000000, 1000000000, 10000000000, 100000000000, 1000000000000, 10000000000000, 100000000000000, 1000000000000000, 10000000000000000, 100000000000000000, 1000000000000000000, 10000000000000000000]) uTen uU64 cU64 cTen h

/-- The tables are there. -/
theorem holds_tabs {W : World} {l : List (String × DataW Unit)} (h : laidMet Tryz.prog l W) (h1 : ("crumple/record.powers", Rows.laid_crumple_record_powers) ∈ l) (h2 : ("internal/strconv.uint64pow10", Rows.laid_internal_strconv_uint64pow10) ∈ l) : Holds tabs W := by
  intro x hx
  simp only [tabs, List.mem_cons, List.not_mem_nil, or_false] at hx
  rcases hx with rfl | rfl
  · exact laid_block h h1 gPow gPowType (by simp) pow_cells
  · exact laid_block h h2 gTen gTenType (by simp) ten_cells
end Go.Proofs.YtgomacijdadjpaaGreatDoor
