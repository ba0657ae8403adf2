/-
  OWN WORK. RecordFrames returns true for all keys, frames and bytes, and leaves its arguments as they were: its card.
  Conditions: those of the card itself (the listed variables read as the program's text lays them).
-/
import Derived.Test.YtphhcoiclkfimaaGreatDoorCrdF
import Derived.Test.YtphhcoiclkfimaaGreatDoorFrG
namespace Go.Proofs.YtphhcoiclkfimaaGreatDoor
open Go Go.Am Go.ChangeShapes Go.WideShapes Go.ChangeAt Go.RowKit

theorem uU8 : Tryz.prog.underlying 5 = some (.int .u8) := by kernel_rfl
theorem cU8 : Tryz.prog.cellsOf 5 = 1 := by kernel_rfl
theorem uA30 : Tryz.prog.underlying 52 = some (.array 30 5) := by kernel_rfl
theorem cA30 : Tryz.prog.cellsOf 52 = 30 := by kernel_rfl
theorem uKey : Tryz.prog.underlying 47 = some (.array 8 5) := by kernel_rfl
theorem cKey : Tryz.prog.cellsOf 47 = 8 := by kernel_rfl
theorem uA8 : Tryz.prog.underlying 49 = some (.array 8 48) := by kernel_rfl
theorem cA8 : Tryz.prog.cellsOf 49 = 8 := by kernel_rfl
theorem cFr : Tryz.prog.cellsOf 51 = 11 := by kernel_rfl
theorem byte_wf {a : Int} (wa : (Lit.int .u8 a).wf = true) : inB a := by
  unfold inB
  simp only [Lit.wf, Bool.and_eq_true, decide_eq_true_eq] at wa
  have h1 : IntKind.min .u8 = 0 := by decide
  have h2 : IntKind.max .u8 = 255 := by decide
  omega
set_option maxRecDepth 100000 in
theorem openKey {H : Type} {enc : TypeId × Value → H} {W : World} {base : Nat} {sp : Nat → Bool} {held : Bool} {v : Value} {d : DataW H} {ps : List MemPlace} {r : Reach} {b0 : Nat} (hval : Value.okWide Tryz.prog W r b0 47 v) (hd : DataW.Trod enc Tryz.prog W base sp held 47 v d ps) :
    ∃ k0 k1 k2 k3 k4 k5 k6 k7 : Int, v = ke k0 k1 k2 k3 k4 k5 k6 k7 ∧ in8 k0 k1 k2 k3 k4 k5 k6 k7 := by
  simp only [Value.okWide, uKey] at hval
  obtain ⟨cs, rfl, hs, _⟩ := hval
  rw [cKey] at hs
  obtain ⟨l⟩ := cs
  match l, hs with
  | [c0, c1, c2, c3, c4, c5, c6, c7], _ =>
  obtain ⟨fuel, hf⟩ := hd
  obtain ⟨xs, m, _, _, _, hn, hi⟩ := DataW.trod_array uKey hf
  match xs, hn with
  | [x0, x1, x2, x3, x4, x5, x6, x7], _ =>
  have h0 := hi 0 (by omega)
  have h1 := hi 1 (by omega)
  have h2 := hi 2 (by omega)
  have h3 := hi 3 (by omega)
  have h4 := hi 4 (by omega)
  have h5 := hi 5 (by omega)
  have h6 := hi 6 (by omega)
  have h7 := hi 7 (by omega)
  rw [cU8] at h0 h1 h2 h3 h4 h5 h6 h7
  obtain ⟨k0, e0, _, w0⟩ := DataW.trod_int uU8 h0
  obtain ⟨k1, e1, _, w1⟩ := DataW.trod_int uU8 h1
  obtain ⟨k2, e2, _, w2⟩ := DataW.trod_int uU8 h2
  obtain ⟨k3, e3, _, w3⟩ := DataW.trod_int uU8 h3
  obtain ⟨k4, e4, _, w4⟩ := DataW.trod_int uU8 h4
  obtain ⟨k5, e5, _, w5⟩ := DataW.trod_int uU8 h5
  obtain ⟨k6, e6, _, w6⟩ := DataW.trod_int uU8 h6
  obtain ⟨k7, e7, _, w7⟩ := DataW.trod_int uU8 h7
  simp [Value.cells] at e0 e1 e2 e3 e4 e5 e6 e7
  exact ⟨k0, k1, k2, k3, k4, k5, k6, k7, by rw [e0, e1, e2, e3, e4, e5, e6, e7], ⟨byte_wf w0, byte_wf w1, byte_wf w2, byte_wf w3, byte_wf w4, byte_wf w5, byte_wf w6, byte_wf w7⟩⟩
set_option maxRecDepth 100000 in
theorem open30 {H : Type} {enc : TypeId × Value → H} {W : World} {base : Nat} {sp : Nat → Bool} {held : Bool} {v : Value} {d : DataW H} {ps : List MemPlace} {r : Reach} {b0 : Nat} (hval : Value.okWide Tryz.prog W r b0 52 v) (hd : DataW.Trod enc Tryz.prog W base sp held 52 v d ps) :
    ∃ b0 b1 b2 b3 b4 b5 b6 b7 b8 b9 b10 b11 b12 b13 b14 b15 b16 b17 b18 b19 b20 b21 b22 b23 b24 b25 b26 b27 b28 b29 : Int, v = ar30 b0 b1 b2 b3 b4 b5 b6 b7 b8 b9 b10 b11 b12 b13 b14 b15 b16 b17 b18 b19 b20 b21 b22 b23 b24 b25 b26 b27 b28 b29 ∧ ∀ x ∈ [b0, b1, b2, b3, b4, b5, b6, b7, b8, b9, b10, b11, b12, b13, b14, b15, b16, b17, b18, b19, b20, b21, b22, b23, b24, b25, b26, b27, b28, b29], inB x := by
  simp only [Value.okWide, uA30] at hval
  obtain ⟨cs, rfl, hs, _⟩ := hval
  rw [cA30] at hs
  obtain ⟨l⟩ := cs
  match l, hs with
  | [c0, c1, c2, c3, c4, c5, c6, c7, c8, c9, c10, c11, c12, c13, c14, c15, c16, c17, c18, c19, c20, c21, c22, c23, c24, c25, c26, c27, c28, c29], _ =>
  obtain ⟨fuel, hf⟩ := hd
  obtain ⟨xs, m, _, _, _, hn, hi⟩ := DataW.trod_array uA30 hf
  match xs, hn with
  | [x0, x1, x2, x3, x4, x5, x6, x7, x8, x9, x10, x11, x12, x13, x14, x15, x16, x17, x18, x19, x20, x21, x22, x23, x24, x25, x26, x27, x28, x29], _ =>
  have h0 := hi 0 (by omega)
  have h1 := hi 1 (by omega)
  have h2 := hi 2 (by omega)
  have h3 := hi 3 (by omega)
  have h4 := hi 4 (by omega)
  have h5 := hi 5 (by omega)
  have h6 := hi 6 (by omega)
  have h7 := hi 7 (by omega)
  have h8 := hi 8 (by omega)
  have h9 := hi 9 (by omega)
  have h10 := hi 10 (by omega)
  have h11 := hi 11 (by omega)
  have h12 := hi 12 (by omega)
  have h13 := hi 13 (by omega)
  have h14 := hi 14 (by omega)
  have h15 := hi 15 (by omega)
  have h16 := hi 16 (by omega)
  have h17 := hi 17 (by omega)
  have h18 := hi 18 (by omega)
  have h19 := hi 19 (by omega)
  have h20 := hi 20 (by omega)
  have h21 := hi 21 (by omega)
  have h22 := hi 22 (by omega)
  have h23 := hi 23 (by omega)
  have h24 := hi 24 (by omega)
  have h25 := hi 25 (by omega)
  have h26 := hi 26 (by omega)
  have h27 := hi 27 (by omega)
  have h28 := hi 28 (by omega)
  have h29 := hi 29 (by omega)
  rw [cU8] at h0 h1 h2 h3 h4 h5 h6 h7 h8 h9 h10 h11 h12 h13 h14 h15 h16 h17 h18 h19 h20 h21 h22 h23 h24 h25 h26 h27 h28 h29
  obtain ⟨b0, e0, _, w0⟩ := DataW.trod_int uU8 h0
  obtain ⟨b1, e1, _, w1⟩ := DataW.trod_int uU8 h1
  obtain ⟨b2, e2, _, w2⟩ := DataW.trod_int uU8 h2
  obtain ⟨b3, e3, _, w3⟩ := DataW.trod_int uU8 h3
  obtain ⟨b4, e4, _, w4⟩ := DataW.trod_int uU8 h4
  obtain ⟨b5, e5, _, w5⟩ := DataW.trod_int uU8 h5
  obtain ⟨b6, e6, _, w6⟩ := DataW.trod_int uU8 h6
  obtain ⟨b7, e7, _, w7⟩ := DataW.trod_int uU8 h7
  obtain ⟨b8, e8, _, w8⟩ := DataW.trod_int uU8 h8
  obtain ⟨b9, e9, _, w9⟩ := DataW.trod_int uU8 h9
  obtain ⟨b10, e10, _, w10⟩ := DataW.trod_int uU8 h10
  obtain ⟨b11, e11, _, w11⟩ := DataW.trod_int uU8 h11
  obtain ⟨b12, e12, _, w12⟩ := DataW.trod_int uU8 h12
  obtain ⟨b13, e13, _, w13⟩ := DataW.trod_int uU8 h13
  obtain ⟨b14, e14, _, w14⟩ := DataW.trod_int uU8 h14
  obtain ⟨b15, e15, _, w15⟩ := DataW.trod_int uU8 h15
  obtain ⟨b16, e16, _, w16⟩ := DataW.trod_int uU8 h16
  obtain ⟨b17, e17, _, w17⟩ := DataW.trod_int uU8 h17
  obtain ⟨b18, e18, _, w18⟩ := DataW.trod_int uU8 h18
  obtain ⟨b19, e19, _, w19⟩ := DataW.trod_int uU8 h19
  obtain ⟨b20, e20, _, w20⟩ := DataW.trod_int uU8 h20
  obtain ⟨b21, e21, _, w21⟩ := DataW.trod_int uU8 h21
  obtain ⟨b22, e22, _, w22⟩ := DataW.trod_int uU8 h22
  obtain ⟨b23, e23, _, w23⟩ := DataW.trod_int uU8 h23
  obtain ⟨b24, e24, _, w24⟩ := DataW.trod_int uU8 h24
  obtain ⟨b25, e25, _, w25⟩ := DataW.trod_int uU8 h25
  obtain ⟨b26, e26, _, w26⟩ := DataW.trod_int uU8 h26
  obtain ⟨b27, e27, _, w27⟩ := DataW.trod_int uU8 h27
  obtain ⟨b28, e28, _, w28⟩ := DataW.trod_int uU8 h28
  obtain ⟨b29, e29, _, w29⟩ := DataW.trod_int uU8 h29
  simp [Value.cells] at e0 e1 e2 e3 e4 e5 e6 e7 e8 e9 e10 e11 e12 e13 e14 e15 e16 e17 e18 e19 e20 e21 e22 e23 e24 e25 e26 e27 e28 e29
  exact ⟨b0, b1, b2, b3, b4, b5, b6, b7, b8, b9, b10, b11, b12, b13, b14, b15, b16, b17, b18, b19, b20, b21, b22, b23, b24, b25, b26, b27, b28, b29, by rw [e0, e1, e2, e3, e4, e5, e6, e7, e8, e9, e10, e11, e12, e13, e14, e15, e16, e17, e18, e19, e20, e21, e22, e23, e24, e25, e26, e27, e28, e29], fun x hx => by
    simp only [List.mem_cons, List.not_mem_nil, or_false] at hx
    rcases hx with rfl | rfl | rfl | rfl | rfl | rfl | rfl | rfl | rfl | rfl | rfl | rfl | rfl | rfl | rfl | rfl | rfl | rfl | rfl | rfl | rfl | rfl | rfl | rfl | rfl | rfl | rfl | rfl | rfl | rfl
    · exact byte_wf w0
    · exact byte_wf w1
    · exact byte_wf w2
    · exact byte_wf w3
    · exact byte_wf w4
    · exact byte_wf w5
    · exact byte_wf w6
    · exact byte_wf w7
    · exact byte_wf w8
    · exact byte_wf w9
    · exact byte_wf w10
    · exact byte_wf w11
    · exact byte_wf w12
    · exact byte_wf w13
    · exact byte_wf w14
    · exact byte_wf w15
    · exact byte_wf w16
    · exact byte_wf w17
    · exact byte_wf w18
    · exact byte_wf w19
    · exact byte_wf w20
    · exact byte_wf w21
    · exact byte_wf w22
    · exact byte_wf w23
    · exact byte_wf w24
    · exact byte_wf w25
    · exact byte_wf w26
    · exact byte_wf w27
    · exact byte_wf w28
    · exact byte_wf w29⟩
set_option maxRecDepth 100000 in
theorem openFr {H : Type} {enc : TypeId × Value → H} {W : World} {base : Nat} {sp : Nat → Bool} {held : Bool} {v : Value} {d : DataW H} {ps : List MemPlace} {r : Reach} {b0 : Nat} (hval : Value.okWide Tryz.prog W r b0 51 v) (hd : DataW.Trod enc Tryz.prog W base sp held 51 v d ps) :
    ∃ (d c n : Int) (a0 a1 a2 a3 a4 a5 a6 a7 : Nat), v = frV d c n a0 a1 a2 a3 a4 a5 a6 a7 := by
  simp only [Value.okWide, Tryz.underlying51] at hval
  obtain ⟨cs, rfl, hs, _⟩ := hval
  rw [cFr] at hs
  obtain ⟨l⟩ := cs
  match l, hs with
  | [c0, c1, c2, c3, c4, c5, c6, c7, c8, c9, c10], _ =>
  obtain ⟨fuel, hf⟩ := hd
  obtain ⟨xs, m, _, _, _, hn, hi⟩ := DataW.trod_struct Tryz.underlying51 hf
  match xs, hn with
  | [x0, x1, x2, x3], _ =>
  have h0 : DataW.trod enc Tryz.prog W base sp held m 3 (([c0, c1, c2, c3, c4, c5, c6, c7, c8, c9, c10].drop 0).take (Tryz.prog.cellsOf 3)) = some x0 := hi 0 _ rfl
  have h1 : DataW.trod enc Tryz.prog W base sp held m 3 (([c0, c1, c2, c3, c4, c5, c6, c7, c8, c9, c10].drop 1).take (Tryz.prog.cellsOf 3)) = some x1 := hi 1 _ rfl
  have h2 : DataW.trod enc Tryz.prog W base sp held m 3 (([c0, c1, c2, c3, c4, c5, c6, c7, c8, c9, c10].drop 2).take (Tryz.prog.cellsOf 3)) = some x2 := hi 2 _ rfl
  have h3 : DataW.trod enc Tryz.prog W base sp held m 49 (([c0, c1, c2, c3, c4, c5, c6, c7, c8, c9, c10].drop 3).take (Tryz.prog.cellsOf 49)) = some x3 := hi 3 _ rfl
  rw [cInt] at h0 h1 h2
  rw [cA8] at h3
  obtain ⟨d, ed, _, wd⟩ := DataW.trod_int uInt h0
  obtain ⟨c, ec, _, wc⟩ := DataW.trod_int uInt h1
  obtain ⟨n, en, _, wn⟩ := DataW.trod_int uInt h2
  obtain ⟨ys, m', _, _, _, gn, gi'⟩ := DataW.trod_array uA8 h3
  match ys, gn with
  | [y0, y1, y2, y3, y4, y5, y6, y7], _ =>
  have g0 := gi' 0 (by omega)
  have g1 := gi' 1 (by omega)
  have g2 := gi' 2 (by omega)
  have g3 := gi' 3 (by omega)
  have g4 := gi' 4 (by omega)
  have g5 := gi' 5 (by omega)
  have g6 := gi' 6 (by omega)
  have g7 := gi' 7 (by omega)
  rw [cF32] at g0 g1 g2 g3 g4 g5 g6 g7
  obtain ⟨a0, f0⟩ := trod_f32 _ _ _ g0
  obtain ⟨a1, f1⟩ := trod_f32 _ _ _ g1
  obtain ⟨a2, f2⟩ := trod_f32 _ _ _ g2
  obtain ⟨a3, f3⟩ := trod_f32 _ _ _ g3
  obtain ⟨a4, f4⟩ := trod_f32 _ _ _ g4
  obtain ⟨a5, f5⟩ := trod_f32 _ _ _ g5
  obtain ⟨a6, f6⟩ := trod_f32 _ _ _ g6
  obtain ⟨a7, f7⟩ := trod_f32 _ _ _ g7
  simp [Value.cells] at ed ec en
  exact ⟨d, c, n, a0, a1, a2, a3, a4, a5, a6, a7, by rw [ed, ec, en, f0, f1, f2, f3, f4, f5, f6, f7]⟩
set_option maxRecDepth 100000 in
theorem frm_contract (H : Type) (enc : TypeId × Value → H) (W : World) (base : Nat) (args : Array Value) (ds gs : List (DataW H)) (before : List MemPlace)
    (hval : ∀ (j : Nat) t v, Tryz.f4.params[j]? = some t → args[j]? = some v → Value.okWide Tryz.prog W .any base t v)
    (hW : DataW.Whole enc Tryz.prog Tryz.f4.params.toList Rows.recordFramesSpec.vars false W args.toList ds gs before) (hL : laidMetH Tryz.prog Rows.recordFramesRow.laid W) :
    Calls Tryz.prog 4 args W fun e W' => ∃ v, e = .returned v ∧ Rows.recordFramesSpec.post enc Tryz.prog Tryz.f4 false true false false W args v W' := by
  have hW' := hW
  obtain ⟨p, q, hA0, hV, rfl, hfz, hnd⟩ := hW'
  have hA : DataW.TrodAll enc Tryz.prog W 0 (fun _ => true) true Tryz.f4.params.toList args.toList ds p := hA0
  rw [Tryz.params4] at hA hval
  obtain ⟨v0, vs0, d0, ds0, p0, q0, hargs, rfl, rfl, h0, r0⟩ := trodAll_cons hA
  obtain ⟨v1, vs1, d1, ds1, p1, q1, hargs1, rfl, rfl, h1, r1⟩ := trodAll_cons r0
  obtain ⟨v2, vs2, d2, ds2, p2, q2, hargs2, rfl, rfl, h2, r2⟩ := trodAll_cons r1
  obtain ⟨rfl, rfl, rfl⟩ := trodAll_nil r2
  obtain rfl : args = #[v0, v1, v2] := by cases args; simp_all
  obtain ⟨rfl, rfl⟩ := trodVars_none hV
  obtain ⟨k0, k1, k2, k3, k4, k5, k6, k7, rfl, hk⟩ := openKey (hval 0 _ v0 rfl rfl) h0
  obtain ⟨d, c, n, a0, a1, a2, a3, a4, a5, a6, a7, rfl⟩ := openFr (hval 1 _ v1 rfl rfl) h1
  obtain ⟨b0, b1, b2, b3, b4, b5, b6, b7, b8, b9, b10, b11, b12, b13, b14, b15, b16, b17, b18, b19, b20, b21, b22, b23, b24, b25, b26, b27, b28, b29, rfl, hb⟩ := open30 (hval 2 _ v2 rfl rfl) h2
  have hT := holds_tabs hL (.tail _ (.tail _ (.tail _ (.head _)))) (.tail _ (.tail _ (.head _)))
  refine (of_call hT tabs_flat rfl rfl fun es => fr_call es k0 k1 k2 k3 k4 k5 k6 k7 b0 b1 b2 b3 b4 b5 b6 b7 b8 b9 b10 b11 b12 b13 b14 b15 b16 b17 b18 b19 b20 b21 b22 b23 b24 b25 b26 b27 b28 b29 d c n a0 a1 a2 a3 a4 a5 a6 a7 hk hb).mono fun e W' ⟨he, hb⟩ => ?_
  subst he
  exact ⟨_, rfl, post_true laidOut (fun t ht => by
    rw [Tryz.params4] at ht
    simp only [List.mem_cons, List.not_mem_nil, or_false] at ht
    rcases ht with rfl | rfl | rfl <;> exact ⟨by kernel_rfl, of_decide_eq_true (by kernel_rfl)⟩) (by kernel_rfl) uBool rfl rfl rfl rfl hW hb⟩

theorem frm_laid (os : Os) : laidMet Tryz.prog Rows.recordFramesRow.laid ((laidWorld os).forCall (fun _ _ => 0) ⟨#[], #[.agg #[.int .u8 0, .int .u8 0, .int .u8 0, .int .u8 0, .int .u8 0, .int .u8 0, .int .u8 0, .int .u8 0], .agg #[.int .i64 0, .int .i64 0, .int .i64 0, .float .f32 0, .float .f32 0, .float .f32 0, .float .f32 0, .float .f32 0, .float .f32 0, .float .f32 0, .float .f32 0], .agg #[.int .u8 0, .int .u8 0, .int .u8 0, .int .u8 0, .int .u8 0, .int .u8 0, .int .u8 0, .int .u8 0, .int .u8 0, .int .u8 0, .int .u8 0, .int .u8 0, .int .u8 0, .int .u8 0, .int .u8 0, .int .u8 0, .int .u8 0, .int .u8 0, .int .u8 0, .int .u8 0, .int .u8 0, .int .u8 0, .int .u8 0, .int .u8 0, .int .u8 0, .int .u8 0, .int .u8 0, .int .u8 0, .int .u8 0, .int .u8 0]], []⟩).memory :=
  laidMet_of_run' 8 (by kernel_rfl) (by kernel_rfl)
theorem frm_reads (os : Os) {H : Type} (enc : TypeId × Value → H) : ∃ places, DataW.whole enc Tryz.prog ((laidWorld os).forCall (fun _ _ => 0) ⟨#[], #[.agg #[.int .u8 0, .int .u8 0, .int .u8 0, .int .u8 0, .int .u8 0, .int .u8 0, .int .u8 0, .int .u8 0], .agg #[.int .i64 0, .int .i64 0, .int .i64 0, .float .f32 0, .float .f32 0, .float .f32 0, .float .f32 0, .float .f32 0, .float .f32 0, .float .f32 0, .float .f32 0], .agg #[.int .u8 0, .int .u8 0, .int .u8 0, .int .u8 0, .int .u8 0, .int .u8 0, .int .u8 0, .int .u8 0, .int .u8 0, .int .u8 0, .int .u8 0, .int .u8 0, .int .u8 0, .int .u8 0, .int .u8 0, .int .u8 0, .int .u8 0, .int .u8 0, .int .u8 0, .int .u8 0, .int .u8 0, .int .u8 0, .int .u8 0, .int .u8 0, .int .u8 0, .int .u8 0, .int .u8 0, .int .u8 0, .int .u8 0, .int .u8 0]], []⟩).memory Tryz.f4.params.toList Rows.recordFramesSpec.vars false
    #[Value.agg #[.int .u8 0, .int .u8 0, .int .u8 0, .int .u8 0, .int .u8 0, .int .u8 0, .int .u8 0, .int .u8 0], .agg #[.int .i64 0, .int .i64 0, .int .i64 0, .float .f32 0, .float .f32 0, .float .f32 0, .float .f32 0, .float .f32 0, .float .f32 0, .float .f32 0, .float .f32 0], .agg #[.int .u8 0, .int .u8 0, .int .u8 0, .int .u8 0, .int .u8 0, .int .u8 0, .int .u8 0, .int .u8 0, .int .u8 0, .int .u8 0, .int .u8 0, .int .u8 0, .int .u8 0, .int .u8 0, .int .u8 0, .int .u8 0, .int .u8 0, .int .u8 0, .int .u8 0, .int .u8 0, .int .u8 0, .int .u8 0, .int .u8 0, .int .u8 0, .int .u8 0, .int .u8 0, .int .u8 0, .int .u8 0, .int .u8 0, .int .u8 0]].toList 8 = some ([.agg [.lit (.int .u8 0), .lit (.int .u8 0), .lit (.int .u8 0), .lit (.int .u8 0), .lit (.int .u8 0), .lit (.int .u8 0), .lit (.int .u8 0), .lit (.int .u8 0)], .agg [.lit (.int .i64 0), .lit (.int .i64 0), .lit (.int .i64 0), .agg [.lit (.float .f32 0), .lit (.float .f32 0), .lit (.float .f32 0), .lit (.float .f32 0), .lit (.float .f32 0), .lit (.float .f32 0), .lit (.float .f32 0), .lit (.float .f32 0)]], .agg [.lit (.int .u8 0), .lit (.int .u8 0), .lit (.int .u8 0), .lit (.int .u8 0), .lit (.int .u8 0), .lit (.int .u8 0), .lit (.int .u8 0), .lit (.int .u8 0), .lit (.int .u8 0), .lit (.int .u8 0), .lit (.int .u8 0), .lit (.int .u8 0), .lit (.int .u8 0), .lit (.int .u8 0), .lit (.int .u8 0), .lit (.int .u8 0), .lit (.int .u8 0), .lit (.int .u8 0), .lit (.int .u8 0), .lit (.int .u8 0), .lit (.int .u8 0), .lit (.int .u8 0), .lit (.int .u8 0), .lit (.int .u8 0), .lit (.int .u8 0), .lit (.int .u8 0), .lit (.int .u8 0), .lit (.int .u8 0), .lit (.int .u8 0), .lit (.int .u8 0)]], [], places) :=
  ⟨[], by kernel_rfl⟩
set_option maxRecDepth 100000 in
theorem frm_lifted (os : Os) (started : os.Started) (H : Type) (enc : TypeId × Value → H) (F : Stop.Interp) :
    ReturnsInHanded {} Tryz.checked os 4 .any ((OpenSpec.ofChange Rows.recordFramesSpec).preRow enc Tryz.prog Tryz.f4 Rows.recordFramesRow.domain false Rows.recordFramesRow.laid) (((OpenSpec.ofChange Rows.recordFramesSpec).at F).post enc Tryz.prog Tryz.f4 false true false false) := by
  obtain ⟨places, hx⟩ := frm_reads os enc
  refine returnsInHanded_of_row (C := Tryz.checked) (s := OpenSpec.ofChange Rows.recordFramesSpec) own started (by kernel_rfl) Tryz.func4
    (witness_row_at (enc := enc) (C := Tryz.checked) false (laidWorld os) #[.agg #[.int .u8 0, .int .u8 0, .int .u8 0, .int .u8 0, .int .u8 0, .int .u8 0, .int .u8 0, .int .u8 0], .agg #[.int .i64 0, .int .i64 0, .int .i64 0, .float .f32 0, .float .f32 0, .float .f32 0, .float .f32 0, .float .f32 0, .float .f32 0, .float .f32 0, .float .f32 0], .agg #[.int .u8 0, .int .u8 0, .int .u8 0, .int .u8 0, .int .u8 0, .int .u8 0, .int .u8 0, .int .u8 0, .int .u8 0, .int .u8 0, .int .u8 0, .int .u8 0, .int .u8 0, .int .u8 0, .int .u8 0, .int .u8 0, .int .u8 0, .int .u8 0, .int .u8 0, .int .u8 0, .int .u8 0, .int .u8 0, .int .u8 0, .int .u8 0, .int .u8 0, .int .u8 0, .int .u8 0, .int .u8 0, .int .u8 0, .int .u8 0]] rfl (by kernel_rfl) (by kernel_rfl) (by kernel_rfl)
      (OpenSpec.preRow_of_cond 8 hx (by kernel_rfl) (fun k hk => by cases hk) (by kernel_rfl) (frm_laid os))) ?_
  intro W base args ds gs before hval hW _ _ _ hL _ _
  exact frm_contract H enc W base args ds gs before hval hW hL
theorem frm_said : Rows.RecordFramesSaid :=
  OpenClaim.holds_of_cond 4 Tryz.f4 rfl rfl rfl rfl rfl rfl rfl ⟨rfl, rfl, rfl, rfl, rfl⟩ rfl rfl rfl rfl rfl (by kernel_rfl) Tryz.func4 (by kernel_rfl)
    (of_decide_eq_true (by kernel_rfl)) (by unfold Func.isWrapper; first | (rw [if_pos (by decide +kernel)]; kernel_rfl) | (rw [if_neg (by decide +kernel)]; exact ⟨rfl, rfl⟩))
    (fun os started H enc _ F => by rw [OpenClaim.pre_eq_preRow]; exact frm_lifted os started H enc F)
theorem frm_plain (f : FuncId) (fn : Func) (hf : Tryz.pinned.checked.prog.funcNamed "crumple/crumplelaw01.RecordFrames" = some f) (hfn : Tryz.pinned.checked.prog.funcs[f]? = some fn) :
    false = Tryz.pinned.checked.prog.looks [] ∧ ∀ (j : Nat) t, fn.params[j]? = some t → Tryz.pinned.checked.prog.wantsStandIn t = false := by
  obtain rfl : f = 4 := Option.some.inj ((show Tryz.prog.funcNamed "crumple/crumplelaw01.RecordFrames" = some 4 by kernel_rfl).symm.trans hf) |>.symm
  obtain rfl : fn = Tryz.f4 := (Option.some.inj (Tryz.func4.symm.trans hfn)).symm
  refine ⟨by kernel_rfl, fun j t ht => ?_⟩
  rw [Tryz.params4] at ht
  have hm := Array.mem_of_getElem? ht
  simp only [List.mem_toArray, List.mem_cons, List.not_mem_nil, or_false] at hm
  rcases hm with rfl | rfl | rfl
  · exact (show Tryz.prog.wantsStandIn 47 = false by kernel_rfl)
  · exact (show Tryz.prog.wantsStandIn 51 = false by kernel_rfl)
  · exact (show Tryz.prog.wantsStandIn 52 = false by kernel_rfl)
/-- ████ THE CARD ████ -/
theorem recordFrames_holds : Rows.RecordFramesCardSaid :=
  Claim7.holds_tied_plain_at .later [] _ _ _ _ frm_said (fun _ h => by cases h) (by kernel_rfl) (fun _ h => by cases h) recordFrames_row_tie rfl ⟨rfl, rfl⟩ (by kernel_rfl) rfl frm_plain (by kernel_rfl)
#print axioms recordFrames_holds
end Go.Proofs.YtphhcoiclkfimaaGreatDoor
