/-
  OWN WORK. InjuryMargins returns true for all risk tables, bounds and limits, and leaves its arguments as they were: its card.
  Conditions: those of the card itself (the listed variables read as the program's text lays them).
-/
import Derived.Test.YtihnnmejkpddeaaGreatDoorBrg6
import Derived.Test.YtihnnmejkpddeaaGreatDoorMgK
import Derived.Test.YtihnnmejkpddeaaGreatDoorAm20
namespace Go.Proofs.YtihnnmejkpddeaaGreatDoor
open Go Go.Am Go.ChangeShapes Go.WideShapes Go.ChangeAt Go.RowKit

theorem cBool : Tryz.prog.cellsOf 4 = 1 := by kernel_rfl
theorem cRat : Tryz.prog.cellsOf 28 = 2 := by kernel_rfl
theorem cBnd : Tryz.prog.cellsOf 98 = 5 := by kernel_rfl
abbrev S3 := {q : P3 // okI q.1 q.2.1 = true}
instance : Inhabited S3 := ⟨⟨(0, 0, 0), rfl⟩⟩
noncomputable def e3 (z : S3) : List Value := st3 z.1
theorem e3_map : ∀ l : List S3, l.flatMap e3 = cells3 (l.map Subtype.val)
  | [] => rfl
  | q :: l => by rw [List.flatMap_cons, e3_map l]; rfl
theorem e3_flat (l : List S3) : (cells3 (l.map Subtype.val)).all (flat 3) = true := cells3_flat _
theorem wf_in {a : Int} (h : (Lit.int .i64 a).wf = true) : inI64 a = true := by
  have h : (decide ((-9223372036854775808 : Int) ≤ a) && decide (a ≤ (9223372036854775807 : Int))) = true := h
  rw [Bool.and_eq_true, decide_eq_true_eq, decide_eq_true_eq] at h
  rw [inI64_iff]
  omega
theorem mar_S (es : Nat → TypeId) (a b c d : Int) (o : Bool) (x y : Int) (hk : ((okI a b && okI c d) && okI x y) = true) (l : List S3) (k e row : Nat) (h0 : 0 < l.length) : CallJ Tryz.prog 9 #[liP l.length k, bndV a b c d o, liV x y] (v3 (vB es) (l.map Subtype.val) e row) (fun v _ => v = .bool true) := by
  have h := mar_f es a b c d o x y hk (l.map Subtype.val) k e row (by rw [List.length_map]; exact h0) (fun p hp => by
    obtain ⟨q, _, rfl⟩ := List.mem_map.1 hp
    exact q.2)
  rw [List.length_map] at h
  exact h
section
variable {H : Type} {enc : TypeId × Value → H} {W : World} {base : Nat} {sp : Nat → Bool} {held : Bool}
theorem trod_w (m : Nat) (v : Value) (y : DataW H × List MemPlace) (h : DataW.trod enc Tryz.prog W base sp held m 3 [v] = some y) : ∃ z, v = gi z ∧ inI64 z = true := by
  obtain ⟨a, ea, _, w⟩ := DataW.trod_int uInt h
  exact ⟨a, by simpa using ea, wf_in w⟩
theorem trod_b (m : Nat) (v : Value) (y : DataW H × List MemPlace) (h : DataW.trod enc Tryz.prog W base sp held m 4 [v] = some y) : ∃ z, v = .bool z := by
  obtain ⟨a, ea, _, _⟩ := DataW.trod_bool uBool h
  exact ⟨a, by simpa using ea⟩
set_option maxRecDepth 100000 in
theorem trod_rat (m : Nat) (c0 c1 : Value) (y : DataW H × List MemPlace) (h : DataW.trod enc Tryz.prog W base sp held m 28 [c0, c1] = some y) : ∃ a b : Int, c0 = gi a ∧ c1 = gi b ∧ okI a b = true := by
  obtain ⟨xs, m', _, _, _, hn, hi⟩ := DataW.trod_struct Tryz.underlying28 h
  match xs, hn with
  | [x0, x1], _ =>
  have h0 : DataW.trod enc Tryz.prog W base sp held m' 3 (([c0, c1].drop 0).take (Tryz.prog.cellsOf 3)) = some x0 := hi 0 _ rfl
  have h1 : DataW.trod enc Tryz.prog W base sp held m' 3 (([c0, c1].drop 1).take (Tryz.prog.cellsOf 3)) = some x1 := hi 1 _ rfl
  rw [cInt] at h0 h1
  obtain ⟨a, ea, wa⟩ := trod_w m' c0 x0 h0
  obtain ⟨b, eb, wb⟩ := trod_w m' c1 x1 h1
  exact ⟨a, b, ea, eb, okI_of wa wb⟩
set_option maxRecDepth 100000 in
theorem trod_s3 (m : Nat) (vs : List Value) (y : DataW H × List MemPlace) (hl : vs.length = 3) (h : DataW.trod enc Tryz.prog W base sp held m 200 vs = some y) : ∃ z : S3, vs = e3 z := by
  match vs, hl with
  | [c0, c1, c2], _ =>
  obtain ⟨xs, m', _, _, _, hn, hi⟩ := DataW.trod_struct Tryz.underlying200 h
  match xs, hn with
  | [x0, x1], _ =>
  have h0 : DataW.trod enc Tryz.prog W base sp held m' 28 (([c0, c1, c2].drop 0).take (Tryz.prog.cellsOf 28)) = some x0 := hi 0 _ rfl
  have h1 : DataW.trod enc Tryz.prog W base sp held m' 3 (([c0, c1, c2].drop 2).take (Tryz.prog.cellsOf 3)) = some x1 := hi 1 _ rfl
  rw [cRat] at h0
  rw [cInt] at h1
  obtain ⟨a, b, ea, eb, hab⟩ := trod_rat m' c0 c1 x0 h0
  obtain ⟨c, ec, _⟩ := trod_w m' c2 x1 h1
  exact ⟨⟨(a, b, c), hab⟩, by rw [ea, eb, ec]; rfl⟩
set_option maxRecDepth 100000 in
theorem openRat {v : Value} {d : DataW H} {ps : List MemPlace} {r : Reach} {b0 : Nat} (hval : Value.okWide Tryz.prog W r b0 28 v) (hd : DataW.Trod enc Tryz.prog W base sp held 28 v d ps) : ∃ a b : Int, v = .agg #[gi a, gi b] ∧ okI a b = true := by
  simp only [Value.okWide, Tryz.underlying28] at hval
  obtain ⟨cs, rfl, hs, _⟩ := hval
  rw [cRat] at hs
  obtain ⟨l⟩ := cs
  match l, hs with
  | [c0, c1], _ =>
  obtain ⟨fuel, hf⟩ := hd
  obtain ⟨a, b, ea, eb, hab⟩ := trod_rat fuel c0 c1 _ hf
  exact ⟨a, b, by rw [ea, eb], hab⟩
set_option maxRecDepth 100000 in
theorem openBnd {v : Value} {d : DataW H} {ps : List MemPlace} {r : Reach} {b0 : Nat} (hval : Value.okWide Tryz.prog W r b0 98 v) (hd : DataW.Trod enc Tryz.prog W base sp held 98 v d ps) : ∃ (a b c d : Int) (o : Bool), v = bndV a b c d o ∧ (okI a b && okI c d) = true := by
  simp only [Value.okWide, Tryz.underlying98] at hval
  obtain ⟨cs, rfl, hs, _⟩ := hval
  rw [cBnd] at hs
  obtain ⟨l⟩ := cs
  match l, hs with
  | [c0, c1, c2, c3, c4], _ =>
  obtain ⟨fuel, hf⟩ := hd
  obtain ⟨xs, m, _, _, _, hn, hi⟩ := DataW.trod_struct Tryz.underlying98 hf
  match xs, hn with
  | [x0, x1, x2], _ =>
  have h0 : DataW.trod enc Tryz.prog W base sp held m 28 (([c0, c1, c2, c3, c4].drop 0).take (Tryz.prog.cellsOf 28)) = some x0 := hi 0 _ rfl
  have h1 : DataW.trod enc Tryz.prog W base sp held m 28 (([c0, c1, c2, c3, c4].drop 2).take (Tryz.prog.cellsOf 28)) = some x1 := hi 1 _ rfl
  have h2 : DataW.trod enc Tryz.prog W base sp held m 4 (([c0, c1, c2, c3, c4].drop 4).take (Tryz.prog.cellsOf 4)) = some x2 := hi 2 _ rfl
  rw [cRat] at h0 h1
  rw [cBool] at h2
  obtain ⟨a, b, ea, eb, hab⟩ := trod_rat m c0 c1 x0 h0
  obtain ⟨c, d, ec, ed, hcd⟩ := trod_rat m c2 c3 x1 h1
  obtain ⟨o, eo⟩ := trod_b m c4 x2 h2
  exact ⟨a, b, c, d, o, by rw [ea, eb, ec, ed, eo], by rw [hab, hcd]; rfl⟩
end
theorem arelK {ρ : Rho} {a0 b0 : Value} {a1 b1 : Value} {a2 b2 : Value} (h0 : VRel ρ a0 b0) (h1 : VRel ρ a1 b1) (h2 : VRel ρ a2 b2) : ARel (VRel ρ) #[a0, a1, a2] #[b0, b1, b2] := by
  refine ⟨rfl, fun i x y hx hy => ?_⟩
  match i, hx, hy with
  | 0, hx, hy => cases hx; cases hy; exact h0
  | 1, hx, hy => cases hx; cases hy; exact h1
  | 2, hx, hy => cases hx; cases hy; exact h2
theorem uMarC0 : Tryz.prog.underlying 107 = some (.slice 200) := by kernel_rfl
theorem cMarC0 : Tryz.prog.cellsOf 200 = 3 := by kernel_rfl
set_option maxRecDepth 100000 in
theorem MarC_contract (H : Type) (enc : TypeId × Value → H) (W : World) (base : Nat) (args : Array Value) (ds gs : List (DataW H)) (before : List MemPlace)
    (hval : ∀ (j : Nat) t v, Tryz.f9.params[j]? = some t → args[j]? = some v → Value.okWide Tryz.prog W .any base t v)
    (hW : DataW.Whole enc Tryz.prog Tryz.f9.params.toList Rows.injuryMarginsSpec.vars false W args.toList ds gs before) (hL : laidMetH Tryz.prog Rows.injuryMarginsRow.laid W) :
    Calls Tryz.prog 9 args W fun e W' => ∃ v, e = .returned v ∧ Rows.injuryMarginsSpec.post enc Tryz.prog Tryz.f9 false true false false W args v W' := by
  have hW' := hW
  obtain ⟨p, q, hA0, hV, rfl, hfz, hnd⟩ := hW'
  have hA : DataW.TrodAll enc Tryz.prog W 0 (fun _ => true) true Tryz.f9.params.toList args.toList ds p := hA0
  rw [Tryz.params9] at hA hval
  obtain ⟨v0, vs0, d0, ds0, p0, q0, hargs0, rfl, rfl, h0, r0⟩ := trodAll_cons hA
  obtain ⟨v1, vs1, d1, ds1, p1, q1, hargs1, rfl, rfl, h1, r1⟩ := trodAll_cons r0
  obtain ⟨v2, vs2, d2, ds2, p2, q2, hargs2, rfl, rfl, h2, r2⟩ := trodAll_cons r1
  obtain ⟨rfl, rfl, rfl⟩ := trodAll_nil r2
  obtain rfl : args = #[v0, v1, v2] := by cases args; simp_all
  obtain ⟨rfl, rfl⟩ := trodVars_none hV
  obtain ⟨sa0, sn0, sk0, rfl⟩ := okWide_slice uMarC0 (hval 0 _ v0 rfl rfl)
  obtain ⟨fuel0, hf0⟩ := h0
  obtain ⟨xa, xb, xc, xd, xo, rfl, hb1⟩ := openBnd (hval 1 _ v1 rfl rfl) h1
  obtain ⟨xx, xy, rfl, hb2⟩ := openRat (hval 2 _ v2 rfl rfl) h2
  have hkk : ((okI xa xb && okI xc xd) && okI xx xy) = true := by rw [hb1, hb2]; rfl
  have hT := holds_tabs6 hL (.tail _ (.tail _ (.head _)))
  obtain ⟨H, G, own⟩ := start0 hT tabs6_flat
  have call : Calls Tryz.prog 9 #[.slice sa0 sn0 sk0, bndV xa xb xc xd xo, liV xx xy] W (fun e w' => e = .returned (.bool true) ∧ RowKit.Below W.heap.size W w') := by
    rcases wide_shapes uMarC0 cMarC0 (by omega) (e3) (fun _ => rfl) trod_s3 hf0 with hs0 | ⟨a0, k0, hs0⟩ | ⟨b0, off0, k0, l0, c0, el0, fr0, hs0, z0, lk0, km0, hw0, hl0, hc0⟩
    · have hs0 : [Value.slice sa0 sn0 sk0] = [.slice none 0 0] := hs0
      rw [List.cons.inj hs0 |>.1]
      exact of_callA H (G) own (arelK (.flat (n := 1) rfl) (.flat (n := 3) rfl) (.flat (n := 3) rfl)) rfl (mar_n _ xa xb xc xd xo xx xy hkk)
    · have hs0 : [Value.slice sa0 sn0 sk0] = [.slice (some a0) 0 k0] := hs0
      rw [List.cons.inj hs0 |>.1]
      obtain ⟨Hx_0, ownx_0⟩ := ext_dead H own
      exact of_callA Hx_0 (globs_upd (G) (Nat.le_refl _) _) ownx_0 (arelK (vrel_dead (Rho.upd_same _ _ _) a0 k0) (.flat (n := 3) rfl) (.flat (n := 3) rfl)) rfl (mar_e _ xa xb xc xd xo xx xy hkk k0)
    · have hs0 : [Value.slice sa0 sn0 sk0] = [.slice (some ⟨b0, off0, none⟩) l0.length k0] := hs0
      rw [List.cons.inj hs0 |>.1]
      rw [e3_map] at hl0 hc0
      obtain ⟨Hx_0, ownx_0⟩ := ext_live H own hw0 hc0 hl0 (e3_flat l0)
      exact of_callA Hx_0 (globs_upd (G) (Nat.le_refl _) _) ownx_0 (arelK (vrel_live (Rho.upd_same _ _ _) lk0) (.flat (n := 3) rfl) (.flat (n := 3) rfl)) rfl (mar_S _ xa xb xc xd xo xx xy hkk l0 k0 el0 _ z0)
  refine call.mono fun e W' ⟨he, hb⟩ => ?_
  subst he
  exact ⟨_, rfl, post_true laidOut (fun t ht => by
    rw [Tryz.params9] at ht
    simp only [List.mem_cons, List.not_mem_nil, or_false] at ht
    rcases ht with rfl | rfl | rfl <;> exact ⟨by kernel_rfl, of_decide_eq_true (by kernel_rfl)⟩) (by kernel_rfl) uBool rfl rfl rfl rfl hW hb⟩
theorem MarC_laid (os : Os) : laidMet Tryz.prog Rows.injuryMarginsRow.laid ((laidWorld os).forCall (fun _ _ => 0) ⟨#[], #[.slice none 0 0, .agg #[.int .i64 0, .int .i64 0, .int .i64 0, .int .i64 0, .bool false], .agg #[.int .i64 0, .int .i64 0]], []⟩).memory :=
  laidMet_of_run' 8 (by kernel_rfl) (by kernel_rfl)
theorem MarC_reads (os : Os) {H : Type} (enc : TypeId × Value → H) : ∃ places, DataW.whole enc Tryz.prog ((laidWorld os).forCall (fun _ _ => 0) ⟨#[], #[.slice none 0 0, .agg #[.int .i64 0, .int .i64 0, .int .i64 0, .int .i64 0, .bool false], .agg #[.int .i64 0, .int .i64 0]], []⟩).memory Tryz.f9.params.toList Rows.injuryMarginsSpec.vars false
    (#[.slice none 0 0, .agg #[.int .i64 0, .int .i64 0, .int .i64 0, .int .i64 0, .bool false], .agg #[.int .i64 0, .int .i64 0]] : Array Value).toList 8 = some ([.nil, .agg [.agg [.lit (.int .i64 0), .lit (.int .i64 0)], .agg [.lit (.int .i64 0), .lit (.int .i64 0)], .lit (.bool false)], .agg [.lit (.int .i64 0), .lit (.int .i64 0)]], [], places) :=
  ⟨[], by kernel_rfl⟩
set_option maxRecDepth 100000 in
theorem MarC_lifted (os : Os) (started : os.Started) (H : Type) (enc : TypeId × Value → H) (F : Stop.Interp) :
    ReturnsInHanded {} Tryz.checked os 9 .any ((OpenSpec.ofChange Rows.injuryMarginsSpec).preRow enc Tryz.prog Tryz.f9 Rows.injuryMarginsRow.domain false Rows.injuryMarginsRow.laid) (((OpenSpec.ofChange Rows.injuryMarginsSpec).at F).post enc Tryz.prog Tryz.f9 false true false false) := by
  obtain ⟨places, hx⟩ := MarC_reads os enc
  refine returnsInHanded_of_row (C := Tryz.checked) (s := OpenSpec.ofChange Rows.injuryMarginsSpec) own started (by kernel_rfl) Tryz.func9
    (witness_row_at (enc := enc) (C := Tryz.checked) false (laidWorld os) #[.slice none 0 0, .agg #[.int .i64 0, .int .i64 0, .int .i64 0, .int .i64 0, .bool false], .agg #[.int .i64 0, .int .i64 0]] rfl (by kernel_rfl) (by kernel_rfl) (by kernel_rfl)
      (OpenSpec.preRow_of_cond 8 hx (by kernel_rfl) (fun k hk => by cases hk) (by kernel_rfl) (MarC_laid os))) ?_
  intro W base args ds gs before hval hW _ _ _ hL _ _
  exact MarC_contract H enc W base args ds gs before hval hW hL
theorem MarC_said : Rows.InjuryMarginsSaid :=
  OpenClaim.holds_of_cond 9 Tryz.f9 rfl rfl rfl rfl rfl rfl rfl ⟨rfl, rfl, rfl, rfl, rfl⟩ rfl rfl rfl rfl rfl (by kernel_rfl) Tryz.func9 (by kernel_rfl)
    (of_decide_eq_true (by kernel_rfl)) (by unfold Func.isWrapper; first | (rw [if_pos (by decide +kernel)]; kernel_rfl) | (rw [if_neg (by decide +kernel)]; exact ⟨rfl, rfl⟩))
    (fun os started H enc _ F => by rw [OpenClaim.pre_eq_preRow]; exact MarC_lifted os started H enc F)
theorem MarC_plain (f : FuncId) (fn : Func) (hf : Tryz.pinned.checked.prog.funcNamed "crumple/crumplelaw06.InjuryMargins" = some f) (hfn : Tryz.pinned.checked.prog.funcs[f]? = some fn) :
    false = Tryz.pinned.checked.prog.looks [] ∧ ∀ (j : Nat) t, fn.params[j]? = some t → Tryz.pinned.checked.prog.wantsStandIn t = false := by
  obtain rfl : f = 9 := Option.some.inj ((show Tryz.prog.funcNamed "crumple/crumplelaw06.InjuryMargins" = some 9 by kernel_rfl).symm.trans hf) |>.symm
  obtain rfl : fn = Tryz.f9 := (Option.some.inj (Tryz.func9.symm.trans hfn)).symm
  refine ⟨by kernel_rfl, fun j t ht => ?_⟩
  rw [Tryz.params9] at ht
  have hm := Array.mem_of_getElem? ht
  simp only [List.mem_toArray, List.mem_cons, List.not_mem_nil, or_false] at hm
  rcases hm with rfl | rfl | rfl
  · exact (show Tryz.prog.wantsStandIn 107 = false by kernel_rfl)
  · exact (show Tryz.prog.wantsStandIn 98 = false by kernel_rfl)
  · exact (show Tryz.prog.wantsStandIn 28 = false by kernel_rfl)
/-- THE CARD -/
theorem injuryMargins_holds : Rows.InjuryMarginsCardSaid :=
  Claim7.holds_tied_plain_at .later [] _ _ _ _ MarC_said (fun _ h => by cases h) (by kernel_rfl) (fun _ h => by cases h) injuryMargins_row_tie rfl ⟨rfl, rfl⟩ (by kernel_rfl) rfl MarC_plain (by kernel_rfl)
#print axioms injuryMargins_holds
end Go.Proofs.YtihnnmejkpddeaaGreatDoor
