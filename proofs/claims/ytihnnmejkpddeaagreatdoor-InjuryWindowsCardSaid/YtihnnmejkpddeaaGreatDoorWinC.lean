/-
  OWN WORK. InjuryWindows returns true for all series, windows, lengths and worths, and leaves its arguments as they were: its card.
  Conditions: those of the card itself (the listed variables read as the program's text lays them).
-/
import Derived.Test.YtihnnmejkpddeaaGreatDoorBrg6
import Derived.Test.YtihnnmejkpddeaaGreatDoorBtB
import Derived.Test.YtihnnmejkpddeaaGreatDoorAm20
namespace Go.Proofs.YtihnnmejkpddeaaGreatDoor
open Go Go.Am Go.ChangeShapes Go.WideShapes Go.ChangeAt Go.RowKit
theorem cSpn : Tryz.prog.cellsOf 24 = 2 := by kernel_rfl
theorem cItv : Tryz.prog.cellsOf 26 = 2 := by kernel_rfl
theorem cRat : Tryz.prog.cellsOf 28 = 2 := by kernel_rfl
theorem cSch : Tryz.prog.cellsOf 30 = 6 := by kernel_rfl
theorem wf_in {a : Int} (h : (Lit.int .i64 a).wf = true) : inI64 a = true := by
  have h : (decide ((-9223372036854775808 : Int) ≤ a) && decide (a ≤ (9223372036854775807 : Int))) = true := h
  rw [Bool.and_eq_true, decide_eq_true_eq, decide_eq_true_eq] at h
  rw [inI64_iff]
  omega
section
variable {H : Type} {enc : TypeId × Value → H} {W : World} {base : Nat} {sp : Nat → Bool} {held : Bool}
theorem trod_w (m : Nat) (v : Value) (y : DataW H × List MemPlace) (h : DataW.trod enc Tryz.prog W base sp held m 3 [v] = some y) : ∃ z, v = gi z ∧ inI64 z = true := by
  obtain ⟨a, ea, _, w⟩ := DataW.trod_int uInt h
  exact ⟨a, by simpa using ea, wf_in w⟩
theorem trod_i (m : Nat) (v : Value) (y : DataW H × List MemPlace) (h : DataW.trod enc Tryz.prog W base sp held m 3 [v] = some y) : ∃ z, v = gi z :=
  let ⟨z, e, _⟩ := trod_w m v y h; ⟨z, e⟩
set_option maxRecDepth 100000 in
theorem trod_spn (m : Nat) (c0 c1 : Value) (y : DataW H × List MemPlace) (h : DataW.trod enc Tryz.prog W base sp held m 24 [c0, c1] = some y) : ∃ a b : Int, c0 = gi a ∧ c1 = gi b ∧ okI a b = true := by
  obtain ⟨xs, m', _, _, _, hn, hi⟩ := DataW.trod_struct Tryz.underlying24 h
  match xs, hn with
  | [x0, x1], _ =>
  have h0 : DataW.trod enc Tryz.prog W base sp held m' 3 (([c0, c1].drop 0).take (Tryz.prog.cellsOf 3)) = some x0 := hi 0 _ rfl
  have h1 : DataW.trod enc Tryz.prog W base sp held m' 3 (([c0, c1].drop 1).take (Tryz.prog.cellsOf 3)) = some x1 := hi 1 _ rfl
  rw [cInt] at h0 h1
  obtain ⟨a, ea, wa⟩ := trod_w m' c0 x0 h0
  obtain ⟨b, eb, wb⟩ := trod_w m' c1 x1 h1
  exact ⟨a, b, ea, eb, okI_of wa wb⟩
set_option maxRecDepth 100000 in
theorem trod_itv (m : Nat) (c0 c1 : Value) (y : DataW H × List MemPlace) (h : DataW.trod enc Tryz.prog W base sp held m 26 [c0, c1] = some y) : ∃ a b : Int, c0 = gi a ∧ c1 = gi b ∧ okI a b = true := by
  obtain ⟨xs, m', _, _, _, hn, hi⟩ := DataW.trod_struct Tryz.underlying26 h
  match xs, hn with
  | [x0, x1], _ =>
  have h0 : DataW.trod enc Tryz.prog W base sp held m' 3 (([c0, c1].drop 0).take (Tryz.prog.cellsOf 3)) = some x0 := hi 0 _ rfl
  have h1 : DataW.trod enc Tryz.prog W base sp held m' 3 (([c0, c1].drop 1).take (Tryz.prog.cellsOf 3)) = some x1 := hi 1 _ rfl
  rw [cInt] at h0 h1
  obtain ⟨a, ea, wa⟩ := trod_w m' c0 x0 h0
  obtain ⟨b, eb, wb⟩ := trod_w m' c1 x1 h1
  exact ⟨a, b, ea, eb, okI_of wa wb⟩
set_option maxRecDepth 100000 in
theorem trod_rat (m : Nat) (c0 c1 : Value) (y : DataW H × List MemPlace) (h : DataW.trod enc Tryz.prog W base sp held m 28 [c0, c1] = some y) : ∃ a b : Int, c0 = gi a ∧ c1 = gi b ∧ okI a b = true := by
  obtain ⟨xs, m', _, _, _, hn, hi⟩ := DataW.trod_struct Tryz.underlying28 h
  match xs, hn with
  | [x0, x1], _ =>
  have h0 : DataW.trod enc Tryz.prog W base sp held m' 3 (([c0, c1].drop 0).take (Tryz.prog.cellsOf 3)) = some x0 := hi 0 _ rfl
  have h1 : DataW.trod enc Tryz.prog W base sp held m' 3 (([c0, c1].drop 1).take (Tryz.prog.cellsOf 3)) = some x1 := hi 1 _ rfl
  rw [cInt] at h0 h1
  obtain ⟨a, ea, wa⟩ := trod_w m' c0 x0 h0
  obtain ⟨b, eb, wb⟩ := trod_w m' c1 x1 h1
  exact ⟨a, b, ea, eb, okI_of wa wb⟩
set_option maxRecDepth 100000 in
theorem openSch {v : Value} {d : DataW H} {ps : List MemPlace} {r : Go.Reach} {b0 : Nat} (hval : Value.okWide Tryz.prog W r b0 30 v) (hd : DataW.Trod enc Tryz.prog W base sp held 30 v d ps) : ∃ a b c d x y : Int, v = seV a b c d x y ∧ okI x y = true := by
  simp only [Value.okWide, Tryz.underlying30] at hval
  obtain ⟨cs, rfl, hs, _⟩ := hval
  rw [cSch] at hs
  obtain ⟨l⟩ := cs
  match l, hs with
  | [c0, c1, c2, c3, c4, c5], _ =>
  obtain ⟨fuel, hf⟩ := hd
  obtain ⟨xs, m, _, _, _, hn, hi⟩ := DataW.trod_struct Tryz.underlying30 hf
  match xs, hn with
  | [x0, x1, x2], _ =>
  have h0 : DataW.trod enc Tryz.prog W base sp held m 24 (([c0, c1, c2, c3, c4, c5].drop 0).take (Tryz.prog.cellsOf 24)) = some x0 := hi 0 _ rfl
  have h1 : DataW.trod enc Tryz.prog W base sp held m 26 (([c0, c1, c2, c3, c4, c5].drop 2).take (Tryz.prog.cellsOf 26)) = some x1 := hi 1 _ rfl
  have h2 : DataW.trod enc Tryz.prog W base sp held m 28 (([c0, c1, c2, c3, c4, c5].drop 4).take (Tryz.prog.cellsOf 28)) = some x2 := hi 2 _ rfl
  rw [cSpn] at h0
  rw [cItv] at h1
  rw [cRat] at h2
  obtain ⟨a, b, ea, eb, _⟩ := trod_spn m c0 c1 x0 h0
  obtain ⟨c, d, ec, ed, _⟩ := trod_itv m c2 c3 x1 h1
  obtain ⟨x, y, ex, ey, hxy⟩ := trod_rat m c4 c5 x2 h2
  exact ⟨a, b, c, d, x, y, by rw [ea, eb, ec, ed, ex, ey], hxy⟩
end
theorem arelK {ρ : Rho} {a0 b0 : Value} {a1 b1 : Value} (h0 : VRel ρ a0 b0) (h1 : VRel ρ a1 b1) : ARel (VRel ρ) #[a0, a1] #[b0, b1] := by
  refine ⟨rfl, fun i x y hx hy => ?_⟩
  match i, hx, hy with
  | 0, hx, hy => cases hx; cases hy; exact h0
  | 1, hx, hy => cases hx; cases hy; exact h1
theorem uWinC0 : Tryz.prog.underlying 22 = some (.slice 3) := by kernel_rfl
theorem cWinC0 : Tryz.prog.cellsOf 3 = 1 := by kernel_rfl
set_option maxRecDepth 100000 in
theorem WinC_contract (H : Type) (enc : TypeId × Value → H) (W : World) (base : Nat) (args : Array Value) (ds gs : List (DataW H)) (before : List MemPlace)
    (hval : ∀ (j : Nat) t v, Tryz.f3.params[j]? = some t → args[j]? = some v → Value.okWide Tryz.prog W .any base t v)
    (hW : DataW.Whole enc Tryz.prog Tryz.f3.params.toList Rows.injuryWindowsSpec.vars false W args.toList ds gs before) (hL : laidMetH Tryz.prog Rows.injuryWindowsRow.laid W) :
    Calls Tryz.prog 3 args W fun e W' => ∃ v, e = .returned v ∧ Rows.injuryWindowsSpec.post enc Tryz.prog Tryz.f3 false true false false W args v W' := by
  have hW' := hW
  obtain ⟨p, q, hA0, hV, rfl, hfz, hnd⟩ := hW'
  have hA : DataW.TrodAll enc Tryz.prog W 0 (fun _ => true) true Tryz.f3.params.toList args.toList ds p := hA0
  rw [Tryz.params3] at hA hval
  obtain ⟨v0, vs0, d0, ds0, p0, q0, hargs0, rfl, rfl, h0, r0⟩ := trodAll_cons hA
  obtain ⟨v1, vs1, d1, ds1, p1, q1, hargs1, rfl, rfl, h1, r1⟩ := trodAll_cons r0
  obtain ⟨rfl, rfl, rfl⟩ := trodAll_nil r1
  obtain rfl : args = #[v0, v1] := by cases args; simp_all
  obtain ⟨rfl, rfl⟩ := trodVars_none hV
  obtain ⟨sa0, sn0, sk0, rfl⟩ := okWide_slice uWinC0 (hval 0 _ v0 rfl rfl)
  obtain ⟨fuel0, hf0⟩ := h0
  obtain ⟨xa, xb, xc, xd, xu, xv, rfl, hxy⟩ := openSch (hval 1 _ v1 rfl rfl) h1
  have hT := holds_tabs6 hL (.tail _ (.tail _ (.head _)))
  obtain ⟨H, G, own⟩ := start0 hT tabs6_flat
  have call : Calls Tryz.prog 3 #[.slice sa0 sn0 sk0, seV xa xb xc xd xu xv] W (fun e w' => e = .returned (.bool true) ∧ RowKit.Below W.heap.size W w') := by
    rcases slice_shapes uWinC0 cWinC0 (gi) trod_i hf0 with hs0 | ⟨a0, k0, hs0⟩ | ⟨b0, off0, k0, l0, c0, el0, fr0, hs0, z0, lk0, km0, hw0, hl0, hc0⟩
    · have hs0 : [Value.slice sa0 sn0 sk0] = [.slice none 0 0] := hs0
      rw [List.cons.inj hs0 |>.1]
      exact of_callA H (G) own (arelK (.flat (n := 1) rfl) (.flat (n := 3) rfl)) rfl (win_n _ xa xb xc xd xu xv hxy)
    · have hs0 : [Value.slice sa0 sn0 sk0] = [.slice (some a0) 0 k0] := hs0
      rw [List.cons.inj hs0 |>.1]
      obtain ⟨Hx_0, ownx_0⟩ := ext_dead H own
      exact of_callA Hx_0 (globs_upd (G) (Nat.le_refl _) _) ownx_0 (arelK (vrel_dead (Rho.upd_same _ _ _) a0 k0) (.flat (n := 3) rfl)) rfl (win_e _ k0 xa xb xc xd xu xv hxy)
    · have hs0 : [Value.slice sa0 sn0 sk0] = [.slice (some ⟨b0, off0, none⟩) l0.length k0] := hs0
      rw [List.cons.inj hs0 |>.1]
      obtain ⟨Hx_0, ownx_0⟩ := ext_live H own hw0 hc0 (by rw [List.length_map]; exact hl0) (flat_ints l0)
      exact of_callA Hx_0 (globs_upd (G) (Nat.le_refl _) _) ownx_0 (arelK (vrel_live (Rho.upd_same _ _ _) lk0) (.flat (n := 3) rfl)) rfl (win_f _ l0 k0 el0 _ xa xb xc xd xu xv z0 hxy)
  refine call.mono fun e W' ⟨he, hb⟩ => ?_
  subst he
  exact ⟨_, rfl, post_true laidOut (fun t ht => by
    rw [Tryz.params3] at ht
    simp only [List.mem_cons, List.not_mem_nil, or_false] at ht
    rcases ht with rfl | rfl <;> exact ⟨by kernel_rfl, of_decide_eq_true (by kernel_rfl)⟩) (by kernel_rfl) uBool rfl rfl rfl rfl hW hb⟩
theorem WinC_laid (os : Os) : laidMet Tryz.prog Rows.injuryWindowsRow.laid ((laidWorld os).forCall (fun _ _ => 0) ⟨#[], #[.slice none 0 0, .agg #[.int .i64 0, .int .i64 0, .int .i64 0, .int .i64 0, .int .i64 0, .int .i64 0]], []⟩).memory :=
  laidMet_of_run' 8 (by kernel_rfl) (by kernel_rfl)
theorem WinC_reads (os : Os) {H : Type} (enc : TypeId × Value → H) : ∃ places, DataW.whole enc Tryz.prog ((laidWorld os).forCall (fun _ _ => 0) ⟨#[], #[.slice none 0 0, .agg #[.int .i64 0, .int .i64 0, .int .i64 0, .int .i64 0, .int .i64 0, .int .i64 0]], []⟩).memory Tryz.f3.params.toList Rows.injuryWindowsSpec.vars false
    (#[.slice none 0 0, .agg #[.int .i64 0, .int .i64 0, .int .i64 0, .int .i64 0, .int .i64 0, .int .i64 0]] : Array Value).toList 8 = some ([.nil, .agg [.agg [.lit (.int .i64 0), .lit (.int .i64 0)], .agg [.lit (.int .i64 0), .lit (.int .i64 0)], .agg [.lit (.int .i64 0), .lit (.int .i64 0)]]], [], places) :=
  ⟨[], by kernel_rfl⟩
set_option maxRecDepth 100000 in
theorem WinC_lifted (os : Os) (started : os.Started) (H : Type) (enc : TypeId × Value → H) (F : Stop.Interp) :
    ReturnsInHanded {} Tryz.checked os 3 .any ((OpenSpec.ofChange Rows.injuryWindowsSpec).preRow enc Tryz.prog Tryz.f3 Rows.injuryWindowsRow.domain false Rows.injuryWindowsRow.laid) (((OpenSpec.ofChange Rows.injuryWindowsSpec).at F).post enc Tryz.prog Tryz.f3 false true false false) := by
  obtain ⟨places, hx⟩ := WinC_reads os enc
  refine returnsInHanded_of_row (C := Tryz.checked) (s := OpenSpec.ofChange Rows.injuryWindowsSpec) own started (by kernel_rfl) Tryz.func3
    (witness_row_at (enc := enc) (C := Tryz.checked) false (laidWorld os) #[.slice none 0 0, .agg #[.int .i64 0, .int .i64 0, .int .i64 0, .int .i64 0, .int .i64 0, .int .i64 0]] rfl (by kernel_rfl) (by kernel_rfl) (by kernel_rfl)
      (OpenSpec.preRow_of_cond 8 hx (by kernel_rfl) (fun k hk => by cases hk) (by kernel_rfl) (WinC_laid os))) ?_
  intro W base args ds gs before hval hW _ _ _ hL _ _
  exact WinC_contract H enc W base args ds gs before hval hW hL
theorem WinC_said : Rows.InjuryWindowsSaid :=
  OpenClaim.holds_of_cond 3 Tryz.f3 rfl rfl rfl rfl rfl rfl rfl ⟨rfl, rfl, rfl, rfl, rfl⟩ rfl rfl rfl rfl rfl (by kernel_rfl) Tryz.func3 (by kernel_rfl)
    (of_decide_eq_true (by kernel_rfl)) (by unfold Func.isWrapper; first | (rw [if_pos (by decide +kernel)]; kernel_rfl) | (rw [if_neg (by decide +kernel)]; exact ⟨rfl, rfl⟩))
    (fun os started H enc _ F => by rw [OpenClaim.pre_eq_preRow]; exact WinC_lifted os started H enc F)
theorem WinC_plain (f : FuncId) (fn : Func) (hf : Tryz.pinned.checked.prog.funcNamed "crumple/crumplelaw06.InjuryWindows" = some f) (hfn : Tryz.pinned.checked.prog.funcs[f]? = some fn) :
    false = Tryz.pinned.checked.prog.looks [] ∧ ∀ (j : Nat) t, fn.params[j]? = some t → Tryz.pinned.checked.prog.wantsStandIn t = false := by
  obtain rfl : f = 3 := Option.some.inj ((show Tryz.prog.funcNamed "crumple/crumplelaw06.InjuryWindows" = some 3 by kernel_rfl).symm.trans hf) |>.symm
  obtain rfl : fn = Tryz.f3 := (Option.some.inj (Tryz.func3.symm.trans hfn)).symm
  refine ⟨by kernel_rfl, fun j t ht => ?_⟩
  rw [Tryz.params3] at ht
  have hm := Array.mem_of_getElem? ht
  simp only [List.mem_toArray, List.mem_cons, List.not_mem_nil, or_false] at hm
  rcases hm with rfl | rfl
  · exact (show Tryz.prog.wantsStandIn 22 = false by kernel_rfl)
  · exact (show Tryz.prog.wantsStandIn 30 = false by kernel_rfl)
theorem injuryWindows_holds : Rows.InjuryWindowsCardSaid :=
  Claim7.holds_tied_plain_at .later [] _ _ _ _ WinC_said (fun _ h => by cases h) (by kernel_rfl) (fun _ h => by cases h) injuryWindows_row_tie rfl ⟨rfl, rfl⟩ (by kernel_rfl) rfl WinC_plain (by kernel_rfl)
#print axioms injuryWindows_holds
end Go.Proofs.YtihnnmejkpddeaaGreatDoor
