/-
  OWN WORK. InjuryBounds returns true for all traces, lengths and numbers of samples, and leaves its arguments as they were: its card.
  Conditions: those of the card itself (the listed variables read as the program's text lays them).
-/
import Derived.Test.YtihnnmejkpddeaaGreatDoorBrg6
import Derived.Test.YtihnnmejkpddeaaGreatDoorBnQR
import Derived.Test.YtihnnmejkpddeaaGreatDoorAm20
namespace Go.Proofs.YtihnnmejkpddeaaGreatDoor
open Go Go.Am Go.ChangeShapes Go.WideShapes Go.ChangeAt Go.RowKit
theorem cBool : Tryz.prog.cellsOf 4 = 1 := by kernel_rfl
theorem cellsV_map : ∀ l : List V4, l.flatMap v4j = cellsV l
 | [] => rfl
 | q :: l => by rw [List.flatMap_cons, cellsV_map l]; rfl
section
variable {H : Type} {enc : TypeId × Value → H} {W : World} {base : Nat} {sp : Nat → Bool} {held : Bool}
theorem trod_i (m : Nat) (v : Value) (y : DataW H × List MemPlace) (h : DataW.trod enc Tryz.prog W base sp held m 3 [v] = some y) : ∃ z, v = gi z := by
 obtain ⟨a, ea, _, _⟩ := DataW.trod_int uInt h
 exact ⟨a, by simpa using ea⟩
theorem trod_b (m : Nat) (v : Value) (y : DataW H × List MemPlace) (h : DataW.trod enc Tryz.prog W base sp held m 4 [v] = some y) : ∃ z, v = .bool z := by
 obtain ⟨a, ea, _, _⟩ := DataW.trod_bool uBool h
 exact ⟨a, by simpa using ea⟩
set_option maxRecDepth 100000 in
theorem trod_v4 (m : Nat) (vs : List Value) (y : DataW H × List MemPlace) (hl : vs.length = 4) (h : DataW.trod enc Tryz.prog W base sp held m 179 vs = some y) : ∃ z : V4, vs = v4j z := by
 match vs, hl with
 | [c0, c1, c2, c3], _ =>
 obtain ⟨xs, m', _, _, _, hn, hi⟩ := DataW.trod_struct Tryz.underlying179 h
 match xs, hn with
 | [x0, x1, x2, x3], _ =>
 have h0 : DataW.trod enc Tryz.prog W base sp held m' 3 (([c0, c1, c2, c3].drop 0).take (Tryz.prog.cellsOf 3)) = some x0 := hi 0 _ rfl
 have h1 : DataW.trod enc Tryz.prog W base sp held m' 3 (([c0, c1, c2, c3].drop 1).take (Tryz.prog.cellsOf 3)) = some x1 := hi 1 _ rfl
 have h2 : DataW.trod enc Tryz.prog W base sp held m' 4 (([c0, c1, c2, c3].drop 2).take (Tryz.prog.cellsOf 4)) = some x2 := hi 2 _ rfl
 have h3 : DataW.trod enc Tryz.prog W base sp held m' 4 (([c0, c1, c2, c3].drop 3).take (Tryz.prog.cellsOf 4)) = some x3 := hi 3 _ rfl
 rw [cInt] at h0 h1
 rw [cBool] at h2 h3
 obtain ⟨a, ea⟩ := trod_i m' c0 x0 h0
 obtain ⟨b, eb⟩ := trod_i m' c1 x1 h1
 obtain ⟨c, ec⟩ := trod_b m' c2 x2 h2
 obtain ⟨d, ed⟩ := trod_b m' c3 x3 h3
 exact ⟨(a, b, c, d), by rw [ea, eb, ec, ed]; rfl⟩
theorem cItv : Tryz.prog.cellsOf 26 = 2 := by kernel_rfl
set_option maxRecDepth 100000 in
theorem openIv {v : Value} {d : DataW H} {ps : List MemPlace} {r : Go.Reach} {b0 : Nat} (hval : Value.okWide Tryz.prog W r b0 26 v) (hd : DataW.Trod enc Tryz.prog W base sp held 26 v d ps) : ∃ a b : Int, v = .agg #[gi a, gi b] := by
 simp only [Value.okWide, Tryz.underlying26] at hval
 obtain ⟨cs, rfl, hs, _⟩ := hval
 rw [cItv] at hs
 obtain ⟨l⟩ := cs
 match l, hs with
 | [c0, c1], _ =>
 obtain ⟨fuel, hf⟩ := hd
 obtain ⟨xs, m, _, _, _, hn, hi⟩ := DataW.trod_struct Tryz.underlying26 hf
 match xs, hn with
 | [x0, x1], _ =>
 have h0 : DataW.trod enc Tryz.prog W base sp held m 3 (([c0, c1].drop 0).take (Tryz.prog.cellsOf 3)) = some x0 := hi 0 _ rfl
 have h1 : DataW.trod enc Tryz.prog W base sp held m 3 (([c0, c1].drop 1).take (Tryz.prog.cellsOf 3)) = some x1 := hi 1 _ rfl
 rw [cInt] at h0 h1
 obtain ⟨a, ea⟩ := trod_i m c0 x0 h0
 obtain ⟨b, eb⟩ := trod_i m c1 x1 h1
 exact ⟨a, b, by rw [ea, eb]⟩
end
theorem arelK {ρ : Rho} {a0 b0 : Value} {a1 b1 : Value} {a2 b2 : Value} (h0 : VRel ρ a0 b0) (h1 : VRel ρ a1 b1) (h2 : VRel ρ a2 b2) : ARel (VRel ρ) #[a0, a1, a2] #[b0, b1, b2] := by
 refine ⟨rfl, fun i x y hx hy => ?_⟩
 match i, hx, hy with
 | 0, hx, hy => cases hx; cases hy; exact h0
 | 1, hx, hy => cases hx; cases hy; exact h1
 | 2, hx, hy => cases hx; cases hy; exact h2
theorem uBndC0 : Tryz.prog.underlying 88 = some (.slice 179) := by kernel_rfl
theorem cBndC0 : Tryz.prog.cellsOf 179 = 4 := by kernel_rfl
set_option maxRecDepth 100000 in
theorem BndC_contract (H : Type) (enc : TypeId × Value → H) (W : World) (base : Nat) (args : Array Value) (ds gs : List (DataW H)) (before : List MemPlace)
  (hval : ∀ (j : Nat) t v, Tryz.f7.params[j]? = some t → args[j]? = some v → Value.okWide Tryz.prog W .any base t v)
  (hW : DataW.Whole enc Tryz.prog Tryz.f7.params.toList Rows.injuryBoundsSpec.vars false W args.toList ds gs before) (hL : laidMetH Tryz.prog Rows.injuryBoundsRow.laid W) :
  Calls Tryz.prog 7 args W fun e W' => ∃ v, e = .returned v ∧ Rows.injuryBoundsSpec.post enc Tryz.prog Tryz.f7 false true false false W args v W' := by
 have hW' := hW
 obtain ⟨p, q, hA0, hV, rfl, hfz, hnd⟩ := hW'
 have hA : DataW.TrodAll enc Tryz.prog W 0 (fun _ => true) true Tryz.f7.params.toList args.toList ds p := hA0
 rw [Tryz.params7] at hA hval
 obtain ⟨v0, vs0, d0, ds0, p0, q0, hargs0, rfl, rfl, h0, r0⟩ := trodAll_cons hA
 obtain ⟨v1, vs1, d1, ds1, p1, q1, hargs1, rfl, rfl, h1, r1⟩ := trodAll_cons r0
 obtain ⟨v2, vs2, d2, ds2, p2, q2, hargs2, rfl, rfl, h2, r2⟩ := trodAll_cons r1
 obtain ⟨rfl, rfl, rfl⟩ := trodAll_nil r2
 obtain rfl : args = #[v0, v1, v2] := by cases args; simp_all
 obtain ⟨rfl, rfl⟩ := trodVars_none hV
 obtain ⟨sa0, sn0, sk0, rfl⟩ := okWide_slice uBndC0 (hval 0 _ v0 rfl rfl)
 obtain ⟨fuel0, hf0⟩ := h0
 obtain ⟨xa, xb, rfl⟩ := openIv (hval 1 _ v1 rfl rfl) h1
 obtain ⟨xs, rfl⟩ := okWide_int uInt (hval 2 _ v2 rfl rfl)
 have hT := holds_tabs6 hL (.tail _ (.tail _ (.head _)))
 obtain ⟨H, G, own⟩ := start0 hT tabs6_flat
 have call : Calls Tryz.prog 7 #[.slice sa0 sn0 sk0, .agg #[gi xa, gi xb], gi xs] W (fun e w' => e = .returned (.bool true) ∧ RowKit.Below W.heap.size W w') := by
  rcases wide_shapes uBndC0 cBndC0 (by omega) (v4j) (fun _ => rfl) trod_v4 hf0 with hs0 | ⟨a0, k0, hs0⟩ | ⟨b0, off0, k0, l0, c0, el0, fr0, hs0, z0, lk0, km0, hw0, hl0, hc0⟩
  ·have hs0 : [Value.slice sa0 sn0 sk0] = [.slice none 0 0] := hs0
   rw [List.cons.inj hs0 |>.1]
   exact of_callA H (G) own (arelK (.flat (n := 1) rfl) (.flat (n := 3) rfl) (.flat (n := 3) rfl)) rfl (bnd_n _ xa xb xs)
  ·have hs0 : [Value.slice sa0 sn0 sk0] = [.slice (some a0) 0 k0] := hs0
   rw [List.cons.inj hs0 |>.1]
   obtain ⟨Hx_0, ownx_0⟩ := ext_dead H own
   exact of_callA Hx_0 (globs_upd (G) (Nat.le_refl _) _) ownx_0 (arelK (vrel_dead (Rho.upd_same _ _ _) a0 k0) (.flat (n := 3) rfl) (.flat (n := 3) rfl)) rfl (bnd_e _ k0 xa xb xs)
  ·have hs0 : [Value.slice sa0 sn0 sk0] = [.slice (some ⟨b0, off0, none⟩) l0.length k0] := hs0
   rw [List.cons.inj hs0 |>.1]
   rw [cellsV_map] at hl0 hc0
   obtain ⟨Hx_0, ownx_0⟩ := ext_live H own hw0 hc0 hl0 (cellsV_flat l0)
   exact of_callA Hx_0 (globs_upd (G) (Nat.le_refl _) _) ownx_0 (arelK (vrel_live (Rho.upd_same _ _ _) lk0) (.flat (n := 3) rfl) (.flat (n := 3) rfl)) rfl (bnd_f _ l0 k0 el0 _ xa xb xs z0)
 refine call.mono fun e W' ⟨he, hb⟩ => ?_
 subst he
 exact ⟨_, rfl, post_true laidOut (fun t ht => by
  rw [Tryz.params7] at ht
  simp only [List.mem_cons, List.not_mem_nil, or_false] at ht
  rcases ht with rfl | rfl | rfl <;> exact ⟨by kernel_rfl, of_decide_eq_true (by kernel_rfl)⟩) (by kernel_rfl) uBool rfl rfl rfl rfl hW hb⟩
theorem BndC_laid (os : Os) : laidMet Tryz.prog Rows.injuryBoundsRow.laid ((laidWorld os).forCall (fun _ _ => 0) ⟨#[], #[.slice none 0 0, .agg #[.int .i64 0, .int .i64 0], .int .i64 0], []⟩).memory :=
 laidMet_of_run' 8 (by kernel_rfl) (by kernel_rfl)
theorem BndC_reads (os : Os) {H : Type} (enc : TypeId × Value → H) : ∃ places, DataW.whole enc Tryz.prog ((laidWorld os).forCall (fun _ _ => 0) ⟨#[], #[.slice none 0 0, .agg #[.int .i64 0, .int .i64 0], .int .i64 0], []⟩).memory Tryz.f7.params.toList Rows.injuryBoundsSpec.vars false
  (#[.slice none 0 0, .agg #[.int .i64 0, .int .i64 0], .int .i64 0] : Array Value).toList 8 = some ([.nil, .agg [.lit (.int .i64 0), .lit (.int .i64 0)], .lit (.int .i64 0)], [], places) :=
 ⟨[], by kernel_rfl⟩
set_option maxRecDepth 100000 in
theorem BndC_lifted (os : Os) (started : os.Started) (H : Type) (enc : TypeId × Value → H) (F : Stop.Interp) :
  ReturnsInHanded {} Tryz.checked os 7 .any ((OpenSpec.ofChange Rows.injuryBoundsSpec).preRow enc Tryz.prog Tryz.f7 Rows.injuryBoundsRow.domain false Rows.injuryBoundsRow.laid) (((OpenSpec.ofChange Rows.injuryBoundsSpec).at F).post enc Tryz.prog Tryz.f7 false true false false) := by
 obtain ⟨places, hx⟩ := BndC_reads os enc
 refine returnsInHanded_of_row (C := Tryz.checked) (s := OpenSpec.ofChange Rows.injuryBoundsSpec) own started (by kernel_rfl) Tryz.func7
  (witness_row_at (enc := enc) (C := Tryz.checked) false (laidWorld os) #[.slice none 0 0, .agg #[.int .i64 0, .int .i64 0], .int .i64 0] rfl (by kernel_rfl) (by kernel_rfl) (by kernel_rfl)
   (OpenSpec.preRow_of_cond 8 hx (by kernel_rfl) (fun k hk => by cases hk) (by kernel_rfl) (BndC_laid os))) ?_
 intro W base args ds gs before hval hW _ _ _ hL _ _
 exact BndC_contract H enc W base args ds gs before hval hW hL
theorem BndC_said : Rows.InjuryBoundsSaid :=
 OpenClaim.holds_of_cond 7 Tryz.f7 rfl rfl rfl rfl rfl rfl rfl ⟨rfl, rfl, rfl, rfl, rfl⟩ rfl rfl rfl rfl rfl (by kernel_rfl) Tryz.func7 (by kernel_rfl)
  (of_decide_eq_true (by kernel_rfl)) (by unfold Func.isWrapper; first | (rw [if_pos (by decide +kernel)]; kernel_rfl) | (rw [if_neg (by decide +kernel)]; exact ⟨rfl, rfl⟩))
  (fun os started H enc _ F => by rw [OpenClaim.pre_eq_preRow]; exact BndC_lifted os started H enc F)
theorem BndC_plain (f : FuncId) (fn : Func) (hf : Tryz.pinned.checked.prog.funcNamed "crumple/crumplelaw06.InjuryBounds" = some f) (hfn : Tryz.pinned.checked.prog.funcs[f]? = some fn) :
  false = Tryz.pinned.checked.prog.looks [] ∧ ∀ (j : Nat) t, fn.params[j]? = some t → Tryz.pinned.checked.prog.wantsStandIn t = false := by
 obtain rfl : f = 7 := Option.some.inj ((show Tryz.prog.funcNamed "crumple/crumplelaw06.InjuryBounds" = some 7 by kernel_rfl).symm.trans hf) |>.symm
 obtain rfl : fn = Tryz.f7 := (Option.some.inj (Tryz.func7.symm.trans hfn)).symm
 refine ⟨by kernel_rfl, fun j t ht => ?_⟩
 rw [Tryz.params7] at ht
 have hm := Array.mem_of_getElem? ht
 simp only [List.mem_toArray, List.mem_cons, List.not_mem_nil, or_false] at hm
 rcases hm with rfl | rfl | rfl
 ·exact (show Tryz.prog.wantsStandIn 88 = false by kernel_rfl)
 ·exact (show Tryz.prog.wantsStandIn 26 = false by kernel_rfl)
 ·exact (show Tryz.prog.wantsStandIn 3 = false by kernel_rfl)
theorem injuryBounds_holds : Rows.InjuryBoundsCardSaid :=
 Claim7.holds_tied_plain_at .later [] _ _ _ _ BndC_said (fun _ h => by cases h) (by kernel_rfl) (fun _ h => by cases h) injuryBounds_row_tie rfl ⟨rfl, rfl⟩ (by kernel_rfl) rfl BndC_plain (by kernel_rfl)
#print axioms injuryBounds_holds
end Go.Proofs.YtihnnmejkpddeaaGreatDoor
