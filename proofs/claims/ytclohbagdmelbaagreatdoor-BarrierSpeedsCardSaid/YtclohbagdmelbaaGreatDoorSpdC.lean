/-
  OWN WORK. BarrierSpeeds returns true for all gates and places, and leaves its arguments as they were: its card.
  Conditions: those of the card itself (the listed variables read as the program's text lays them).
-/
import Derived.Test.YtclohbagdmelbaaGreatDoorBrg4
import Derived.Test.YtclohbagdmelbaaGreatDoorAm20
import Derived.Test.YtclohbagdmelbaaGreatDoorGtL
namespace Go.Proofs.YtclohbagdmelbaaGreatDoor
open Go Go.Am Go.ChangeShapes Go.WideShapes Go.ChangeAt Go.RowKit

theorem uGs : Tryz.prog.underlying 22 = some (.slice 98) := by kernel_rfl
theorem cGate : Tryz.prog.cellsOf 98 = 3 := by kernel_rfl
theorem cIvl : Tryz.prog.cellsOf 34 = 2 := by kernel_rfl
theorem cSpan : Tryz.prog.cellsOf 24 = 2 := by kernel_rfl
theorem uSpans : Tryz.prog.underlying 25 = some (.array 2 24) := by kernel_rfl
theorem cSpans : Tryz.prog.cellsOf 25 = 4 := by kernel_rfl
theorem arel_two' {ρ : Rho} {a b a' b' : Value} (h1 : VRel ρ a a') (h2 : VRel ρ b b') : ARel (VRel ρ) #[a, b] #[a', b'] := by
  refine ⟨rfl, fun i x y hx hy => ?_⟩
  match i, hx, hy with
  | 0, hx, hy => cases hx; cases hy; exact h1
  | 1, hx, hy => cases hx; cases hy; exact h2
noncomputable def p3 (q : P3) : List Value := [gi q.1, gi q.2.1, gi q.2.2]
theorem cells3_map : ∀ l : List P3, l.flatMap p3 = cells3 l
  | [] => rfl
  | q :: l => by rw [List.flatMap_cons, cells3_map l]; rfl
section
variable {H : Type} {enc : TypeId × Value → H} {W : World} {base : Nat} {sp : Nat → Bool} {held : Bool}
set_option maxRecDepth 100000 in
theorem trod_ivl (m : Nat) (c0 c1 : Value) (y : DataW H × List MemPlace) (h : DataW.trod enc Tryz.prog W base sp held m 34 [c0, c1] = some y) : ∃ a b : Int, c0 = gi a ∧ c1 = gi b := by
  obtain ⟨xs, m', _, _, _, hn, hi⟩ := DataW.trod_struct Tryz.underlying34 h
  match xs, hn with
  | [x0, x1], _ =>
  have h0 : DataW.trod enc Tryz.prog W base sp held m' 3 (([c0, c1].drop 0).take (Tryz.prog.cellsOf 3)) = some x0 := hi 0 _ rfl
  have h1 : DataW.trod enc Tryz.prog W base sp held m' 3 (([c0, c1].drop 1).take (Tryz.prog.cellsOf 3)) = some x1 := hi 1 _ rfl
  rw [cInt] at h0 h1
  obtain ⟨a, ea, _, _⟩ := DataW.trod_int uInt h0
  obtain ⟨b, eb, _, _⟩ := DataW.trod_int uInt h1
  simp at ea eb
  exact ⟨a, b, ea, eb⟩
set_option maxRecDepth 100000 in
theorem trod_span (m : Nat) (c0 c1 : Value) (y : DataW H × List MemPlace) (h : DataW.trod enc Tryz.prog W base sp held m 24 [c0, c1] = some y) : ∃ a b : Int, c0 = gi a ∧ c1 = gi b := by
  obtain ⟨xs, m', _, _, _, hn, hi⟩ := DataW.trod_struct Tryz.underlying24 h
  match xs, hn with
  | [x0, x1], _ =>
  have h0 : DataW.trod enc Tryz.prog W base sp held m' 3 (([c0, c1].drop 0).take (Tryz.prog.cellsOf 3)) = some x0 := hi 0 _ rfl
  have h1 : DataW.trod enc Tryz.prog W base sp held m' 3 (([c0, c1].drop 1).take (Tryz.prog.cellsOf 3)) = some x1 := hi 1 _ rfl
  rw [cInt] at h0 h1
  obtain ⟨a, ea, _, _⟩ := DataW.trod_int uInt h0
  obtain ⟨b, eb, _, _⟩ := DataW.trod_int uInt h1
  simp at ea eb
  exact ⟨a, b, ea, eb⟩
set_option maxRecDepth 100000 in
theorem trod_gate (m : Nat) (vs : List Value) (y : DataW H × List MemPlace) (hl : vs.length = 3) (h : DataW.trod enc Tryz.prog W base sp held m 98 vs = some y) : ∃ z : P3, vs = p3 z := by
  match vs, hl with
  | [c0, c1, c2], _ =>
  obtain ⟨xs, m', _, _, _, hn, hi⟩ := DataW.trod_struct Tryz.underlying98 h
  match xs, hn with
  | [x0, x1], _ =>
  have h0 : DataW.trod enc Tryz.prog W base sp held m' 3 (([c0, c1, c2].drop 0).take (Tryz.prog.cellsOf 3)) = some x0 := hi 0 _ rfl
  have h1 : DataW.trod enc Tryz.prog W base sp held m' 34 (([c0, c1, c2].drop 1).take (Tryz.prog.cellsOf 34)) = some x1 := hi 1 _ rfl
  rw [cInt] at h0
  rw [cIvl] at h1
  obtain ⟨a, ea, _, _⟩ := DataW.trod_int uInt h0
  obtain ⟨b, c, eb, ec⟩ := trod_ivl m' c1 c2 x1 h1
  simp at ea
  exact ⟨(a, b, c), by rw [ea, eb, ec]; rfl⟩
set_option maxRecDepth 100000 in
theorem openSpans {v : Value} {d : DataW H} {ps : List MemPlace} {r : Reach} {b0 : Nat} (hval : Value.okWide Tryz.prog W r b0 25 v) (hd : DataW.Trod enc Tryz.prog W base sp held 25 v d ps) : ∃ a b c d : Int, v = ag4 a b c d := by
  simp only [Value.okWide, uSpans] at hval
  obtain ⟨cs, rfl, hs, _⟩ := hval
  rw [cSpans] at hs
  obtain ⟨l⟩ := cs
  match l, hs with
  | [c0, c1, c2, c3], _ =>
  obtain ⟨fuel, hf⟩ := hd
  obtain ⟨xs, m, _, _, _, hn, hi⟩ := DataW.trod_array uSpans hf
  match xs, hn with
  | [x0, x1], _ =>
  have h0 := hi 0 (by omega)
  have h1 := hi 1 (by omega)
  rw [cSpan] at h0 h1
  obtain ⟨a, b, e0, e1⟩ := trod_span m c0 c1 x0 h0
  obtain ⟨c, d, e2, e3⟩ := trod_span m c2 c3 x1 h1
  exact ⟨a, b, c, d, by rw [e0, e1, e2, e3]⟩
end
set_option maxRecDepth 100000 in
theorem speedsC_contract (H : Type) (enc : TypeId × Value → H) (W : World) (base : Nat) (args : Array Value) (ds gs : List (DataW H)) (before : List MemPlace)
    (hval : ∀ (j : Nat) t v, Tryz.f3.params[j]? = some t → args[j]? = some v → Value.okWide Tryz.prog W .any base t v)
    (hW : DataW.Whole enc Tryz.prog Tryz.f3.params.toList Rows.barrierSpeedsSpec.vars false W args.toList ds gs before) (hL : laidMetH Tryz.prog Rows.barrierSpeedsRow.laid W) :
    Calls Tryz.prog 3 args W fun e W' => ∃ v, e = .returned v ∧ Rows.barrierSpeedsSpec.post enc Tryz.prog Tryz.f3 false true false false W args v W' := by
  have hW' := hW
  obtain ⟨p, q, hA0, hV, rfl, hfz, hnd⟩ := hW'
  have hA : DataW.TrodAll enc Tryz.prog W 0 (fun _ => true) true Tryz.f3.params.toList args.toList ds p := hA0
  rw [Tryz.params3] at hA hval
  obtain ⟨v0, vs0, d0, ds0, p0, q0, hargs, rfl, rfl, h0, r0⟩ := trodAll_cons hA
  obtain ⟨v1, vs1, d1, ds1, p1, q1, hargs1, rfl, rfl, h1, r1⟩ := trodAll_cons r0
  obtain ⟨rfl, rfl, rfl⟩ := trodAll_nil r1
  obtain rfl : args = #[v0, v1] := by cases args; simp_all
  obtain ⟨rfl, rfl⟩ := trodVars_none hV
  obtain ⟨xa, xb, xc, xd, rfl⟩ := openSpans (hval 1 _ v1 rfl rfl) h1
  obtain ⟨sa, sn, sk, rfl⟩ := okWide_slice uGs (hval 0 _ v0 rfl rfl)
  obtain ⟨fuel, hf⟩ := h0
  have hT := holds_tabs4 hL (.tail _ (.tail _ (.tail _ (.tail _ (.head _))))) (.tail _ (.tail _ (.head _)))
  obtain ⟨H, G, own⟩ := start0 hT tabs4_flat
  have call : Calls Tryz.prog 3 #[.slice sa sn sk, ag4 xa xb xc xd] W (fun e w' => e = .returned (.bool true) ∧ RowKit.Below W.heap.size W w') := by
    rcases wide_shapes uGs cGate (by omega) p3 (fun _ => rfl) trod_gate hf with hs | ⟨a, k, hs⟩ | ⟨b, off, k, l, c', el, fr, hs, l0, lk, km, hw, hl, hc⟩
    · have hs : [Value.slice sa sn sk] = [.slice none 0 0] := hs
      rw [List.cons.inj hs |>.1]
      exact of_callA H G own (arel_two' (.flat (n := 1) rfl) (.flat (n := 1) rfl)) rfl (speeds_nil xa xb xc xd _)
    · have hs : [Value.slice sa sn sk] = [.slice (some a) 0 k] := hs
      rw [List.cons.inj hs |>.1]
      obtain ⟨H', own'⟩ := ext_dead H own
      exact of_callA H' (globs_upd G (Nat.le_refl _) _) own' (arel_two' (vrel_dead (Rho.upd_same _ _ _) a k) (.flat (n := 1) rfl)) rfl (speeds_emp xa xb xc xd _ k)
    · have hs : [Value.slice sa sn sk] = [.slice (some ⟨b, off, none⟩) l.length k] := hs
      rw [List.cons.inj hs |>.1]
      rw [cells3_map] at hl hc
      obtain ⟨H', own'⟩ := ext_live H own hw hc hl (cells3_flat l)
      exact of_callA H' (globs_upd G (Nat.le_refl _) _) own' (arel_two' (vrel_live (Rho.upd_same _ _ _) lk) (.flat (n := 1) rfl)) rfl (speeds_full xa xb xc xd _ l k el 0 l0)
  refine call.mono fun e W' ⟨he, hb⟩ => ?_
  subst he
  exact ⟨_, rfl, post_true laidOut (fun t ht => by
    rw [Tryz.params3] at ht
    simp only [List.mem_cons, List.not_mem_nil, or_false] at ht
    rcases ht with rfl | rfl <;> exact ⟨by kernel_rfl, of_decide_eq_true (by kernel_rfl)⟩) (by kernel_rfl) uBool rfl rfl rfl rfl hW hb⟩

theorem speedsC_laid (os : Os) : laidMet Tryz.prog Rows.barrierSpeedsRow.laid ((laidWorld os).forCall (fun _ _ => 0) ⟨#[], #[.slice none 0 0, .agg #[.int .i64 0, .int .i64 0, .int .i64 0, .int .i64 0]], []⟩).memory :=
  laidMet_of_run' 8 (by kernel_rfl) (by kernel_rfl)
theorem speedsC_reads (os : Os) {H : Type} (enc : TypeId × Value → H) : ∃ places, DataW.whole enc Tryz.prog ((laidWorld os).forCall (fun _ _ => 0) ⟨#[], #[.slice none 0 0, .agg #[.int .i64 0, .int .i64 0, .int .i64 0, .int .i64 0]], []⟩).memory Tryz.f3.params.toList Rows.barrierSpeedsSpec.vars false
    #[Value.slice none 0 0, .agg #[.int .i64 0, .int .i64 0, .int .i64 0, .int .i64 0]].toList 8 = some ([.nil, .agg [.agg [.lit (.int .i64 0), .lit (.int .i64 0)], .agg [.lit (.int .i64 0), .lit (.int .i64 0)]]], [], places) :=
  ⟨[], by kernel_rfl⟩
set_option maxRecDepth 100000 in
theorem speedsC_lifted (os : Os) (started : os.Started) (H : Type) (enc : TypeId × Value → H) (F : Stop.Interp) :
    ReturnsInHanded {} Tryz.checked os 3 .any ((OpenSpec.ofChange Rows.barrierSpeedsSpec).preRow enc Tryz.prog Tryz.f3 Rows.barrierSpeedsRow.domain false Rows.barrierSpeedsRow.laid) (((OpenSpec.ofChange Rows.barrierSpeedsSpec).at F).post enc Tryz.prog Tryz.f3 false true false false) := by
  obtain ⟨places, hx⟩ := speedsC_reads os enc
  refine returnsInHanded_of_row (C := Tryz.checked) (s := OpenSpec.ofChange Rows.barrierSpeedsSpec) own started (by kernel_rfl) Tryz.func3
    (witness_row_at (enc := enc) (C := Tryz.checked) false (laidWorld os) #[.slice none 0 0, .agg #[.int .i64 0, .int .i64 0, .int .i64 0, .int .i64 0]] rfl (by kernel_rfl) (by kernel_rfl) (by kernel_rfl)
      (OpenSpec.preRow_of_cond 8 hx (by kernel_rfl) (fun k hk => by cases hk) (by kernel_rfl) (speedsC_laid os))) ?_
  intro W base args ds gs before hval hW _ _ _ hL _ _
  exact speedsC_contract H enc W base args ds gs before hval hW hL
theorem speedsC_said : Rows.BarrierSpeedsSaid :=
  OpenClaim.holds_of_cond 3 Tryz.f3 rfl rfl rfl rfl rfl rfl rfl ⟨rfl, rfl, rfl, rfl, rfl⟩ rfl rfl rfl rfl rfl (by kernel_rfl) Tryz.func3 (by kernel_rfl)
    (of_decide_eq_true (by kernel_rfl)) (by unfold Func.isWrapper; first | (rw [if_pos (by decide +kernel)]; kernel_rfl) | (rw [if_neg (by decide +kernel)]; exact ⟨rfl, rfl⟩))
    (fun os started H enc _ F => by rw [OpenClaim.pre_eq_preRow]; exact speedsC_lifted os started H enc F)
theorem speedsC_plain (f : FuncId) (fn : Func) (hf : Tryz.pinned.checked.prog.funcNamed "crumple/crumplelaw04.BarrierSpeeds" = some f) (hfn : Tryz.pinned.checked.prog.funcs[f]? = some fn) :
    false = Tryz.pinned.checked.prog.looks [] ∧ ∀ (j : Nat) t, fn.params[j]? = some t → Tryz.pinned.checked.prog.wantsStandIn t = false := by
  obtain rfl : f = 3 := Option.some.inj ((show Tryz.prog.funcNamed "crumple/crumplelaw04.BarrierSpeeds" = some 3 by kernel_rfl).symm.trans hf) |>.symm
  obtain rfl : fn = Tryz.f3 := (Option.some.inj (Tryz.func3.symm.trans hfn)).symm
  refine ⟨by kernel_rfl, fun j t ht => ?_⟩
  rw [Tryz.params3] at ht
  have hm := Array.mem_of_getElem? ht
  simp only [List.mem_toArray, List.mem_cons, List.not_mem_nil, or_false] at hm
  rcases hm with rfl | rfl
  · exact (show Tryz.prog.wantsStandIn 22 = false by kernel_rfl)
  · exact (show Tryz.prog.wantsStandIn 25 = false by kernel_rfl)
/-- ████ THE CARD ████ -/
theorem barrierSpeeds_holds : Rows.BarrierSpeedsCardSaid :=
  Claim7.holds_tied_plain_at .later [] _ _ _ _ speedsC_said (fun _ h => by cases h) (by kernel_rfl) (fun _ h => by cases h) barrierSpeeds_row_tie rfl ⟨rfl, rfl⟩ (by kernel_rfl) rfl speedsC_plain (by kernel_rfl)
#print axioms barrierSpeeds_holds
end Go.Proofs.YtclohbagdmelbaaGreatDoor
