/-
  OWN WORK. BarrierFarther returns true for all tows and bytes, and leaves its arguments as they were: its card.
  Conditions: those of the card itself (the listed variables read as the program's text lays them).
-/
import Derived.Test.YtfkiiacbchbgdaaGreatDoorBrg4
import Derived.Test.YtfkiiacbchbgdaaGreatDoorFaG
namespace Go.Proofs.YtfkiiacbchbgdaaGreatDoor
open Go Go.Am Go.ChangeShapes Go.WideShapes Go.ChangeAt Go.RowKit

theorem uIs : Tryz.prog.underlying 22 = some (.slice 3) := by kernel_rfl
theorem cIs : Tryz.prog.cellsOf 22 = 1 := by kernel_rfl
theorem cTow : Tryz.prog.cellsOf 26 = 6 := by kernel_rfl
theorem cIvl : Tryz.prog.cellsOf 24 = 2 := by kernel_rfl
theorem uThr : Tryz.prog.underlying 62 = some (.array 3 5) := by kernel_rfl
theorem cThr : Tryz.prog.cellsOf 62 = 3 := by kernel_rfl
theorem uU8 : Tryz.prog.underlying 5 = some (.int .u8) := by kernel_rfl
theorem cU8 : Tryz.prog.cellsOf 5 = 1 := by kernel_rfl
theorem byte_rng {a : Int} (wa : (Lit.int .u8 a).wf = true) : 0 ≤ a ∧ a ≤ 255 := by
  simp only [Lit.wf, Bool.and_eq_true, decide_eq_true_eq] at wa
  have h1 : IntKind.min .u8 = 0 := by decide
  have h2 : IntKind.max .u8 = 255 := by decide
  omega
theorem arel_two' {ρ : Rho} {a b a' b' : Value} (h1 : VRel ρ a a') (h2 : VRel ρ b b') : ARel (VRel ρ) #[a, b] #[a', b'] := by
  refine ⟨rfl, fun i x y hx hy => ?_⟩
  match i, hx, hy with
  | 0, hx, hy => cases hx; cases hy; exact h1
  | 1, hx, hy => cases hx; cases hy; exact h2
theorem vtow {ρ : Rho} {c c' : Value} (a b e d w : Int) (h : VRel ρ c c') : VRel ρ (.agg #[c, gi a, gi b, gi e, gi d, gi w]) (.agg #[c', gi a, gi b, gi e, gi d, gi w]) := by
  refine .fold ⟨_, rfl, ⟨rfl, fun i x y hx hy => ?_⟩⟩
  match i, hx, hy with
  | 0, hx, hy => cases hx; cases hy; exact h
  | 1, hx, hy => cases hx; cases hy; exact .flat (n := 1) rfl
  | 2, hx, hy => cases hx; cases hy; exact .flat (n := 1) rfl
  | 3, hx, hy => cases hx; cases hy; exact .flat (n := 1) rfl
  | 4, hx, hy => cases hx; cases hy; exact .flat (n := 1) rfl
  | 5, hx, hy => cases hx; cases hy; exact .flat (n := 1) rfl
section
variable {H : Type} {enc : TypeId × Value → H} {W : World} {base : Nat} {sp : Nat → Bool} {held : Bool}
theorem trod_i (m : Nat) (v : Value) (y : DataW H × List MemPlace) (h : DataW.trod enc Tryz.prog W base sp held m 3 [v] = some y) : ∃ z, v = gi z := by
  obtain ⟨a, ea, _, _⟩ := DataW.trod_int uInt h
  exact ⟨a, by simpa using ea⟩
set_option maxRecDepth 100000 in
theorem trod_ivl (m : Nat) (c0 c1 : Value) (y : DataW H × List MemPlace) (h : DataW.trod enc Tryz.prog W base sp held m 24 [c0, c1] = some y) : ∃ a b : Int, c0 = gi a ∧ c1 = gi b := by
  obtain ⟨xs, m', _, _, _, hn, hi⟩ := DataW.trod_struct Tryz.underlying24 h
  match xs, hn with
  | [x0, x1], _ =>
  have h0 : DataW.trod enc Tryz.prog W base sp held m' 3 (([c0, c1].drop 0).take (Tryz.prog.cellsOf 3)) = some x0 := hi 0 _ rfl
  have h1 : DataW.trod enc Tryz.prog W base sp held m' 3 (([c0, c1].drop 1).take (Tryz.prog.cellsOf 3)) = some x1 := hi 1 _ rfl
  rw [cInt] at h0 h1
  obtain ⟨a, ea, _, _⟩ := DataW.trod_int uInt h0
  obtain ⟨b, eb, _, _⟩ := DataW.trod_int uInt h1
  simp at ea eb
  exact ⟨a, b, ea, eb⟩
set_option maxRecDepth 100000 in
theorem openTw {v : Value} {d : DataW H} {ps : List MemPlace} {r : Reach} {b0 : Nat} (hval : Value.okWide Tryz.prog W r b0 26 v) (hd : DataW.Trod enc Tryz.prog W base sp held 26 v d ps) :
    ∃ (c0 : Value) (a b e d w : Int) (m : Nat) (x0 : DataW H × List MemPlace), v = .agg #[c0, gi a, gi b, gi e, gi d, gi w] ∧ DataW.trod enc Tryz.prog W base sp held m 22 [c0] = some x0 := by
  simp only [Value.okWide, Tryz.underlying26] at hval
  obtain ⟨cs, rfl, hs, _⟩ := hval
  rw [cTow] at hs
  obtain ⟨l⟩ := cs
  match l, hs with
  | [c0, c1, c2, c3, c4, c5], _ =>
  obtain ⟨fuel, hf⟩ := hd
  obtain ⟨xs, m, _, _, _, hn, hi⟩ := DataW.trod_struct Tryz.underlying26 hf
  match xs, hn with
  | [x0, x1, x2, x3], _ =>
  have h0 : DataW.trod enc Tryz.prog W base sp held m 22 (([c0, c1, c2, c3, c4, c5].drop 0).take (Tryz.prog.cellsOf 22)) = some x0 := hi 0 _ rfl
  have h1 : DataW.trod enc Tryz.prog W base sp held m 24 (([c0, c1, c2, c3, c4, c5].drop 1).take (Tryz.prog.cellsOf 24)) = some x1 := hi 1 _ rfl
  have h2 : DataW.trod enc Tryz.prog W base sp held m 24 (([c0, c1, c2, c3, c4, c5].drop 3).take (Tryz.prog.cellsOf 24)) = some x2 := hi 2 _ rfl
  have h3 : DataW.trod enc Tryz.prog W base sp held m 3 (([c0, c1, c2, c3, c4, c5].drop 5).take (Tryz.prog.cellsOf 3)) = some x3 := hi 3 _ rfl
  rw [cIs] at h0
  rw [cIvl] at h1 h2
  rw [cInt] at h3
  obtain ⟨a, b, ea, eb⟩ := trod_ivl m c1 c2 x1 h1
  obtain ⟨e, d, ee, ed⟩ := trod_ivl m c3 c4 x2 h2
  obtain ⟨w, ew, _, _⟩ := DataW.trod_int uInt h3
  simp at ew
  exact ⟨c0, a, b, e, d, w, m, x0, by rw [ea, eb, ee, ed, ew], h0⟩
set_option maxRecDepth 100000 in
theorem openBys {v : Value} {d : DataW H} {ps : List MemPlace} {r : Reach} {b0 : Nat} (hval : Value.okWide Tryz.prog W r b0 62 v) (hd : DataW.Trod enc Tryz.prog W base sp held 62 v d ps) :
    ∃ a b c : Int, v = by3 a b c ∧ (0 ≤ a ∧ a ≤ 255) ∧ (0 ≤ b ∧ b ≤ 255) ∧ (0 ≤ c ∧ c ≤ 255) := by
  simp only [Value.okWide, uThr] at hval
  obtain ⟨cs, rfl, hs, _⟩ := hval
  rw [cThr] at hs
  obtain ⟨l⟩ := cs
  match l, hs with
  | [c0, c1, c2], _ =>
  obtain ⟨fuel, hf⟩ := hd
  obtain ⟨xs, m, _, _, _, hn, hi⟩ := DataW.trod_array uThr hf
  match xs, hn with
  | [x0, x1, x2], _ =>
  have h0 := hi 0 (by omega)
  have h1 := hi 1 (by omega)
  have h2 := hi 2 (by omega)
  rw [cU8] at h0 h1 h2
  obtain ⟨k0, e0, _, w0⟩ := DataW.trod_int uU8 h0
  obtain ⟨k1, e1, _, w1⟩ := DataW.trod_int uU8 h1
  obtain ⟨k2, e2, _, w2⟩ := DataW.trod_int uU8 h2
  simp [Value.cells] at e0 e1 e2
  exact ⟨k0, k1, k2, by rw [e0, e1, e2], byte_rng w0, byte_rng w1, byte_rng w2⟩
end
set_option maxRecDepth 100000 in
theorem FarC_contract (H : Type) (enc : TypeId × Value → H) (W : World) (base : Nat) (args : Array Value) (ds gs : List (DataW H)) (before : List MemPlace)
    (hval : ∀ (j : Nat) t v, Tryz.f5.params[j]? = some t → args[j]? = some v → Value.okWide Tryz.prog W .any base t v)
    (hW : DataW.Whole enc Tryz.prog Tryz.f5.params.toList Rows.barrierFartherSpec.vars false W args.toList ds gs before) (hL : laidMetH Tryz.prog Rows.barrierFartherRow.laid W) :
    Calls Tryz.prog 5 args W fun e W' => ∃ v, e = .returned v ∧ Rows.barrierFartherSpec.post enc Tryz.prog Tryz.f5 false true false false W args v W' := by
  have hW' := hW
  obtain ⟨p, q, hA0, hV, rfl, hfz, hnd⟩ := hW'
  have hA : DataW.TrodAll enc Tryz.prog W 0 (fun _ => true) true Tryz.f5.params.toList args.toList ds p := hA0
  rw [Tryz.params5] at hA hval
  obtain ⟨v0, vs0, d0, ds0, p0, q0, hargs0, rfl, rfl, h0, r0⟩ := trodAll_cons hA
  obtain ⟨v1, vs1, d1, ds1, p1, q1, hargs1, rfl, rfl, h1, r1⟩ := trodAll_cons r0
  obtain ⟨rfl, rfl, rfl⟩ := trodAll_nil r1
  obtain rfl : args = #[v0, v1] := by cases args; simp_all
  obtain ⟨rfl, rfl⟩ := trodVars_none hV
  obtain ⟨c0, xa, xb, xe, xd, xw, fuel, x0, rfl, hf⟩ := openTw (hval 0 _ v0 rfl rfl) h0
  obtain ⟨ya, yb, yc, rfl, na, nb, nc⟩ := openBys (hval 1 _ v1 rfl rfl) h1
  have hT := holds_tabs4 hL (.tail _ (.tail _ (.tail _ (.tail _ (.head _))))) (.tail _ (.tail _ (.head _)))
  obtain ⟨H, G, own⟩ := start0 hT tabs4_flat
  have call : Calls Tryz.prog 5 #[.agg #[c0, gi xa, gi xb, gi xe, gi xd, gi xw], by3 ya yb yc] W (fun e w' => e = .returned (.bool true) ∧ RowKit.Below W.heap.size W w') := by
    rcases slice_shapes uIs cInt gi trod_i hf with hs | ⟨a, k, hs⟩ | ⟨b, off, k, l, c', el, fr, hs, l0, lk, km, hw, hl, hc⟩
    · rw [(List.cons.inj hs).1]
      exact of_callA H G own (arel_two' (vtow _ _ _ _ _ (.flat (n := 1) rfl)) (.flat (n := 1) rfl)) rfl (far_nil _ xa xb xe xd xw ya yb yc)
    · rw [(List.cons.inj hs).1]
      obtain ⟨H', own'⟩ := ext_dead H own
      exact of_callA H' (globs_upd G (Nat.le_refl _) _) own' (arel_two' (vtow _ _ _ _ _ (vrel_dead (Rho.upd_same _ _ _) a k)) (.flat (n := 1) rfl)) rfl (far_emp _ xa xb xe xd xw ya yb yc k)
    · rw [(List.cons.inj hs).1]
      obtain ⟨H', own'⟩ := ext_live H own hw hc (by rw [List.length_map]; exact hl) (flat_ints l)
      exact of_callA H' (globs_upd G (Nat.le_refl _) _) own' (arel_two' (vtow _ _ _ _ _ (vrel_live (Rho.upd_same _ _ _) lk)) (.flat (n := 1) rfl)) rfl (far_full _ xa xb xe xd xw ya yb yc l k el 0 l0 na nb nc)
  refine call.mono fun e W' ⟨he, hb⟩ => ?_
  subst he
  exact ⟨_, rfl, post_true laidOut (fun t ht => by
    rw [Tryz.params5] at ht
    simp only [List.mem_cons, List.not_mem_nil, or_false] at ht
    rcases ht with rfl | rfl <;> exact ⟨by kernel_rfl, of_decide_eq_true (by kernel_rfl)⟩) (by kernel_rfl) uBool rfl rfl rfl rfl hW hb⟩
theorem FarC_laid (os : Os) : laidMet Tryz.prog Rows.barrierFartherRow.laid ((laidWorld os).forCall (fun _ _ => 0) ⟨#[], #[.agg #[.slice none 0 0, .int .i64 0, .int .i64 0, .int .i64 0, .int .i64 0, .int .i64 0], .agg #[.int .u8 0, .int .u8 0, .int .u8 0]], []⟩).memory :=
  laidMet_of_run' 8 (by kernel_rfl) (by kernel_rfl)
theorem FarC_reads (os : Os) {H : Type} (enc : TypeId × Value → H) : ∃ places, DataW.whole enc Tryz.prog ((laidWorld os).forCall (fun _ _ => 0) ⟨#[], #[.agg #[.slice none 0 0, .int .i64 0, .int .i64 0, .int .i64 0, .int .i64 0, .int .i64 0], .agg #[.int .u8 0, .int .u8 0, .int .u8 0]], []⟩).memory Tryz.f5.params.toList Rows.barrierFartherSpec.vars false
    (#[.agg #[.slice none 0 0, .int .i64 0, .int .i64 0, .int .i64 0, .int .i64 0, .int .i64 0], .agg #[.int .u8 0, .int .u8 0, .int .u8 0]] : Array Value).toList 8 = some ([.agg [.nil, .agg [.lit (.int .i64 0), .lit (.int .i64 0)], .agg [.lit (.int .i64 0), .lit (.int .i64 0)], .lit (.int .i64 0)], .agg [.lit (.int .u8 0), .lit (.int .u8 0), .lit (.int .u8 0)]], [], places) :=
  ⟨[], by kernel_rfl⟩
set_option maxRecDepth 100000 in
theorem FarC_lifted (os : Os) (started : os.Started) (H : Type) (enc : TypeId × Value → H) (F : Stop.Interp) :
    ReturnsInHanded {} Tryz.checked os 5 .any ((OpenSpec.ofChange Rows.barrierFartherSpec).preRow enc Tryz.prog Tryz.f5 Rows.barrierFartherRow.domain false Rows.barrierFartherRow.laid) (((OpenSpec.ofChange Rows.barrierFartherSpec).at F).post enc Tryz.prog Tryz.f5 false true false false) := by
  obtain ⟨places, hx⟩ := FarC_reads os enc
  refine returnsInHanded_of_row (C := Tryz.checked) (s := OpenSpec.ofChange Rows.barrierFartherSpec) own started (by kernel_rfl) Tryz.func5
    (witness_row_at (enc := enc) (C := Tryz.checked) false (laidWorld os) #[.agg #[.slice none 0 0, .int .i64 0, .int .i64 0, .int .i64 0, .int .i64 0, .int .i64 0], .agg #[.int .u8 0, .int .u8 0, .int .u8 0]] rfl (by kernel_rfl) (by kernel_rfl) (by kernel_rfl)
      (OpenSpec.preRow_of_cond 8 hx (by kernel_rfl) (fun k hk => by cases hk) (by kernel_rfl) (FarC_laid os))) ?_
  intro W base args ds gs before hval hW _ _ _ hL _ _
  exact FarC_contract H enc W base args ds gs before hval hW hL
theorem FarC_said : Rows.BarrierFartherSaid :=
  OpenClaim.holds_of_cond 5 Tryz.f5 rfl rfl rfl rfl rfl rfl rfl ⟨rfl, rfl, rfl, rfl, rfl⟩ rfl rfl rfl rfl rfl (by kernel_rfl) Tryz.func5 (by kernel_rfl)
    (of_decide_eq_true (by kernel_rfl)) (by unfold Func.isWrapper; first | (rw [if_pos (by decide +kernel)]; kernel_rfl) | (rw [if_neg (by decide +kernel)]; exact ⟨rfl, rfl⟩))
    (fun os started H enc _ F => by rw [OpenClaim.pre_eq_preRow]; exact FarC_lifted os started H enc F)
theorem FarC_plain (f : FuncId) (fn : Func) (hf : Tryz.pinned.checked.prog.funcNamed "crumple/crumplelaw04.BarrierFarther" = some f) (hfn : Tryz.pinned.checked.prog.funcs[f]? = some fn) :
    false = Tryz.pinned.checked.prog.looks [] ∧ ∀ (j : Nat) t, fn.params[j]? = some t → Tryz.pinned.checked.prog.wantsStandIn t = false := by
  obtain rfl : f = 5 := Option.some.inj ((show Tryz.prog.funcNamed "crumple/crumplelaw04.BarrierFarther" = some 5 by kernel_rfl).symm.trans hf) |>.symm
  obtain rfl : fn = Tryz.f5 := (Option.some.inj (Tryz.func5.symm.trans hfn)).symm
  refine ⟨by kernel_rfl, fun j t ht => ?_⟩
  rw [Tryz.params5] at ht
  have hm := Array.mem_of_getElem? ht
  simp only [List.mem_toArray, List.mem_cons, List.not_mem_nil, or_false] at hm
  rcases hm with rfl | rfl
  · exact (show Tryz.prog.wantsStandIn 26 = false by kernel_rfl)
  · exact (show Tryz.prog.wantsStandIn 62 = false by kernel_rfl)
/-- THE CARD -/
theorem barrierFarther_holds : Rows.BarrierFartherCardSaid :=
  Claim7.holds_tied_plain_at .later [] _ _ _ _ FarC_said (fun _ h => by cases h) (by kernel_rfl) (fun _ h => by cases h) barrierFarther_row_tie rfl ⟨rfl, rfl⟩ (by kernel_rfl) rfl FarC_plain (by kernel_rfl)
#print axioms barrierFarther_holds
end Go.Proofs.YtfkiiacbchbgdaaGreatDoor
