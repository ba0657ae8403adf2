/-
  OWN WORK. The card of RecordNumbers, from its call on the abstract machine.
-/
import Derived.Test.YtmfepbkpojafnaaGreatDoorCrd
namespace Go.Proofs.YtmfepbkpojafnaaGreatDoor
open Go Go.Am Go.ChangeShapes Go.WideShapes Go.ChangeAt Go.RowKit

def NumbersCall : Prop := ∀ (s : ByteArray) (a b c d : Int), s.size ≤ maxLen → (Lit.int .i64 a).wf = true → (Lit.int .i64 b).wf = true → (Lit.int .i64 c).wf = true → (Lit.int .i64 d).wf = true → ∀ es,
  CallJ Tryz.prog 3 #[.string s, .agg #[.int .i64 a, .int .i64 b], .agg #[.int .i64 c, .int .i64 d]] (base tabs es Tryz.prog.globals.size) (fun v _ => v = .bool true)

theorem arr2 : Tryz.prog.underlying 22 = some (.array 2 3) := by kernel_rfl
theorem carr2 : Tryz.prog.cellsOf 22 = 2 := by kernel_rfl
theorem cratio : Tryz.prog.cellsOf 24 = 2 := by kernel_rfl
set_option maxRecDepth 100000 in
theorem open2 {H : Type} {enc : TypeId × Value → H} {W : World} {base : Nat} {sp : Nat → Bool} {held : Bool} {v : Value} {d : DataW H} {ps : List MemPlace} {r : Reach} {b0 : Nat} (hval : Value.okWide Tryz.prog W r b0 22 v) (hd : DataW.Trod enc Tryz.prog W base sp held 22 v d ps) :
    ∃ a b : Int, v = .agg #[.int .i64 a, .int .i64 b] ∧ (Lit.int .i64 a).wf = true ∧ (Lit.int .i64 b).wf = true := by
  simp only [Value.okWide, arr2] at hval
  obtain ⟨cs, rfl, hs, _⟩ := hval
  rw [carr2] at hs
  obtain ⟨l⟩ := cs
  match l, hs with
  | [c0, c1], _ =>
  obtain ⟨fuel, hf⟩ := hd
  obtain ⟨xs, m, _, _, _, hn, hi⟩ := DataW.trod_array arr2 hf
  match xs, hn with
  | [x0, x1], _ =>
  have h0 := hi 0 (by omega)
  have h1 := hi 1 (by omega)
  rw [cInt] at h0 h1
  obtain ⟨a, ea, _, wa⟩ := DataW.trod_int uInt h0
  obtain ⟨b, eb, _, wb⟩ := DataW.trod_int uInt h1
  simp [Value.cells] at ea eb
  exact ⟨a, b, by rw [ea, eb], wa, wb⟩
set_option maxRecDepth 100000 in
theorem openR {H : Type} {enc : TypeId × Value → H} {W : World} {base : Nat} {sp : Nat → Bool} {held : Bool} {v : Value} {d : DataW H} {ps : List MemPlace} {r : Reach} {b0 : Nat} (hval : Value.okWide Tryz.prog W r b0 24 v) (hd : DataW.Trod enc Tryz.prog W base sp held 24 v d ps) :
    ∃ a b : Int, v = .agg #[.int .i64 a, .int .i64 b] ∧ (Lit.int .i64 a).wf = true ∧ (Lit.int .i64 b).wf = true := by
  simp only [Value.okWide, Tryz.underlying24] at hval
  obtain ⟨cs, rfl, hs, _⟩ := hval
  rw [cratio] at hs
  obtain ⟨l⟩ := cs
  match l, hs with
  | [c0, c1], _ =>
  obtain ⟨fuel, hf⟩ := hd
  obtain ⟨x0, x1, m, _, _, h0, h1⟩ := trod_struct2 Tryz.underlying24 hf
  rw [show Tryz.prog.cellsOf _ = 1 from cInt] at h0 h1
  obtain ⟨a, ea, _, wa⟩ := DataW.trod_int uInt h0
  obtain ⟨b, eb, _, wb⟩ := DataW.trod_int uInt h1
  simp [Value.cells] at ea eb
  exact ⟨a, b, by rw [ea, eb], wa, wb⟩

set_option maxRecDepth 100000 in
theorem numbers_contract (hc : NumbersCall) (H : Type) (enc : TypeId × Value → H) (W : World) (base : Nat) (args : Array Value) (ds gs : List (DataW H)) (before : List MemPlace)
    (hval : ∀ (j : Nat) t v, Tryz.f3.params[j]? = some t → args[j]? = some v → Value.okWide Tryz.prog W .any base t v)
    (hW : DataW.Whole enc Tryz.prog Tryz.f3.params.toList Rows.recordNumbersSpec.vars false W args.toList ds gs before) (hL : laidMetH Tryz.prog Rows.recordNumbersRow.laid W) :
    Calls Tryz.prog 3 args W fun e W' => ∃ v, e = .returned v ∧ Rows.recordNumbersSpec.post enc Tryz.prog Tryz.f3 false true false false W args v W' := by
  have hW' := hW
  obtain ⟨p, q, hA0, hV, rfl, hfz, hnd⟩ := hW'
  have hA : DataW.TrodAll enc Tryz.prog W 0 (fun _ => true) true Tryz.f3.params.toList args.toList ds p := hA0
  rw [Tryz.params3] at hA hval
  obtain ⟨v0, vs0, d0, ds0, p0, q0, hargs, rfl, rfl, h0, r0⟩ := trodAll_cons hA
  obtain ⟨v1, vs1, d1, ds1, p1, q1, hargs1, rfl, rfl, h1, r1⟩ := trodAll_cons r0
  obtain ⟨v2, vs2, d2, ds2, p2, q2, hargs2, rfl, rfl, h2, r2⟩ := trodAll_cons r1
  obtain ⟨rfl, rfl, rfl⟩ := trodAll_nil r2
  obtain rfl : args = #[v0, v1, v2] := by cases args; simp_all
  obtain ⟨rfl, rfl⟩ := trodVars_none hV
  obtain ⟨s, rfl, _, _, hs⟩ := ChangeMaps.open_string uString (hval 0 _ v0 rfl rfl) h0
  obtain ⟨a, b, rfl, wa, wb⟩ := open2 (hval 1 _ v1 rfl rfl) h1
  obtain ⟨c, d, rfl, wc, wd⟩ := openR (hval 2 _ v2 rfl rfl) h2
  refine (of_call (holds_tabs hL (.tail _ (.tail _ (.tail _ (.head _)))) (.tail _ (.tail _ (.head _)))) tabs_flat rfl rfl (hc s a b c d hs wa wb wc wd)).mono fun e W' ⟨he, hb⟩ => ?_
  subst he
  exact ⟨_, rfl, post_true laidOut (fun t ht => by
    rw [Tryz.params3] at ht
    simp only [List.mem_cons, List.not_mem_nil, or_false] at ht
    rcases ht with rfl | rfl | rfl <;> exact ⟨by kernel_rfl, of_decide_eq_true (by kernel_rfl)⟩) (by kernel_rfl) uBool rfl rfl rfl rfl hW hb⟩

theorem numbers_laid (os : Os) : laidMet Tryz.prog Rows.recordNumbersRow.laid ((laidWorld os).forCall (fun _ _ => 0) ⟨#[], #[.string ⟨#[]⟩, .agg #[.int .i64 0, .int .i64 0], .agg #[.int .i64 0, .int .i64 0]], []⟩).memory :=
  laidMet_of_run' 8 (by kernel_rfl) (by kernel_rfl)
theorem numbers_reads (os : Os) {H : Type} (enc : TypeId × Value → H) : ∃ places, DataW.whole enc Tryz.prog ((laidWorld os).forCall (fun _ _ => 0) ⟨#[], #[.string ⟨#[]⟩, .agg #[.int .i64 0, .int .i64 0], .agg #[.int .i64 0, .int .i64 0]], []⟩).memory Tryz.f3.params.toList Rows.recordNumbersSpec.vars false
    #[Value.string ⟨#[]⟩, .agg #[.int .i64 0, .int .i64 0], .agg #[.int .i64 0, .int .i64 0]].toList 8 = some ([.lit (.string []), .agg [.lit (.int .i64 0), .lit (.int .i64 0)], .agg [.lit (.int .i64 0), .lit (.int .i64 0)]], [], places) :=
  ⟨[], by kernel_rfl⟩
set_option maxRecDepth 100000 in
theorem numbers_lifted (hc : NumbersCall) (os : Os) (started : os.Started) (H : Type) (enc : TypeId × Value → H) (F : Stop.Interp) :
    ReturnsInHanded {} Tryz.checked os 3 .any ((OpenSpec.ofChange Rows.recordNumbersSpec).preRow enc Tryz.prog Tryz.f3 Rows.recordNumbersRow.domain false Rows.recordNumbersRow.laid) (((OpenSpec.ofChange Rows.recordNumbersSpec).at F).post enc Tryz.prog Tryz.f3 false true false false) := by
  obtain ⟨places, hx⟩ := numbers_reads os enc
  refine returnsInHanded_of_row (C := Tryz.checked) (s := OpenSpec.ofChange Rows.recordNumbersSpec) own started (by kernel_rfl) Tryz.func3
    (witness_row_at (enc := enc) (C := Tryz.checked) false (laidWorld os) #[.string ⟨#[]⟩, .agg #[.int .i64 0, .int .i64 0], .agg #[.int .i64 0, .int .i64 0]] rfl (by kernel_rfl) (by kernel_rfl) (by kernel_rfl)
      (OpenSpec.preRow_of_cond 8 hx (by kernel_rfl) (fun k hk => by cases hk) (by kernel_rfl) (numbers_laid os))) ?_
  intro W base args ds gs before hval hW _ _ _ hL _ _
  exact numbers_contract hc H enc W base args ds gs before hval hW hL
theorem numbers_said (hc : NumbersCall) : Rows.RecordNumbersSaid :=
  OpenClaim.holds_of_cond 3 Tryz.f3 rfl rfl rfl rfl rfl rfl rfl ⟨rfl, rfl, rfl, rfl, rfl⟩ rfl rfl rfl rfl rfl (by kernel_rfl) Tryz.func3 (by kernel_rfl)
    (of_decide_eq_true (by kernel_rfl)) (by unfold Func.isWrapper; first | (rw [if_pos (by decide +kernel)]; kernel_rfl) | (rw [if_neg (by decide +kernel)]; exact ⟨rfl, rfl⟩))
    (fun os started H enc _ F => by rw [OpenClaim.pre_eq_preRow]; exact numbers_lifted hc os started H enc F)
theorem numbers_plain (f : FuncId) (fn : Func) (hf : Tryz.pinned.checked.prog.funcNamed "crumple/crumplelaw01.RecordNumbers" = some f) (hfn : Tryz.pinned.checked.prog.funcs[f]? = some fn) :
    false = Tryz.pinned.checked.prog.looks [] ∧ ∀ (j : Nat) t, fn.params[j]? = some t → Tryz.pinned.checked.prog.wantsStandIn t = false := by
  obtain rfl : f = 3 := Option.some.inj ((show Tryz.prog.funcNamed "crumple/crumplelaw01.RecordNumbers" = some 3 by kernel_rfl).symm.trans hf) |>.symm
  obtain rfl : fn = Tryz.f3 := (Option.some.inj (Tryz.func3.symm.trans hfn)).symm
  refine ⟨by kernel_rfl, fun j t ht => ?_⟩
  rw [Tryz.params3] at ht
  have hm := Array.mem_of_getElem? ht
  simp only [List.mem_toArray, List.mem_cons, List.not_mem_nil, or_false] at hm
  rcases hm with rfl | rfl | rfl
  · exact (show Tryz.prog.wantsStandIn 9 = false by kernel_rfl)
  · exact (show Tryz.prog.wantsStandIn 22 = false by kernel_rfl)
  · exact (show Tryz.prog.wantsStandIn 24 = false by kernel_rfl)
theorem numbers_card (hc : NumbersCall) : Rows.RecordNumbersCardSaid :=
  Claim7.holds_tied_plain_at .later [] _ _ _ _ (numbers_said hc) (fun _ h => by cases h) (by kernel_rfl) (fun _ h => by cases h) recordNumbers_row_tie rfl ⟨rfl, rfl⟩ (by kernel_rfl) rfl numbers_plain (by kernel_rfl)
end Go.Proofs.YtmfepbkpojafnaaGreatDoor
