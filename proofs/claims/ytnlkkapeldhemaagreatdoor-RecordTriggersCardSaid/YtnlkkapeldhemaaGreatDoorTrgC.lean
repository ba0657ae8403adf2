/-
  OWN WORK. RecordTriggers returns true for all samples and all three integers, and leaves its arguments as they were: its card.
  Conditions: those of the card itself (the listed variables read as the program's text lays them).
-/
import Derived.Test.YtnlkkapeldhemaaGreatDoorCrdF
import Derived.Test.YtnlkkapeldhemaaGreatDoorTgK
namespace Go.Proofs.YtnlkkapeldhemaaGreatDoor
open Go Go.Am Go.ChangeShapes Go.WideShapes Go.ChangeAt Go.RowKit

theorem arr3 : Tryz.prog.underlying 46 = some (.array 3 3) := by kernel_rfl
theorem carr3 : Tryz.prog.cellsOf 46 = 3 := by kernel_rfl
set_option maxRecDepth 100000 in
theorem open3 {H : Type} {enc : TypeId × Value → H} {W : World} {base : Nat} {sp : Nat → Bool} {held : Bool} {v : Value} {d : DataW H} {ps : List MemPlace} {r : Reach} {b0 : Nat} (hval : Value.okWide Tryz.prog W r b0 46 v) (hd : DataW.Trod enc Tryz.prog W base sp held 46 v d ps) :
    ∃ a b c : Int, v = .agg #[.int .i64 a, .int .i64 b, .int .i64 c] := by
  simp only [Value.okWide, arr3] at hval
  obtain ⟨cs, rfl, hs, _⟩ := hval
  rw [carr3] at hs
  obtain ⟨l⟩ := cs
  match l, hs with
  | [c0, c1, c2], _ =>
  obtain ⟨fuel, hf⟩ := hd
  obtain ⟨xs, m, _, _, _, hn, hi⟩ := DataW.trod_array arr3 hf
  match xs, hn with
  | [x0, x1, x2], _ =>
  have h0 := hi 0 (by omega)
  have h1 := hi 1 (by omega)
  have h2 := hi 2 (by omega)
  rw [cInt] at h0 h1 h2
  obtain ⟨a, ea, _, _⟩ := DataW.trod_int uInt h0
  obtain ⟨b, eb, _, _⟩ := DataW.trod_int uInt h1
  obtain ⟨c, ec, _, _⟩ := DataW.trod_int uInt h2
  simp [Value.cells] at ea eb ec
  exact ⟨a, b, c, by rw [ea, eb, ec]⟩
set_option maxRecDepth 100000 in
theorem trg_contract (H : Type) (enc : TypeId × Value → H) (W : World) (base : Nat) (args : Array Value) (ds gs : List (DataW H)) (before : List MemPlace)
    (hval : ∀ (j : Nat) t v, Tryz.f4.params[j]? = some t → args[j]? = some v → Value.okWide Tryz.prog W .any base t v)
    (hW : DataW.Whole enc Tryz.prog Tryz.f4.params.toList Rows.recordTriggersSpec.vars false W args.toList ds gs before) (hL : laidMetH Tryz.prog Rows.recordTriggersRow.laid W) :
    Calls Tryz.prog 4 args W fun e W' => ∃ v, e = .returned v ∧ Rows.recordTriggersSpec.post enc Tryz.prog Tryz.f4 false true false false W args v W' := by
  have hW' := hW
  obtain ⟨p, q, hA0, hV, rfl, hfz, hnd⟩ := hW'
  have hA : DataW.TrodAll enc Tryz.prog W 0 (fun _ => true) true Tryz.f4.params.toList args.toList ds p := hA0
  rw [Tryz.params4] at hA hval
  obtain ⟨v0, vs0, d0, ds0, p0, q0, hargs, rfl, rfl, h0, r0⟩ := trodAll_cons hA
  obtain ⟨v1, vs1, d1, ds1, p1, q1, hargs1, rfl, rfl, h1, r1⟩ := trodAll_cons r0
  obtain ⟨rfl, rfl, rfl⟩ := trodAll_nil r1
  obtain rfl : args = #[v0, v1] := by cases args; simp_all
  obtain ⟨rfl, rfl⟩ := trodVars_none hV
  obtain ⟨x, y, z, rfl⟩ := open3 (hval 1 _ v1 rfl rfl) h1
  obtain ⟨sa, sn, sk, rfl⟩ := okWide_slice uFs (hval 0 _ v0 rfl rfl)
  obtain ⟨fuel, hf⟩ := h0
  have hT := holds_tabs hL (.tail _ (.tail _ (.tail _ (.head _)))) (.tail _ (.tail _ (.head _)))
  obtain ⟨H, G, own⟩ := start0 hT tabs_flat
  have call : Calls Tryz.prog 4 #[.slice sa sn sk, .agg #[.int .i64 x, .int .i64 y, .int .i64 z]] W (fun e w' => e = .returned (.bool true) ∧ RowKit.Below W.heap.size W w') := by
    rcases slice_shapes uFs cF32 gf trod_f32 hf with hs | ⟨a, k, hs⟩ | ⟨b, off, k, l, c', el, fr, hs, l0, lk, km, hw, hl, hc⟩
    · have hs : [Value.slice sa sn sk] = [.slice none 0 0] := hs
      rw [List.cons.inj hs |>.1]
      exact of_callA H G own (arel_two (.flat (n := 1) rfl) (.flat (n := 3) rfl)) rfl (trl_nil _ x y z)
    · have hs : [Value.slice sa sn sk] = [.slice (some a) 0 k] := hs
      rw [List.cons.inj hs |>.1]
      obtain ⟨H', own'⟩ := ext_dead H own
      exact of_callA H' (globs_upd G (Nat.le_refl _) _) own' (arel_two (vrel_dead (Rho.upd_same _ _ _) a k) (.flat (n := 3) rfl)) rfl (trl_emp k _ x y z)
    · have hs : [Value.slice sa sn sk] = [.slice (some ⟨b, off, none⟩) l.length k] := hs
      rw [List.cons.inj hs |>.1]
      have hfl : (l.map gf).all (flat 3) = true := by
        rw [List.all_eq_true]
        intro y hy
        obtain ⟨z, _, rfl⟩ := List.mem_map.1 hy
        rfl
      obtain ⟨H', own'⟩ := ext_live H own hw hc (by rw [List.length_map]; exact hl) hfl
      have hm : maxLen ≤ 9223372036854775807 := by decide
      exact of_callA H' (globs_upd G (Nat.le_refl _) _) own' (arel_two (vrel_live (Rho.upd_same _ _ _) lk) (.flat (n := 3) rfl)) rfl (trl_full l k el _ x y z l0 (by omega) lk)
  refine call.mono fun e W' ⟨he, hb⟩ => ?_
  subst he
  exact ⟨_, rfl, post_true laidOut (fun t ht => by
    rw [Tryz.params4] at ht
    simp only [List.mem_cons, List.not_mem_nil, or_false] at ht
    rcases ht with rfl | rfl <;> exact ⟨by kernel_rfl, of_decide_eq_true (by kernel_rfl)⟩) (by kernel_rfl) uBool rfl rfl rfl rfl hW hb⟩

theorem trg_laid (os : Os) : laidMet Tryz.prog Rows.recordTriggersRow.laid ((laidWorld os).forCall (fun _ _ => 0) ⟨#[], #[.slice none 0 0, .agg #[.int .i64 0, .int .i64 0, .int .i64 0]], []⟩).memory :=
  laidMet_of_run' 8 (by kernel_rfl) (by kernel_rfl)
theorem trg_reads (os : Os) {H : Type} (enc : TypeId × Value → H) : ∃ places, DataW.whole enc Tryz.prog ((laidWorld os).forCall (fun _ _ => 0) ⟨#[], #[.slice none 0 0, .agg #[.int .i64 0, .int .i64 0, .int .i64 0]], []⟩).memory Tryz.f4.params.toList Rows.recordTriggersSpec.vars false
    #[Value.slice none 0 0, .agg #[.int .i64 0, .int .i64 0, .int .i64 0]].toList 8 = some ([.nil, .agg [.lit (.int .i64 0), .lit (.int .i64 0), .lit (.int .i64 0)]], [], places) :=
  ⟨[], by kernel_rfl⟩
set_option maxRecDepth 100000 in
theorem trg_lifted (os : Os) (started : os.Started) (H : Type) (enc : TypeId × Value → H) (F : Stop.Interp) :
    ReturnsInHanded {} Tryz.checked os 4 .any ((OpenSpec.ofChange Rows.recordTriggersSpec).preRow enc Tryz.prog Tryz.f4 Rows.recordTriggersRow.domain false Rows.recordTriggersRow.laid) (((OpenSpec.ofChange Rows.recordTriggersSpec).at F).post enc Tryz.prog Tryz.f4 false true false false) := by
  obtain ⟨places, hx⟩ := trg_reads os enc
  refine returnsInHanded_of_row (C := Tryz.checked) (s := OpenSpec.ofChange Rows.recordTriggersSpec) own started (by kernel_rfl) Tryz.func4
    (witness_row_at (enc := enc) (C := Tryz.checked) false (laidWorld os) #[.slice none 0 0, .agg #[.int .i64 0, .int .i64 0, .int .i64 0]] rfl (by kernel_rfl) (by kernel_rfl) (by kernel_rfl)
      (OpenSpec.preRow_of_cond 8 hx (by kernel_rfl) (fun k hk => by cases hk) (by kernel_rfl) (trg_laid os))) ?_
  intro W base args ds gs before hval hW _ _ _ hL _ _
  exact trg_contract H enc W base args ds gs before hval hW hL
theorem trg_said : Rows.RecordTriggersSaid :=
  OpenClaim.holds_of_cond 4 Tryz.f4 rfl rfl rfl rfl rfl rfl rfl ⟨rfl, rfl, rfl, rfl, rfl⟩ rfl rfl rfl rfl rfl (by kernel_rfl) Tryz.func4 (by kernel_rfl)
    (of_decide_eq_true (by kernel_rfl)) (by unfold Func.isWrapper; first | (rw [if_pos (by decide +kernel)]; kernel_rfl) | (rw [if_neg (by decide +kernel)]; exact ⟨rfl, rfl⟩))
    (fun os started H enc _ F => by rw [OpenClaim.pre_eq_preRow]; exact trg_lifted os started H enc F)
theorem trg_plain (f : FuncId) (fn : Func) (hf : Tryz.pinned.checked.prog.funcNamed "crumple/crumplelaw01.RecordTriggers" = some f) (hfn : Tryz.pinned.checked.prog.funcs[f]? = some fn) :
    false = Tryz.pinned.checked.prog.looks [] ∧ ∀ (j : Nat) t, fn.params[j]? = some t → Tryz.pinned.checked.prog.wantsStandIn t = false := by
  obtain rfl : f = 4 := Option.some.inj ((show Tryz.prog.funcNamed "crumple/crumplelaw01.RecordTriggers" = some 4 by kernel_rfl).symm.trans hf) |>.symm
  obtain rfl : fn = Tryz.f4 := (Option.some.inj (Tryz.func4.symm.trans hfn)).symm
  refine ⟨by kernel_rfl, fun j t ht => ?_⟩
  rw [Tryz.params4] at ht
  have hm := Array.mem_of_getElem? ht
  simp only [List.mem_toArray, List.mem_cons, List.not_mem_nil, or_false] at hm
  rcases hm with rfl | rfl
  · exact (show Tryz.prog.wantsStandIn 22 = false by kernel_rfl)
  · exact (show Tryz.prog.wantsStandIn 46 = false by kernel_rfl)
/-- ████ THE CARD ████ -/
theorem recordTriggers_holds : Rows.RecordTriggersCardSaid :=
  Claim7.holds_tied_plain_at .later [] _ _ _ _ trg_said (fun _ h => by cases h) (by kernel_rfl) (fun _ h => by cases h) recordTriggers_row_tie rfl ⟨rfl, rfl⟩ (by kernel_rfl) rfl trg_plain (by kernel_rfl)
#print axioms recordTriggers_holds
end Go.Proofs.YtnlkkapeldhemaaGreatDoor
