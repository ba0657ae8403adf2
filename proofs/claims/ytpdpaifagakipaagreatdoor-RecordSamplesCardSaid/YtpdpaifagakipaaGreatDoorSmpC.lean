/-
  OWN WORK. RecordSamples returns true for each sample and all samples, and leaves its arguments as they were: its card.
  Conditions: those of the card itself (the listed variables read as the program's text lays them).
-/
import Derived.Test.YtpdpaifagakipaaGreatDoorCrd
import Derived.Test.YtpdpaifagakipaaGreatDoorLwS
namespace Go.Proofs.YtpdpaifagakipaaGreatDoor
open Go Go.Am Go.ChangeShapes Go.WideShapes Go.ChangeAt Go.RowKit

theorem uF32 : Tryz.prog.underlying 22 = some (.float .f32) := by kernel_rfl
theorem cF32 : Tryz.prog.cellsOf 22 = 1 := by kernel_rfl
theorem uFs : Tryz.prog.underlying 23 = some (.slice 22) := by kernel_rfl
theorem cFs : Tryz.prog.cellsOf 23 = 1 := by kernel_rfl
theorem trod_f32 {H : Type} {enc : TypeId × Value → H} {W : World} {base : Nat} {sp : Nat → Bool} {held : Bool} (m : Nat) (v : Value) (y : DataW H × List MemPlace) (h : DataW.trod enc Tryz.prog W base sp held m 22 [v] = some y) : ∃ z, v = gf z := by
  cases m with
  | zero => cases h
  | succ m =>
    unfold DataW.trod at h
    rw [uF32] at h
    cases v with
    | float k b =>
      simp only at h
      split at h
      · rename_i hk
        obtain ⟨rfl, _⟩ := hk
        exact ⟨b, rfl⟩
      · cases h
    | _ => cases h
theorem argN (es : Nat → TypeId) : (base tabs es Tryz.prog.globals.size).n = Tryz.prog.globals.size := rfl
set_option maxRecDepth 100000 in
theorem samples_contract (H : Type) (enc : TypeId × Value → H) (W : World) (base : Nat) (args : Array Value) (ds gs : List (DataW H)) (before : List MemPlace)
    (hval : ∀ (j : Nat) t v, Tryz.f3.params[j]? = some t → args[j]? = some v → Value.okWide Tryz.prog W .any base t v)
    (hW : DataW.Whole enc Tryz.prog Tryz.f3.params.toList Rows.recordSamplesSpec.vars false W args.toList ds gs before) (hL : laidMetH Tryz.prog Rows.recordSamplesRow.laid W) :
    Calls Tryz.prog 3 args W fun e W' => ∃ v, e = .returned v ∧ Rows.recordSamplesSpec.post enc Tryz.prog Tryz.f3 false true false false W args v W' := by
  have hW' := hW
  obtain ⟨p, q, hA0, hV, rfl, hfz, hnd⟩ := hW'
  have hA : DataW.TrodAll enc Tryz.prog W 0 (fun _ => true) true Tryz.f3.params.toList args.toList ds p := hA0
  rw [Tryz.params3] at hA hval
  obtain ⟨v0, vs0, d0, ds0, p0, q0, hargs, rfl, rfl, h0, r0⟩ := trodAll_cons hA
  obtain ⟨v1, vs1, d1, ds1, p1, q1, hargs1, rfl, rfl, h1, r1⟩ := trodAll_cons r0
  obtain ⟨rfl, rfl, rfl⟩ := trodAll_nil r1
  obtain rfl : args = #[v0, v1] := by cases args; simp_all
  obtain ⟨rfl, rfl⟩ := trodVars_none hV
  obtain ⟨x, rfl⟩ := Go.ChangeShapes.okWide_float uF32 (hval 0 _ v0 rfl rfl)
  obtain ⟨sa, sn, sk, rfl⟩ := okWide_slice uFs (hval 1 _ v1 rfl rfl)
  obtain ⟨fuel, hf⟩ := h1
  have hT := holds_tabs hL (.tail _ (.tail _ (.tail _ (.head _)))) (.tail _ (.tail _ (.head _)))
  obtain ⟨H, G, own⟩ := start0 hT tabs_flat
  have call : Calls Tryz.prog 3 #[.float .f32 x, .slice sa sn sk] W (fun e w' => e = .returned (.bool true) ∧ RowKit.Below W.heap.size W w') := by
    rcases slice_shapes uFs cF32 gf trod_f32 hf with hs | ⟨a, k, hs⟩ | ⟨b, off, k, l, c', el, fr, hs, l0, lk, km, hw, hl, hc⟩
    · have hs : [Value.slice sa sn sk] = [.slice none 0 0] := hs
      rw [List.cons.inj hs |>.1]
      exact of_callA H G own (arel_two (.flat (n := 1) rfl) (.flat (n := 1) rfl)) rfl (callC_ok mixed orcX_ok askX_ok (Eq.mpr (samples_nil x _ _) ⟨ieq_self _, rfl⟩))
    · have hs : [Value.slice sa sn sk] = [.slice (some a) 0 k] := hs
      rw [List.cons.inj hs |>.1]
      obtain ⟨H', own'⟩ := ext_dead H own
      exact of_callA H' (globs_upd G (Nat.le_refl _) _) own' (arel_two (.flat (n := 1) rfl) (vrel_dead (Rho.upd_same _ _ _) a k)) rfl (callC_ok mixed orcX_ok askX_ok (Eq.mpr (samples_emp x k _ _) ⟨ieq_self _, rfl⟩))
    · have hs : [Value.slice sa sn sk] = [.slice (some ⟨b, off, none⟩) l.length k] := hs
      rw [List.cons.inj hs |>.1]
      have hfl : (l.map gf).all (flat 3) = true := by
        rw [List.all_eq_true]
        intro y hy
        obtain ⟨z, _, rfl⟩ := List.mem_map.1 hy
        rfl
      obtain ⟨H', own'⟩ := ext_live H own hw hc (by rw [List.length_map]; exact hl) hfl
      have hm : maxLen ≤ 9223372036854775807 := by decide
      exact of_callA H' (globs_upd G (Nat.le_refl _) _) own' (arel_two (.flat (n := 1) rfl) (vrel_live (Rho.upd_same _ _ _) lk)) rfl (samples_full x l k el _ l0 (by omega) lk)
  refine call.mono fun e W' ⟨he, hb⟩ => ?_
  subst he
  exact ⟨_, rfl, post_true laidOut (fun t ht => by
    rw [Tryz.params3] at ht
    simp only [List.mem_cons, List.not_mem_nil, or_false] at ht
    rcases ht with rfl | rfl <;> exact ⟨by kernel_rfl, of_decide_eq_true (by kernel_rfl)⟩) (by kernel_rfl) uBool rfl rfl rfl rfl hW hb⟩

theorem samples_laid (os : Os) : laidMet Tryz.prog Rows.recordSamplesRow.laid ((laidWorld os).forCall (fun _ _ => 0) ⟨#[], #[.float .f32 0, .slice none 0 0], []⟩).memory :=
  laidMet_of_run' 8 (by kernel_rfl) (by kernel_rfl)
theorem samples_reads (os : Os) {H : Type} (enc : TypeId × Value → H) : ∃ places, DataW.whole enc Tryz.prog ((laidWorld os).forCall (fun _ _ => 0) ⟨#[], #[.float .f32 0, .slice none 0 0], []⟩).memory Tryz.f3.params.toList Rows.recordSamplesSpec.vars false
    #[Value.float .f32 0, .slice none 0 0].toList 8 = some ([.lit (.float .f32 0), .nil], [], places) :=
  ⟨[], by kernel_rfl⟩
set_option maxRecDepth 100000 in
theorem samples_lifted (os : Os) (started : os.Started) (H : Type) (enc : TypeId × Value → H) (F : Stop.Interp) :
    ReturnsInHanded {} Tryz.checked os 3 .any ((OpenSpec.ofChange Rows.recordSamplesSpec).preRow enc Tryz.prog Tryz.f3 Rows.recordSamplesRow.domain false Rows.recordSamplesRow.laid) (((OpenSpec.ofChange Rows.recordSamplesSpec).at F).post enc Tryz.prog Tryz.f3 false true false false) := by
  obtain ⟨places, hx⟩ := samples_reads os enc
  refine returnsInHanded_of_row (C := Tryz.checked) (s := OpenSpec.ofChange Rows.recordSamplesSpec) own started (by kernel_rfl) Tryz.func3
    (witness_row_at (enc := enc) (C := Tryz.checked) false (laidWorld os) #[.float .f32 0, .slice none 0 0] rfl (by kernel_rfl) (by kernel_rfl) (by kernel_rfl)
      (OpenSpec.preRow_of_cond 8 hx (by kernel_rfl) (fun k hk => by cases hk) (by kernel_rfl) (samples_laid os))) ?_
  intro W base args ds gs before hval hW _ _ _ hL _ _
  exact samples_contract H enc W base args ds gs before hval hW hL
theorem samples_said : Rows.RecordSamplesSaid :=
  OpenClaim.holds_of_cond 3 Tryz.f3 rfl rfl rfl rfl rfl rfl rfl ⟨rfl, rfl, rfl, rfl, rfl⟩ rfl rfl rfl rfl rfl (by kernel_rfl) Tryz.func3 (by kernel_rfl)
    (of_decide_eq_true (by kernel_rfl)) (by unfold Func.isWrapper; first | (rw [if_pos (by decide +kernel)]; kernel_rfl) | (rw [if_neg (by decide +kernel)]; exact ⟨rfl, rfl⟩))
    (fun os started H enc _ F => by rw [OpenClaim.pre_eq_preRow]; exact samples_lifted os started H enc F)
theorem samples_plain (f : FuncId) (fn : Func) (hf : Tryz.pinned.checked.prog.funcNamed "crumple/crumplelaw01.RecordSamples" = some f) (hfn : Tryz.pinned.checked.prog.funcs[f]? = some fn) :
    false = Tryz.pinned.checked.prog.looks [] ∧ ∀ (j : Nat) t, fn.params[j]? = some t → Tryz.pinned.checked.prog.wantsStandIn t = false := by
  obtain rfl : f = 3 := Option.some.inj ((show Tryz.prog.funcNamed "crumple/crumplelaw01.RecordSamples" = some 3 by kernel_rfl).symm.trans hf) |>.symm
  obtain rfl : fn = Tryz.f3 := (Option.some.inj (Tryz.func3.symm.trans hfn)).symm
  refine ⟨by kernel_rfl, fun j t ht => ?_⟩
  rw [Tryz.params3] at ht
  have hm := Array.mem_of_getElem? ht
  simp only [List.mem_toArray, List.mem_cons, List.not_mem_nil, or_false] at hm
  rcases hm with rfl | rfl
  · exact (show Tryz.prog.wantsStandIn 22 = false by kernel_rfl)
  · exact (show Tryz.prog.wantsStandIn 23 = false by kernel_rfl)
/-- ████ THE CARD ████ -/
theorem recordSamples_holds : Rows.RecordSamplesCardSaid :=
  Claim7.holds_tied_plain_at .later [] _ _ _ _ samples_said (fun _ h => by cases h) (by kernel_rfl) (fun _ h => by cases h) recordSamples_row_tie rfl ⟨rfl, rfl⟩ (by kernel_rfl) rfl samples_plain (by kernel_rfl)
#print axioms recordSamples_holds
end Go.Proofs.YtpdpaifagakipaaGreatDoor
