/-
  OWN WORK. ChannelKernels returns true for all samples and all weights, and leaves its arguments as they were: its card.
  Conditions: those of the card itself (the listed variables read as the program's text lays them).
-/
import Derived.Test.YtjimnbmnkfdfcaaGreatDoorBrg2
import Derived.Test.YtjimnbmnkfdfcaaGreatDoorKbH
namespace Go.Proofs.YtjimnbmnkfdfcaaGreatDoor
open Go Go.Am Go.ChangeShapes Go.WideShapes Go.ChangeAt Go.RowKit
theorem uF32 : Tryz.prog.underlying 96 = some (.float .f32) := by kernel_rfl
theorem cF32 : Tryz.prog.cellsOf 96 = 1 := by kernel_rfl
theorem uFs : Tryz.prog.underlying 22 = some (.slice 96) := by kernel_rfl
theorem trod_f32 {H : Type} {enc : TypeId × Value → H} {W : World} {base : Nat} {sp : Nat → Bool} {held : Bool} (m : Nat) (v : Value) (y : DataW H × List MemPlace) (h : DataW.trod enc Tryz.prog W base sp held m 96 [v] = some y) : ∃ z, v = gf z := by
  cases m with
  | zero => cases h
  | succ m =>
    unfold DataW.trod at h
    rw [uF32] at h
    cases v with
    | float k b =>
      simp only at h
      split at h
      · rename_i hk
        obtain ⟨rfl, _⟩ := hk
        exact ⟨b, rfl⟩
      · cases h
    | _ => cases h
theorem uIs : Tryz.prog.underlying 23 = some (.slice 3) := by kernel_rfl
theorem trod_i {H : Type} {enc : TypeId × Value → H} {W : World} {base : Nat} {sp : Nat → Bool} {held : Bool} (m : Nat) (v : Value) (y : DataW H × List MemPlace) (h : DataW.trod enc Tryz.prog W base sp held m 3 [v] = some y) : ∃ z, v = gi z := by
  obtain ⟨a, ea, _, _⟩ := DataW.trod_int uInt h
  exact ⟨a, by simpa using ea⟩
theorem le_up {ρ : Rho} {h : AHeap} {W : World} (H : HRel ρ h W) (x : St) : ρ.le (ρ.upd h.n x) := Rho.le_born (H.bound h.n (Nat.le_refl _))
set_option maxRecDepth 100000 in
theorem kernels_contract (H : Type) (enc : TypeId × Value → H) (W : World) (base : Nat) (args : Array Value) (ds gs : List (DataW H)) (before : List MemPlace)
    (hval : ∀ (j : Nat) t v, Tryz.f3.params[j]? = some t → args[j]? = some v → Value.okWide Tryz.prog W .any base t v)
    (hW : DataW.Whole enc Tryz.prog Tryz.f3.params.toList Rows.channelKernelsSpec.vars false W args.toList ds gs before) (hL : laidMetH Tryz.prog Rows.channelKernelsRow.laid W) :
    Calls Tryz.prog 3 args W fun e W' => ∃ v, e = .returned v ∧ Rows.channelKernelsSpec.post enc Tryz.prog Tryz.f3 false true false false W args v W' := by
  have hW' := hW
  obtain ⟨p, q, hA0, hV, rfl, hfz, hnd⟩ := hW'
  have hA : DataW.TrodAll enc Tryz.prog W 0 (fun _ => true) true Tryz.f3.params.toList args.toList ds p := hA0
  rw [Tryz.params3] at hA hval
  obtain ⟨v0, vs0, d0, ds0, p0, q0, hargs, rfl, rfl, h0, r0⟩ := trodAll_cons hA
  obtain ⟨v1, vs1, d1, ds1, p1, q1, hargs1, rfl, rfl, h1, r1⟩ := trodAll_cons r0
  obtain ⟨rfl, rfl, rfl⟩ := trodAll_nil r1
  obtain rfl : args = #[v0, v1] := by cases args; simp_all
  obtain ⟨rfl, rfl⟩ := trodVars_none hV
  obtain ⟨sa, sn, sk, rfl⟩ := okWide_slice uFs (hval 0 _ v0 rfl rfl)
  obtain ⟨ta, tn, tk, rfl⟩ := okWide_slice uIs (hval 1 _ v1 rfl rfl)
  obtain ⟨fuel, hf⟩ := h0
  obtain ⟨fuel', hf'⟩ := h1
  have hT := holds_tabs2 hL (.tail _ (.tail _ (.tail _ (.head _)))) (.tail _ (.tail _ (.head _)))
  obtain ⟨H, G, own⟩ := start0 hT tabs2_flat
  have hm : maxLen ≤ 9223372036854775807 := by decide
  have call : Calls Tryz.prog 3 #[.slice sa sn sk, .slice ta tn tk] W (fun e w' => e = .returned (.bool true) ∧ RowKit.Below W.heap.size W w') := by
    rcases slice_shapes uFs cF32 gf trod_f32 hf with hs | ⟨a, k, hs⟩ | ⟨b, off, k, l, c', el, fr, hs, l0, lk, km, hw, hl, hc⟩
    · rw [List.cons.inj (show [Value.slice sa sn sk] = [.slice none 0 0] from hs) |>.1]
      rcases slice_shapes uIs cInt gi trod_i hf' with ht | ⟨a', k', ht⟩ | ⟨b', off', k', l', c'', el', fr', ht, l0', lk', km', hw', hl', hc'⟩
      · rw [List.cons.inj (show [Value.slice ta tn tk] = [.slice none 0 0] from ht) |>.1]
        exact of_callA H G own (arel_two (.flat (n := 1) rfl) (.flat (n := 1) rfl)) rfl (kern_nn _)
      · rw [List.cons.inj (show [Value.slice ta tn tk] = [.slice (some a') 0 k'] from ht) |>.1]
        obtain ⟨H', own'⟩ := ext_dead H own
        exact of_callA H' (globs_upd G (Nat.le_refl _) _) own' (arel_two (.flat (n := 1) rfl) (vrel_dead (Rho.upd_same _ _ _) a' k')) rfl (kern_ne _ k')
      · rw [List.cons.inj (show [Value.slice ta tn tk] = [.slice (some ⟨b', off', none⟩) l'.length k'] from ht) |>.1]
        obtain ⟨H', own'⟩ := ext_live H own hw' hc' (by rw [List.length_map]; exact hl') (flat_ints l')
        exact of_callA H' (globs_upd G (Nat.le_refl _) _) own' (arel_two (.flat (n := 1) rfl) (vrel_live (Rho.upd_same _ _ _) lk')) rfl (kern_nf _ l' k' el' l0' (by omega) lk')
    · rw [List.cons.inj (show [Value.slice sa sn sk] = [.slice (some a) 0 k] from hs) |>.1]
      obtain ⟨H1, own1⟩ := ext_dead H own
      have G1 := globs_upd G (Nat.le_refl Tryz.prog.globals.size) St.dead
      rcases slice_shapes uIs cInt gi trod_i hf' with ht | ⟨a', k', ht⟩ | ⟨b', off', k', l', c'', el', fr', ht, l0', lk', km', hw', hl', hc'⟩
      · rw [List.cons.inj (show [Value.slice ta tn tk] = [.slice none 0 0] from ht) |>.1]
        exact of_callA H1 G1 own1 (arel_two (vrel_dead (Rho.upd_same _ _ _) a k) (.flat (n := 1) rfl)) rfl (kern_en _ k)
      · rw [List.cons.inj (show [Value.slice ta tn tk] = [.slice (some a') 0 k'] from ht) |>.1]
        obtain ⟨H', own'⟩ := ext_dead H1 own1
        exact of_callA H' (globs_upd G1 (Nat.le_succ _) _) own' (arel_two (VRel.mono (le_up H1 _) (vrel_dead (Rho.upd_same _ _ _) a k)) (vrel_dead (Rho.upd_same _ _ _) a' k')) rfl (kern_ee _ k k')
      · rw [List.cons.inj (show [Value.slice ta tn tk] = [.slice (some ⟨b', off', none⟩) l'.length k'] from ht) |>.1]
        obtain ⟨H', own'⟩ := ext_live H1 own1 hw' hc' (by rw [List.length_map]; exact hl') (flat_ints l')
        exact of_callA H' (globs_upd G1 (Nat.le_succ _) _) own' (arel_two (VRel.mono (le_up H1 _) (vrel_dead (Rho.upd_same _ _ _) a k)) (vrel_live (Rho.upd_same _ _ _) lk')) rfl (kern_ef _ l' k k' el' l0' (by omega) lk')
    · rw [List.cons.inj (show [Value.slice sa sn sk] = [.slice (some ⟨b, off, none⟩) l.length k] from hs) |>.1]
      obtain ⟨H1, own1⟩ := ext_live H own hw hc (by rw [List.length_map]; exact hl) (flat_floats l)
      have G1 := globs_upd G (Nat.le_refl Tryz.prog.globals.size) (St.live ⟨b, off, c'.size, 0⟩)
      rcases slice_shapes uIs cInt gi trod_i hf' with ht | ⟨a', k', ht⟩ | ⟨b', off', k', l', c'', el', fr', ht, l0', lk', km', hw', hl', hc'⟩
      · rw [List.cons.inj (show [Value.slice ta tn tk] = [.slice none 0 0] from ht) |>.1]
        exact of_callA H1 G1 own1 (arel_two (vrel_live (Rho.upd_same _ _ _) lk) (.flat (n := 1) rfl)) rfl (kern_fn _ l k el l0 (by omega) lk)
      · rw [List.cons.inj (show [Value.slice ta tn tk] = [.slice (some a') 0 k'] from ht) |>.1]
        obtain ⟨H', own'⟩ := ext_dead H1 own1
        exact of_callA H' (globs_upd G1 (Nat.le_succ _) _) own' (arel_two (VRel.mono (le_up H1 _) (vrel_live (Rho.upd_same _ _ _) lk)) (vrel_dead (Rho.upd_same _ _ _) a' k')) rfl (kern_fe _ l k el k' l0 (by omega) lk)
      · rw [List.cons.inj (show [Value.slice ta tn tk] = [.slice (some ⟨b', off', none⟩) l'.length k'] from ht) |>.1]
        obtain ⟨H', own'⟩ := ext_live H1 own1 hw' hc' (by rw [List.length_map]; exact hl') (flat_ints l')
        exact of_callA H' (globs_upd G1 (Nat.le_succ _) _) own' (arel_two (VRel.mono (le_up H1 _) (vrel_live (Rho.upd_same _ _ _) lk)) (vrel_live (Rho.upd_same _ _ _) lk')) rfl (kern_ff _ l l' k k' el el' l0 (by omega) lk l0' (by omega) lk')
  refine call.mono fun e W' ⟨he, hb⟩ => ?_
  subst he
  exact ⟨_, rfl, post_true laidOut (fun t ht => by
    rw [Tryz.params3] at ht
    simp only [List.mem_cons, List.not_mem_nil, or_false] at ht
    rcases ht with rfl | rfl <;> exact ⟨by kernel_rfl, of_decide_eq_true (by kernel_rfl)⟩) (by kernel_rfl) uBool rfl rfl rfl rfl hW hb⟩
theorem kernels_laid (os : Os) : laidMet Tryz.prog Rows.channelKernelsRow.laid ((laidWorld os).forCall (fun _ _ => 0) ⟨#[], #[.slice none 0 0, .slice none 0 0], []⟩).memory :=
  laidMet_of_run' 8 (by kernel_rfl) (by kernel_rfl)
theorem kernels_reads (os : Os) {H : Type} (enc : TypeId × Value → H) : ∃ places, DataW.whole enc Tryz.prog ((laidWorld os).forCall (fun _ _ => 0) ⟨#[], #[.slice none 0 0, .slice none 0 0], []⟩).memory Tryz.f3.params.toList Rows.channelKernelsSpec.vars false
    #[Value.slice none 0 0, .slice none 0 0].toList 8 = some ([.nil, .nil], [], places) :=
  ⟨[], by kernel_rfl⟩
set_option maxRecDepth 100000 in
theorem kernels_lifted (os : Os) (started : os.Started) (H : Type) (enc : TypeId × Value → H) (F : Stop.Interp) :
    ReturnsInHanded {} Tryz.checked os 3 .any ((OpenSpec.ofChange Rows.channelKernelsSpec).preRow enc Tryz.prog Tryz.f3 Rows.channelKernelsRow.domain false Rows.channelKernelsRow.laid) (((OpenSpec.ofChange Rows.channelKernelsSpec).at F).post enc Tryz.prog Tryz.f3 false true false false) := by
  obtain ⟨places, hx⟩ := kernels_reads os enc
  refine returnsInHanded_of_row (C := Tryz.checked) (s := OpenSpec.ofChange Rows.channelKernelsSpec) own started (by kernel_rfl) Tryz.func3
    (witness_row_at (enc := enc) (C := Tryz.checked) false (laidWorld os) #[.slice none 0 0, .slice none 0 0] rfl (by kernel_rfl) (by kernel_rfl) (by kernel_rfl)
      (OpenSpec.preRow_of_cond 8 hx (by kernel_rfl) (fun k hk => by cases hk) (by kernel_rfl) (kernels_laid os))) ?_
  intro W base args ds gs before hval hW _ _ _ hL _ _
  exact kernels_contract H enc W base args ds gs before hval hW hL
theorem kernels_said : Rows.ChannelKernelsSaid :=
  OpenClaim.holds_of_cond 3 Tryz.f3 rfl rfl rfl rfl rfl rfl rfl ⟨rfl, rfl, rfl, rfl, rfl⟩ rfl rfl rfl rfl rfl (by kernel_rfl) Tryz.func3 (by kernel_rfl)
    (of_decide_eq_true (by kernel_rfl)) (by unfold Func.isWrapper; first | (rw [if_pos (by decide +kernel)]; kernel_rfl) | (rw [if_neg (by decide +kernel)]; exact ⟨rfl, rfl⟩))
    (fun os started H enc _ F => by rw [OpenClaim.pre_eq_preRow]; exact kernels_lifted os started H enc F)
theorem kernels_plain (f : FuncId) (fn : Func) (hf : Tryz.pinned.checked.prog.funcNamed "crumple/crumplelaw02.ChannelKernels" = some f) (hfn : Tryz.pinned.checked.prog.funcs[f]? = some fn) :
    false = Tryz.pinned.checked.prog.looks [] ∧ ∀ (j : Nat) t, fn.params[j]? = some t → Tryz.pinned.checked.prog.wantsStandIn t = false := by
  obtain rfl : f = 3 := Option.some.inj ((show Tryz.prog.funcNamed "crumple/crumplelaw02.ChannelKernels" = some 3 by kernel_rfl).symm.trans hf) |>.symm
  obtain rfl : fn = Tryz.f3 := (Option.some.inj (Tryz.func3.symm.trans hfn)).symm
  refine ⟨by kernel_rfl, fun j t ht => ?_⟩
  rw [Tryz.params3] at ht
  have hm := Array.mem_of_getElem? ht
  simp only [List.mem_toArray, List.mem_cons, List.not_mem_nil, or_false] at hm
  rcases hm with rfl | rfl
  · exact (show Tryz.prog.wantsStandIn 22 = false by kernel_rfl)
  · exact (show Tryz.prog.wantsStandIn 23 = false by kernel_rfl)
theorem channelKernels_holds : Rows.ChannelKernelsCardSaid :=
  Claim7.holds_tied_plain_at .later [] _ _ _ _ kernels_said (fun _ h => by cases h) (by kernel_rfl) (fun _ h => by cases h) channelKernels_row_tie rfl ⟨rfl, rfl⟩ (by kernel_rfl) rfl kernels_plain (by kernel_rfl)
#print axioms channelKernels_holds
end Go.Proofs.YtjimnbmnkfdfcaaGreatDoor
