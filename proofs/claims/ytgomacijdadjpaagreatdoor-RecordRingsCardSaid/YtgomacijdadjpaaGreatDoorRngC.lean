/-
  OWN WORK. RecordRings returns true for all rings and samples, and leaves its arguments as they were: its card.
  Conditions: those of the card itself (the listed variables read as the program's text lays them).
-/
import Derived.Test.YtgomacijdadjpaaGreatDoorCrdF
import Derived.Test.YtgomacijdadjpaaGreatDoorRh
namespace Go.Proofs.YtgomacijdadjpaaGreatDoor
open Go Go.Am Go.ChangeShapes Go.WideShapes Go.ChangeAt Go.RowKit

theorem cRng : Tryz.prog.cellsOf 24 = 3 := by kernel_rfl
theorem cBoo : Tryz.prog.cellsOf 4 = 1 := by kernel_rfl
theorem arel_three {ρ : Rho} {a b c a' b' c' : Value} (h1 : VRel ρ a a') (h2 : VRel ρ b b') (h3 : VRel ρ c c') : ARel (VRel ρ) #[a, b, c] #[a', b', c'] := by
  refine ⟨rfl, fun i x y hx hy => ?_⟩
  match i, hx, hy with
  | 0, hx, hy => cases hx; cases hy; exact h1
  | 1, hx, hy => cases hx; cases hy; exact h2
  | 2, hx, hy => cases hx; cases hy; exact h3
theorem vring {ρ : Rho} {c c' : Value} (nx : Int) (fu : Bool) (h : VRel ρ c c') : VRel ρ (.agg #[c, gi nx, .bool fu]) (.agg #[c', gi nx, .bool fu]) :=
  .fold ⟨_, rfl, arel_three h (.flat (n := 1) rfl) (.flat (n := 1) rfl)⟩
set_option maxRecDepth 100000 in
theorem openRg {H : Type} {enc : TypeId × Value → H} {W : World} {base : Nat} {sp : Nat → Bool} {held : Bool} {v : Value} {d : DataW H} {ps : List MemPlace} {r : Reach} {b0 : Nat} (hval : Value.okWide Tryz.prog W r b0 24 v) (hd : DataW.Trod enc Tryz.prog W base sp held 24 v d ps) :
    ∃ (c0 : Value) (nx : Int) (fu : Bool) (m : Nat) (x0 : DataW H × List MemPlace), v = .agg #[c0, gi nx, .bool fu] ∧ DataW.trod enc Tryz.prog W base sp held m 22 [c0] = some x0 := by
  simp only [Value.okWide, Tryz.underlying24] at hval
  obtain ⟨cs, rfl, hs, _⟩ := hval
  rw [cRng] at hs
  obtain ⟨l⟩ := cs
  match l, hs with
  | [c0, c1, c2], _ =>
  obtain ⟨fuel, hf⟩ := hd
  obtain ⟨xs, m, _, _, _, hn, hi⟩ := DataW.trod_struct Tryz.underlying24 hf
  match xs, hn with
  | [x0, x1, x2], _ =>
  have h0 : DataW.trod enc Tryz.prog W base sp held m 22 (([c0, c1, c2].drop 0).take (Tryz.prog.cellsOf 22)) = some x0 := hi 0 _ rfl
  have h1 : DataW.trod enc Tryz.prog W base sp held m 3 (([c0, c1, c2].drop 1).take (Tryz.prog.cellsOf 3)) = some x1 := hi 1 _ rfl
  have h2 : DataW.trod enc Tryz.prog W base sp held m 4 (([c0, c1, c2].drop 2).take (Tryz.prog.cellsOf 4)) = some x2 := hi 2 _ rfl
  rw [cFs] at h0
  rw [cInt] at h1
  rw [cBoo] at h2
  obtain ⟨nx, ed, _, _⟩ := DataW.trod_int uInt h1
  obtain ⟨fu, ec, _⟩ := DataW.trod_bool uBool h2
  simp [Value.cells] at ed ec
  exact ⟨c0, nx, fu, m, x0, by rw [ed, ec], h0⟩
set_option maxRecDepth 100000 in
theorem rng_contract (H : Type) (enc : TypeId × Value → H) (W : World) (base : Nat) (args : Array Value) (ds gs : List (DataW H)) (before : List MemPlace)
    (hval : ∀ (j : Nat) t v, Tryz.f3.params[j]? = some t → args[j]? = some v → Value.okWide Tryz.prog W .any base t v)
    (hW : DataW.Whole enc Tryz.prog Tryz.f3.params.toList Rows.recordRingsSpec.vars false W args.toList ds gs before) (hL : laidMetH Tryz.prog Rows.recordRingsRow.laid W) :
    Calls Tryz.prog 3 args W fun e W' => ∃ v, e = .returned v ∧ Rows.recordRingsSpec.post enc Tryz.prog Tryz.f3 false true false false W args v W' := by
  have hW' := hW
  obtain ⟨p, q, hA0, hV, rfl, hfz, hnd⟩ := hW'
  have hA : DataW.TrodAll enc Tryz.prog W 0 (fun _ => true) true Tryz.f3.params.toList args.toList ds p := hA0
  rw [Tryz.params3] at hA hval
  obtain ⟨v0, vs0, d0, ds0, p0, q0, hargs, rfl, rfl, h0, r0⟩ := trodAll_cons hA
  obtain ⟨v1, vs1, d1, ds1, p1, q1, hargs1, rfl, rfl, h1, r1⟩ := trodAll_cons r0
  obtain ⟨rfl, rfl, rfl⟩ := trodAll_nil r1
  obtain rfl : args = #[v0, v1] := by cases args; simp_all
  obtain ⟨rfl, rfl⟩ := trodVars_none hV
  obtain ⟨c0, nx, fu, fuel, x0, rfl, hf⟩ := openRg (hval 0 _ v0 rfl rfl) h0
  obtain ⟨ta, tn, tk, rfl⟩ := okWide_slice uFs (hval 1 _ v1 rfl rfl)
  obtain ⟨fuel1, hf1⟩ := h1
  have hT := holds_tabs hL (.tail _ (.tail _ (.tail _ (.head _)))) (.tail _ (.tail _ (.head _)))
  obtain ⟨H, G, own⟩ := start0 hT tabs_flat
  have hm : maxLen ≤ 9223372036854775807 := by decide
  have call : Calls Tryz.prog 3 #[.agg #[c0, gi nx, .bool fu], .slice ta tn tk] W (fun e w' => e = .returned (.bool true) ∧ RowKit.Below W.heap.size W w') := by
    rcases slice_shapes uFs cF32 gf trod_f32 hf with hs | ⟨a, k, hs⟩ | ⟨b, off, k, l, c', el, fr, hs, l0, lk, km, hw, hl, hc⟩
    · rw [(List.cons.inj hs).1]
      rcases slice_shapes uFs cF32 gf trod_f32 hf1 with hs | ⟨a1, k1, hs⟩ | ⟨b1, off1, k1, s1, c1, el1, fr1, hs, s0, sk1, km1, hw1, hl1, hc1⟩
      · have hs : [Value.slice ta tn tk] = [.slice none 0 0] := hs
        rw [List.cons.inj hs |>.1]
        exact of_callA H G own (arel_two (vring nx fu (.flat (n := 1) rfl)) (.flat (n := 1) rfl)) rfl (rings_NN fu nx _)
      · have hs : [Value.slice ta tn tk] = [.slice (some a1) 0 k1] := hs
        rw [List.cons.inj hs |>.1]
        obtain ⟨H2, own2⟩ := ext_dead H own
        exact of_callA H2 (globs_upd G (Nat.le_refl _) _) own2 (arel_two (vring nx fu (.flat (n := 1) rfl)) (vrel_dead (Rho.upd_same _ _ _) a1 k1)) rfl (rings_NE fu nx k1 _)
      · have hs : [Value.slice ta tn tk] = [.slice (some ⟨b1, off1, none⟩) s1.length k1] := hs
        rw [List.cons.inj hs |>.1]
        obtain ⟨H2, own2⟩ := ext_live H own hw1 hc1 (by rw [List.length_map]; exact hl1) (flat_floats s1)
        exact of_callA H2 (globs_upd G (Nat.le_refl _) _) own2 (arel_two (vring nx fu (.flat (n := 1) rfl)) (vrel_live (Rho.upd_same _ _ _) sk1)) rfl (rings_NF fu nx s1 k1 el1 _ s0 (by omega) sk1)
    · rw [(List.cons.inj hs).1]
      obtain ⟨H', own'⟩ := ext_dead H own
      rcases slice_shapes uFs cF32 gf trod_f32 hf1 with hs | ⟨a1, k1, hs⟩ | ⟨b1, off1, k1, s1, c1, el1, fr1, hs, s0, sk1, km1, hw1, hl1, hc1⟩
      · have hs : [Value.slice ta tn tk] = [.slice none 0 0] := hs
        rw [List.cons.inj hs |>.1]
        exact of_callA H' (globs_upd G (Nat.le_refl _) _) own' (arel_two (vring nx fu (vrel_dead (Rho.upd_same _ _ _) a k)) (.flat (n := 1) rfl)) rfl (rings_EN fu nx k _)
      · have hs : [Value.slice ta tn tk] = [.slice (some a1) 0 k1] := hs
        rw [List.cons.inj hs |>.1]
        obtain ⟨H2, own2⟩ := ext_dead H' own'
        exact of_callA H2 (globs_upd (globs_upd G (Nat.le_refl _) _) (Nat.le_succ _) _) own2 (arel_two (vring nx fu (VRel.mono (Rho.le_born (H'.bound _ (Nat.le_refl _))) (vrel_dead (Rho.upd_same _ _ _) a k))) (vrel_dead (Rho.upd_same _ _ _) a1 k1)) rfl (rings_EE fu nx k k1 _)
      · have hs : [Value.slice ta tn tk] = [.slice (some ⟨b1, off1, none⟩) s1.length k1] := hs
        rw [List.cons.inj hs |>.1]
        obtain ⟨H2, own2⟩ := ext_live H' own' hw1 hc1 (by rw [List.length_map]; exact hl1) (flat_floats s1)
        exact of_callA H2 (globs_upd (globs_upd G (Nat.le_refl _) _) (Nat.le_succ _) _) own2 (arel_two (vring nx fu (VRel.mono (Rho.le_born (H'.bound _ (Nat.le_refl _))) (vrel_dead (Rho.upd_same _ _ _) a k))) (vrel_live (Rho.upd_same _ _ _) sk1)) rfl (rings_EF fu nx k s1 k1 el1 _ s0 (by omega) sk1)
    · rw [(List.cons.inj hs).1]
      obtain ⟨H', own'⟩ := ext_live H own hw hc (by rw [List.length_map]; exact hl) (flat_floats l)
      rcases slice_shapes uFs cF32 gf trod_f32 hf1 with hs | ⟨a1, k1, hs⟩ | ⟨b1, off1, k1, s1, c1, el1, fr1, hs, s0, sk1, km1, hw1, hl1, hc1⟩
      · have hs : [Value.slice ta tn tk] = [.slice none 0 0] := hs
        rw [List.cons.inj hs |>.1]
        exact of_callA H' (globs_upd G (Nat.le_refl _) _) own' (arel_two (vring nx fu (vrel_live (Rho.upd_same _ _ _) lk)) (.flat (n := 1) rfl)) rfl (rings_FN fu nx l k el _ l0 (by omega) lk)
      · have hs : [Value.slice ta tn tk] = [.slice (some a1) 0 k1] := hs
        rw [List.cons.inj hs |>.1]
        obtain ⟨H2, own2⟩ := ext_dead H' own'
        exact of_callA H2 (globs_upd (globs_upd G (Nat.le_refl _) _) (Nat.le_succ _) _) own2 (arel_two (vring nx fu (VRel.mono (Rho.le_born (H'.bound _ (Nat.le_refl _))) (vrel_live (Rho.upd_same _ _ _) lk))) (vrel_dead (Rho.upd_same _ _ _) a1 k1)) rfl (rings_FE fu nx l k el k1 _ l0 (by omega) lk)
      · have hs : [Value.slice ta tn tk] = [.slice (some ⟨b1, off1, none⟩) s1.length k1] := hs
        rw [List.cons.inj hs |>.1]
        obtain ⟨H2, own2⟩ := ext_live H' own' hw1 hc1 (by rw [List.length_map]; exact hl1) (flat_floats s1)
        exact of_callA H2 (globs_upd (globs_upd G (Nat.le_refl _) _) (Nat.le_succ _) _) own2 (arel_two (vring nx fu (VRel.mono (Rho.le_born (H'.bound _ (Nat.le_refl _))) (vrel_live (Rho.upd_same _ _ _) lk))) (vrel_live (Rho.upd_same _ _ _) sk1)) rfl (rings_FF fu nx l k el s1 k1 el1 _ l0 (by omega) lk s0 (by omega) sk1)
  refine call.mono fun e W' ⟨he, hb⟩ => ?_
  subst he
  exact ⟨_, rfl, post_true laidOut (fun t ht => by
    rw [Tryz.params3] at ht
    simp only [List.mem_cons, List.not_mem_nil, or_false] at ht
    rcases ht with rfl | rfl <;> exact ⟨by kernel_rfl, of_decide_eq_true (by kernel_rfl)⟩) (by kernel_rfl) uBool rfl rfl rfl rfl hW hb⟩

theorem rng_laid (os : Os) : laidMet Tryz.prog Rows.recordRingsRow.laid ((laidWorld os).forCall (fun _ _ => 0) ⟨#[], #[.agg #[.slice none 0 0, .int .i64 0, .bool false], .slice none 0 0], []⟩).memory :=
  laidMet_of_run' 8 (by kernel_rfl) (by kernel_rfl)
theorem rng_reads (os : Os) {H : Type} (enc : TypeId × Value → H) : ∃ places, DataW.whole enc Tryz.prog ((laidWorld os).forCall (fun _ _ => 0) ⟨#[], #[.agg #[.slice none 0 0, .int .i64 0, .bool false], .slice none 0 0], []⟩).memory Tryz.f3.params.toList Rows.recordRingsSpec.vars false
    #[Value.agg #[.slice none 0 0, .int .i64 0, .bool false], .slice none 0 0].toList 8 = some ([.agg [.nil, .lit (.int .i64 0), .lit (.bool false)], .nil], [], places) :=
  ⟨[], by kernel_rfl⟩
set_option maxRecDepth 100000 in
theorem rng_lifted (os : Os) (started : os.Started) (H : Type) (enc : TypeId × Value → H) (F : Stop.Interp) :
    ReturnsInHanded {} Tryz.checked os 3 .any ((OpenSpec.ofChange Rows.recordRingsSpec).preRow enc Tryz.prog Tryz.f3 Rows.recordRingsRow.domain false Rows.recordRingsRow.laid) (((OpenSpec.ofChange Rows.recordRingsSpec).at F).post enc Tryz.prog Tryz.f3 false true false false) := by
  obtain ⟨places, hx⟩ := rng_reads os enc
  refine returnsInHanded_of_row (C := Tryz.checked) (s := OpenSpec.ofChange Rows.recordRingsSpec) own started (by kernel_rfl) Tryz.func3
    (witness_row_at (enc := enc) (C := Tryz.checked) false (laidWorld os) #[.agg #[.slice none 0 0, .int .i64 0, .bool false], .slice none 0 0] rfl (by kernel_rfl) (by kernel_rfl) (by kernel_rfl)
      (OpenSpec.preRow_of_cond 8 hx (by kernel_rfl) (fun k hk => by cases hk) (by kernel_rfl) (rng_laid os))) ?_
  intro W base args ds gs before hval hW _ _ _ hL _ _
  exact rng_contract H enc W base args ds gs before hval hW hL
theorem rng_said : Rows.RecordRingsSaid :=
  OpenClaim.holds_of_cond 3 Tryz.f3 rfl rfl rfl rfl rfl rfl rfl ⟨rfl, rfl, rfl, rfl, rfl⟩ rfl rfl rfl rfl rfl (by kernel_rfl) Tryz.func3 (by kernel_rfl)
    (of_decide_eq_true (by kernel_rfl)) (by unfold Func.isWrapper; first | (rw [if_pos (by decide +kernel)]; kernel_rfl) | (rw [if_neg (by decide +kernel)]; exact ⟨rfl, rfl⟩))
    (fun os started H enc _ F => by rw [OpenClaim.pre_eq_preRow]; exact rng_lifted os started H enc F)
theorem rng_plain (f : FuncId) (fn : Func) (hf : Tryz.pinned.checked.prog.funcNamed "crumple/crumplelaw01.RecordRings" = some f) (hfn : Tryz.pinned.checked.prog.funcs[f]? = some fn) :
    false = Tryz.pinned.checked.prog.looks [] ∧ ∀ (j : Nat) t, fn.params[j]? = some t → Tryz.pinned.checked.prog.wantsStandIn t = false := by
  obtain rfl : f = 3 := Option.some.inj ((show Tryz.prog.funcNamed "crumple/crumplelaw01.RecordRings" = some 3 by kernel_rfl).symm.trans hf) |>.symm
  obtain rfl : fn = Tryz.f3 := (Option.some.inj (Tryz.func3.symm.trans hfn)).symm
  refine ⟨by kernel_rfl, fun j t ht => ?_⟩
  rw [Tryz.params3] at ht
  have hm := Array.mem_of_getElem? ht
  simp only [List.mem_toArray, List.mem_cons, List.not_mem_nil, or_false] at hm
  rcases hm with rfl | rfl
  · exact (show Tryz.prog.wantsStandIn 24 = false by kernel_rfl)
  · exact (show Tryz.prog.wantsStandIn 22 = false by kernel_rfl)
/-- ████ THE CARD ████ -/
theorem recordRings_holds : Rows.RecordRingsCardSaid :=
  Claim7.holds_tied_plain_at .later [] _ _ _ _ rng_said (fun _ h => by cases h) (by kernel_rfl) (fun _ h => by cases h) recordRings_row_tie rfl ⟨rfl, rfl⟩ (by kernel_rfl) rfl rng_plain (by kernel_rfl)
#print axioms recordRings_holds
end Go.Proofs.YtgomacijdadjpaaGreatDoor
