/-
  OWN WORK. RecordRates returns true for all samples and both integers, and leaves its arguments as they were: its card.
  Conditions: those of the card itself (the listed variables read as the program's text lays them).
-/
import Derived.Test.YtnlkkapeldhemaaGreatDoorCrdF
import Derived.Test.YtnlkkapeldhemaaGreatDoorRaI
namespace Go.Proofs.YtnlkkapeldhemaaGreatDoor
open Go Go.Am Go.ChangeShapes Go.WideShapes Go.ChangeAt Go.RowKit

theorem arel_three {ρ : Rho} {a b c a' b' c' : Value} (h1 : VRel ρ a a') (h2 : VRel ρ b b') (h3 : VRel ρ c c') : ARel (VRel ρ) #[a, b, c] #[a', b', c'] := by
  refine ⟨rfl, fun i x y hx hy => ?_⟩
  match i, hx, hy with
  | 0, hx, hy => cases hx; cases hy; exact h1
  | 1, hx, hy => cases hx; cases hy; exact h2
  | 2, hx, hy => cases hx; cases hy; exact h3
set_option maxRecDepth 100000 in
theorem rat_contract (H : Type) (enc : TypeId × Value → H) (W : World) (base : Nat) (args : Array Value) (ds gs : List (DataW H)) (before : List MemPlace)
    (hval : ∀ (j : Nat) t v, Tryz.f5.params[j]? = some t → args[j]? = some v → Value.okWide Tryz.prog W .any base t v)
    (hW : DataW.Whole enc Tryz.prog Tryz.f5.params.toList Rows.recordRatesSpec.vars false W args.toList ds gs before) (hL : laidMetH Tryz.prog Rows.recordRatesRow.laid W) :
    Calls Tryz.prog 5 args W fun e W' => ∃ v, e = .returned v ∧ Rows.recordRatesSpec.post enc Tryz.prog Tryz.f5 false true false false W args v W' := by
  have hW' := hW
  obtain ⟨p, q, hA0, hV, rfl, hfz, hnd⟩ := hW'
  have hA : DataW.TrodAll enc Tryz.prog W 0 (fun _ => true) true Tryz.f5.params.toList args.toList ds p := hA0
  rw [Tryz.params5] at hA hval
  obtain ⟨v0, vs0, d0, ds0, p0, q0, hargs, rfl, rfl, h0, r0⟩ := trodAll_cons hA
  obtain ⟨v1, vs1, d1, ds1, p1, q1, hargs1, rfl, rfl, h1, r1⟩ := trodAll_cons r0
  obtain ⟨v2, vs2, d2, ds2, p2, q2, hargs2, rfl, rfl, h2, r2⟩ := trodAll_cons r1
  obtain ⟨rfl, rfl, rfl⟩ := trodAll_nil r2
  obtain rfl : args = #[v0, v1, v2] := by cases args; simp_all
  obtain ⟨rfl, rfl⟩ := trodVars_none hV
  obtain ⟨x, rfl⟩ := okWide_int uInt (hval 1 _ v1 rfl rfl)
  obtain ⟨y, rfl⟩ := okWide_int uInt (hval 2 _ v2 rfl rfl)
  obtain ⟨sa, sn, sk, rfl⟩ := okWide_slice uFs (hval 0 _ v0 rfl rfl)
  obtain ⟨fuel, hf⟩ := h0
  have hT := holds_tabs hL (.tail _ (.tail _ (.tail _ (.head _)))) (.tail _ (.tail _ (.head _)))
  obtain ⟨H, G, own⟩ := start0 hT tabs_flat
  have call : Calls Tryz.prog 5 #[.slice sa sn sk, .int .i64 x, .int .i64 y] W (fun e w' => e = .returned (.bool true) ∧ RowKit.Below W.heap.size W w') := by
    rcases slice_shapes uFs cF32 gf trod_f32 hf with hs | ⟨a, k, hs⟩ | ⟨b, off, k, l, c', el, fr, hs, l0, lk, km, hw, hl, hc⟩
    · have hs : [Value.slice sa sn sk] = [.slice none 0 0] := hs
      rw [List.cons.inj hs |>.1]
      exact of_callA H G own (arel_three (.flat (n := 1) rfl) (.flat (n := 1) rfl) (.flat (n := 1) rfl)) rfl (ra_nil _ x y)
    · have hs : [Value.slice sa sn sk] = [.slice (some a) 0 k] := hs
      rw [List.cons.inj hs |>.1]
      obtain ⟨H', own'⟩ := ext_dead H own
      exact of_callA H' (globs_upd G (Nat.le_refl _) _) own' (arel_three (vrel_dead (Rho.upd_same _ _ _) a k) (.flat (n := 1) rfl) (.flat (n := 1) rfl)) rfl (ra_emp k _ x y)
    · have hs : [Value.slice sa sn sk] = [.slice (some ⟨b, off, none⟩) l.length k] := hs
      rw [List.cons.inj hs |>.1]
      have hfl : (l.map gf).all (flat 3) = true := by
        rw [List.all_eq_true]
        intro y hy
        obtain ⟨z, _, rfl⟩ := List.mem_map.1 hy
        rfl
      obtain ⟨H', own'⟩ := ext_live H own hw hc (by rw [List.length_map]; exact hl) hfl
      have hm : maxLen ≤ 9223372036854775807 := by decide
      exact of_callA H' (globs_upd G (Nat.le_refl _) _) own' (arel_three (vrel_live (Rho.upd_same _ _ _) lk) (.flat (n := 1) rfl) (.flat (n := 1) rfl)) rfl (ra_full l k el _ x y l0 (by omega) lk)
  refine call.mono fun e W' ⟨he, hb⟩ => ?_
  subst he
  exact ⟨_, rfl, post_true laidOut (fun t ht => by
    rw [Tryz.params5] at ht
    simp only [List.mem_cons, List.not_mem_nil, or_false] at ht
    rcases ht with rfl | rfl | rfl <;> exact ⟨by kernel_rfl, of_decide_eq_true (by kernel_rfl)⟩) (by kernel_rfl) uBool rfl rfl rfl rfl hW hb⟩

theorem rat_laid (os : Os) : laidMet Tryz.prog Rows.recordRatesRow.laid ((laidWorld os).forCall (fun _ _ => 0) ⟨#[], #[.slice none 0 0, .int .i64 0, .int .i64 0], []⟩).memory :=
  laidMet_of_run' 8 (by kernel_rfl) (by kernel_rfl)
theorem rat_reads (os : Os) {H : Type} (enc : TypeId × Value → H) : ∃ places, DataW.whole enc Tryz.prog ((laidWorld os).forCall (fun _ _ => 0) ⟨#[], #[.slice none 0 0, .int .i64 0, .int .i64 0], []⟩).memory Tryz.f5.params.toList Rows.recordRatesSpec.vars false
    #[Value.slice none 0 0, .int .i64 0, .int .i64 0].toList 8 = some ([.nil, .lit (.int .i64 0), .lit (.int .i64 0)], [], places) :=
  ⟨[], by kernel_rfl⟩
set_option maxRecDepth 100000 in
theorem rat_lifted (os : Os) (started : os.Started) (H : Type) (enc : TypeId × Value → H) (F : Stop.Interp) :
    ReturnsInHanded {} Tryz.checked os 5 .any ((OpenSpec.ofChange Rows.recordRatesSpec).preRow enc Tryz.prog Tryz.f5 Rows.recordRatesRow.domain false Rows.recordRatesRow.laid) (((OpenSpec.ofChange Rows.recordRatesSpec).at F).post enc Tryz.prog Tryz.f5 false true false false) := by
  obtain ⟨places, hx⟩ := rat_reads os enc
  refine returnsInHanded_of_row (C := Tryz.checked) (s := OpenSpec.ofChange Rows.recordRatesSpec) own started (by kernel_rfl) Tryz.func5
    (witness_row_at (enc := enc) (C := Tryz.checked) false (laidWorld os) #[.slice none 0 0, .int .i64 0, .int .i64 0] rfl (by kernel_rfl) (by kernel_rfl) (by kernel_rfl)
      (OpenSpec.preRow_of_cond 8 hx (by kernel_rfl) (fun k hk => by cases hk) (by kernel_rfl) (rat_laid os))) ?_
  intro W base args ds gs before hval hW _ _ _ hL _ _
  exact rat_contract H enc W base args ds gs before hval hW hL
theorem rat_said : Rows.RecordRatesSaid :=
  OpenClaim.holds_of_cond 5 Tryz.f5 rfl rfl rfl rfl rfl rfl rfl ⟨rfl, rfl, rfl, rfl, rfl⟩ rfl rfl rfl rfl rfl (by kernel_rfl) Tryz.func5 (by kernel_rfl)
    (of_decide_eq_true (by kernel_rfl)) (by unfold Func.isWrapper; first | (rw [if_pos (by decide +kernel)]; kernel_rfl) | (rw [if_neg (by decide +kernel)]; exact ⟨rfl, rfl⟩))
    (fun os started H enc _ F => by rw [OpenClaim.pre_eq_preRow]; exact rat_lifted os started H enc F)
theorem rat_plain (f : FuncId) (fn : Func) (hf : Tryz.pinned.checked.prog.funcNamed "crumple/crumplelaw01.RecordRates" = some f) (hfn : Tryz.pinned.checked.prog.funcs[f]? = some fn) :
    false = Tryz.pinned.checked.prog.looks [] ∧ ∀ (j : Nat) t, fn.params[j]? = some t → Tryz.pinned.checked.prog.wantsStandIn t = false := by
  obtain rfl : f = 5 := Option.some.inj ((show Tryz.prog.funcNamed "crumple/crumplelaw01.RecordRates" = some 5 by kernel_rfl).symm.trans hf) |>.symm
  obtain rfl : fn = Tryz.f5 := (Option.some.inj (Tryz.func5.symm.trans hfn)).symm
  refine ⟨by kernel_rfl, fun j t ht => ?_⟩
  rw [Tryz.params5] at ht
  have hm := Array.mem_of_getElem? ht
  simp only [List.mem_toArray, List.mem_cons, List.not_mem_nil, or_false] at hm
  rcases hm with rfl | rfl | rfl
  · exact (show Tryz.prog.wantsStandIn 22 = false by kernel_rfl)
  · exact (show Tryz.prog.wantsStandIn 3 = false by kernel_rfl)
  · exact (show Tryz.prog.wantsStandIn 3 = false by kernel_rfl)
/-- ████ THE CARD ████ -/
theorem recordRates_holds : Rows.RecordRatesCardSaid :=
  Claim7.holds_tied_plain_at .later [] _ _ _ _ rat_said (fun _ h => by cases h) (by kernel_rfl) (fun _ h => by cases h) recordRates_row_tie rfl ⟨rfl, rfl⟩ (by kernel_rfl) rfl rat_plain (by kernel_rfl)
#print axioms recordRates_holds
end Go.Proofs.YtnlkkapeldhemaaGreatDoor
