/-
  OWN WORK. InjuryJoint returns true for all traces and limits, and leaves its arguments as they were: its card.
  Conditions: those of the card itself (the listed variables read as the program's text lays them).
-/
import Derived.Test.YtihnnmejkpddeaaGreatDoorBrg6
import Derived.Test.YtihnnmejkpddeaaGreatDoorJdPV
import Derived.Test.YtihnnmejkpddeaaGreatDoorAm20
namespace Go.Proofs.YtihnnmejkpddeaaGreatDoor
open Go Go.Am Go.ChangeShapes Go.WideShapes Go.ChangeAt Go.RowKit

theorem uTwo : Tryz.prog.underlying 62 = some (.array 2 3) := by kernel_rfl
theorem cTwo : Tryz.prog.cellsOf 62 = 2 := by kernel_rfl
theorem cBool : Tryz.prog.cellsOf 4 = 1 := by kernel_rfl
theorem cellsV_map : ∀ l : List V4, l.flatMap v4 = cellsV l
  | [] => rfl
  | q :: l => by rw [List.flatMap_cons, cellsV_map l]; rfl
section
variable {H : Type} {enc : TypeId × Value → H} {W : World} {base : Nat} {sp : Nat → Bool} {held : Bool}
theorem trod_i (m : Nat) (v : Value) (y : DataW H × List MemPlace) (h : DataW.trod enc Tryz.prog W base sp held m 3 [v] = some y) : ∃ z, v = gi z := by
  obtain ⟨a, ea, _, _⟩ := DataW.trod_int uInt h
  exact ⟨a, by simpa using ea⟩
theorem trod_b (m : Nat) (v : Value) (y : DataW H × List MemPlace) (h : DataW.trod enc Tryz.prog W base sp held m 4 [v] = some y) : ∃ z, v = .bool z := by
  obtain ⟨a, ea, _, _⟩ := DataW.trod_bool uBool h
  exact ⟨a, by simpa using ea⟩
set_option maxRecDepth 100000 in
theorem trod_v4 (m : Nat) (vs : List Value) (y : DataW H × List MemPlace) (hl : vs.length = 4) (h : DataW.trod enc Tryz.prog W base sp held m 179 vs = some y) : ∃ z : V4, vs = v4 z := by
  match vs, hl with
  | [c0, c1, c2, c3], _ =>
  obtain ⟨xs, m', _, _, _, hn, hi⟩ := DataW.trod_struct Tryz.underlying179 h
  match xs, hn with
  | [x0, x1, x2, x3], _ =>
  have h0 : DataW.trod enc Tryz.prog W base sp held m' 3 (([c0, c1, c2, c3].drop 0).take (Tryz.prog.cellsOf 3)) = some x0 := hi 0 _ rfl
  have h1 : DataW.trod enc Tryz.prog W base sp held m' 3 (([c0, c1, c2, c3].drop 1).take (Tryz.prog.cellsOf 3)) = some x1 := hi 1 _ rfl
  have h2 : DataW.trod enc Tryz.prog W base sp held m' 4 (([c0, c1, c2, c3].drop 2).take (Tryz.prog.cellsOf 4)) = some x2 := hi 2 _ rfl
  have h3 : DataW.trod enc Tryz.prog W base sp held m' 4 (([c0, c1, c2, c3].drop 3).take (Tryz.prog.cellsOf 4)) = some x3 := hi 3 _ rfl
  rw [cInt] at h0 h1
  rw [cBool] at h2 h3
  obtain ⟨a, ea⟩ := trod_i m' c0 x0 h0
  obtain ⟨b, eb⟩ := trod_i m' c1 x1 h1
  obtain ⟨c, ec⟩ := trod_b m' c2 x2 h2
  obtain ⟨d, ed⟩ := trod_b m' c3 x3 h3
  exact ⟨(a, b, c, d), by rw [ea, eb, ec, ed]; rfl⟩
set_option maxRecDepth 100000 in
theorem openTwo {v : Value} {d : DataW H} {ps : List MemPlace} {r : Reach} {b0 : Nat} (hval : Value.okWide Tryz.prog W r b0 62 v) (hd : DataW.Trod enc Tryz.prog W base sp held 62 v d ps) : ∃ a b : Int, v = .agg #[gi a, gi b] := by
  simp only [Value.okWide, uTwo] at hval
  obtain ⟨cs, rfl, hs, _⟩ := hval
  rw [cTwo] at hs
  obtain ⟨l⟩ := cs
  match l, hs with
  | [c0, c1], _ =>
  obtain ⟨fuel, hf⟩ := hd
  obtain ⟨xs, m, _, _, _, hn, hi⟩ := DataW.trod_array uTwo hf
  match xs, hn with
  | [x0, x1], _ =>
  have h0 := hi 0 (by omega)
  have h1 := hi 1 (by omega)
  rw [cInt] at h0 h1
  obtain ⟨a, ea⟩ := trod_i m c0 x0 h0
  obtain ⟨b, eb⟩ := trod_i m c1 x1 h1
  exact ⟨a, b, by rw [ea, eb]⟩
end
theorem arelK {ρ : Rho} {a0 b0 : Value} {a1 b1 : Value} {a2 b2 : Value} (h0 : VRel ρ a0 b0) (h1 : VRel ρ a1 b1) (h2 : VRel ρ a2 b2) : ARel (VRel ρ) #[a0, a1, a2] #[b0, b1, b2] := by
  refine ⟨rfl, fun i x y hx hy => ?_⟩
  match i, hx, hy with
  | 0, hx, hy => cases hx; cases hy; exact h0
  | 1, hx, hy => cases hx; cases hy; exact h1
  | 2, hx, hy => cases hx; cases hy; exact h2
theorem uJntC0 : Tryz.prog.underlying 88 = some (.slice 179) := by kernel_rfl
theorem cJntC0 : Tryz.prog.cellsOf 179 = 4 := by kernel_rfl
theorem uJntC1 : Tryz.prog.underlying 88 = some (.slice 179) := by kernel_rfl
theorem cJntC1 : Tryz.prog.cellsOf 179 = 4 := by kernel_rfl
set_option maxRecDepth 100000 in
theorem JntC_contract (H : Type) (enc : TypeId × Value → H) (W : World) (base : Nat) (args : Array Value) (ds gs : List (DataW H)) (before : List MemPlace)
    (hval : ∀ (j : Nat) t v, Tryz.f8.params[j]? = some t → args[j]? = some v → Value.okWide Tryz.prog W .any base t v)
    (hW : DataW.Whole enc Tryz.prog Tryz.f8.params.toList Rows.injuryJointSpec.vars false W args.toList ds gs before) (hL : laidMetH Tryz.prog Rows.injuryJointRow.laid W) :
    Calls Tryz.prog 8 args W fun e W' => ∃ v, e = .returned v ∧ Rows.injuryJointSpec.post enc Tryz.prog Tryz.f8 false true false false W args v W' := by
  have hW' := hW
  obtain ⟨p, q, hA0, hV, rfl, hfz, hnd⟩ := hW'
  have hA : DataW.TrodAll enc Tryz.prog W 0 (fun _ => true) true Tryz.f8.params.toList args.toList ds p := hA0
  rw [Tryz.params8] at hA hval
  obtain ⟨v0, vs0, d0, ds0, p0, q0, hargs0, rfl, rfl, h0, r0⟩ := trodAll_cons hA
  obtain ⟨v1, vs1, d1, ds1, p1, q1, hargs1, rfl, rfl, h1, r1⟩ := trodAll_cons r0
  obtain ⟨v2, vs2, d2, ds2, p2, q2, hargs2, rfl, rfl, h2, r2⟩ := trodAll_cons r1
  obtain ⟨rfl, rfl, rfl⟩ := trodAll_nil r2
  obtain rfl : args = #[v0, v1, v2] := by cases args; simp_all
  obtain ⟨rfl, rfl⟩ := trodVars_none hV
  obtain ⟨sa0, sn0, sk0, rfl⟩ := okWide_slice uJntC0 (hval 0 _ v0 rfl rfl)
  obtain ⟨fuel0, hf0⟩ := h0
  obtain ⟨sa1, sn1, sk1, rfl⟩ := okWide_slice uJntC1 (hval 1 _ v1 rfl rfl)
  obtain ⟨fuel1, hf1⟩ := h1
  obtain ⟨xu, xv, rfl⟩ := openTwo (hval 2 _ v2 rfl rfl) h2
  have hT := holds_tabs6 hL (.tail _ (.tail _ (.head _)))
  obtain ⟨H, G, own⟩ := start0 hT tabs6_flat
  have call : Calls Tryz.prog 8 #[.slice sa0 sn0 sk0, .slice sa1 sn1 sk1, liV xu xv] W (fun e w' => e = .returned (.bool true) ∧ RowKit.Below W.heap.size W w') := by
    rcases wide_shapes uJntC0 cJntC0 (by omega) (v4) (fun _ => rfl) trod_v4 hf0 with hs0 | ⟨a0, k0, hs0⟩ | ⟨b0, off0, k0, l0, c0, el0, fr0, hs0, z0, lk0, km0, hw0, hl0, hc0⟩
    · have hs0 : [Value.slice sa0 sn0 sk0] = [.slice none 0 0] := hs0
      rw [List.cons.inj hs0 |>.1]
      rcases wide_shapes uJntC1 cJntC1 (by omega) (v4) (fun _ => rfl) trod_v4 hf1 with hs1 | ⟨a1, k1, hs1⟩ | ⟨b1, off1, k1, l1, c1, el1, fr1, hs1, z1, lk1, km1, hw1, hl1, hc1⟩
      · have hs1 : [Value.slice sa1 sn1 sk1] = [.slice none 0 0] := hs1
        rw [List.cons.inj hs1 |>.1]
        exact of_callA H (G) own (arelK (.flat (n := 1) rfl) (.flat (n := 1) rfl) (.flat (n := 3) rfl)) rfl (joint_nn _ xu xv )
      · have hs1 : [Value.slice sa1 sn1 sk1] = [.slice (some a1) 0 k1] := hs1
        rw [List.cons.inj hs1 |>.1]
        obtain ⟨Hnx_1, ownnx_1⟩ := ext_dead H own
        exact of_callA Hnx_1 (globs_upd (G) (Nat.le_refl _) _) ownnx_1 (arelK (.flat (n := 1) rfl) (vrel_dead (Rho.upd_same _ _ _) a1 k1) (.flat (n := 3) rfl)) rfl (joint_ne _ xu xv k1)
      · have hs1 : [Value.slice sa1 sn1 sk1] = [.slice (some ⟨b1, off1, none⟩) l1.length k1] := hs1
        rw [List.cons.inj hs1 |>.1]
        rw [cellsV_map] at hl1 hc1
        obtain ⟨Hnx_1, ownnx_1⟩ := ext_live H own hw1 hc1 hl1 (cellsV_flat l1)
        exact of_callA Hnx_1 (globs_upd (G) (Nat.le_refl _) _) ownnx_1 (arelK (.flat (n := 1) rfl) (vrel_live (Rho.upd_same _ _ _) lk1) (.flat (n := 3) rfl)) rfl (joint_nf _ xu xv l1 k1 el1 _ z1)
    · have hs0 : [Value.slice sa0 sn0 sk0] = [.slice (some a0) 0 k0] := hs0
      rw [List.cons.inj hs0 |>.1]
      obtain ⟨Hx_0, ownx_0⟩ := ext_dead H own
      rcases wide_shapes uJntC1 cJntC1 (by omega) (v4) (fun _ => rfl) trod_v4 hf1 with hs1 | ⟨a1, k1, hs1⟩ | ⟨b1, off1, k1, l1, c1, el1, fr1, hs1, z1, lk1, km1, hw1, hl1, hc1⟩
      · have hs1 : [Value.slice sa1 sn1 sk1] = [.slice none 0 0] := hs1
        rw [List.cons.inj hs1 |>.1]
        exact of_callA Hx_0 (globs_upd (G) (Nat.le_refl _) _) ownx_0 (arelK (vrel_dead (Rho.upd_same _ _ _) a0 k0) (.flat (n := 1) rfl) (.flat (n := 3) rfl)) rfl (joint_en _ xu xv k0)
      · have hs1 : [Value.slice sa1 sn1 sk1] = [.slice (some a1) 0 k1] := hs1
        rw [List.cons.inj hs1 |>.1]
        obtain ⟨Hex_1, ownex_1⟩ := ext_dead Hx_0 ownx_0
        exact of_callA Hex_1 (globs_upd (globs_upd (G) (Nat.le_refl _) _) (Nat.le_succ _) _) ownex_1 (arelK (VRel.mono (Rho.le_born (Hx_0.bound _ (Nat.le_refl _))) (vrel_dead (Rho.upd_same _ _ _) a0 k0)) (vrel_dead (Rho.upd_same _ _ _) a1 k1) (.flat (n := 3) rfl)) rfl (joint_ee _ xu xv k0 k1)
      · have hs1 : [Value.slice sa1 sn1 sk1] = [.slice (some ⟨b1, off1, none⟩) l1.length k1] := hs1
        rw [List.cons.inj hs1 |>.1]
        rw [cellsV_map] at hl1 hc1
        obtain ⟨Hex_1, ownex_1⟩ := ext_live Hx_0 ownx_0 hw1 hc1 hl1 (cellsV_flat l1)
        exact of_callA Hex_1 (globs_upd (globs_upd (G) (Nat.le_refl _) _) (Nat.le_succ _) _) ownex_1 (arelK (VRel.mono (Rho.le_born (Hx_0.bound _ (Nat.le_refl _))) (vrel_dead (Rho.upd_same _ _ _) a0 k0)) (vrel_live (Rho.upd_same _ _ _) lk1) (.flat (n := 3) rfl)) rfl (joint_ef _ xu xv k0 l1 k1 el1 _ z1)
    · have hs0 : [Value.slice sa0 sn0 sk0] = [.slice (some ⟨b0, off0, none⟩) l0.length k0] := hs0
      rw [List.cons.inj hs0 |>.1]
      rw [cellsV_map] at hl0 hc0
      obtain ⟨Hx_0, ownx_0⟩ := ext_live H own hw0 hc0 hl0 (cellsV_flat l0)
      rcases wide_shapes uJntC1 cJntC1 (by omega) (v4) (fun _ => rfl) trod_v4 hf1 with hs1 | ⟨a1, k1, hs1⟩ | ⟨b1, off1, k1, l1, c1, el1, fr1, hs1, z1, lk1, km1, hw1, hl1, hc1⟩
      · have hs1 : [Value.slice sa1 sn1 sk1] = [.slice none 0 0] := hs1
        rw [List.cons.inj hs1 |>.1]
        exact of_callA Hx_0 (globs_upd (G) (Nat.le_refl _) _) ownx_0 (arelK (vrel_live (Rho.upd_same _ _ _) lk0) (.flat (n := 1) rfl) (.flat (n := 3) rfl)) rfl (joint_fn _ xu xv l0 k0 el0 _ z0)
      · have hs1 : [Value.slice sa1 sn1 sk1] = [.slice (some a1) 0 k1] := hs1
        rw [List.cons.inj hs1 |>.1]
        obtain ⟨Hfx_1, ownfx_1⟩ := ext_dead Hx_0 ownx_0
        exact of_callA Hfx_1 (globs_upd (globs_upd (G) (Nat.le_refl _) _) (Nat.le_succ _) _) ownfx_1 (arelK (VRel.mono (Rho.le_born (Hx_0.bound _ (Nat.le_refl _))) (vrel_live (Rho.upd_same _ _ _) lk0)) (vrel_dead (Rho.upd_same _ _ _) a1 k1) (.flat (n := 3) rfl)) rfl (joint_fe _ xu xv k1 l0 k0 el0 _ z0)
      · have hs1 : [Value.slice sa1 sn1 sk1] = [.slice (some ⟨b1, off1, none⟩) l1.length k1] := hs1
        rw [List.cons.inj hs1 |>.1]
        rw [cellsV_map] at hl1 hc1
        obtain ⟨Hfx_1, ownfx_1⟩ := ext_live Hx_0 ownx_0 hw1 hc1 hl1 (cellsV_flat l1)
        exact of_callA Hfx_1 (globs_upd (globs_upd (G) (Nat.le_refl _) _) (Nat.le_succ _) _) ownfx_1 (arelK (VRel.mono (Rho.le_born (Hx_0.bound _ (Nat.le_refl _))) (vrel_live (Rho.upd_same _ _ _) lk0)) (vrel_live (Rho.upd_same _ _ _) lk1) (.flat (n := 3) rfl)) rfl (joint_ff _ xu xv l0 l1 k0 el0 _ k1 el1 _ z0 z1)
  refine call.mono fun e W' ⟨he, hb⟩ => ?_
  subst he
  exact ⟨_, rfl, post_true laidOut (fun t ht => by
    rw [Tryz.params8] at ht
    simp only [List.mem_cons, List.not_mem_nil, or_false] at ht
    rcases ht with rfl | rfl | rfl <;> exact ⟨by kernel_rfl, of_decide_eq_true (by kernel_rfl)⟩) (by kernel_rfl) uBool rfl rfl rfl rfl hW hb⟩
theorem JntC_laid (os : Os) : laidMet Tryz.prog Rows.injuryJointRow.laid ((laidWorld os).forCall (fun _ _ => 0) ⟨#[], #[.slice none 0 0, .slice none 0 0, .agg #[.int .i64 0, .int .i64 0]], []⟩).memory :=
  laidMet_of_run' 8 (by kernel_rfl) (by kernel_rfl)
theorem JntC_reads (os : Os) {H : Type} (enc : TypeId × Value → H) : ∃ places, DataW.whole enc Tryz.prog ((laidWorld os).forCall (fun _ _ => 0) ⟨#[], #[.slice none 0 0, .slice none 0 0, .agg #[.int .i64 0, .int .i64 0]], []⟩).memory Tryz.f8.params.toList Rows.injuryJointSpec.vars false
    (#[.slice none 0 0, .slice none 0 0, .agg #[.int .i64 0, .int .i64 0]] : Array Value).toList 8 = some ([.nil, .nil, .agg [.lit (.int .i64 0), .lit (.int .i64 0)]], [], places) :=
  ⟨[], by kernel_rfl⟩
set_option maxRecDepth 100000 in
theorem JntC_lifted (os : Os) (started : os.Started) (H : Type) (enc : TypeId × Value → H) (F : Stop.Interp) :
    ReturnsInHanded {} Tryz.checked os 8 .any ((OpenSpec.ofChange Rows.injuryJointSpec).preRow enc Tryz.prog Tryz.f8 Rows.injuryJointRow.domain false Rows.injuryJointRow.laid) (((OpenSpec.ofChange Rows.injuryJointSpec).at F).post enc Tryz.prog Tryz.f8 false true false false) := by
  obtain ⟨places, hx⟩ := JntC_reads os enc
  refine returnsInHanded_of_row (C := Tryz.checked) (s := OpenSpec.ofChange Rows.injuryJointSpec) own started (by kernel_rfl) Tryz.func8
    (witness_row_at (enc := enc) (C := Tryz.checked) false (laidWorld os) #[.slice none 0 0, .slice none 0 0, .agg #[.int .i64 0, .int .i64 0]] rfl (by kernel_rfl) (by kernel_rfl) (by kernel_rfl)
      (OpenSpec.preRow_of_cond 8 hx (by kernel_rfl) (fun k hk => by cases hk) (by kernel_rfl) (JntC_laid os))) ?_
  intro W base args ds gs before hval hW _ _ _ hL _ _
  exact JntC_contract H enc W base args ds gs before hval hW hL
theorem JntC_said : Rows.InjuryJointSaid :=
  OpenClaim.holds_of_cond 8 Tryz.f8 rfl rfl rfl rfl rfl rfl rfl ⟨rfl, rfl, rfl, rfl, rfl⟩ rfl rfl rfl rfl rfl (by kernel_rfl) Tryz.func8 (by kernel_rfl)
    (of_decide_eq_true (by kernel_rfl)) (by unfold Func.isWrapper; first | (rw [if_pos (by decide +kernel)]; kernel_rfl) | (rw [if_neg (by decide +kernel)]; exact ⟨rfl, rfl⟩))
    (fun os started H enc _ F => by rw [OpenClaim.pre_eq_preRow]; exact JntC_lifted os started H enc F)
theorem JntC_plain (f : FuncId) (fn : Func) (hf : Tryz.pinned.checked.prog.funcNamed "crumple/crumplelaw06.InjuryJoint" = some f) (hfn : Tryz.pinned.checked.prog.funcs[f]? = some fn) :
    false = Tryz.pinned.checked.prog.looks [] ∧ ∀ (j : Nat) t, fn.params[j]? = some t → Tryz.pinned.checked.prog.wantsStandIn t = false := by
  obtain rfl : f = 8 := Option.some.inj ((show Tryz.prog.funcNamed "crumple/crumplelaw06.InjuryJoint" = some 8 by kernel_rfl).symm.trans hf) |>.symm
  obtain rfl : fn = Tryz.f8 := (Option.some.inj (Tryz.func8.symm.trans hfn)).symm
  refine ⟨by kernel_rfl, fun j t ht => ?_⟩
  rw [Tryz.params8] at ht
  have hm := Array.mem_of_getElem? ht
  simp only [List.mem_toArray, List.mem_cons, List.not_mem_nil, or_false] at hm
  rcases hm with rfl | rfl | rfl
  · exact (show Tryz.prog.wantsStandIn 88 = false by kernel_rfl)
  · exact (show Tryz.prog.wantsStandIn 88 = false by kernel_rfl)
  · exact (show Tryz.prog.wantsStandIn 62 = false by kernel_rfl)
/-- THE CARD -/
theorem injuryJoint_holds : Rows.InjuryJointCardSaid :=
  Claim7.holds_tied_plain_at .later [] _ _ _ _ JntC_said (fun _ h => by cases h) (by kernel_rfl) (fun _ h => by cases h) injuryJoint_row_tie rfl ⟨rfl, rfl⟩ (by kernel_rfl) rfl JntC_plain (by kernel_rfl)
#print axioms injuryJoint_holds
end Go.Proofs.YtihnnmejkpddeaaGreatDoor
