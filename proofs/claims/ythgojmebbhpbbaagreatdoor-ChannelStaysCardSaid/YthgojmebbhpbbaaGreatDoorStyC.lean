/-
  OWN WORK. ChannelStays returns true for all weights, all integers and all pairs of bytes, and leaves its arguments as they were: its card.
  Conditions: those of the card itself (the listed variables read as the program's text lays them).
-/
import Derived.Test.YthgojmebbhpbbaaGreatDoorBrg2
import Derived.Test.YthgojmebbhpbbaaGreatDoorKcP
namespace Go.Proofs.YthgojmebbhpbbaaGreatDoor
open Go Go.Am Go.ChangeShapes Go.WideShapes Go.ChangeAt Go.RowKit
theorem uI8 : Tryz.prog.underlying 46 = some (.int .i8) := by kernel_rfl
theorem cI8 : Tryz.prog.cellsOf 46 = 1 := by kernel_rfl
theorem uL8 : Tryz.prog.underlying 44 = some (.slice 46) := by kernel_rfl
theorem uU8 : Tryz.prog.underlying 5 = some (.int .u8) := by kernel_rfl
theorem cU8 : Tryz.prog.cellsOf 5 = 1 := by kernel_rfl
theorem uA2 : Tryz.prog.underlying 45 = some (.array 2 5) := by kernel_rfl
theorem cA2 : Tryz.prog.cellsOf 45 = 2 := by kernel_rfl
theorem trod_8 {H : Type} {enc : TypeId × Value → H} {W : World} {base : Nat} {sp : Nat → Bool} {held : Bool} (m : Nat) (v : Value) (y : DataW H × List MemPlace) (h : DataW.trod enc Tryz.prog W base sp held m 46 [v] = some y) : ∃ z, v = g8 z := by
 obtain ⟨a, ea, _, _⟩ := DataW.trod_int uI8 h
 exact ⟨a, by simpa using ea⟩
theorem flat_8s (l : List Int) : (l.map g8).all (flat 3) = true := by
 induction l with
 | nil => rfl
 | cons a l ih => rw [List.map_cons, List.all_cons, ih]; rfl
theorem byte_rng {a : Int} (wa : (Lit.int .u8 a).wf = true) : 0 ≤ a ∧ a ≤ 255 := by
 simp only [Lit.wf, Bool.and_eq_true, decide_eq_true_eq] at wa
 have h1 : IntKind.min .u8 = 0 := by decide
 have h2 : IntKind.max .u8 = 255 := by decide
 omega
theorem arel_three {ρ : Rho} {a b c a' b' c' : Value} (h1 : VRel ρ a a') (h2 : VRel ρ b b') (h3 : VRel ρ c c') : ARel (VRel ρ) #[a, b, c] #[a', b', c'] := by
 refine ⟨rfl, fun i x y hx hy => ?_⟩
 match i, hx, hy with
 | 0, hx, hy => cases hx; cases hy; exact h1
 | 1, hx, hy => cases hx; cases hy; exact h2
 | 2, hx, hy => cases hx; cases hy; exact h3
set_option maxRecDepth 100000 in
theorem open2 {H : Type} {enc : TypeId × Value → H} {W : World} {base : Nat} {sp : Nat → Bool} {held : Bool} {v : Value} {d : DataW H} {ps : List MemPlace} {r : Go.Reach} {b0 : Nat} (hval : Value.okWide Tryz.prog W r b0 45 v) (hd : DataW.Trod enc Tryz.prog W base sp held 45 v d ps) :
  ∃ x y : Int, v = .agg #[.int .u8 x, .int .u8 y] ∧ (0 ≤ x ∧ x ≤ 255) ∧ (0 ≤ y ∧ y ≤ 255) := by
 simp only [Value.okWide, uA2] at hval
 obtain ⟨cs, rfl, hs, _⟩ := hval
 rw [cA2] at hs
 obtain ⟨l⟩ := cs
 match l, hs with
 | [c0, c1], _ =>
 obtain ⟨fuel, hf⟩ := hd
 obtain ⟨xs, m, _, _, _, hn, hi⟩ := DataW.trod_array uA2 hf
 match xs, hn with
 | [x0, x1], _ =>
 have h0 := hi 0 (by omega)
 have h1 := hi 1 (by omega)
 rw [cU8] at h0 h1
 obtain ⟨k0, e0, _, w0⟩ := DataW.trod_int uU8 h0
 obtain ⟨k1, e1, _, w1⟩ := DataW.trod_int uU8 h1
 simp [Value.cells] at e0 e1
 exact ⟨k0, k1, by rw [e0, e1], byte_rng w0, byte_rng w1⟩
theorem uIs : Tryz.prog.underlying 23 = some (.slice 3) := by kernel_rfl
theorem trod_i {H : Type} {enc : TypeId × Value → H} {W : World} {base : Nat} {sp : Nat → Bool} {held : Bool} (m : Nat) (v : Value) (y : DataW H × List MemPlace) (h : DataW.trod enc Tryz.prog W base sp held m 3 [v] = some y) : ∃ z, v = gi z := by
 obtain ⟨a, ea, _, _⟩ := DataW.trod_int uInt h
 exact ⟨a, by simpa using ea⟩
theorem le_up {ρ : Rho} {h : AHeap} {W : World} (H : HRel ρ h W) (x : St) : ρ.le (ρ.upd h.n x) := Rho.le_born (H.bound h.n (Nat.le_refl _))
set_option maxRecDepth 100000 in
theorem styc_contract (H : Type) (enc : TypeId × Value → H) (W : World) (base : Nat) (args : Array Value) (ds gs : List (DataW H)) (before : List MemPlace)
  (hval : ∀ (j : Nat) t v, Tryz.f4.params[j]? = some t → args[j]? = some v → Value.okWide Tryz.prog W .any base t v)
  (hW : DataW.Whole enc Tryz.prog Tryz.f4.params.toList Rows.channelStaysSpec.vars false W args.toList ds gs before) (hL : laidMetH Tryz.prog Rows.channelStaysRow.laid W) :
  Calls Tryz.prog 4 args W fun e W' => ∃ v, e = .returned v ∧ Rows.channelStaysSpec.post enc Tryz.prog Tryz.f4 false true false false W args v W' := by
 have hW' := hW
 obtain ⟨p, q, hA0, hV, rfl, hfz, hnd⟩ := hW'
 have hA : DataW.TrodAll enc Tryz.prog W 0 (fun _ => true) true Tryz.f4.params.toList args.toList ds p := hA0
 rw [Tryz.params4] at hA hval
 obtain ⟨v0, vs0, d0, ds0, p0, q0, hargs, rfl, rfl, h0, r0⟩ := trodAll_cons hA
 obtain ⟨v1, vs1, d1, ds1, p1, q1, hargs1, rfl, rfl, h1, r1⟩ := trodAll_cons r0
 obtain ⟨v2, vs2, d2, ds2, p2, q2, hargs2, rfl, rfl, h2, r2⟩ := trodAll_cons r1
 obtain ⟨rfl, rfl, rfl⟩ := trodAll_nil r2
 obtain rfl : args = #[v0, v1, v2] := by cases args; simp_all
 obtain ⟨rfl, rfl⟩ := trodVars_none hV
 obtain ⟨x, y, rfl, hx, hy⟩ := open2 (hval 2 _ v2 rfl rfl) h2
 obtain ⟨sa, sn, sk, rfl⟩ := okWide_slice uIs (hval 0 _ v0 rfl rfl)
 obtain ⟨ta, tn, tk, rfl⟩ := okWide_slice uL8 (hval 1 _ v1 rfl rfl)
 obtain ⟨fuel, hf⟩ := h0
 obtain ⟨fuel', hf'⟩ := h1
 have hT := holds_tabs2 hL (.tail _ (.tail _ (.tail _ (.head _)))) (.tail _ (.tail _ (.head _)))
 obtain ⟨H, G, own⟩ := start0 hT tabs2_flat
 have hm : maxLen ≤ 9223372036854775807 := by decide
 have call : Calls Tryz.prog 4 #[.slice sa sn sk, .slice ta tn tk, .agg #[.int .u8 x, .int .u8 y]] W (fun e w' => e = .returned (.bool true) ∧ RowKit.Below W.heap.size W w') := by
  rcases slice_shapes uIs cInt gi trod_i hf with hs | ⟨a, k, hs⟩ | ⟨b, off, k, l, c', el, fr, hs, l0, lk, km, hw, hl, hc⟩
  ·rw [List.cons.inj (show [Value.slice sa sn sk] = [.slice none 0 0] from hs) |>.1]
   rcases slice_shapes uL8 cI8 g8 trod_8 hf' with ht | ⟨a', k', ht⟩ | ⟨b', off', k', l', c'', el', fr', ht, l0', lk', km', hw', hl', hc'⟩
   ·rw [List.cons.inj (show [Value.slice ta tn tk] = [.slice none 0 0] from ht) |>.1]
    exact of_callA H G own (arel_three (.flat (n := 1) rfl) (.flat (n := 1) rfl) (.flat (n := 1) rfl)) rfl (stays_nn _ x y)
   ·rw [List.cons.inj (show [Value.slice ta tn tk] = [.slice (some a') 0 k'] from ht) |>.1]
    obtain ⟨H', own'⟩ := ext_dead H own
    exact of_callA H' (globs_upd G (Nat.le_refl _) _) own' (arel_three (.flat (n := 1) rfl) (vrel_dead (Rho.upd_same _ _ _) a' k') (.flat (n := 1) rfl)) rfl (stays_ne _ k' x y)
   ·rw [List.cons.inj (show [Value.slice ta tn tk] = [.slice (some ⟨b', off', none⟩) l'.length k'] from ht) |>.1]
    obtain ⟨H', own'⟩ := ext_live H own hw' hc' (by rw [List.length_map]; exact hl') (flat_8s l')
    obtain ⟨n, hn⟩ : ∃ n, l'.length = n + 1 := ⟨l'.length - 1, by omega⟩
    rw [hn]
    rw [hn] at lk'
    exact of_callA H' (globs_upd G (Nat.le_refl _) _) own' (arel_three (.flat (n := 1) rfl) (vrel_live (Rho.upd_same _ _ _) lk') (.flat (n := 1) rfl)) rfl (stays_nf _ l' n k' el' x y)
  ·rw [List.cons.inj (show [Value.slice sa sn sk] = [.slice (some a) 0 k] from hs) |>.1]
   obtain ⟨H1, own1⟩ := ext_dead H own
   have G1 := globs_upd G (Nat.le_refl Tryz.prog.globals.size) St.dead
   rcases slice_shapes uL8 cI8 g8 trod_8 hf' with ht | ⟨a', k', ht⟩ | ⟨b', off', k', l', c'', el', fr', ht, l0', lk', km', hw', hl', hc'⟩
   ·rw [List.cons.inj (show [Value.slice ta tn tk] = [.slice none 0 0] from ht) |>.1]
    exact of_callA H1 G1 own1 (arel_three (vrel_dead (Rho.upd_same _ _ _) a k) (.flat (n := 1) rfl) (.flat (n := 1) rfl)) rfl (stays_en _ k x y)
   ·rw [List.cons.inj (show [Value.slice ta tn tk] = [.slice (some a') 0 k'] from ht) |>.1]
    obtain ⟨H', own'⟩ := ext_dead H1 own1
    exact of_callA H' (globs_upd G1 (Nat.le_succ _) _) own' (arel_three (VRel.mono (le_up H1 _) (vrel_dead (Rho.upd_same _ _ _) a k)) (vrel_dead (Rho.upd_same _ _ _) a' k') (.flat (n := 1) rfl)) rfl (stays_ee _ k k' x y)
   ·rw [List.cons.inj (show [Value.slice ta tn tk] = [.slice (some ⟨b', off', none⟩) l'.length k'] from ht) |>.1]
    obtain ⟨H', own'⟩ := ext_live H1 own1 hw' hc' (by rw [List.length_map]; exact hl') (flat_8s l')
    obtain ⟨n, hn⟩ : ∃ n, l'.length = n + 1 := ⟨l'.length - 1, by omega⟩
    rw [hn]
    rw [hn] at lk'
    exact of_callA H' (globs_upd G1 (Nat.le_succ _) _) own' (arel_three (VRel.mono (le_up H1 _) (vrel_dead (Rho.upd_same _ _ _) a k)) (vrel_live (Rho.upd_same _ _ _) lk') (.flat (n := 1) rfl)) rfl (stays_ef _ k l' n k' el' x y)
  ·rw [List.cons.inj (show [Value.slice sa sn sk] = [.slice (some ⟨b, off, none⟩) l.length k] from hs) |>.1]
   obtain ⟨H1, own1⟩ := ext_live H own hw hc (by rw [List.length_map]; exact hl) (flat_ints l)
   have G1 := globs_upd G (Nat.le_refl Tryz.prog.globals.size) (St.live ⟨b, off, c'.size, 0⟩)
   have hq : ∃ q, l.length = q + 1 := ⟨l.length - 1, by omega⟩
   rcases slice_shapes uL8 cI8 g8 trod_8 hf' with ht | ⟨a', k', ht⟩ | ⟨b', off', k', l', c'', el', fr', ht, l0', lk', km', hw', hl', hc'⟩
   ·rw [List.cons.inj (show [Value.slice ta tn tk] = [.slice none 0 0] from ht) |>.1]
    obtain ⟨q, hq⟩ := hq
    rw [hq]
    rw [hq] at lk
    exact of_callA H1 G1 own1 (arel_three (vrel_live (Rho.upd_same _ _ _) lk) (.flat (n := 1) rfl) (.flat (n := 1) rfl)) rfl (stays_fn _ l q k el x y hq)
   ·rw [List.cons.inj (show [Value.slice ta tn tk] = [.slice (some a') 0 k'] from ht) |>.1]
    obtain ⟨H', own'⟩ := ext_dead H1 own1
    obtain ⟨q, hq⟩ := hq
    rw [hq]
    rw [hq] at lk
    exact of_callA H' (globs_upd G1 (Nat.le_succ _) _) own' (arel_three (VRel.mono (le_up H1 _) (vrel_live (Rho.upd_same _ _ _) lk)) (vrel_dead (Rho.upd_same _ _ _) a' k') (.flat (n := 1) rfl)) rfl (stays_fe _ l q k el k' x y hq)
   ·rw [List.cons.inj (show [Value.slice ta tn tk] = [.slice (some ⟨b', off', none⟩) l'.length k'] from ht) |>.1]
    obtain ⟨H', own'⟩ := ext_live H1 own1 hw' hc' (by rw [List.length_map]; exact hl') (flat_8s l')
    exact of_callA H' (globs_upd G1 (Nat.le_succ _) _) own' (arel_three (VRel.mono (le_up H1 _) (vrel_live (Rho.upd_same _ _ _) lk)) (vrel_live (Rho.upd_same _ _ _) lk') (.flat (n := 1) rfl)) rfl (stays_ff _ l l' k el k' el' x y (by omega) lk (by omega) hx hy)
 refine call.mono fun e W' ⟨he, hb⟩ => ?_
 subst he
 exact ⟨_, rfl, post_true laidOut (fun t ht => by
  rw [Tryz.params4] at ht
  simp only [List.mem_cons, List.not_mem_nil, or_false] at ht
  rcases ht with rfl | rfl | rfl <;> exact ⟨by kernel_rfl, of_decide_eq_true (by kernel_rfl)⟩) (by kernel_rfl) uBool rfl rfl rfl rfl hW hb⟩
theorem styc_laid (os : Os) : laidMet Tryz.prog Rows.channelStaysRow.laid ((laidWorld os).forCall (fun _ _ => 0) ⟨#[], #[.slice none 0 0, .slice none 0 0, .agg #[.int .u8 0, .int .u8 0]], []⟩).memory :=
 laidMet_of_run' 8 (by kernel_rfl) (by kernel_rfl)
theorem styc_reads (os : Os) {H : Type} (enc : TypeId × Value → H) : ∃ places, DataW.whole enc Tryz.prog ((laidWorld os).forCall (fun _ _ => 0) ⟨#[], #[.slice none 0 0, .slice none 0 0, .agg #[.int .u8 0, .int .u8 0]], []⟩).memory Tryz.f4.params.toList Rows.channelStaysSpec.vars false
  #[Value.slice none 0 0, .slice none 0 0, .agg #[.int .u8 0, .int .u8 0]].toList 8 = some ([.nil, .nil, .agg [.lit (.int .u8 0), .lit (.int .u8 0)]], [], places) :=
 ⟨[], by kernel_rfl⟩
set_option maxRecDepth 100000 in
theorem styc_lifted (os : Os) (started : os.Started) (H : Type) (enc : TypeId × Value → H) (F : Stop.Interp) :
  ReturnsInHanded {} Tryz.checked os 4 .any ((OpenSpec.ofChange Rows.channelStaysSpec).preRow enc Tryz.prog Tryz.f4 Rows.channelStaysRow.domain false Rows.channelStaysRow.laid) (((OpenSpec.ofChange Rows.channelStaysSpec).at F).post enc Tryz.prog Tryz.f4 false true false false) := by
 obtain ⟨places, hx⟩ := styc_reads os enc
 refine returnsInHanded_of_row (C := Tryz.checked) (s := OpenSpec.ofChange Rows.channelStaysSpec) own started (by kernel_rfl) Tryz.func4
  (witness_row_at (enc := enc) (C := Tryz.checked) false (laidWorld os) #[.slice none 0 0, .slice none 0 0, .agg #[.int .u8 0, .int .u8 0]] rfl (by kernel_rfl) (by kernel_rfl) (by kernel_rfl)
   (OpenSpec.preRow_of_cond 8 hx (by kernel_rfl) (fun k hk => by cases hk) (by kernel_rfl) (styc_laid os))) ?_
 intro W base args ds gs before hval hW _ _ _ hL _ _
 exact styc_contract H enc W base args ds gs before hval hW hL
theorem styc_said : Rows.ChannelStaysSaid :=
 OpenClaim.holds_of_cond 4 Tryz.f4 rfl rfl rfl rfl rfl rfl rfl ⟨rfl, rfl, rfl, rfl, rfl⟩ rfl rfl rfl rfl rfl (by kernel_rfl) Tryz.func4 (by kernel_rfl)
  (of_decide_eq_true (by kernel_rfl)) (by unfold Func.isWrapper; first | (rw [if_pos (by decide +kernel)]; kernel_rfl) | (rw [if_neg (by decide +kernel)]; exact ⟨rfl, rfl⟩))
  (fun os started H enc _ F => by rw [OpenClaim.pre_eq_preRow]; exact styc_lifted os started H enc F)
theorem styc_plain (f : FuncId) (fn : Func) (hf : Tryz.pinned.checked.prog.funcNamed "crumple/crumplelaw02.ChannelStays" = some f) (hfn : Tryz.pinned.checked.prog.funcs[f]? = some fn) :
  false = Tryz.pinned.checked.prog.looks [] ∧ ∀ (j : Nat) t, fn.params[j]? = some t → Tryz.pinned.checked.prog.wantsStandIn t = false := by
 obtain rfl : f = 4 := Option.some.inj ((show Tryz.prog.funcNamed "crumple/crumplelaw02.ChannelStays" = some 4 by kernel_rfl).symm.trans hf) |>.symm
 obtain rfl : fn = Tryz.f4 := (Option.some.inj (Tryz.func4.symm.trans hfn)).symm
 refine ⟨by kernel_rfl, fun j t ht => ?_⟩
 rw [Tryz.params4] at ht
 have hm := Array.mem_of_getElem? ht
 simp only [List.mem_toArray, List.mem_cons, List.not_mem_nil, or_false] at hm
 rcases hm with rfl | rfl | rfl
 ·exact (show Tryz.prog.wantsStandIn 23 = false by kernel_rfl)
 ·exact (show Tryz.prog.wantsStandIn 44 = false by kernel_rfl)
 ·exact (show Tryz.prog.wantsStandIn 45 = false by kernel_rfl)
theorem channelStays_holds : Rows.ChannelStaysCardSaid :=
 Claim7.holds_tied_plain_at .later [] _ _ _ _ styc_said (fun _ h => by cases h) (by kernel_rfl) (fun _ h => by cases h) channelStays_row_tie rfl ⟨rfl, rfl⟩ (by kernel_rfl) rfl styc_plain (by kernel_rfl)
#print axioms channelStays_holds
end Go.Proofs.YthgojmebbhpbbaaGreatDoor
