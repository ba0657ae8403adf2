/-
  OWN WORK. PulseLanes returns true for all corridors and pulses, and leaves its arguments as they were: its card.
  Conditions: those of the card itself (the listed variables read as the program's text lays them).
-/
import Derived.Test.YtkggjnjiggekeaaGreatDoorBrg8
import Derived.Test.YtkggjnjiggekeaaGreatDoorPub
import Derived.Test.YtkggjnjiggekeaaGreatDoorAm20
namespace Go.Proofs.YtkggjnjiggekeaaGreatDoor
open Go Go.Am Go.ChangeShapes Go.WideShapes Go.ChangeAt Go.RowKit

theorem uPs : Tryz.prog.underlying 37 = some (.slice 23) := by kernel_rfl
theorem cPs : Tryz.prog.cellsOf 23 = 2 := by kernel_rfl
theorem uIs : Tryz.prog.underlying 29 = some (.slice 3) := by kernel_rfl
theorem arel_two' {ρ : Rho} {a b a' b' : Value} (h1 : VRel ρ a a') (h2 : VRel ρ b b') : ARel (VRel ρ) #[a, b] #[a', b'] := by
  refine ⟨rfl, fun i x y hx hy => ?_⟩
  match i, hx, hy with
  | 0, hx, hy => cases hx; cases hy; exact h1
  | 1, hx, hy => cases hx; cases hy; exact h2
noncomputable def p2 (q : P2) : List Value := [gi q.1, gi q.2]
theorem cellsP_map : ∀ l : List P2, l.flatMap p2 = cellsP l
  | [] => rfl
  | q :: l => by rw [List.flatMap_cons, cellsP_map l]; rfl
section
variable {H : Type} {enc : TypeId × Value → H} {W : World} {base : Nat} {sp : Nat → Bool} {held : Bool}
theorem trod_i (m : Nat) (v : Value) (y : DataW H × List MemPlace) (h : DataW.trod enc Tryz.prog W base sp held m 3 [v] = some y) : ∃ z, v = gi z := by
  obtain ⟨a, ea, _, _⟩ := DataW.trod_int uInt h
  exact ⟨a, by simpa using ea⟩
set_option maxRecDepth 100000 in
theorem trod_pair (m : Nat) (vs : List Value) (y : DataW H × List MemPlace) (hl : vs.length = 2) (h : DataW.trod enc Tryz.prog W base sp held m 23 vs = some y) : ∃ z : P2, vs = p2 z := by
  match vs, hl with
  | [c0, c1], _ =>
  obtain ⟨xs, m', _, _, _, hn, hi⟩ := DataW.trod_struct Tryz.underlying23 h
  match xs, hn with
  | [x0, x1], _ =>
  have h0 : DataW.trod enc Tryz.prog W base sp held m' 3 (([c0, c1].drop 0).take (Tryz.prog.cellsOf 3)) = some x0 := hi 0 _ rfl
  have h1 : DataW.trod enc Tryz.prog W base sp held m' 3 (([c0, c1].drop 1).take (Tryz.prog.cellsOf 3)) = some x1 := hi 1 _ rfl
  rw [cInt] at h0 h1
  obtain ⟨a, ea, _, _⟩ := DataW.trod_int uInt h0
  obtain ⟨b, eb, _, _⟩ := DataW.trod_int uInt h1
  simp at ea eb
  exact ⟨(a, b), by rw [ea, eb]; rfl⟩
end
set_option maxRecDepth 100000 in
theorem LanC_contract (H : Type) (enc : TypeId × Value → H) (W : World) (base : Nat) (args : Array Value) (ds gs : List (DataW H)) (before : List MemPlace)
    (hval : ∀ (j : Nat) t v, Tryz.f4.params[j]? = some t → args[j]? = some v → Value.okWide Tryz.prog W .any base t v)
    (hW : DataW.Whole enc Tryz.prog Tryz.f4.params.toList Rows.pulseLanesSpec.vars false W args.toList ds gs before) (hL : laidMetH Tryz.prog Rows.pulseLanesRow.laid W) :
    Calls Tryz.prog 4 args W fun e W' => ∃ v, e = .returned v ∧ Rows.pulseLanesSpec.post enc Tryz.prog Tryz.f4 false true false false W args v W' := by
  have hW' := hW
  obtain ⟨p, q, hA0, hV, rfl, hfz, hnd⟩ := hW'
  have hA : DataW.TrodAll enc Tryz.prog W 0 (fun _ => true) true Tryz.f4.params.toList args.toList ds p := hA0
  rw [Tryz.params4] at hA hval
  obtain ⟨v0, vs0, d0, ds0, p0, q0, hargs0, rfl, rfl, h0, r0⟩ := trodAll_cons hA
  obtain ⟨v1, vs1, d1, ds1, p1, q1, hargs1, rfl, rfl, h1, r1⟩ := trodAll_cons r0
  obtain ⟨rfl, rfl, rfl⟩ := trodAll_nil r1
  obtain rfl : args = #[v0, v1] := by cases args; simp_all
  obtain ⟨rfl, rfl⟩ := trodVars_none hV
  obtain ⟨sa, sn, sk, rfl⟩ := okWide_slice uPs (hval 0 _ v0 rfl rfl)
  obtain ⟨fuel, hf⟩ := h0
  obtain ⟨ta, tn, tk, rfl⟩ := okWide_slice uIs (hval 1 _ v1 rfl rfl)
  obtain ⟨fuel1, hf1⟩ := h1
  have hT := holds_tabs8 hL (.tail _ (.tail _ (.tail _ (.tail _ (.head _))))) (.tail _ (.tail _ (.head _)))
  obtain ⟨H, G, own⟩ := start0 hT tabs8_flat
  have call : Calls Tryz.prog 4 #[.slice sa sn sk, .slice ta tn tk] W (fun e w' => e = .returned (.bool true) ∧ RowKit.Below W.heap.size W w') := by
    rcases wide_shapes uPs cPs (by omega) p2 (fun _ => rfl) trod_pair hf with hs | ⟨a, k, hs⟩ | ⟨b, off, k, l, c', el, fr, hs, l0, lk, km, hw, hl, hc⟩
    · have hs : [Value.slice sa sn sk] = [.slice none 0 0] := hs
      rw [List.cons.inj hs |>.1]
      rcases slice_shapes uIs cInt gi trod_i hf1 with hs1 | ⟨a1, k1, hs1⟩ | ⟨b1, off1, k1, s1, c1, el1, fr1, hs1, s0, sk1, km1, hw1, hl1, hc1⟩
      · have hs1 : [Value.slice ta tn tk] = [.slice none 0 0] := hs1
        rw [List.cons.inj hs1 |>.1]
        exact of_callA H G own (arel_two' (.flat (n := 1) rfl) (.flat (n := 1) rfl)) rfl (lan_nn _)
      · have hs1 : [Value.slice ta tn tk] = [.slice (some a1) 0 k1] := hs1
        rw [List.cons.inj hs1 |>.1]
        obtain ⟨H2, own2⟩ := ext_dead H own
        exact of_callA H2 (globs_upd G (Nat.le_refl _) _) own2 (arel_two' (.flat (n := 1) rfl) (vrel_dead (Rho.upd_same _ _ _) a1 k1)) rfl (lan_ne _ k1)
      · have hs1 : [Value.slice ta tn tk] = [.slice (some ⟨b1, off1, none⟩) s1.length k1] := hs1
        rw [List.cons.inj hs1 |>.1]
        obtain ⟨H2, own2⟩ := ext_live H own hw1 hc1 (by rw [List.length_map]; exact hl1) (flat_ints s1)
        exact of_callA H2 (globs_upd G (Nat.le_refl _) _) own2 (arel_two' (.flat (n := 1) rfl) (vrel_live (Rho.upd_same _ _ _) sk1)) rfl (lan_nf _ s1 k1 el1 _ s0)
    · have hs : [Value.slice sa sn sk] = [.slice (some a) 0 k] := hs
      rw [List.cons.inj hs |>.1]
      obtain ⟨H', own'⟩ := ext_dead H own
      rcases slice_shapes uIs cInt gi trod_i hf1 with hs1 | ⟨a1, k1, hs1⟩ | ⟨b1, off1, k1, s1, c1, el1, fr1, hs1, s0, sk1, km1, hw1, hl1, hc1⟩
      · have hs1 : [Value.slice ta tn tk] = [.slice none 0 0] := hs1
        rw [List.cons.inj hs1 |>.1]
        exact of_callA H' (globs_upd G (Nat.le_refl _) _) own' (arel_two' (vrel_dead (Rho.upd_same _ _ _) a k) (.flat (n := 1) rfl)) rfl (lan_en _ k)
      · have hs1 : [Value.slice ta tn tk] = [.slice (some a1) 0 k1] := hs1
        rw [List.cons.inj hs1 |>.1]
        obtain ⟨H2, own2⟩ := ext_dead H' own'
        exact of_callA H2 (globs_upd (globs_upd G (Nat.le_refl _) _) (Nat.le_succ _) _) own2 (arel_two' (VRel.mono (Rho.le_born (H'.bound _ (Nat.le_refl _))) (vrel_dead (Rho.upd_same _ _ _) a k)) (vrel_dead (Rho.upd_same _ _ _) a1 k1)) rfl (lan_ee _ k k1)
      · have hs1 : [Value.slice ta tn tk] = [.slice (some ⟨b1, off1, none⟩) s1.length k1] := hs1
        rw [List.cons.inj hs1 |>.1]
        obtain ⟨H2, own2⟩ := ext_live H' own' hw1 hc1 (by rw [List.length_map]; exact hl1) (flat_ints s1)
        exact of_callA H2 (globs_upd (globs_upd G (Nat.le_refl _) _) (Nat.le_succ _) _) own2 (arel_two' (VRel.mono (Rho.le_born (H'.bound _ (Nat.le_refl _))) (vrel_dead (Rho.upd_same _ _ _) a k)) (vrel_live (Rho.upd_same _ _ _) sk1)) rfl (lan_ef _ k s1 k1 el1 _ s0)
    · have hs : [Value.slice sa sn sk] = [.slice (some ⟨b, off, none⟩) l.length k] := hs
      rw [List.cons.inj hs |>.1]
      rw [cellsP_map] at hl hc
      obtain ⟨H', own'⟩ := ext_live H own hw hc hl (cellsP_flat l)
      rcases slice_shapes uIs cInt gi trod_i hf1 with hs1 | ⟨a1, k1, hs1⟩ | ⟨b1, off1, k1, s1, c1, el1, fr1, hs1, s0, sk1, km1, hw1, hl1, hc1⟩
      · have hs1 : [Value.slice ta tn tk] = [.slice none 0 0] := hs1
        rw [List.cons.inj hs1 |>.1]
        exact of_callA H' (globs_upd G (Nat.le_refl _) _) own' (arel_two' (vrel_live (Rho.upd_same _ _ _) lk) (.flat (n := 1) rfl)) rfl (lan_fn _ l k el _ l0)
      · have hs1 : [Value.slice ta tn tk] = [.slice (some a1) 0 k1] := hs1
        rw [List.cons.inj hs1 |>.1]
        obtain ⟨H2, own2⟩ := ext_dead H' own'
        exact of_callA H2 (globs_upd (globs_upd G (Nat.le_refl _) _) (Nat.le_succ _) _) own2 (arel_two' (VRel.mono (Rho.le_born (H'.bound _ (Nat.le_refl _))) (vrel_live (Rho.upd_same _ _ _) lk)) (vrel_dead (Rho.upd_same _ _ _) a1 k1)) rfl (lan_fe _ k1 l k el _ l0)
      · have hs1 : [Value.slice ta tn tk] = [.slice (some ⟨b1, off1, none⟩) s1.length k1] := hs1
        rw [List.cons.inj hs1 |>.1]
        obtain ⟨H2, own2⟩ := ext_live H' own' hw1 hc1 (by rw [List.length_map]; exact hl1) (flat_ints s1)
        exact of_callA H2 (globs_upd (globs_upd G (Nat.le_refl _) _) (Nat.le_succ _) _) own2 (arel_two' (VRel.mono (Rho.le_born (H'.bound _ (Nat.le_refl _))) (vrel_live (Rho.upd_same _ _ _) lk)) (vrel_live (Rho.upd_same _ _ _) sk1)) rfl (lan_ff _ l s1 k el _ k1 el1 _ l0 s0)
  refine call.mono fun e W' ⟨he, hb⟩ => ?_
  subst he
  exact ⟨_, rfl, post_true laidOut (fun t ht => by
    rw [Tryz.params4] at ht
    simp only [List.mem_cons, List.not_mem_nil, or_false] at ht
    rcases ht with rfl | rfl <;> exact ⟨by kernel_rfl, of_decide_eq_true (by kernel_rfl)⟩) (by kernel_rfl) uBool rfl rfl rfl rfl hW hb⟩
theorem LanC_laid (os : Os) : laidMet Tryz.prog Rows.pulseLanesRow.laid ((laidWorld os).forCall (fun _ _ => 0) ⟨#[], #[.slice none 0 0, .slice none 0 0], []⟩).memory :=
  laidMet_of_run' 8 (by kernel_rfl) (by kernel_rfl)
theorem LanC_reads (os : Os) {H : Type} (enc : TypeId × Value → H) : ∃ places, DataW.whole enc Tryz.prog ((laidWorld os).forCall (fun _ _ => 0) ⟨#[], #[.slice none 0 0, .slice none 0 0], []⟩).memory Tryz.f4.params.toList Rows.pulseLanesSpec.vars false
    (#[.slice none 0 0, .slice none 0 0] : Array Value).toList 8 = some ([.nil, .nil], [], places) :=
  ⟨[], by kernel_rfl⟩
set_option maxRecDepth 100000 in
theorem LanC_lifted (os : Os) (started : os.Started) (H : Type) (enc : TypeId × Value → H) (F : Stop.Interp) :
    ReturnsInHanded {} Tryz.checked os 4 .any ((OpenSpec.ofChange Rows.pulseLanesSpec).preRow enc Tryz.prog Tryz.f4 Rows.pulseLanesRow.domain false Rows.pulseLanesRow.laid) (((OpenSpec.ofChange Rows.pulseLanesSpec).at F).post enc Tryz.prog Tryz.f4 false true false false) := by
  obtain ⟨places, hx⟩ := LanC_reads os enc
  refine returnsInHanded_of_row (C := Tryz.checked) (s := OpenSpec.ofChange Rows.pulseLanesSpec) own started (by kernel_rfl) Tryz.func4
    (witness_row_at (enc := enc) (C := Tryz.checked) false (laidWorld os) #[.slice none 0 0, .slice none 0 0] rfl (by kernel_rfl) (by kernel_rfl) (by kernel_rfl)
      (OpenSpec.preRow_of_cond 8 hx (by kernel_rfl) (fun k hk => by cases hk) (by kernel_rfl) (LanC_laid os))) ?_
  intro W base args ds gs before hval hW _ _ _ hL _ _
  exact LanC_contract H enc W base args ds gs before hval hW hL
theorem LanC_said : Rows.PulseLanesSaid :=
  OpenClaim.holds_of_cond 4 Tryz.f4 rfl rfl rfl rfl rfl rfl rfl ⟨rfl, rfl, rfl, rfl, rfl⟩ rfl rfl rfl rfl rfl (by kernel_rfl) Tryz.func4 (by kernel_rfl)
    (of_decide_eq_true (by kernel_rfl)) (by unfold Func.isWrapper; first | (rw [if_pos (by decide +kernel)]; kernel_rfl) | (rw [if_neg (by decide +kernel)]; exact ⟨rfl, rfl⟩))
    (fun os started H enc _ F => by rw [OpenClaim.pre_eq_preRow]; exact LanC_lifted os started H enc F)
theorem LanC_plain (f : FuncId) (fn : Func) (hf : Tryz.pinned.checked.prog.funcNamed "crumple/crumplelaw08.PulseLanes" = some f) (hfn : Tryz.pinned.checked.prog.funcs[f]? = some fn) :
    false = Tryz.pinned.checked.prog.looks [] ∧ ∀ (j : Nat) t, fn.params[j]? = some t → Tryz.pinned.checked.prog.wantsStandIn t = false := by
  obtain rfl : f = 4 := Option.some.inj ((show Tryz.prog.funcNamed "crumple/crumplelaw08.PulseLanes" = some 4 by kernel_rfl).symm.trans hf) |>.symm
  obtain rfl : fn = Tryz.f4 := (Option.some.inj (Tryz.func4.symm.trans hfn)).symm
  refine ⟨by kernel_rfl, fun j t ht => ?_⟩
  rw [Tryz.params4] at ht
  have hm := Array.mem_of_getElem? ht
  simp only [List.mem_toArray, List.mem_cons, List.not_mem_nil, or_false] at hm
  rcases hm with rfl | rfl
  · exact (show Tryz.prog.wantsStandIn 37 = false by kernel_rfl)
  · exact (show Tryz.prog.wantsStandIn 29 = false by kernel_rfl)
/-- THE CARD -/
theorem pulseLanes_holds : Rows.PulseLanesCardSaid :=
  Claim7.holds_tied_plain_at .later [] _ _ _ _ LanC_said (fun _ h => by cases h) (by kernel_rfl) (fun _ h => by cases h) pulseLanes_row_tie rfl ⟨rfl, rfl⟩ (by kernel_rfl) rfl LanC_plain (by kernel_rfl)
#print axioms pulseLanes_holds
end Go.Proofs.YtkggjnjiggekeaaGreatDoor
