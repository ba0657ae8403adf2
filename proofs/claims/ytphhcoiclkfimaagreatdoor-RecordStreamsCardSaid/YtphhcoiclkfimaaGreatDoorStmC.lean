/-
  OWN WORK. RecordStreams returns true for all samples and bytes, and leaves its arguments as they were: its card.
  Conditions: those of the card itself (the listed variables read as the program's text lays them).
-/
import Derived.Test.YtphhcoiclkfimaaGreatDoorCrdF
import Derived.Test.YtphhcoiclkfimaaGreatDoorStP
namespace Go.Proofs.YtphhcoiclkfimaaGreatDoor
open Go Go.Am Go.ChangeShapes Go.WideShapes Go.ChangeAt Go.RowKit

theorem uU8 : Tryz.prog.underlying 5 = some (.int .u8) := by kernel_rfl
theorem cU8 : Tryz.prog.cellsOf 5 = 1 := by kernel_rfl
theorem uBs : Tryz.prog.underlying 60 = some (.slice 5) := by kernel_rfl
/-- A byte. -/
abbrev Byt := { z : Int // inB z }
instance : Inhabited Byt := ⟨⟨0, by unfold inB; omega⟩⟩
noncomputable abbrev gbB (z : Byt) : Value := gb z.1
theorem trod_u8 {H : Type} {enc : TypeId × Value → H} {W : World} {base : Nat} {sp : Nat → Bool} {held : Bool} (m : Nat) (v : Value) (y : DataW H × List MemPlace) (h : DataW.trod enc Tryz.prog W base sp held m 5 [v] = some y) : ∃ z : Byt, v = gbB z := by
  obtain ⟨a, ea, _, wa⟩ := DataW.trod_int uU8 h
  refine ⟨⟨a, ?_⟩, by simpa using ea⟩
  unfold inB
  simp only [Lit.wf, Bool.and_eq_true, decide_eq_true_eq] at wa
  have h1 : IntKind.min .u8 = 0 := by decide
  have h2 : IntKind.max .u8 = 255 := by decide
  omega
theorem bytes_of (l : List Byt) : l.map gbB = (l.map Subtype.val).map gb := by rw [List.map_map]; rfl
theorem bytes_in (l : List Byt) : ∀ x ∈ l.map Subtype.val, inB x := fun x hx => by
  obtain ⟨y, _, rfl⟩ := List.mem_map.1 hx
  exact y.2
theorem flat_gf (l : List Nat) : (l.map gf).all (flat 3) = true := by
  rw [List.all_eq_true]
  intro y hy
  obtain ⟨z, _, rfl⟩ := List.mem_map.1 hy
  rfl
theorem flat_gb (l : List Int) : (l.map gb).all (flat 3) = true := by
  rw [List.all_eq_true]
  intro y hy
  obtain ⟨z, _, rfl⟩ := List.mem_map.1 hy
  rfl
set_option maxRecDepth 100000 in
theorem stm_c_contract (H : Type) (enc : TypeId × Value → H) (W : World) (base : Nat) (args : Array Value) (ds gs : List (DataW H)) (before : List MemPlace)
    (hval : ∀ (j : Nat) t v, Tryz.f5.params[j]? = some t → args[j]? = some v → Value.okWide Tryz.prog W .any base t v)
    (hW : DataW.Whole enc Tryz.prog Tryz.f5.params.toList Rows.recordStreamsSpec.vars false W args.toList ds gs before) (hL : laidMetH Tryz.prog Rows.recordStreamsRow.laid W) :
    Calls Tryz.prog 5 args W fun e W' => ∃ v, e = .returned v ∧ Rows.recordStreamsSpec.post enc Tryz.prog Tryz.f5 false true false false W args v W' := by
  have hW' := hW
  obtain ⟨p, q, hA0, hV, rfl, hfz, hnd⟩ := hW'
  have hA : DataW.TrodAll enc Tryz.prog W 0 (fun _ => true) true Tryz.f5.params.toList args.toList ds p := hA0
  rw [Tryz.params5] at hA hval
  obtain ⟨v0, vs0, d0, ds0, p0, q0, hargs, rfl, rfl, h0, r0⟩ := trodAll_cons hA
  obtain ⟨v1, vs1, d1, ds1, p1, q1, hargs1, rfl, rfl, h1, r1⟩ := trodAll_cons r0
  obtain ⟨rfl, rfl, rfl⟩ := trodAll_nil r1
  obtain rfl : args = #[v0, v1] := by cases args; simp_all
  obtain ⟨rfl, rfl⟩ := trodVars_none hV
  obtain ⟨sa, sn, sk, rfl⟩ := okWide_slice uFs (hval 0 _ v0 rfl rfl)
  obtain ⟨ta, tn, tk, rfl⟩ := okWide_slice uBs (hval 1 _ v1 rfl rfl)
  obtain ⟨fuel, hf⟩ := h0
  obtain ⟨fuel1, hf1⟩ := h1
  have hT := holds_tabs hL (.tail _ (.tail _ (.tail _ (.head _)))) (.tail _ (.tail _ (.head _)))
  obtain ⟨H, G, own⟩ := start0 hT tabs_flat
  have call : Calls Tryz.prog 5 #[.slice sa sn sk, .slice ta tn tk] W (fun e w' => e = .returned (.bool true) ∧ RowKit.Below W.heap.size W w') := by
    rcases slice_shapes uFs cF32 gf trod_f32 hf with hs | ⟨a, k, hs⟩ | ⟨b, off, k, l, c', el, fr, hs, l0, lk, km, hw, hl, hc⟩
    · have hs : [Value.slice sa sn sk] = [.slice none 0 0] := hs
      rw [List.cons.inj hs |>.1]
      rcases slice_shapes uBs cU8 gbB trod_u8 hf1 with hs | ⟨a1, k1, hs⟩ | ⟨b1, off1, k1, s1, c1, el1, fr1, hs, s0, sk1, km1, hw1, hl1, hc1⟩
      · have hs : [Value.slice ta tn tk] = [.slice none 0 0] := hs
        rw [List.cons.inj hs |>.1]
        exact of_callA H G own (arel_two (.flat (n := 1) rfl) (.flat (n := 1) rfl)) rfl (st_nn _)
      · have hs : [Value.slice ta tn tk] = [.slice (some a1) 0 k1] := hs
        rw [List.cons.inj hs |>.1]
        obtain ⟨H2, own2⟩ := ext_dead H own
        exact of_callA H2 (globs_upd G (Nat.le_refl _) _) own2 (arel_two (.flat (n := 1) rfl) (vrel_dead (Rho.upd_same _ _ _) a1 k1)) rfl (st_ne k1 _)
      · have hs : [Value.slice ta tn tk] = [.slice (some ⟨b1, off1, none⟩) s1.length k1] := hs
        rw [List.cons.inj hs |>.1]
        rw [bytes_of] at hc1
        obtain ⟨H2, own2⟩ := ext_live H own hw1 hc1 (by rw [List.length_map, List.length_map]; exact hl1) (flat_gb _)
        have e1 : s1.length = (s1.map Subtype.val).length := (List.length_map _).symm
        rw [e1] at s0 sk1 ⊢
        exact of_callA H2 (globs_upd G (Nat.le_refl _) _) own2 (arel_two (.flat (n := 1) rfl) (vrel_live (Rho.upd_same _ _ _) sk1)) rfl (st_nf (s1.map Subtype.val) k1 el1 _ s0 sk1 (bytes_in s1))
    · have hs : [Value.slice sa sn sk] = [.slice (some a) 0 k] := hs
      rw [List.cons.inj hs |>.1]
      obtain ⟨H', own'⟩ := ext_dead H own
      rcases slice_shapes uBs cU8 gbB trod_u8 hf1 with hs | ⟨a1, k1, hs⟩ | ⟨b1, off1, k1, s1, c1, el1, fr1, hs, s0, sk1, km1, hw1, hl1, hc1⟩
      · have hs : [Value.slice ta tn tk] = [.slice none 0 0] := hs
        rw [List.cons.inj hs |>.1]
        exact of_callA H' (globs_upd G (Nat.le_refl _) _) own' (arel_two (vrel_dead (Rho.upd_same _ _ _) a k) (.flat (n := 1) rfl)) rfl (st_en k _)
      · have hs : [Value.slice ta tn tk] = [.slice (some a1) 0 k1] := hs
        rw [List.cons.inj hs |>.1]
        obtain ⟨H2, own2⟩ := ext_dead H' own'
        exact of_callA H2 (globs_upd (globs_upd G (Nat.le_refl _) _) (Nat.le_succ _) _) own2 (arel_two (VRel.mono (Rho.le_born (H'.bound _ (Nat.le_refl _))) (vrel_dead (Rho.upd_same _ _ _) a k)) (vrel_dead (Rho.upd_same _ _ _) a1 k1)) rfl (st_ee k k1 _)
      · have hs : [Value.slice ta tn tk] = [.slice (some ⟨b1, off1, none⟩) s1.length k1] := hs
        rw [List.cons.inj hs |>.1]
        rw [bytes_of] at hc1
        obtain ⟨H2, own2⟩ := ext_live H' own' hw1 hc1 (by rw [List.length_map, List.length_map]; exact hl1) (flat_gb _)
        have e1 : s1.length = (s1.map Subtype.val).length := (List.length_map _).symm
        rw [e1] at s0 sk1 ⊢
        exact of_callA H2 (globs_upd (globs_upd G (Nat.le_refl _) _) (Nat.le_succ _) _) own2 (arel_two (VRel.mono (Rho.le_born (H'.bound _ (Nat.le_refl _))) (vrel_dead (Rho.upd_same _ _ _) a k)) (vrel_live (Rho.upd_same _ _ _) sk1)) rfl (st_ef k (s1.map Subtype.val) k1 el1 _ s0 sk1 (bytes_in s1))
    · have hs : [Value.slice sa sn sk] = [.slice (some ⟨b, off, none⟩) l.length k] := hs
      rw [List.cons.inj hs |>.1]
      obtain ⟨H', own'⟩ := ext_live H own hw hc (by rw [List.length_map]; exact hl) (flat_gf l)
      have hm : maxLen ≤ 9223372036854775807 := by decide
      rcases slice_shapes uBs cU8 gbB trod_u8 hf1 with hs | ⟨a1, k1, hs⟩ | ⟨b1, off1, k1, s1, c1, el1, fr1, hs, s0, sk1, km1, hw1, hl1, hc1⟩
      · have hs : [Value.slice ta tn tk] = [.slice none 0 0] := hs
        rw [List.cons.inj hs |>.1]
        exact of_callA H' (globs_upd G (Nat.le_refl _) _) own' (arel_two (vrel_live (Rho.upd_same _ _ _) lk) (.flat (n := 1) rfl)) rfl (st_fn l k el _ l0 (by omega) lk)
      · have hs : [Value.slice ta tn tk] = [.slice (some a1) 0 k1] := hs
        rw [List.cons.inj hs |>.1]
        obtain ⟨H2, own2⟩ := ext_dead H' own'
        exact of_callA H2 (globs_upd (globs_upd G (Nat.le_refl _) _) (Nat.le_succ _) _) own2 (arel_two (VRel.mono (Rho.le_born (H'.bound _ (Nat.le_refl _))) (vrel_live (Rho.upd_same _ _ _) lk)) (vrel_dead (Rho.upd_same _ _ _) a1 k1)) rfl (st_fe l k el k1 _ l0 (by omega) lk)
      · have hs : [Value.slice ta tn tk] = [.slice (some ⟨b1, off1, none⟩) s1.length k1] := hs
        rw [List.cons.inj hs |>.1]
        rw [bytes_of] at hc1
        obtain ⟨H2, own2⟩ := ext_live H' own' hw1 hc1 (by rw [List.length_map, List.length_map]; exact hl1) (flat_gb _)
        have e1 : s1.length = (s1.map Subtype.val).length := (List.length_map _).symm
        rw [e1] at s0 sk1 ⊢
        exact of_callA H2 (globs_upd (globs_upd G (Nat.le_refl _) _) (Nat.le_succ _) _) own2 (arel_two (VRel.mono (Rho.le_born (H'.bound _ (Nat.le_refl _))) (vrel_live (Rho.upd_same _ _ _) lk)) (vrel_live (Rho.upd_same _ _ _) sk1)) rfl (st_ff l k el (s1.map Subtype.val) k1 el1 _ l0 (by omega) lk s0 sk1 (bytes_in s1))
  refine call.mono fun e W' ⟨he, hb⟩ => ?_
  subst he
  exact ⟨_, rfl, post_true laidOut (fun t ht => by
    rw [Tryz.params5] at ht
    simp only [List.mem_cons, List.not_mem_nil, or_false] at ht
    rcases ht with rfl | rfl <;> exact ⟨by kernel_rfl, of_decide_eq_true (by kernel_rfl)⟩) (by kernel_rfl) uBool rfl rfl rfl rfl hW hb⟩

theorem stm_c_laid (os : Os) : laidMet Tryz.prog Rows.recordStreamsRow.laid ((laidWorld os).forCall (fun _ _ => 0) ⟨#[], #[.slice none 0 0, .slice none 0 0], []⟩).memory :=
  laidMet_of_run' 8 (by kernel_rfl) (by kernel_rfl)
theorem stm_c_reads (os : Os) {H : Type} (enc : TypeId × Value → H) : ∃ places, DataW.whole enc Tryz.prog ((laidWorld os).forCall (fun _ _ => 0) ⟨#[], #[.slice none 0 0, .slice none 0 0], []⟩).memory Tryz.f5.params.toList Rows.recordStreamsSpec.vars false
    #[Value.slice none 0 0, .slice none 0 0].toList 8 = some ([.nil, .nil], [], places) :=
  ⟨[], by kernel_rfl⟩
set_option maxRecDepth 100000 in
theorem stm_c_lifted (os : Os) (started : os.Started) (H : Type) (enc : TypeId × Value → H) (F : Stop.Interp) :
    ReturnsInHanded {} Tryz.checked os 5 .any ((OpenSpec.ofChange Rows.recordStreamsSpec).preRow enc Tryz.prog Tryz.f5 Rows.recordStreamsRow.domain false Rows.recordStreamsRow.laid) (((OpenSpec.ofChange Rows.recordStreamsSpec).at F).post enc Tryz.prog Tryz.f5 false true false false) := by
  obtain ⟨places, hx⟩ := stm_c_reads os enc
  refine returnsInHanded_of_row (C := Tryz.checked) (s := OpenSpec.ofChange Rows.recordStreamsSpec) own started (by kernel_rfl) Tryz.func5
    (witness_row_at (enc := enc) (C := Tryz.checked) false (laidWorld os) #[.slice none 0 0, .slice none 0 0] rfl (by kernel_rfl) (by kernel_rfl) (by kernel_rfl)
      (OpenSpec.preRow_of_cond 8 hx (by kernel_rfl) (fun k hk => by cases hk) (by kernel_rfl) (stm_c_laid os))) ?_
  intro W base args ds gs before hval hW _ _ _ hL _ _
  exact stm_c_contract H enc W base args ds gs before hval hW hL
theorem stm_c_said : Rows.RecordStreamsSaid :=
  OpenClaim.holds_of_cond 5 Tryz.f5 rfl rfl rfl rfl rfl rfl rfl ⟨rfl, rfl, rfl, rfl, rfl⟩ rfl rfl rfl rfl rfl (by kernel_rfl) Tryz.func5 (by kernel_rfl)
    (of_decide_eq_true (by kernel_rfl)) (by unfold Func.isWrapper; first | (rw [if_pos (by decide +kernel)]; kernel_rfl) | (rw [if_neg (by decide +kernel)]; exact ⟨rfl, rfl⟩))
    (fun os started H enc _ F => by rw [OpenClaim.pre_eq_preRow]; exact stm_c_lifted os started H enc F)
theorem stm_c_plain (f : FuncId) (fn : Func) (hf : Tryz.pinned.checked.prog.funcNamed "crumple/crumplelaw01.RecordStreams" = some f) (hfn : Tryz.pinned.checked.prog.funcs[f]? = some fn) :
    false = Tryz.pinned.checked.prog.looks [] ∧ ∀ (j : Nat) t, fn.params[j]? = some t → Tryz.pinned.checked.prog.wantsStandIn t = false := by
  obtain rfl : f = 5 := Option.some.inj ((show Tryz.prog.funcNamed "crumple/crumplelaw01.RecordStreams" = some 5 by kernel_rfl).symm.trans hf) |>.symm
  obtain rfl : fn = Tryz.f5 := (Option.some.inj (Tryz.func5.symm.trans hfn)).symm
  refine ⟨by kernel_rfl, fun j t ht => ?_⟩
  rw [Tryz.params5] at ht
  have hm := Array.mem_of_getElem? ht
  simp only [List.mem_toArray, List.mem_cons, List.not_mem_nil, or_false] at hm
  rcases hm with rfl | rfl
  · exact (show Tryz.prog.wantsStandIn 22 = false by kernel_rfl)
  · exact (show Tryz.prog.wantsStandIn 60 = false by kernel_rfl)
/-- ████ THE CARD ████ -/
theorem recordStreams_holds : Rows.RecordStreamsCardSaid :=
  Claim7.holds_tied_plain_at .later [] _ _ _ _ stm_c_said (fun _ h => by cases h) (by kernel_rfl) (fun _ h => by cases h) recordStreams_row_tie rfl ⟨rfl, rfl⟩ (by kernel_rfl) rfl stm_c_plain (by kernel_rfl)
#print axioms recordStreams_holds
end Go.Proofs.YtphhcoiclkfimaaGreatDoor
