/-
  OWN WORK. ChannelSensors returns true for all sensors, samples and requests, and leaves its arguments as they were: its card.
  Conditions: those of the card itself (the listed variables read as the program's text lays them).
-/
import Derived.Test.YtojfhklkcelblaaGreatDoorBrg2
import Derived.Test.YtojfhklkcelblaaGreatDoorCt2
namespace Go.Proofs.YtojfhklkcelblaaGreatDoor
open Go Go.Am Go.ChangeShapes Go.WideShapes Go.ChangeAt Go.RowKit

theorem uF32 : Tryz.prog.underlying 67 = some (.float .f32) := by kernel_rfl
theorem cF32 : Tryz.prog.cellsOf 67 = 1 := by kernel_rfl
theorem uFs : Tryz.prog.underlying 41 = some (.slice 67) := by kernel_rfl
theorem cFs : Tryz.prog.cellsOf 41 = 1 := by kernel_rfl
theorem trod_f32 {H : Type} {enc : TypeId × Value → H} {W : World} {base : Nat} {sp : Nat → Bool} {held : Bool} (m : Nat) (v : Value) (y : DataW H × List MemPlace) (h : DataW.trod enc Tryz.prog W base sp held m 67 [v] = some y) : ∃ z, v = gf z := by
  cases m with
  | zero => cases h
  | succ m =>
    unfold DataW.trod at h
    rw [uF32] at h
    cases v with
    | float k b =>
      simp only at h
      split at h
      · rename_i hk
        obtain ⟨rfl, _⟩ := hk
        exact ⟨b, rfl⟩
      · cases h
    | _ => cases h
theorem cSen : Tryz.prog.cellsOf 40 = 4 := by kernel_rfl
theorem cItv : Tryz.prog.cellsOf 38 = 2 := by kernel_rfl
theorem cMea : Tryz.prog.cellsOf 43 = 3 := by kernel_rfl
theorem arel_three {ρ : Rho} {a b c a' b' c' : Value} (h1 : VRel ρ a a') (h2 : VRel ρ b b') (h3 : VRel ρ c c') : ARel (VRel ρ) #[a, b, c] #[a', b', c'] := by
  refine ⟨rfl, fun i x y hx hy => ?_⟩
  match i, hx, hy with
  | 0, hx, hy => cases hx; cases hy; exact h1
  | 1, hx, hy => cases hx; cases hy; exact h2
  | 2, hx, hy => cases hx; cases hy; exact h3
set_option maxRecDepth 100000 in
theorem openS {H : Type} {enc : TypeId × Value → H} {W : World} {base : Nat} {sp : Nat → Bool} {held : Bool} {v : Value} {d : DataW H} {ps : List MemPlace} {r : Reach} {b0 : Nat} (hval : Value.okWide Tryz.prog W r b0 40 v) (hd : DataW.Trod enc Tryz.prog W base sp held 40 v d ps) :
    ∃ (s : ByteArray) (sc x y : Int), v = .agg #[.string s, gi sc, gi x, gi y] := by
  simp only [Value.okWide, Tryz.underlying40] at hval
  obtain ⟨cs, rfl, hs, _⟩ := hval
  rw [cSen] at hs
  obtain ⟨l⟩ := cs
  match l, hs with
  | [c0, c1, c2, c3], _ =>
  obtain ⟨fuel, hf⟩ := hd
  obtain ⟨xs, m, _, _, _, hn, hi⟩ := DataW.trod_struct Tryz.underlying40 hf
  match xs, hn with
  | [x0, x1, x2], _ =>
  have h0 : DataW.trod enc Tryz.prog W base sp held m 9 (([c0, c1, c2, c3].drop 0).take (Tryz.prog.cellsOf 9)) = some x0 := hi 0 _ rfl
  have h1 : DataW.trod enc Tryz.prog W base sp held m 3 (([c0, c1, c2, c3].drop 1).take (Tryz.prog.cellsOf 3)) = some x1 := hi 1 _ rfl
  have h2 : DataW.trod enc Tryz.prog W base sp held m 38 (([c0, c1, c2, c3].drop 2).take (Tryz.prog.cellsOf 38)) = some x2 := hi 2 _ rfl
  rw [cString] at h0
  rw [cInt] at h1
  rw [cItv] at h2
  have h2 : DataW.trod enc Tryz.prog W base sp held m 38 [c2, c3] = some x2 := h2
  obtain ⟨ys, m', _, _, _, hn', hi'⟩ := DataW.trod_struct Tryz.underlying38 h2
  match ys, hn' with
  | [y0, y1], _ =>
  have h3 : DataW.trod enc Tryz.prog W base sp held m' 3 (([c2, c3].drop 0).take (Tryz.prog.cellsOf 3)) = some y0 := hi' 0 _ rfl
  have h4 : DataW.trod enc Tryz.prog W base sp held m' 3 (([c2, c3].drop 1).take (Tryz.prog.cellsOf 3)) = some y1 := hi' 1 _ rfl
  rw [cInt] at h3 h4
  obtain ⟨a, ea, _, _⟩ := DataW.trod_string uString h0
  obtain ⟨b, eb, _, wb⟩ := DataW.trod_int uInt h1
  obtain ⟨c, ec, _, wc⟩ := DataW.trod_int uInt h3
  obtain ⟨d, ed, _, wd⟩ := DataW.trod_int uInt h4
  simp at ea eb ec ed
  exact ⟨a, b, c, d, by rw [ea, eb, ec, ed]⟩
set_option maxRecDepth 100000 in
theorem openM {H : Type} {enc : TypeId × Value → H} {W : World} {base : Nat} {sp : Nat → Bool} {held : Bool} {v : Value} {d : DataW H} {ps : List MemPlace} {r : Reach} {b0 : Nat} (hval : Value.okWide Tryz.prog W r b0 43 v) (hd : DataW.Trod enc Tryz.prog W base sp held 43 v d ps) :
    ∃ (x y z : Int), v = .agg #[gi x, gi y, gi z] := by
  simp only [Value.okWide, Tryz.underlying43] at hval
  obtain ⟨cs, rfl, hs, _⟩ := hval
  rw [cMea] at hs
  obtain ⟨l⟩ := cs
  match l, hs with
  | [c0, c1, c2], _ =>
  obtain ⟨fuel, hf⟩ := hd
  obtain ⟨xs, m, _, _, _, hn, hi⟩ := DataW.trod_struct Tryz.underlying43 hf
  match xs, hn with
  | [x0, x1, x2], _ =>
  have h0 : DataW.trod enc Tryz.prog W base sp held m 3 (([c0, c1, c2].drop 0).take (Tryz.prog.cellsOf 3)) = some x0 := hi 0 _ rfl
  have h1 : DataW.trod enc Tryz.prog W base sp held m 3 (([c0, c1, c2].drop 1).take (Tryz.prog.cellsOf 3)) = some x1 := hi 1 _ rfl
  have h2 : DataW.trod enc Tryz.prog W base sp held m 3 (([c0, c1, c2].drop 2).take (Tryz.prog.cellsOf 3)) = some x2 := hi 2 _ rfl
  rw [cInt] at h0 h1 h2
  obtain ⟨a, ea, _, wa⟩ := DataW.trod_int uInt h0
  obtain ⟨b, eb, _, wb⟩ := DataW.trod_int uInt h1
  obtain ⟨c, ec, _, wc⟩ := DataW.trod_int uInt h2
  simp at ea eb ec
  exact ⟨a, b, c, by rw [ea, eb, ec]⟩
set_option maxRecDepth 100000 in
theorem sensors_contract (H : Type) (enc : TypeId × Value → H) (W : World) (base : Nat) (args : Array Value) (ds gs : List (DataW H)) (before : List MemPlace)
    (hval : ∀ (j : Nat) t v, Tryz.f4.params[j]? = some t → args[j]? = some v → Value.okWide Tryz.prog W .any base t v)
    (hW : DataW.Whole enc Tryz.prog Tryz.f4.params.toList Rows.channelSensorsSpec.vars false W args.toList ds gs before) (hL : laidMetH Tryz.prog Rows.channelSensorsRow.laid W) :
    Calls Tryz.prog 4 args W fun e W' => ∃ v, e = .returned v ∧ Rows.channelSensorsSpec.post enc Tryz.prog Tryz.f4 false true false false W args v W' := by
  have hW' := hW
  obtain ⟨p, q, hA0, hV, rfl, hfz, hnd⟩ := hW'
  have hA : DataW.TrodAll enc Tryz.prog W 0 (fun _ => true) true Tryz.f4.params.toList args.toList ds p := hA0
  rw [Tryz.params4] at hA hval
  obtain ⟨v0, vs0, d0, ds0, p0, q0, hargs, rfl, rfl, h0, r0⟩ := trodAll_cons hA
  obtain ⟨v1, vs1, d1, ds1, p1, q1, hargs1, rfl, rfl, h1, r1⟩ := trodAll_cons r0
  obtain ⟨v2, vs2, d2, ds2, p2, q2, hargs2, rfl, rfl, h2, r2⟩ := trodAll_cons r1
  obtain ⟨rfl, rfl, rfl⟩ := trodAll_nil r2
  obtain rfl : args = #[v0, v1, v2] := by cases args; simp_all
  obtain ⟨rfl, rfl⟩ := trodVars_none hV
  obtain ⟨s, sc, x, y, rfl⟩ := openS (hval 0 _ v0 rfl rfl) h0
  obtain ⟨z, ex, me, rfl⟩ := openM (hval 2 _ v2 rfl rfl) h2
  obtain ⟨sa, sn, sk, rfl⟩ := okWide_slice uFs (hval 1 _ v1 rfl rfl)
  obtain ⟨fuel, hf⟩ := h1
  have hT := holds_tabs2 hL (.tail _ (.tail _ (.tail _ (.head _)))) (.tail _ (.tail _ (.head _)))
  obtain ⟨H, G, own⟩ := start0 hT tabs2_flat
  have call : Calls Tryz.prog 4 #[.agg #[.string s, gi sc, gi x, gi y], .slice sa sn sk, .agg #[gi z, gi ex, gi me]] W (fun e w' => e = .returned (.bool true) ∧ RowKit.Below W.heap.size W w') := by
    rcases slice_shapes uFs cF32 gf trod_f32 hf with hs | ⟨a, k, hs⟩ | ⟨b, off, k, l, c', el, fr, hs, l0, lk, km, hw, hl, hc⟩
    · have hs : [Value.slice sa sn sk] = [.slice none 0 0] := hs
      rw [List.cons.inj hs |>.1]
      exact of_callA H G own (arel_three (.flat (n := 1) rfl) (.flat (n := 1) rfl) (.flat (n := 1) rfl)) rfl (sensors_nil _ s sc x y z ex me)
    · have hs : [Value.slice sa sn sk] = [.slice (some a) 0 k] := hs
      rw [List.cons.inj hs |>.1]
      obtain ⟨H', own'⟩ := ext_dead H own
      exact of_callA H' (globs_upd G (Nat.le_refl _) _) own' (arel_three (.flat (n := 1) rfl) (vrel_dead (Rho.upd_same _ _ _) a k) (.flat (n := 1) rfl)) rfl (sensors_emp _ s sc x y z ex me k)
    · have hs : [Value.slice sa sn sk] = [.slice (some ⟨b, off, none⟩) l.length k] := hs
      rw [List.cons.inj hs |>.1]
      have hfl : (l.map gf).all (flat 3) = true := by
        rw [List.all_eq_true]
        intro y hy
        obtain ⟨z, _, rfl⟩ := List.mem_map.1 hy
        rfl
      obtain ⟨H', own'⟩ := ext_live H own hw hc (by rw [List.length_map]; exact hl) hfl
      have hm : maxLen ≤ 9223372036854775807 := by decide
      exact of_callA H' (globs_upd G (Nat.le_refl _) _) own' (arel_three (.flat (n := 1) rfl) (vrel_live (Rho.upd_same _ _ _) lk) (.flat (n := 1) rfl)) rfl (sensors_full _ s sc x y z ex me l k el l0 (by omega) lk)
  refine call.mono fun e W' ⟨he, hb⟩ => ?_
  subst he
  exact ⟨_, rfl, post_true laidOut (fun t ht => by
    rw [Tryz.params4] at ht
    simp only [List.mem_cons, List.not_mem_nil, or_false] at ht
    rcases ht with rfl | rfl | rfl <;> exact ⟨by kernel_rfl, of_decide_eq_true (by kernel_rfl)⟩) (by kernel_rfl) uBool rfl rfl rfl rfl hW hb⟩

theorem sensors_laid (os : Os) : laidMet Tryz.prog Rows.channelSensorsRow.laid ((laidWorld os).forCall (fun _ _ => 0) ⟨#[], #[.agg #[.string ⟨#[]⟩, .int .i64 0, .int .i64 0, .int .i64 0], .slice none 0 0, .agg #[.int .i64 0, .int .i64 0, .int .i64 0]], []⟩).memory :=
  laidMet_of_run' 8 (by kernel_rfl) (by kernel_rfl)
theorem sensors_reads (os : Os) {H : Type} (enc : TypeId × Value → H) : ∃ places, DataW.whole enc Tryz.prog ((laidWorld os).forCall (fun _ _ => 0) ⟨#[], #[.agg #[.string ⟨#[]⟩, .int .i64 0, .int .i64 0, .int .i64 0], .slice none 0 0, .agg #[.int .i64 0, .int .i64 0, .int .i64 0]], []⟩).memory Tryz.f4.params.toList Rows.channelSensorsSpec.vars false
    #[Value.agg #[.string ⟨#[]⟩, .int .i64 0, .int .i64 0, .int .i64 0], .slice none 0 0, .agg #[.int .i64 0, .int .i64 0, .int .i64 0]].toList 8 = some ([.agg [.lit (.string []), .lit (.int .i64 0), .agg [.lit (.int .i64 0), .lit (.int .i64 0)]], .nil, .agg [.lit (.int .i64 0), .lit (.int .i64 0), .lit (.int .i64 0)]], [], places) :=
  ⟨[], by kernel_rfl⟩
set_option maxRecDepth 100000 in
theorem sensors_lifted (os : Os) (started : os.Started) (H : Type) (enc : TypeId × Value → H) (F : Stop.Interp) :
    ReturnsInHanded {} Tryz.checked os 4 .any ((OpenSpec.ofChange Rows.channelSensorsSpec).preRow enc Tryz.prog Tryz.f4 Rows.channelSensorsRow.domain false Rows.channelSensorsRow.laid) (((OpenSpec.ofChange Rows.channelSensorsSpec).at F).post enc Tryz.prog Tryz.f4 false true false false) := by
  obtain ⟨places, hx⟩ := sensors_reads os enc
  refine returnsInHanded_of_row (C := Tryz.checked) (s := OpenSpec.ofChange Rows.channelSensorsSpec) own started (by kernel_rfl) Tryz.func4
    (witness_row_at (enc := enc) (C := Tryz.checked) false (laidWorld os) #[.agg #[.string ⟨#[]⟩, .int .i64 0, .int .i64 0, .int .i64 0], .slice none 0 0, .agg #[.int .i64 0, .int .i64 0, .int .i64 0]] rfl (by kernel_rfl) (by kernel_rfl) (by kernel_rfl)
      (OpenSpec.preRow_of_cond 8 hx (by kernel_rfl) (fun k hk => by cases hk) (by kernel_rfl) (sensors_laid os))) ?_
  intro W base args ds gs before hval hW _ _ _ hL _ _
  exact sensors_contract H enc W base args ds gs before hval hW hL
theorem sensors_said : Rows.ChannelSensorsSaid :=
  OpenClaim.holds_of_cond 4 Tryz.f4 rfl rfl rfl rfl rfl rfl rfl ⟨rfl, rfl, rfl, rfl, rfl⟩ rfl rfl rfl rfl rfl (by kernel_rfl) Tryz.func4 (by kernel_rfl)
    (of_decide_eq_true (by kernel_rfl)) (by unfold Func.isWrapper; first | (rw [if_pos (by decide +kernel)]; kernel_rfl) | (rw [if_neg (by decide +kernel)]; exact ⟨rfl, rfl⟩))
    (fun os started H enc _ F => by rw [OpenClaim.pre_eq_preRow]; exact sensors_lifted os started H enc F)
theorem sensors_plain (f : FuncId) (fn : Func) (hf : Tryz.pinned.checked.prog.funcNamed "crumple/crumplelaw02.ChannelSensors" = some f) (hfn : Tryz.pinned.checked.prog.funcs[f]? = some fn) :
    false = Tryz.pinned.checked.prog.looks [] ∧ ∀ (j : Nat) t, fn.params[j]? = some t → Tryz.pinned.checked.prog.wantsStandIn t = false := by
  obtain rfl : f = 4 := Option.some.inj ((show Tryz.prog.funcNamed "crumple/crumplelaw02.ChannelSensors" = some 4 by kernel_rfl).symm.trans hf) |>.symm
  obtain rfl : fn = Tryz.f4 := (Option.some.inj (Tryz.func4.symm.trans hfn)).symm
  refine ⟨by kernel_rfl, fun j t ht => ?_⟩
  rw [Tryz.params4] at ht
  have hm := Array.mem_of_getElem? ht
  simp only [List.mem_toArray, List.mem_cons, List.not_mem_nil, or_false] at hm
  rcases hm with rfl | rfl | rfl
  · exact (show Tryz.prog.wantsStandIn 40 = false by kernel_rfl)
  · exact (show Tryz.prog.wantsStandIn 41 = false by kernel_rfl)
  · exact (show Tryz.prog.wantsStandIn 43 = false by kernel_rfl)
/-- ████ THE CARD ████ -/
theorem channelSensors_holds : Rows.ChannelSensorsCardSaid :=
  Claim7.holds_tied_plain_at .later [] _ _ _ _ sensors_said (fun _ h => by cases h) (by kernel_rfl) (fun _ h => by cases h) channelSensors_row_tie rfl ⟨rfl, rfl⟩ (by kernel_rfl) rfl sensors_plain (by kernel_rfl)
#print axioms channelSensors_holds
end Go.Proofs.YtojfhklkcelblaaGreatDoor
