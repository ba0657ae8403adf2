/-
  OWN WORK. ChannelValues returns true for all values, and leaves its argument as it was: its card.
  Conditions: those of the card itself (the listed variables read as the program's text lays them).
-/
import Derived.Test.YtcifkiinilaglaaGreatDoorBrg2
import Derived.Test.YtcifkiinilaglaaGreatDoorAm20
import Derived.Test.YtcifkiinilaglaaGreatDoorVbB
namespace Go.Proofs.YtcifkiinilaglaaGreatDoor
open Go Go.Am Go.ChangeShapes Go.WideShapes Go.ChangeAt Go.RowKit

theorem uVs : Tryz.prog.underlying 54 = some (.slice 108) := by kernel_rfl
theorem cVal : Tryz.prog.cellsOf 108 = 4 := by kernel_rfl
theorem arel_one {ρ : Rho} {a a' : Value} (h1 : VRel ρ a a') : ARel (VRel ρ) #[a] #[a'] := by
  refine ⟨rfl, fun i x y hx hy => ?_⟩
  match i, hx, hy with
  | 0, hx, hy => cases hx; cases hy; exact h1
theorem cellsQ_map : ∀ l : List Q4, l.flatMap q4 = cellsQ l
  | [] => rfl
  | q :: l => by rw [List.flatMap_cons, cellsQ_map l]; rfl
set_option maxRecDepth 100000 in
theorem trod_val {H : Type} {enc : TypeId × Value → H} {W : World} {base : Nat} {sp : Nat → Bool} {held : Bool} (m : Nat) (vs : List Value) (y : DataW H × List MemPlace) (hl : vs.length = 4) (h : DataW.trod enc Tryz.prog W base sp held m 108 vs = some y) : ∃ z : Q4, vs = q4 z := by
  match vs, hl with
  | [c0, c1, c2, c3], _ =>
  obtain ⟨xs, m', _, _, _, hn, hi⟩ := DataW.trod_struct Tryz.underlying108 h
  match xs, hn with
  | [x0, x1, x2, x3], _ =>
  have h0 : DataW.trod enc Tryz.prog W base sp held m' 3 (([c0, c1, c2, c3].drop 0).take (Tryz.prog.cellsOf 3)) = some x0 := hi 0 _ rfl
  have h1 : DataW.trod enc Tryz.prog W base sp held m' 3 (([c0, c1, c2, c3].drop 1).take (Tryz.prog.cellsOf 3)) = some x1 := hi 1 _ rfl
  have h2 : DataW.trod enc Tryz.prog W base sp held m' 4 (([c0, c1, c2, c3].drop 2).take (Tryz.prog.cellsOf 4)) = some x2 := hi 2 _ rfl
  have h3 : DataW.trod enc Tryz.prog W base sp held m' 4 (([c0, c1, c2, c3].drop 3).take (Tryz.prog.cellsOf 4)) = some x3 := hi 3 _ rfl
  have cBool : Tryz.prog.cellsOf 4 = 1 := by kernel_rfl
  rw [cInt] at h0 h1
  rw [cBool] at h2 h3
  obtain ⟨a, ea, _, _⟩ := DataW.trod_int uInt h0
  obtain ⟨b, eb, _, _⟩ := DataW.trod_int uInt h1
  obtain ⟨c, ec, _⟩ := DataW.trod_bool uBool h2
  obtain ⟨d, ed, _⟩ := DataW.trod_bool uBool h3
  simp at ea eb ec ed
  exact ⟨(a, b, c, d), by rw [ea, eb, ec, ed]; rfl⟩
set_option maxRecDepth 100000 in
theorem values_contract (H : Type) (enc : TypeId × Value → H) (W : World) (base : Nat) (args : Array Value) (ds gs : List (DataW H)) (before : List MemPlace)
    (hval : ∀ (j : Nat) t v, Tryz.f5.params[j]? = some t → args[j]? = some v → Value.okWide Tryz.prog W .any base t v)
    (hW : DataW.Whole enc Tryz.prog Tryz.f5.params.toList Rows.channelValuesSpec.vars false W args.toList ds gs before) (hL : laidMetH Tryz.prog Rows.channelValuesRow.laid W) :
    Calls Tryz.prog 5 args W fun e W' => ∃ v, e = .returned v ∧ Rows.channelValuesSpec.post enc Tryz.prog Tryz.f5 false true false false W args v W' := by
  have hW' := hW
  obtain ⟨p, q, hA0, hV, rfl, hfz, hnd⟩ := hW'
  have hA : DataW.TrodAll enc Tryz.prog W 0 (fun _ => true) true Tryz.f5.params.toList args.toList ds p := hA0
  rw [Tryz.params5] at hA hval
  obtain ⟨v0, vs0, d0, ds0, p0, q0, hargs, rfl, rfl, h0, r0⟩ := trodAll_cons hA
  obtain ⟨rfl, rfl, rfl⟩ := trodAll_nil r0
  obtain rfl : args = #[v0] := by cases args; simp_all
  obtain ⟨rfl, rfl⟩ := trodVars_none hV
  obtain ⟨sa, sn, sk, rfl⟩ := okWide_slice uVs (hval 0 _ v0 rfl rfl)
  obtain ⟨fuel, hf⟩ := h0
  have hT := holds_tabs2 hL (.tail _ (.tail _ (.tail _ (.head _)))) (.tail _ (.tail _ (.head _)))
  obtain ⟨H, G, own⟩ := start0 hT tabs2_flat
  have call : Calls Tryz.prog 5 #[.slice sa sn sk] W (fun e w' => e = .returned (.bool true) ∧ RowKit.Below W.heap.size W w') := by
    rcases wide_shapes uVs cVal (by omega) q4 (fun _ => rfl) trod_val hf with hs | ⟨a, k, hs⟩ | ⟨b, off, k, l, c', el, fr, hs, l0, lk, km, hw, hl, hc⟩
    · have hs : [Value.slice sa sn sk] = [.slice none 0 0] := hs
      rw [List.cons.inj hs |>.1]
      exact of_callA H G own (arel_one (.flat (n := 1) rfl)) rfl (values_nil _)
    · have hs : [Value.slice sa sn sk] = [.slice (some a) 0 k] := hs
      rw [List.cons.inj hs |>.1]
      obtain ⟨H', own'⟩ := ext_dead H own
      exact of_callA H' (globs_upd G (Nat.le_refl _) _) own' (arel_one (vrel_dead (Rho.upd_same _ _ _) a k)) rfl (values_emp _ k)
    · have hs : [Value.slice sa sn sk] = [.slice (some ⟨b, off, none⟩) l.length k] := hs
      rw [List.cons.inj hs |>.1]
      rw [cellsQ_map] at hl hc
      obtain ⟨H', own'⟩ := ext_live H own hw hc hl (cellsQ_flat l)
      exact of_callA H' (globs_upd G (Nat.le_refl _) _) own' (arel_one (vrel_live (Rho.upd_same _ _ _) lk)) rfl (values_full _ l k el 0 l0)
  refine call.mono fun e W' ⟨he, hb⟩ => ?_
  subst he
  exact ⟨_, rfl, post_true laidOut (fun t ht => by
    rw [Tryz.params5] at ht
    simp only [List.mem_cons, List.not_mem_nil, or_false] at ht
    subst ht
    exact ⟨by kernel_rfl, of_decide_eq_true (by kernel_rfl)⟩) (by kernel_rfl) uBool rfl rfl rfl rfl hW hb⟩

theorem values_laid (os : Os) : laidMet Tryz.prog Rows.channelValuesRow.laid ((laidWorld os).forCall (fun _ _ => 0) ⟨#[], #[.slice none 0 0], []⟩).memory :=
  laidMet_of_run' 8 (by kernel_rfl) (by kernel_rfl)
theorem values_reads (os : Os) {H : Type} (enc : TypeId × Value → H) : ∃ places, DataW.whole enc Tryz.prog ((laidWorld os).forCall (fun _ _ => 0) ⟨#[], #[.slice none 0 0], []⟩).memory Tryz.f5.params.toList Rows.channelValuesSpec.vars false
    #[Value.slice none 0 0].toList 8 = some ([.nil], [], places) :=
  ⟨[], by kernel_rfl⟩
set_option maxRecDepth 100000 in
theorem values_lifted (os : Os) (started : os.Started) (H : Type) (enc : TypeId × Value → H) (F : Stop.Interp) :
    ReturnsInHanded {} Tryz.checked os 5 .any ((OpenSpec.ofChange Rows.channelValuesSpec).preRow enc Tryz.prog Tryz.f5 Rows.channelValuesRow.domain false Rows.channelValuesRow.laid) (((OpenSpec.ofChange Rows.channelValuesSpec).at F).post enc Tryz.prog Tryz.f5 false true false false) := by
  obtain ⟨places, hx⟩ := values_reads os enc
  refine returnsInHanded_of_row (C := Tryz.checked) (s := OpenSpec.ofChange Rows.channelValuesSpec) own started (by kernel_rfl) Tryz.func5
    (witness_row_at (enc := enc) (C := Tryz.checked) false (laidWorld os) #[.slice none 0 0] rfl (by kernel_rfl) (by kernel_rfl) (by kernel_rfl)
      (OpenSpec.preRow_of_cond 8 hx (by kernel_rfl) (fun k hk => by cases hk) (by kernel_rfl) (values_laid os))) ?_
  intro W base args ds gs before hval hW _ _ _ hL _ _
  exact values_contract H enc W base args ds gs before hval hW hL
theorem values_said : Rows.ChannelValuesSaid :=
  OpenClaim.holds_of_cond 5 Tryz.f5 rfl rfl rfl rfl rfl rfl rfl ⟨rfl, rfl, rfl, rfl, rfl⟩ rfl rfl rfl rfl rfl (by kernel_rfl) Tryz.func5 (by kernel_rfl)
    (of_decide_eq_true (by kernel_rfl)) (by unfold Func.isWrapper; first | (rw [if_pos (by decide +kernel)]; kernel_rfl) | (rw [if_neg (by decide +kernel)]; exact ⟨rfl, rfl⟩))
    (fun os started H enc _ F => by rw [OpenClaim.pre_eq_preRow]; exact values_lifted os started H enc F)
theorem values_plain (f : FuncId) (fn : Func) (hf : Tryz.pinned.checked.prog.funcNamed "crumple/crumplelaw02.ChannelValues" = some f) (hfn : Tryz.pinned.checked.prog.funcs[f]? = some fn) :
    false = Tryz.pinned.checked.prog.looks [] ∧ ∀ (j : Nat) t, fn.params[j]? = some t → Tryz.pinned.checked.prog.wantsStandIn t = false := by
  obtain rfl : f = 5 := Option.some.inj ((show Tryz.prog.funcNamed "crumple/crumplelaw02.ChannelValues" = some 5 by kernel_rfl).symm.trans hf) |>.symm
  obtain rfl : fn = Tryz.f5 := (Option.some.inj (Tryz.func5.symm.trans hfn)).symm
  refine ⟨by kernel_rfl, fun j t ht => ?_⟩
  rw [Tryz.params5] at ht
  have hm := Array.mem_of_getElem? ht
  simp only [List.mem_toArray, List.mem_cons, List.not_mem_nil, or_false] at hm
  subst hm
  exact (show Tryz.prog.wantsStandIn 54 = false by kernel_rfl)
/-- ████ THE CARD ████ -/
theorem channelValues_holds : Rows.ChannelValuesCardSaid :=
  Claim7.holds_tied_plain_at .later [] _ _ _ _ values_said (fun _ h => by cases h) (by kernel_rfl) (fun _ h => by cases h) channelValues_row_tie rfl ⟨rfl, rfl⟩ (by kernel_rfl) rfl values_plain (by kernel_rfl)
#print axioms channelValues_holds
end Go.Proofs.YtcifkiinilaglaaGreatDoor
