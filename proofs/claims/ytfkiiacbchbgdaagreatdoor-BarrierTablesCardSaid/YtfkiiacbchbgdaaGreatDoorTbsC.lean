/-
  OWN WORK. BarrierTables returns true for all tows, tables and cells, and leaves its arguments as they were: its card.
  Conditions: those of the card itself (the listed variables read as the program's text lays them).
-/
import Derived.Test.YtfkiiacbchbgdaaGreatDoorBrg4
import Derived.Test.YtfkiiacbchbgdaaGreatDoorTbHI
namespace Go.Proofs.YtfkiiacbchbgdaaGreatDoor
open Go Go.Am Go.ChangeShapes Go.WideShapes Go.ChangeAt Go.RowKit

theorem uIs : Tryz.prog.underlying 22 = some (.slice 3) := by kernel_rfl
theorem cIs : Tryz.prog.cellsOf 22 = 1 := by kernel_rfl
theorem cTow : Tryz.prog.cellsOf 26 = 6 := by kernel_rfl
theorem cIvl : Tryz.prog.cellsOf 24 = 2 := by kernel_rfl
theorem arel_thr {ρ : Rho} {a b a' b' : Value} (x : Int) (h1 : VRel ρ a a') (h2 : VRel ρ b b') : ARel (VRel ρ) #[a, b, gi x] #[a', b', gi x] := by
  refine ⟨rfl, fun i u y hx hy => ?_⟩
  match i, hx, hy with
  | 0, hx, hy => cases hx; cases hy; exact h1
  | 1, hx, hy => cases hx; cases hy; exact h2
  | 2, hx, hy => cases hx; cases hy; exact .flat (n := 1) rfl
theorem vtow {ρ : Rho} {c c' : Value} (a b e d w : Int) (h : VRel ρ c c') : VRel ρ (.agg #[c, gi a, gi b, gi e, gi d, gi w]) (.agg #[c', gi a, gi b, gi e, gi d, gi w]) := by
  refine .fold ⟨_, rfl, ⟨rfl, fun i x y hx hy => ?_⟩⟩
  match i, hx, hy with
  | 0, hx, hy => cases hx; cases hy; exact h
  | 1, hx, hy => cases hx; cases hy; exact .flat (n := 1) rfl
  | 2, hx, hy => cases hx; cases hy; exact .flat (n := 1) rfl
  | 3, hx, hy => cases hx; cases hy; exact .flat (n := 1) rfl
  | 4, hx, hy => cases hx; cases hy; exact .flat (n := 1) rfl
  | 5, hx, hy => cases hx; cases hy; exact .flat (n := 1) rfl
section
variable {H : Type} {enc : TypeId × Value → H} {W : World} {base : Nat} {sp : Nat → Bool} {held : Bool}
theorem trod_i (m : Nat) (v : Value) (y : DataW H × List MemPlace) (h : DataW.trod enc Tryz.prog W base sp held m 3 [v] = some y) : ∃ z, v = gi z := by
  obtain ⟨a, ea, _, _⟩ := DataW.trod_int uInt h
  exact ⟨a, by simpa using ea⟩
set_option maxRecDepth 100000 in
theorem trod_ivl (m : Nat) (c0 c1 : Value) (y : DataW H × List MemPlace) (h : DataW.trod enc Tryz.prog W base sp held m 24 [c0, c1] = some y) : ∃ a b : Int, c0 = gi a ∧ c1 = gi b := by
  obtain ⟨xs, m', _, _, _, hn, hi⟩ := DataW.trod_struct Tryz.underlying24 h
  match xs, hn with
  | [x0, x1], _ =>
  have h0 : DataW.trod enc Tryz.prog W base sp held m' 3 (([c0, c1].drop 0).take (Tryz.prog.cellsOf 3)) = some x0 := hi 0 _ rfl
  have h1 : DataW.trod enc Tryz.prog W base sp held m' 3 (([c0, c1].drop 1).take (Tryz.prog.cellsOf 3)) = some x1 := hi 1 _ rfl
  rw [cInt] at h0 h1
  obtain ⟨a, ea, _, _⟩ := DataW.trod_int uInt h0
  obtain ⟨b, eb, _, _⟩ := DataW.trod_int uInt h1
  simp at ea eb
  exact ⟨a, b, ea, eb⟩
set_option maxRecDepth 100000 in
theorem openTw {v : Value} {d : DataW H} {ps : List MemPlace} {r : Reach} {b0 : Nat} (hval : Value.okWide Tryz.prog W r b0 26 v) (hd : DataW.Trod enc Tryz.prog W base sp held 26 v d ps) :
    ∃ (c0 : Value) (a b e d w : Int) (m : Nat) (x0 : DataW H × List MemPlace), v = .agg #[c0, gi a, gi b, gi e, gi d, gi w] ∧ DataW.trod enc Tryz.prog W base sp held m 22 [c0] = some x0 := by
  simp only [Value.okWide, Tryz.underlying26] at hval
  obtain ⟨cs, rfl, hs, _⟩ := hval
  rw [cTow] at hs
  obtain ⟨l⟩ := cs
  match l, hs with
  | [c0, c1, c2, c3, c4, c5], _ =>
  obtain ⟨fuel, hf⟩ := hd
  obtain ⟨xs, m, _, _, _, hn, hi⟩ := DataW.trod_struct Tryz.underlying26 hf
  match xs, hn with
  | [x0, x1, x2, x3], _ =>
  have h0 : DataW.trod enc Tryz.prog W base sp held m 22 (([c0, c1, c2, c3, c4, c5].drop 0).take (Tryz.prog.cellsOf 22)) = some x0 := hi 0 _ rfl
  have h1 : DataW.trod enc Tryz.prog W base sp held m 24 (([c0, c1, c2, c3, c4, c5].drop 1).take (Tryz.prog.cellsOf 24)) = some x1 := hi 1 _ rfl
  have h2 : DataW.trod enc Tryz.prog W base sp held m 24 (([c0, c1, c2, c3, c4, c5].drop 3).take (Tryz.prog.cellsOf 24)) = some x2 := hi 2 _ rfl
  have h3 : DataW.trod enc Tryz.prog W base sp held m 3 (([c0, c1, c2, c3, c4, c5].drop 5).take (Tryz.prog.cellsOf 3)) = some x3 := hi 3 _ rfl
  rw [cIs] at h0
  rw [cIvl] at h1 h2
  rw [cInt] at h3
  obtain ⟨a, b, ea, eb⟩ := trod_ivl m c1 c2 x1 h1
  obtain ⟨e, d, ee, ed⟩ := trod_ivl m c3 c4 x2 h2
  obtain ⟨w, ew, _, _⟩ := DataW.trod_int uInt h3
  simp at ew
  exact ⟨c0, a, b, e, d, w, m, x0, by rw [ea, eb, ee, ed, ew], h0⟩
end
set_option maxRecDepth 100000 in
theorem TbsC_contract (H : Type) (enc : TypeId × Value → H) (W : World) (base : Nat) (args : Array Value) (ds gs : List (DataW H)) (before : List MemPlace)
    (hval : ∀ (j : Nat) t v, Tryz.f4.params[j]? = some t → args[j]? = some v → Value.okWide Tryz.prog W .any base t v)
    (hW : DataW.Whole enc Tryz.prog Tryz.f4.params.toList Rows.barrierTablesSpec.vars false W args.toList ds gs before) (hL : laidMetH Tryz.prog Rows.barrierTablesRow.laid W) :
    Calls Tryz.prog 4 args W fun e W' => ∃ v, e = .returned v ∧ Rows.barrierTablesSpec.post enc Tryz.prog Tryz.f4 false true false false W args v W' := by
  have hW' := hW
  obtain ⟨p, q, hA0, hV, rfl, hfz, hnd⟩ := hW'
  have hA : DataW.TrodAll enc Tryz.prog W 0 (fun _ => true) true Tryz.f4.params.toList args.toList ds p := hA0
  rw [Tryz.params4] at hA hval
  obtain ⟨v0, vs0, d0, ds0, p0, q0, hargs0, rfl, rfl, h0, r0⟩ := trodAll_cons hA
  obtain ⟨v1, vs1, d1, ds1, p1, q1, hargs1, rfl, rfl, h1, r1⟩ := trodAll_cons r0
  obtain ⟨v2, vs2, d2, ds2, p2, q2, hargs2, rfl, rfl, h2, r2⟩ := trodAll_cons r1
  obtain ⟨rfl, rfl, rfl⟩ := trodAll_nil r2
  obtain rfl : args = #[v0, v1, v2] := by cases args; simp_all
  obtain ⟨rfl, rfl⟩ := trodVars_none hV
  obtain ⟨c0, xa, xb, xe, xd, xw, fuel, x0, rfl, hf⟩ := openTw (hval 0 _ v0 rfl rfl) h0
  obtain ⟨ta, tn, tk, rfl⟩ := okWide_slice uIs (hval 1 _ v1 rfl rfl)
  obtain ⟨fuel1, hf1⟩ := h1
  obtain ⟨xx, rfl⟩ := okWide_int uInt (hval 2 _ v2 rfl rfl)
  have hT := holds_tabs4 hL (.tail _ (.tail _ (.tail _ (.tail _ (.head _))))) (.tail _ (.tail _ (.head _)))
  obtain ⟨H, G, own⟩ := start0 hT tabs4_flat
  have call : Calls Tryz.prog 4 #[.agg #[c0, gi xa, gi xb, gi xe, gi xd, gi xw], .slice ta tn tk, gi xx] W (fun e w' => e = .returned (.bool true) ∧ RowKit.Below W.heap.size W w') := by
    rcases slice_shapes uIs cInt gi trod_i hf with hs | ⟨a, k, hs⟩ | ⟨b, off, k, l, c', el, fr, hs, l0, lk, km, hw, hl, hc⟩
    · rw [(List.cons.inj hs).1]
      rcases slice_shapes uIs cInt gi trod_i hf1 with hs1 | ⟨a1, k1, hs1⟩ | ⟨b1, off1, k1, s1, c1, el1, fr1, hs1, s0, sk1, km1, hw1, hl1, hc1⟩
      · have hs1 : [Value.slice ta tn tk] = [.slice none 0 0] := hs1
        rw [List.cons.inj hs1 |>.1]
        exact of_callA H G own (arel_thr xx (vtow _ _ _ _ _ (.flat (n := 1) rfl)) (.flat (n := 1) rfl)) rfl (tab_nn _ xa xb xe xd xw xx)
      · have hs1 : [Value.slice ta tn tk] = [.slice (some a1) 0 k1] := hs1
        rw [List.cons.inj hs1 |>.1]
        obtain ⟨H2, own2⟩ := ext_dead H own
        exact of_callA H2 (globs_upd G (Nat.le_refl _) _) own2 (arel_thr xx (vtow _ _ _ _ _ (.flat (n := 1) rfl)) (vrel_dead (Rho.upd_same _ _ _) a1 k1)) rfl (tab_ne _ xa xb xe xd xw xx k1)
      · have hs1 : [Value.slice ta tn tk] = [.slice (some ⟨b1, off1, none⟩) s1.length k1] := hs1
        rw [List.cons.inj hs1 |>.1]
        obtain ⟨H2, own2⟩ := ext_live H own hw1 hc1 (by rw [List.length_map]; exact hl1) (flat_ints s1)
        exact of_callA H2 (globs_upd G (Nat.le_refl _) _) own2 (arel_thr xx (vtow _ _ _ _ _ (.flat (n := 1) rfl)) (vrel_live (Rho.upd_same _ _ _) sk1)) rfl (tab_nf _ xa xb xe xd xw xx s1 k1 el1 _ s0)
    · rw [(List.cons.inj hs).1]
      obtain ⟨H', own'⟩ := ext_dead H own
      rcases slice_shapes uIs cInt gi trod_i hf1 with hs1 | ⟨a1, k1, hs1⟩ | ⟨b1, off1, k1, s1, c1, el1, fr1, hs1, s0, sk1, km1, hw1, hl1, hc1⟩
      · have hs1 : [Value.slice ta tn tk] = [.slice none 0 0] := hs1
        rw [List.cons.inj hs1 |>.1]
        exact of_callA H' (globs_upd G (Nat.le_refl _) _) own' (arel_thr xx (vtow _ _ _ _ _ (vrel_dead (Rho.upd_same _ _ _) a k)) (.flat (n := 1) rfl)) rfl (tab_en _ xa xb xe xd xw xx k)
      · have hs1 : [Value.slice ta tn tk] = [.slice (some a1) 0 k1] := hs1
        rw [List.cons.inj hs1 |>.1]
        obtain ⟨H2, own2⟩ := ext_dead H' own'
        exact of_callA H2 (globs_upd (globs_upd G (Nat.le_refl _) _) (Nat.le_succ _) _) own2 (arel_thr xx (vtow _ _ _ _ _ (VRel.mono (Rho.le_born (H'.bound _ (Nat.le_refl _))) (vrel_dead (Rho.upd_same _ _ _) a k))) (vrel_dead (Rho.upd_same _ _ _) a1 k1)) rfl (tab_ee _ xa xb xe xd xw xx k k1)
      · have hs1 : [Value.slice ta tn tk] = [.slice (some ⟨b1, off1, none⟩) s1.length k1] := hs1
        rw [List.cons.inj hs1 |>.1]
        obtain ⟨H2, own2⟩ := ext_live H' own' hw1 hc1 (by rw [List.length_map]; exact hl1) (flat_ints s1)
        exact of_callA H2 (globs_upd (globs_upd G (Nat.le_refl _) _) (Nat.le_succ _) _) own2 (arel_thr xx (vtow _ _ _ _ _ (VRel.mono (Rho.le_born (H'.bound _ (Nat.le_refl _))) (vrel_dead (Rho.upd_same _ _ _) a k))) (vrel_live (Rho.upd_same _ _ _) sk1)) rfl (tab_ef _ xa xb xe xd xw xx k s1 k1 el1 _ s0)
    · rw [(List.cons.inj hs).1]
      obtain ⟨H', own'⟩ := ext_live H own hw hc (by rw [List.length_map]; exact hl) (flat_ints l)
      rcases slice_shapes uIs cInt gi trod_i hf1 with hs1 | ⟨a1, k1, hs1⟩ | ⟨b1, off1, k1, s1, c1, el1, fr1, hs1, s0, sk1, km1, hw1, hl1, hc1⟩
      · have hs1 : [Value.slice ta tn tk] = [.slice none 0 0] := hs1
        rw [List.cons.inj hs1 |>.1]
        exact of_callA H' (globs_upd G (Nat.le_refl _) _) own' (arel_thr xx (vtow _ _ _ _ _ (vrel_live (Rho.upd_same _ _ _) lk)) (.flat (n := 1) rfl)) rfl (tab_fn _ xa xb xe xd xw xx l k el _ l0)
      · have hs1 : [Value.slice ta tn tk] = [.slice (some a1) 0 k1] := hs1
        rw [List.cons.inj hs1 |>.1]
        obtain ⟨H2, own2⟩ := ext_dead H' own'
        exact of_callA H2 (globs_upd (globs_upd G (Nat.le_refl _) _) (Nat.le_succ _) _) own2 (arel_thr xx (vtow _ _ _ _ _ (VRel.mono (Rho.le_born (H'.bound _ (Nat.le_refl _))) (vrel_live (Rho.upd_same _ _ _) lk))) (vrel_dead (Rho.upd_same _ _ _) a1 k1)) rfl (tab_fe _ xa xb xe xd xw xx l k el _ k1 l0)
      · have hs1 : [Value.slice ta tn tk] = [.slice (some ⟨b1, off1, none⟩) s1.length k1] := hs1
        rw [List.cons.inj hs1 |>.1]
        obtain ⟨H2, own2⟩ := ext_live H' own' hw1 hc1 (by rw [List.length_map]; exact hl1) (flat_ints s1)
        exact of_callA H2 (globs_upd (globs_upd G (Nat.le_refl _) _) (Nat.le_succ _) _) own2 (arel_thr xx (vtow _ _ _ _ _ (VRel.mono (Rho.le_born (H'.bound _ (Nat.le_refl _))) (vrel_live (Rho.upd_same _ _ _) lk))) (vrel_live (Rho.upd_same _ _ _) sk1)) rfl (tab_ff _ xa xb xe xd xw xx l k el _ s1 k1 el1 _ l0 s0)
  refine call.mono fun e W' ⟨he, hb⟩ => ?_
  subst he
  exact ⟨_, rfl, post_true laidOut (fun t ht => by
    rw [Tryz.params4] at ht
    simp only [List.mem_cons, List.not_mem_nil, or_false] at ht
    rcases ht with rfl | rfl | rfl <;> exact ⟨by kernel_rfl, of_decide_eq_true (by kernel_rfl)⟩) (by kernel_rfl) uBool rfl rfl rfl rfl hW hb⟩
theorem TbsC_laid (os : Os) : laidMet Tryz.prog Rows.barrierTablesRow.laid ((laidWorld os).forCall (fun _ _ => 0) ⟨#[], #[.agg #[.slice none 0 0, .int .i64 0, .int .i64 0, .int .i64 0, .int .i64 0, .int .i64 0], .slice none 0 0, .int .i64 0], []⟩).memory :=
  laidMet_of_run' 8 (by kernel_rfl) (by kernel_rfl)
theorem TbsC_reads (os : Os) {H : Type} (enc : TypeId × Value → H) : ∃ places, DataW.whole enc Tryz.prog ((laidWorld os).forCall (fun _ _ => 0) ⟨#[], #[.agg #[.slice none 0 0, .int .i64 0, .int .i64 0, .int .i64 0, .int .i64 0, .int .i64 0], .slice none 0 0, .int .i64 0], []⟩).memory Tryz.f4.params.toList Rows.barrierTablesSpec.vars false
    (#[.agg #[.slice none 0 0, .int .i64 0, .int .i64 0, .int .i64 0, .int .i64 0, .int .i64 0], .slice none 0 0, .int .i64 0] : Array Value).toList 8 = some ([.agg [.nil, .agg [.lit (.int .i64 0), .lit (.int .i64 0)], .agg [.lit (.int .i64 0), .lit (.int .i64 0)], .lit (.int .i64 0)], .nil, .lit (.int .i64 0)], [], places) :=
  ⟨[], by kernel_rfl⟩
set_option maxRecDepth 100000 in
theorem TbsC_lifted (os : Os) (started : os.Started) (H : Type) (enc : TypeId × Value → H) (F : Stop.Interp) :
    ReturnsInHanded {} Tryz.checked os 4 .any ((OpenSpec.ofChange Rows.barrierTablesSpec).preRow enc Tryz.prog Tryz.f4 Rows.barrierTablesRow.domain false Rows.barrierTablesRow.laid) (((OpenSpec.ofChange Rows.barrierTablesSpec).at F).post enc Tryz.prog Tryz.f4 false true false false) := by
  obtain ⟨places, hx⟩ := TbsC_reads os enc
  refine returnsInHanded_of_row (C := Tryz.checked) (s := OpenSpec.ofChange Rows.barrierTablesSpec) own started (by kernel_rfl) Tryz.func4
    (witness_row_at (enc := enc) (C := Tryz.checked) false (laidWorld os) #[.agg #[.slice none 0 0, .int .i64 0, .int .i64 0, .int .i64 0, .int .i64 0, .int .i64 0], .slice none 0 0, .int .i64 0] rfl (by kernel_rfl) (by kernel_rfl) (by kernel_rfl)
      (OpenSpec.preRow_of_cond 8 hx (by kernel_rfl) (fun k hk => by cases hk) (by kernel_rfl) (TbsC_laid os))) ?_
  intro W base args ds gs before hval hW _ _ _ hL _ _
  exact TbsC_contract H enc W base args ds gs before hval hW hL
theorem TbsC_said : Rows.BarrierTablesSaid :=
  OpenClaim.holds_of_cond 4 Tryz.f4 rfl rfl rfl rfl rfl rfl rfl ⟨rfl, rfl, rfl, rfl, rfl⟩ rfl rfl rfl rfl rfl (by kernel_rfl) Tryz.func4 (by kernel_rfl)
    (of_decide_eq_true (by kernel_rfl)) (by unfold Func.isWrapper; first | (rw [if_pos (by decide +kernel)]; kernel_rfl) | (rw [if_neg (by decide +kernel)]; exact ⟨rfl, rfl⟩))
    (fun os started H enc _ F => by rw [OpenClaim.pre_eq_preRow]; exact TbsC_lifted os started H enc F)
theorem TbsC_plain (f : FuncId) (fn : Func) (hf : Tryz.pinned.checked.prog.funcNamed "crumple/crumplelaw04.BarrierTables" = some f) (hfn : Tryz.pinned.checked.prog.funcs[f]? = some fn) :
    false = Tryz.pinned.checked.prog.looks [] ∧ ∀ (j : Nat) t, fn.params[j]? = some t → Tryz.pinned.checked.prog.wantsStandIn t = false := by
  obtain rfl : f = 4 := Option.some.inj ((show Tryz.prog.funcNamed "crumple/crumplelaw04.BarrierTables" = some 4 by kernel_rfl).symm.trans hf) |>.symm
  obtain rfl : fn = Tryz.f4 := (Option.some.inj (Tryz.func4.symm.trans hfn)).symm
  refine ⟨by kernel_rfl, fun j t ht => ?_⟩
  rw [Tryz.params4] at ht
  have hm := Array.mem_of_getElem? ht
  simp only [List.mem_toArray, List.mem_cons, List.not_mem_nil, or_false] at hm
  rcases hm with rfl | rfl | rfl
  · exact (show Tryz.prog.wantsStandIn 26 = false by kernel_rfl)
  · exact (show Tryz.prog.wantsStandIn 22 = false by kernel_rfl)
  · exact (show Tryz.prog.wantsStandIn 3 = false by kernel_rfl)
/-- THE CARD -/
theorem barrierTables_holds : Rows.BarrierTablesCardSaid :=
  Claim7.holds_tied_plain_at .later [] _ _ _ _ TbsC_said (fun _ h => by cases h) (by kernel_rfl) (fun _ h => by cases h) barrierTables_row_tie rfl ⟨rfl, rfl⟩ (by kernel_rfl) rfl TbsC_plain (by kernel_rfl)
#print axioms barrierTables_holds
end Go.Proofs.YtfkiiacbchbgdaaGreatDoor
