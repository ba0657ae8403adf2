/-
  OWN WORK. Stage 6: bounds of both sides are the same; empty traces.
-/
import Derived.Test.YtihnnmejkpddeaaGreatDoorJdKL
import Derived.Test.YtihnnmejkpddeaaGreatDoorJdHJ
import Derived.Test.YtihnnmejkpddeaaGreatDoorJcY
import Derived.Test.YtihnnmejkpddeaaGreatDoorJcE2
/-! (OWN WORK. Stage 6: the reference's bounds of two traces, carried out.) -/
namespace Go.Proofs.YtihnnmejkpddeaaGreatDoor
open Go Go.Am

noncomputable abbrev rbOp (a b : List V4) : Bool := a.any opF || b.any opF
def rbOk (a b : List V4) (u v : Int) : Prop := bd0 (a.map laR4) ∧ bd0 (b.map laR4) ∧ bd0 (a.map maR4) ∧ bd0 (b.map maR4) ∧ lim1 u ∧ lim1 v
noncomputable def rbLp (a b : List V4) (u v : Int) (n e row k e' row' k' : Nat) : Loops Tryz.prog where
  body := fun _ => loopOf Tryz.prog 58 0
  spec := fun _ s h c => entry s 96 [(0, liP n k), (1, slQ n k'), (5, ptN 2), (6, ptN 3), (7, ptN 4), (8, goN 0)] (h.get (nG1 + 0) = some (.cells (cellsV a) e row true) ∧ h.get (nG1 + 1) = some (.cells (cellsV b) e' row' true) ∧ h.get (nG1 + 2) = some (.cells [gi u, gi v] 62 0 false) ∧ h.get (nG1 + 3) = some (.cells [gi 0, gi 0, gi 0, gi 0, .bool false] 98 0 false) ∧ h.get (nG1 + 4) = some (.cells [gi 0, gi 0, gi 0, gi 0, .bool false] 98 0 false) ∧ ((a.length = n ∧ b.length = n ∧ n ≤ 65536) ∧ rbOk a b u v) ∧ ∀ g, c (.exit 0) (stOf 96 [(6, ptN 3), (7, ptN 4)] g) (rbC (cellsV a) (cellsV b) e row e' row' u v (bsP (rbLo a b u v)).1 (bsP (rbHi a b u v)).1 (rbOp a b)))
  ok := fun i s h c q => by
    obtain ⟨h1, h2, h3, g0, g1, g2, g3, g4, ⟨⟨ha, hb, hs⟩, l1, l2, m1, m2, hu, hv⟩, h5⟩ := entry_facts q
    refine J.of_told (rb_loop a b u v n e row k e' row' k' ha hb hs l1 l2 m1 m2 hu hv s h (fun q b hb => ?_) h1 h2 ?_) ?_
    · match q, hb with
      | 0, hb => cases hb; exact g0
      | 1, hb => cases hb; exact g1
      | 2, hb => cases hb; exact g2
      | 3, hb => cases hb; exact g3
      | 4, hb => cases hb; exact g4
    · simp only [List.map_cons, List.map_nil]
      rw [h3 (0, liP n k) (by simp), h3 (1, slQ n k') (by simp), h3 (5, ptN 2) (by simp), h3 (6, ptN 3) (by simp), h3 (7, ptN 4) (by simp), h3 (8, goN 0) (by simp)]
      rfl
    · rintro ex vs h' g ⟨rfl, rfl, rfl⟩
      have := h5 (ov [(0, liP n k), (1, slQ n k'), (5, ptN 2), (8, goN n)] g)
      have cl : (rbLo a b u v).length = n := coL_len (by rw [List.length_map, ha]) (by rw [List.length_map, hb])
      have ch : (rbHi a b u v).length = n := coL_len (by rw [List.length_map, ha]) (by rw [List.length_map, hb])
      have e1 : roL (rbLo a b u v) n = (bsP (rbLo a b u v)).1 := by unfold roL; rw [List.take_of_length_le (by omega)]
      have e2 : roL (rbHi a b u v) n = (bsP (rbHi a b u v)).1 := by unfold roL; rw [List.take_of_length_le (by omega)]
      have e3 : opn a b n = rbOp a b := by unfold opn; rw [List.take_of_length_le (by omega), List.take_of_length_le (by omega)]
      rw [e1, e2, e3]
      exact this
theorem rb_run (a b : List V4) (u v : Int) (m e row k e' row' k' : Nat) (K : Value → Prop) : callC Tryz.prog (exec Tryz.prog orcKb 10) (syOf []) (askKb 0) (rbLp a b u v (m + 1) e row k e' row' k') 40 58 #[liP (m + 1) k, slQ (m + 1) k', .agg #[gi u, gi v]] (v2H a e row b e' row') (fun v _ => K v) = ((loopOf Tryz.prog 58 0 = loopOf Tryz.prog 58 0 ∧ liP (m + 1) k = liP (m + 1) k ∧ slQ (m + 1) k' = slQ (m + 1) k' ∧ Value.pointer (some ⟨nG1 + 2, 0, none⟩) = ptN 2 ∧ Value.pointer (some ⟨nG1 + 3, 0, none⟩) = ptN 3 ∧ Value.pointer (some ⟨nG1 + 4, 0, none⟩) = ptN 4 ∧ gi 0 = goN 0 ∧ (((((v2H a e row b e' row').push (.cells [gi u, gi v] 62 0 false)).push (.cells [gi 0, gi 0, gi 0, gi 0, Value.bool false] 98 0 false)).push (.cells [gi 0, gi 0, gi 0, gi 0, Value.bool false] 98 0 false)).set (nG1 + 4) (.cells ([] ++ ([gi 0, gi 0, gi 0, gi 0, Value.bool false] ++ [])) 98 0 false)).get (nG1) = Option.some (.cells (cellsV a) e row true) ∧ (((((v2H a e row b e' row').push (.cells [gi u, gi v] 62 0 false)).push (.cells [gi 0, gi 0, gi 0, gi 0, Value.bool false] 98 0 false)).push (.cells [gi 0, gi 0, gi 0, gi 0, Value.bool false] 98 0 false)).set (nG1 + 4) (.cells ([] ++ ([gi 0, gi 0, gi 0, gi 0, Value.bool false] ++ [])) 98 0 false)).get (nG1 + 1) = Option.some (.cells (cellsV b) e' row' true) ∧ (((((v2H a e row b e' row').push (.cells [gi u, gi v] 62 0 false)).push (.cells [gi 0, gi 0, gi 0, gi 0, Value.bool false] 98 0 false)).push (.cells [gi 0, gi 0, gi 0, gi 0, Value.bool false] 98 0 false)).set (nG1 + 4) (.cells ([] ++ ([gi 0, gi 0, gi 0, gi 0, Value.bool false] ++ [])) 98 0 false)).get (nG1 + 2) = Option.some (.cells [gi u, gi v] 62 0 false) ∧ (((((v2H a e row b e' row').push (.cells [gi u, gi v] 62 0 false)).push (.cells [gi 0, gi 0, gi 0, gi 0, Value.bool false] 98 0 false)).push (.cells [gi 0, gi 0, gi 0, gi 0, Value.bool false] 98 0 false)).set (nG1 + 4) (.cells ([] ++ ([gi 0, gi 0, gi 0, gi 0, Value.bool false] ++ [])) 98 0 false)).get (nG1 + 3) = Option.some (.cells [gi 0, gi 0, gi 0, gi 0, Value.bool false] 98 0 false) ∧ (((((v2H a e row b e' row').push (.cells [gi u, gi v] 62 0 false)).push (.cells [gi 0, gi 0, gi 0, gi 0, Value.bool false] 98 0 false)).push (.cells [gi 0, gi 0, gi 0, gi 0, Value.bool false] 98 0 false)).set (nG1 + 4) (.cells ([] ++ ([gi 0, gi 0, gi 0, gi 0, Value.bool false] ++ [])) 98 0 false)).get (nG1 + 4) = Option.some (.cells [gi 0, gi 0, gi 0, gi 0, Value.bool false] 98 0 false) ∧ ((List.length a = (m + 1) ∧ List.length b = (m + 1) ∧ ((m + 1) : Nat) ≤ 65536) ∧ rbOk a b u v) ∧ (∀ _ : Nat → Value, K (Value.agg (Array.mk (List.take 5 (List.drop 0 ([] ++ ([gi (((bsP (rbLo a b u v)).fst.1)), gi (((bsP (rbLo a b u v)).fst.2)), gi (((bsP (rbHi a b u v)).fst.1)), gi (((bsP (rbHi a b u v)).fst.2)), Value.bool (rbOp a b)] ++ []))))))))) := by kernel_rfl
end Go.Proofs.YtihnnmejkpddeaaGreatDoor
/-! (OWN WORK. Stage 6: valid traces; bounds of the program and of the reference are the same; both as known calls.) -/
namespace Go.Proofs.YtihnnmejkpddeaaGreatDoor
open Go Go.Am

def vbV (l : List V4) : Prop := ∀ q ∈ l, -16384 ≤ q.1 ∧ q.1 ≤ q.2.1 ∧ q.2.1 ≤ 16384
theorem ct_zero {q : V4} (h : ctF q = 0) : -16384 ≤ q.1 ∧ q.1 ≤ q.2.1 ∧ q.2.1 ≤ 16384 := by
  have hs := firstS_none h
  have h1 := within_zero (hs _ (.head _))
  have h2 := within_zero (hs _ (.tail _ (.head _)))
  have h3 := when_none (by decide) (hs _ (.tail _ (.tail _ (.head _))))
  rw [ilt_say] at h3
  have h3 := of_decide_eq_false h3
  omega
theorem tra_zero {l : List V4} (h : traE l = 0) : vbV l ∧ l.length ≤ 128 := by
  have hs := firstS_none h
  have h1 := hs (cnE (Int.ofNat l.length) 128) (.head _)
  have h2 := hs (firstE ctF l) (.tail _ (.head _))
  have k := firstS_none h1
  have k2 := k (whenS (ilt 128 (Int.ofNat l.length)) 5) (.tail _ (.head _))
  have k3 := when_none (by decide) k2
  rw [ilt_say] at k3
  have k3 := of_decide_eq_false k3
  refine ⟨fun x hx => ct_zero (firstE_none h2 x hx), ?_⟩
  simp only [Int.ofNat_eq_natCast] at k3
  omega
theorem pav_zero {a b : List V4} (h : pavE a b = 0) : vbV a ∧ vbV b ∧ a.length = b.length ∧ a.length ≤ 128 := by
  have hs := firstS_none h
  have h1 := tra_zero (hs (traE a) (.head _))
  have h2 := tra_zero (hs (traE b) (.tail _ (.head _)))
  have h3 := when_none (by decide) (hs _ (.tail _ (.tail _ (.head _))))
  have h3 := not_t h3
  rw [ieq_dec] at h3
  have h3 := of_decide_eq_true h3
  simp only [Int.ofNat_eq_natCast] at h3
  exact ⟨h1.1, h2.1, by omega, h1.2⟩
theorem mx3_is (x y : Int) : 0 ≤ mx3 x y ∧ x ≤ mx3 x y ∧ y ≤ mx3 x y ∧ (mx3 x y = 0 ∨ mx3 x y = x ∨ mx3 x y = y) := by
  unfold mx3
  split <;> split <;> omega
theorem la_same {q : V4} (h : -16384 ≤ q.1 ∧ q.1 ≤ q.2.1 ∧ q.2.1 ≤ 16384) : laF q = laR4 q ∧ 0 ≤ laR4 q ∧ laR4 q ≤ 16384 := by
  obtain ⟨a, b, c, d⟩ := q
  have h : -16384 ≤ a ∧ a ≤ b ∧ b ≤ 16384 := h
  show mx3 (bif c then -2097152 else a) (IntKind.wrap .i64 (0 - bif d then 2097152 else b)) = mx3 (bif c then 0 else a) (bif d then 0 else fwrap IntKind.i64 (0 - b)) ∧ 0 ≤ mx3 (bif c then 0 else a) (bif d then 0 else fwrap IntKind.i64 (0 - b)) ∧ mx3 (bif c then 0 else a) (bif d then 0 else fwrap IntKind.i64 (0 - b)) ≤ 16384
  have w1 : fwrap IntKind.i64 (0 - b) = 0 - b := fwrap_mid (by omega) (by omega)
  have w2 : IntKind.wrap .i64 (0 - b) = 0 - b := wrap64 (by omega) (by omega)
  have w3 : IntKind.wrap .i64 (0 - 2097152) = -2097152 := wrap64 (by omega) (by omega)
  cases c with
  | true =>
    cases d with
    | true =>
      show mx3 (-2097152) (IntKind.wrap .i64 (0 - 2097152)) = mx3 0 0 ∧ 0 ≤ mx3 0 0 ∧ mx3 0 0 ≤ 16384
      rw [w3]
      have k1 := mx3_is (-2097152) (-2097152)
      have k2 := mx3_is 0 0
      omega
    | false =>
      show mx3 (-2097152) (IntKind.wrap .i64 (0 - b)) = mx3 0 (fwrap IntKind.i64 (0 - b)) ∧ 0 ≤ mx3 0 (fwrap IntKind.i64 (0 - b)) ∧ mx3 0 (fwrap IntKind.i64 (0 - b)) ≤ 16384
      rw [w1, w2]
      have k1 := mx3_is (-2097152) (0 - b)
      have k2 := mx3_is 0 (0 - b)
      omega
  | false =>
    cases d with
    | true =>
      show mx3 a (IntKind.wrap .i64 (0 - 2097152)) = mx3 a 0 ∧ 0 ≤ mx3 a 0 ∧ mx3 a 0 ≤ 16384
      rw [w3]
      have k1 := mx3_is a (-2097152)
      have k2 := mx3_is a 0
      omega
    | false =>
      show mx3 a (IntKind.wrap .i64 (0 - b)) = mx3 a (fwrap IntKind.i64 (0 - b)) ∧ 0 ≤ mx3 a (fwrap IntKind.i64 (0 - b)) ∧ mx3 a (fwrap IntKind.i64 (0 - b)) ≤ 16384
      rw [w1, w2]
      have k1 := mx3_is a (0 - b)
      omega
theorem ma_same {q : V4} (h : -16384 ≤ q.1 ∧ q.1 ≤ q.2.1 ∧ q.2.1 ≤ 16384) : maF q = maR4 q ∧ 0 ≤ maR4 q ∧ maR4 q ≤ 16384 := by
  unfold maF maR4 mabX mabR
  rw [fwrap_mid (by omega) (by omega), wrap64 (by omega) (by omega)]
  refine ⟨rfl, ?_⟩
  split <;> omega
theorem la_map {l : List V4} (h : vbV l) : l.map laF = l.map laR4 := List.map_congr_left fun q hq => (la_same (h q hq)).1
theorem ma_map {l : List V4} (h : vbV l) : l.map maF = l.map maR4 := List.map_congr_left fun q hq => (ma_same (h q hq)).1
theorem la_bd {l : List V4} (h : vbV l) : bd0 (l.map laR4) := fun y hy => by
  obtain ⟨q, hq, rfl⟩ := List.mem_map.1 hy
  exact (la_same (h q hq)).2
theorem ma_bd {l : List V4} (h : vbV l) : bd0 (l.map maR4) := fun y hy => by
  obtain ⟨q, hq, rfl⟩ := List.mem_map.1 hy
  exact (ma_same (h q hq)).2
theorem mx_bs (C : List P2) : mxG C = (bsP C).1 := by
  match C with
  | [] => rfl
  | y :: r => exact (bs_mx r 1 y 0).symm
theorem con_any : ∀ (l : List V4) (i : Nat), (!(ilt (idxB opF l i) 0)) = l.any opF
  | [], _ => rfl
  | q :: l, i => by
    show (!(ilt (bif opF q then Int.ofNat i else idxB opF l (i + 1)) 0)) = (opF q || l.any opF)
    cases opF q with
    | true =>
      show (!(ilt (Int.ofNat i) 0)) = true
      rw [ilt_say, decide_eq_false (by simp only [Int.ofNat_eq_natCast]; omega)]; rfl
    | false => exact con_any l (i + 1)
noncomputable def comE (a b : List V4) (u v : Int) : Int := firstS [pavE a b, limE u v]
theorem com_zero {a b : List V4} {u v : Int} (h : comE a b u v = 0) : (vbV a ∧ vbV b ∧ a.length = b.length ∧ a.length ≤ 128) ∧ lim1 u ∧ lim1 v := by
  have hs := firstS_none h
  exact ⟨pav_zero (hs _ (.head _)), lim_zero (hs _ (.tail _ (.head _)))⟩
noncomputable def bdsR (a b : List V4) (u v : Int) : Value := bdsV (bsP (rbLo a b u v)).1 (bsP (rbHi a b u v)).1 (rbOp a b)
theorem bds_meet {a b : List V4} (u v : Int) (ha : vbV a) (hb : vbV b) : bdsV (mxG (coL u v (a.map laF) (b.map laF))) (mxG (coL u v (a.map maF) (b.map maF))) (conB (a ++ b)) = bdsR a b u v := by
  rw [la_map ha, la_map hb, ma_map ha, ma_map hb, mx_bs, mx_bs, show conB (a ++ b) = (a ++ b).any opF from con_any _ 0, List.any_append]; rfl
noncomputable def bcV (z : Bool) (a b : List V4) (u v : Int) : Value := match z with
  | true => .tuple #[bdsR a b u v, gi 0]
  | false => .tuple #[bdsV (0, 0) (0, 0) false, gi (comE a b u v)]
def bcC (a b : List V4) (r : List Value) : Prop := r = [rtV (agP r)] ∧ (comE a b (agP r).1 (agP r).2 = 0 → a.length ≤ 40)
noncomputable abbrev bcO (a b : List V4) (r : List Value) : Out := .plain (bcV (ieq (comE a b (agP r).1 (agP r).2) 0) a b (agP r).1 (agP r).2)
def rbCn (a b : List V4) (r : List Value) : Prop := r = [rtV (agP r)] ∧ a.length = b.length ∧ rbOk a b (agP r).1 (agP r).2
noncomputable abbrev rbO (a b : List V4) (r : List Value) : Out := .plain (bdsR a b (agP r).1 (agP r).2)
theorem rb_ok {a b : List V4} {u v : Int} (ha : vbV a) (hb : vbV b) (hu : lim1 u) (hv : lim1 v) : rbOk a b u v := ⟨la_bd ha, la_bd hb, ma_bd ha, ma_bd hb, hu, hv⟩
set_option maxRecDepth 100000 in
theorem rbf_ok {orc : Orc} (ho : OrcOk Tryz.prog orc) : OrcOk Tryz.prog (orElse 58 (s2Oo tvT tvT rbCn rbO) orc) := by
  refine s2O_ok ho (fun _ _ _ _ => rfl) ?_
  rintro a b m k e row m' k' e' row' r hl h1 hl' h1' ⟨hr, h2, h3⟩
  obtain rfl : m' = m := by omega
  generalize agP r = x at hr h3 ⊢
  subst hr
  exact callC_ok mixed orcKb_ok (askKb_ok 0) (Eq.mpr (rb_run a b x.1 x.2 m' e row k e' row' k' _) ⟨rfl, rfl, rfl, rfl, rfl, rfl, rfl, by kernel_rfl, by kernel_rfl, by kernel_rfl, by kernel_rfl, by kernel_rfl, ⟨⟨hl, hl', h1⟩, h3⟩, fun _ => rfl⟩)
set_option maxRecDepth 100000 in
theorem bcf_ok {orc : Orc} (ho : OrcOk Tryz.prog orc) : OrcOk Tryz.prog (orElse 57 (s2Oo tvT tvT bcC bcO) orc) := by
  refine s2O_ok ho (fun a b r _ => by show flat 3 (bcV _ _ _ _ _) = true; cases ieq (comE a b (agP r).1 (agP r).2) 0 <;> rfl) ?_
  rintro a b m k e row m' k' e' row' r hl h1 hl' h1' ⟨hr, h2⟩
  generalize agP r = x at hr h2 ⊢
  subst hr
  cases hz : ieq (comE a b x.1 x.2) 0 with
  | false =>
    refine callC_ok mixed orcKg_ok (askKg_ok (m + 1)) (Eq.mpr (cb_no a b m k e row m' k' e' row' x.1 x.2 _) ?_)
    rw [decW, decW]
    refine ⟨⟨cellsV_flat a, cellsV_flat b, trivial⟩, okV hl h1, okV hl' h1', rfl, rfl, ?_, ?_⟩
    · show (!(ieq (comE a b x.1 x.2) 0)) = true
      rw [hz]; rfl
    · show _ = bcV (ieq (comE a b x.1 x.2) 0) a b x.1 x.2
      rw [hz]; rfl
  | true =>
    have hzb := hz
    rw [ieq_dec] at hz
    have hz := of_decide_eq_true hz
    obtain ⟨⟨va, vb, hab, _⟩, hu, hv⟩ := com_zero hz
    have h40 := h2 hz
    obtain rfl : m' = m := by omega
    have lab : (a ++ b).length = m' + 1 + (m' + 1) := by rw [List.length_append, hl, hl']
    refine callC_ok mixed orcKg_ok (askKg_ok (m' + 1)) (Eq.mpr (cb_go a b m' k e row k' e' row' x.1 x.2 _) ?_)
    rw [decW, decW, decW]
    refine ⟨⟨cellsV_flat a, cellsV_flat b, trivial⟩, okV hl h1, okV hl' h1', rfl, rfl, ?_, rfl, rfl, ⟨cellsV_flat a, cellsV_flat b, trivial⟩, ⟨.inl rfl, okV hl h1, okV hl' h1', ⟨rfl, by omega⟩, ?_, ?_, hu, hv⟩, rfl, rfl, rfl, ⟨cellsV_flat a, cellsV_flat b, trivial⟩, ⟨.inr rfl, okV hl h1, okV hl' h1', ⟨rfl, by omega⟩, ?_, ?_, hu, hv⟩, rfl, rfl, rfl, ⟨cellsV_flat a, cellsV_flat b, trivial⟩, ⟨okV hl h1, okV hl' h1', rfl, by omega⟩, ⟨cellsV_flat _, trivial⟩, ?_, rfl, ?_⟩
    · show (!(ieq (comE a b x.1 x.2) 0)) = false
      rw [hz]; rfl
    · rw [decW]; show bd0 (a.map laF); rw [la_map va]; exact la_bd va
    · rw [decW]; show bd0 (b.map laF); rw [la_map vb]; exact la_bd vb
    · rw [decW]; show bd0 (a.map maF); rw [ma_map va]; exact ma_bd va
    · rw [decW]; show bd0 (b.map maF); rw [ma_map vb]; exact ma_bd vb
    · exact okT_of (T := tvT) lab (by omega) (by omega)
    · show _ = bcV (ieq (comE a b x.1 x.2) 0) a b x.1 x.2
      rw [hzb]
      show Value.tuple #[bdsV (mxG (coL x.1 x.2 (a.map laF) (b.map laF))) (mxG (coL x.1 x.2 (a.map maF) (b.map maF))) (conB (a ++ b)), gi 0] = .tuple #[bdsR a b x.1 x.2, gi 0]
      rw [bds_meet x.1 x.2 va vb]
end Go.Proofs.YtihnnmejkpddeaaGreatDoor
/-! (OWN WORK. Stage 6: bounds of two traces of which one is empty, or both.) -/
namespace Go.Proofs.YtihnnmejkpddeaaGreatDoor
open Go Go.Am

theorem tra_nil : traE [] = 12 := by rfl
theorem pav_nil (a : List V4) {m : Nat} (hl : a.length = m + 1) : firstS [traE a, 12, whenS (!(ieq (Int.ofNat (m + 1)) 0)) 2] = pavE a [] := by
  unfold pavE; rw [hl]; rfl
theorem nil_pav (b : List V4) {m : Nat} (hl : b.length = m + 1) : firstS [12, traE b, whenS (!(ieq 0 (Int.ofNat (m + 1)))) 2] = pavE [] b := by
  unfold pavE; rw [hl]; rfl
theorem tra_ne : traE [] ≠ 0 := by rw [tra_nil]; decide
theorem pav_fe (a : List V4) : pavE a [] ≠ 0 := fun h => tra_ne ((firstS_none h) (traE []) (.tail _ (.head _)))
theorem pav_ef (b : List V4) : pavE [] b ≠ 0 := fun h => tra_ne ((firstS_none h) (traE []) (.head _))
noncomputable abbrev qfO (a : List V4) (_ : List Value) : Out := .plain (gi (pavE a []))
noncomputable abbrev qeO (b : List V4) (_ : List Value) : Out := .plain (gi (pavE [] b))
noncomputable def orcVf : Orc := orElse 132 (anyO Tryz.prog.globals.size (feX tvT (oneC cCt) qfO)) orcKd
noncomputable def orcVe : Orc := orElse 132 (anyO Tryz.prog.globals.size (efX tvT (oneC cCt) qeO)) orcKd
set_option maxRecDepth 100000 in
theorem orcVe_ok : OrcOk Tryz.prog orcVe := by
  refine efO_ok orcKd_ok (fun _ _ _ => rfl) ?_
  rintro v l m k e row r (rfl | ⟨q, rfl⟩) hl h1 rfl
  · refine callC_ok mixed orcKd_ok (askKd_ok 0) (Eq.mpr (pv_nf l m e row k _) ⟨⟨cellsV_flat l, trivial⟩, okV hl h1, rfl, ?_⟩)
    rw [decW]; exact congrArg gi (nil_pav l hl)
  · refine callC_ok mixed orcKd_ok (askKd_ok 0) (Eq.mpr (pv_ef l m e row k q _) ⟨⟨cellsV_flat l, trivial⟩, okV hl h1, rfl, ?_⟩)
    rw [decW]; exact congrArg gi (nil_pav l hl)
set_option maxRecDepth 100000 in
theorem orcVf_ok : OrcOk Tryz.prog orcVf := by
  refine feO_ok orcKd_ok (fun _ _ _ => rfl) ?_
  rintro v l m k e row r (rfl | ⟨q, rfl⟩) hl h1 rfl
  · refine callC_ok mixed orcKd_ok (askKd_ok 0) (Eq.mpr (pv_fn l m e row k _) ⟨⟨cellsV_flat l, trivial⟩, okV hl h1, rfl, ?_⟩)
    rw [decW]; exact congrArg gi (pav_nil l hl)
  · refine callC_ok mixed orcKd_ok (askKd_ok 0) (Eq.mpr (pv_fe l m e row k q _) ⟨⟨cellsV_flat l, trivial⟩, okV hl h1, rfl, ?_⟩)
    rw [decW]; exact congrArg gi (pav_nil l hl)
noncomputable def askVf : Asks := asksV Tryz.prog.globals.size 132 (feAY tvT (oneC cCt) qfO) (askKd 0)
theorem askVf_ok : AsksOk orcVf askVf := asksV_ok (feA_ok fun _ _ h => ⟨h, rfl⟩) (askKd_ok 0)
noncomputable def askVe : Asks := asksV Tryz.prog.globals.size 132 (efAY tvT (oneC cCt) qeO) (askKd 0)
theorem askVe_ok : AsksOk orcVe askVe := asksV_ok (efA_ok fun _ _ h => ⟨h, rfl⟩) (askKd_ok 0)
theorem bc_fn (a : List V4) (u v : Int) (m e row k : Nat) (K : Value → Prop) : callC Tryz.prog (exec Tryz.prog orcVf 40) (syOf [(12, 7), (18, 31)]) askVf (noLoops _) 40 57 #[liP (m + 1) k, nilS, .agg #[gi u, gi v]] (canon Tryz.prog [(cellsV a, e, row)]) (fun v _ => K v) = (((List.all (cellsV a) (flat 3) = true ∧ True) ∧ okT tvT (cellsV a) (m + 1) ∧ oneC cCt (TellT.dec tvT (cellsV a)) [Value.func (.func 56) #[] #[]] ∧ Value.agg #[gi u, gi v] = Value.agg #[gi u, gi v] ∧ (!(ieq (firstS [pavE (TellT.dec tvT (cellsV a)) [], limE u v]) 0)) = true ∧ K (Value.tuple #[Value.agg (Array.mk (List.take 5 (List.drop 0 ([] ++ ([gi 0, gi 0, gi 0, gi 0, Value.bool false] ++ []))))), gi (firstS [pavE (TellT.dec tvT (cellsV a)) [], limE u v])]))) := by kernel_rfl
theorem bc_fe (a : List V4) (u v : Int) (m e row k : Nat) (q : Nat) (K : Value → Prop) : callC Tryz.prog (exec Tryz.prog orcVf 40) (syOf [(12, 7), (18, 31)]) askVf (noLoops _) 40 57 #[liP (m + 1) k, emS q, .agg #[gi u, gi v]] (canon Tryz.prog [(cellsV a, e, row)]) (fun v _ => K v) = (((List.all (cellsV a) (flat 3) = true ∧ True) ∧ okT tvT (cellsV a) (m + 1) ∧ oneC cCt (TellT.dec tvT (cellsV a)) [Value.func (.func 56) #[] #[]] ∧ Value.agg #[gi u, gi v] = Value.agg #[gi u, gi v] ∧ (!(ieq (firstS [pavE (TellT.dec tvT (cellsV a)) [], limE u v]) 0)) = true ∧ K (Value.tuple #[Value.agg (Array.mk (List.take 5 (List.drop 0 ([] ++ ([gi 0, gi 0, gi 0, gi 0, Value.bool false] ++ []))))), gi (firstS [pavE (TellT.dec tvT (cellsV a)) [], limE u v])]))) := by kernel_rfl
theorem bc_nf (a : List V4) (u v : Int) (m e row k : Nat) (K : Value → Prop) : callC Tryz.prog (exec Tryz.prog orcVe 40) (syOf [(12, 7), (18, 31)]) askVe (noLoops _) 40 57 #[nilS, liP (m + 1) k, .agg #[gi u, gi v]] (canon Tryz.prog [(cellsV a, e, row)]) (fun v _ => K v) = (((List.all (cellsV a) (flat 3) = true ∧ True) ∧ okT tvT (cellsV a) (m + 1) ∧ oneC cCt (TellT.dec tvT (cellsV a)) [Value.func (.func 56) #[] #[]] ∧ Value.agg #[gi u, gi v] = Value.agg #[gi u, gi v] ∧ (!(ieq (firstS [pavE [] (TellT.dec tvT (cellsV a)), limE u v]) 0)) = true ∧ K (Value.tuple #[Value.agg (Array.mk (List.take 5 (List.drop 0 ([] ++ ([gi 0, gi 0, gi 0, gi 0, Value.bool false] ++ []))))), gi (firstS [pavE [] (TellT.dec tvT (cellsV a)), limE u v])]))) := by kernel_rfl
theorem bc_ef (a : List V4) (u v : Int) (m e row k : Nat) (q : Nat) (K : Value → Prop) : callC Tryz.prog (exec Tryz.prog orcVe 40) (syOf [(12, 7), (18, 31)]) askVe (noLoops _) 40 57 #[emS q, liP (m + 1) k, .agg #[gi u, gi v]] (canon Tryz.prog [(cellsV a, e, row)]) (fun v _ => K v) = (((List.all (cellsV a) (flat 3) = true ∧ True) ∧ okT tvT (cellsV a) (m + 1) ∧ oneC cCt (TellT.dec tvT (cellsV a)) [Value.func (.func 56) #[] #[]] ∧ Value.agg #[gi u, gi v] = Value.agg #[gi u, gi v] ∧ (!(ieq (firstS [pavE [] (TellT.dec tvT (cellsV a)), limE u v]) 0)) = true ∧ K (Value.tuple #[Value.agg (Array.mk (List.take 5 (List.drop 0 ([] ++ ([gi 0, gi 0, gi 0, gi 0, Value.bool false] ++ []))))), gi (firstS [pavE [] (TellT.dec tvT (cellsV a)), limE u v])]))) := by kernel_rfl
theorem bc_nn (u v : Int) (K : Value → Prop) : callC Tryz.prog (exec Tryz.prog orcKd 60) (syOf []) (askKd 0) (noLoops _) 60 57 #[nilS, nilS, .agg #[gi u, gi v]] (canon Tryz.prog []) (fun v _ => K v) = ((Value.agg #[gi u, gi v] = Value.agg #[gi u, gi v] ∧ K (Value.tuple #[Value.agg (Array.mk (List.take 5 (List.drop 0 ([] ++ ([gi 0, gi 0, gi 0, gi 0, Value.bool false] ++ []))))), gi (firstS [12, limE u v])]))) := by kernel_rfl
theorem bc_ne (u v : Int) (q : Nat) (K : Value → Prop) : callC Tryz.prog (exec Tryz.prog orcKd 60) (syOf []) (askKd 0) (noLoops _) 60 57 #[nilS, emS q, .agg #[gi u, gi v]] (canon Tryz.prog []) (fun v _ => K v) = ((Value.agg #[gi u, gi v] = Value.agg #[gi u, gi v] ∧ K (Value.tuple #[Value.agg (Array.mk (List.take 5 (List.drop 0 ([] ++ ([gi 0, gi 0, gi 0, gi 0, Value.bool false] ++ []))))), gi (firstS [12, limE u v])]))) := by kernel_rfl
theorem bc_en (u v : Int) (p : Nat) (K : Value → Prop) : callC Tryz.prog (exec Tryz.prog orcKd 60) (syOf []) (askKd 0) (noLoops _) 60 57 #[emS p, nilS, .agg #[gi u, gi v]] (canon Tryz.prog []) (fun v _ => K v) = ((Value.agg #[gi u, gi v] = Value.agg #[gi u, gi v] ∧ K (Value.tuple #[Value.agg (Array.mk (List.take 5 (List.drop 0 ([] ++ ([gi 0, gi 0, gi 0, gi 0, Value.bool false] ++ []))))), gi (firstS [12, limE u v])]))) := by kernel_rfl
theorem bc_ee (u v : Int) (p q : Nat) (K : Value → Prop) : callC Tryz.prog (exec Tryz.prog orcKd 60) (syOf []) (askKd 0) (noLoops _) 60 57 #[emS p, emS q, .agg #[gi u, gi v]] (canon Tryz.prog []) (fun v _ => K v) = ((Value.agg #[gi u, gi v] = Value.agg #[gi u, gi v] ∧ K (Value.tuple #[Value.agg (Array.mk (List.take 5 (List.drop 0 ([] ++ ([gi 0, gi 0, gi 0, gi 0, Value.bool false] ++ []))))), gi (firstS [12, limE u v])]))) := by kernel_rfl
end Go.Proofs.YtihnnmejkpddeaaGreatDoor
