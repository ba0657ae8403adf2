/-
  OWN WORK. Stage 6: sums and moments known.
-/
import Derived.Test.YtihnnmejkpddeaaGreatDoorJcO
/-! (OWN WORK. Stage 6: the reference's greatest sum by limits: its loop.) -/
namespace Go.Proofs.YtihnnmejkpddeaaGreatDoor
open Go Go.Am
theorem ab_small {x : Int} (h : -16384 ≤ x ∧ x ≤ 16384) : abR x = abP x ∧ 0 ≤ abR x ∧ abR x ≤ 16384 := by
  unfold abR abP
  rw [fwrap_mid (by omega) (by omega), wrap64 (by omega) (by omega)]
  refine ⟨rfl, ?_⟩
  split <;> omega
noncomputable def coR (u v : Int) (a b : List Int) : List P2 := coL u v (a.map abR) (b.map abR)
noncomputable def bsP : List P2 → P2 × Nat
  | [] => ((0, 0), 0)
  | y :: r => bsF 1 y 0 r
theorem bsF_app : ∀ (l : List P2) (i : Nat) (m : P2) (a : Nat) (x : P2), bsF i m a (l ++ [x]) = bif gtR x (bsF i m a l).1 then (x, i + l.length) else bsF i m a l
  | [], i, m, a, x => rfl
  | y :: r, i, m, a, x => by
    show (bif gtR y m then bsF (i + 1) y i (r ++ [x]) else bsF (i + 1) m a (r ++ [x])) = bif gtR x (bif gtR y m then bsF (i + 1) y i r else bsF (i + 1) m a r).1 then (x, i + (r.length + 1)) else (bif gtR y m then bsF (i + 1) y i r else bsF (i + 1) m a r)
    cases gtR y m with
    | true => show bsF (i + 1) y i (r ++ [x]) = bif gtR x (bsF (i + 1) y i r).1 then _ else bsF (i + 1) y i r; rw [bsF_app r, show i + 1 + r.length = i + (r.length + 1) by omega]
    | false => show bsF (i + 1) m a (r ++ [x]) = bif gtR x (bsF (i + 1) m a r).1 then _ else bsF (i + 1) m a r; rw [bsF_app r, show i + 1 + r.length = i + (r.length + 1) by omega]
theorem bsP_app {l : List P2} (h : 0 < l.length) (x : P2) : bsP (l ++ [x]) = bif gtR x (bsP l).1 then (x, l.length) else bsP l := by
  match l, h with
  | y :: r, _ =>
    show bsF 1 y 0 (r ++ [x]) = _
    rw [bsF_app, show (y :: r).length = 1 + r.length by simp; omega]; rfl
theorem coR_len {u v : Int} {a b : List Int} {n : Nat} (ha : a.length = n) (hb : b.length = n) : (coR u v a b).length = n := coL_len (by rw [List.length_map, ha]) (by rw [List.length_map, hb])
theorem coR_at {u v : Int} {a b : List Int} {n j : Nat} (ha : a.length = n) (hb : b.length = n) (hj : j < n) : (coR u v a b)[j]'(by rw [coR_len ha hb]; exact hj) = coF u v (abR (a[j]'(by omega))) (abR (b[j]'(by omega))) := by
  have : (coR u v a b)[j]'(by rw [coR_len ha hb]; exact hj) = coF u v ((a.map abR)[j]'(by rw [List.length_map]; omega)) ((b.map abR)[j]'(by rw [List.length_map]; omega)) := List.getElem_zipWith
  rw [this, List.getElem_map, List.getElem_map]
noncomputable abbrev rcV (n k k' : Nat) (u v : Int) (a b : List Int) (at_ : Nat → Nat) (j : Nat) : List Value := [.slice (some ⟨at_ 0, 0, none⟩) n k, .slice (some ⟨at_ 1, 0, none⟩) n k', .pointer (some ⟨at_ 2, 0, none⟩), .pointer (some ⟨at_ 3, 0, none⟩), .pointer (some ⟨at_ 4, 0, none⟩), gi (Int.ofNat (bsP ((coR u v a b).take j)).2), goN j]
noncomputable abbrev rcB (u v : Int) (a b : List Int) (e row e' row' : Nat) (j : Nat) : List Blk := [(a.map gi, e, row, true), (b.map gi, e', row', true), ([gi u, gi v], 62, 0, false), ([gi 0, gi 0], 28, 0, false), ([gi (bsP ((coR u v a b).take j)).1.1, gi (bsP ((coR u v a b).take j)).1.2], 28, 0, false)]
set_option maxRecDepth 100000 in
theorem rc_loop (a b : List Int) (u v : Int) (n e row k e' row' k' : Nat) (ha : a.length = n) (hb : b.length = n) (h1 : n ≤ 65536) (ba : bdU a) (bb : bdU b) (hu : lim1 u) (hv : lim1 v) : ∀ (s : AAct) (h : AHeap), Laid (rcB u v a b e row e' row' 0) (nG1 + ·) h → s.n = 43 → s.marks = [] → [0, 1, 5, 6, 8, 9, 10].map s.tmp = rcV n k k' u v a b (nG1 + ·) 0 →
    J Tryz.prog (.loop (loopOf Tryz.prog 40 0)) s h (told 43 [0, 1, 5, 6, 8, 9, 10] fun ex vs h' => ex = .exit 0 ∧ vs = rcV n k k' u v a b (nG1 + ·) n ∧ h' = rcC (a.map gi) (b.map gi) e row e' row' u v (bsP (coR u v a b)).1.1 (bsP (coR u v a b)).1.2) := by
  intro s h hs hn hm hv'
  have hl := coR_len (u := u) (v := v) ha hb
  have fac : ∀ j (hj : j < n), (a.map gi)[0 + j * 1]? = some (gi (intAt (a.map gi) (0 + j * 1))) ∧ (b.map gi)[0 + j * 1]? = some (gi (intAt (b.map gi) (0 + j * 1))) ∧ sumB (abR (intAt (a.map gi) (0 + j * 1))) (abR (intAt (b.map gi) (0 + j * 1))) u v = true ∧
      coF u v (abR (intAt (a.map gi) (0 + j * 1))) (abR (intAt (b.map gi) (0 + j * 1))) = (coR u v a b)[j]'(by omega) := fun j hj => by
    obtain ⟨f1, f2⟩ := first_at (l := a) (j := j) (by omega)
    obtain ⟨g1, g2⟩ := first_at (l := b) (j := j) (by omega)
    rw [f2, g2]
    rw [f2] at f1
    rw [g2] at g1
    obtain ⟨_, a3⟩ := ab_small (ba _ (List.getElem_mem (l := a) (n := j) (by omega)))
    obtain ⟨_, b3⟩ := ab_small (bb _ (List.getElem_mem (l := b) (n := j) (by omega)))
    obtain ⟨a1, a2⟩ := mul_bd a3 hv
    obtain ⟨b1, b2⟩ := mul_bd b3 hu
    obtain ⟨c1, c2⟩ := lim_mul hu hv
    refine ⟨f1, g1, ?_, (coR_at ha hb hj).symm⟩
    unfold sumB
    rw [inI64_small (by omega) (by omega), inI64_small (by omega) (by omega), inI64_small (by omega) (by omega), inI64_small (by omega) (by omega), dvB_of (by omega) (by omega) (by omega) (by omega)]; rfl
  refine fold_rule (L := 5) (C := rcB u v a b e row e' row') globs_pos (by decide) (by decide) (fun _ => rfl) (fun j x hx => ?_) (V := rcV n k k' u v a b) (I := fun _ => True) (m := n) trivial _ (nG1 + ·) (plus_nodup nG1 5) (fun q _ => by show Tryz.prog.globals.size ≤ nG1 + q; unfold nG1; omega) (fun j => by kernel_rfl) (fun j => by kernel_rfl)
    (fun at_ j q hq => ?_) ?_ ?_ s h hs hn hm hv'
  · simp only [List.mem_cons, List.not_mem_nil, or_false] at hx
    rcases hx with rfl | rfl | rfl | rfl | rfl
    · exact flat_ints a
    · exact flat_ints b
    · rfl
    · rfl
    · rfl
  · match q, hq with
    | 0, _ => exact ⟨(0, .slice (some ⟨at_ 0, 0, none⟩) n k), by simp, by simp [named]⟩
    | 1, _ => exact ⟨(1, .slice (some ⟨at_ 1, 0, none⟩) n k'), by simp, by simp [named]⟩
    | 2, _ => exact ⟨(5, .pointer (some ⟨at_ 2, 0, none⟩)), by simp, by simp [named]⟩
    | 3, _ => exact ⟨(6, .pointer (some ⟨at_ 3, 0, none⟩)), by simp, by simp [named]⟩
    | 4, _ => exact ⟨(8, .pointer (some ⟨at_ 4, 0, none⟩)), by simp, by simp [named]⟩
  · intro j hj _ g
    obtain ⟨f1, g1, sb, ee⟩ := fac j hj
    have et : (coR u v a b).take (j + 1) = (coR u v a b).take j ++ [(coR u v a b)[j]'(by omega)] := by
      rw [List.take_add_one, List.getElem?_eq_getElem (by omega)]; rfl
    match j, hj, f1, g1, sb, ee, et with
    | 0, hj, f1, g1, sb, ee, et =>
      have eb0 : bsP ((coR u v a b).take (0 + 1)) = ((coR u v a b)[0]'(by omega), 0) := by rw [et]; rfl
      have h0 : ilt 0 (Int.ofNat n) = true := by rw [ilt_say]; exact decide_eq_true (by simp only [Int.ofNat_eq_natCast]; omega)
      have hx : ahasIndex 0 n = true := by
        unfold ahasIndex
        simp
        omega
      refine execC_ok mixed orcJg_ok (askJg_ok 0) (noLoops _) (Eq.mpr (rco_0 _ _ n k k' e row e' row' u v 0 0 g _) ⟨fun _ => ⟨hx, f1, hx, g1, rfl, g1, f1, rfl, rfl, g1, rfl, rfl, sb, rfl, trivial, ?_, ?_⟩, fun hge => by rw [h0] at hge; cases hge⟩)
      · show _ = [liP n k, slQ n k', ptN 2, ptN 3, ptN 4, gi (Int.ofNat (bsP ((coR u v a b).take (0 + 1))).2), goN (0 + 1)]
        rw [eb0]; rfl
      · intro q x hx
        match q, hx with
        | 0, hx => cases hx; show _ = _; kernel_rfl
        | 1, hx => cases hx; show _ = _; kernel_rfl
        | 2, hx => cases hx; show _ = _; kernel_rfl
        | 3, hx => cases hx; show _ = _; kernel_rfl
        | 4, hx =>
          cases hx
          show _ = some (AObj.cells [gi (bsP ((coR u v a b).take (0 + 1))).1.1, gi (bsP ((coR u v a b).take (0 + 1))).1.2] _ _ _)
          rw [eb0]
          show _ = some (AObj.cells [gi ((coR u v a b)[0]'(by omega)).1, gi ((coR u v a b)[0]'(by omega)).2] _ _ _)
          rw [← ee]; show _ = _; kernel_rfl
    | j + 1, hj, f1, g1, sb, ee, et =>
      have lt : ((coR u v a b).take (j + 1)).length = j + 1 := by rw [List.length_take, Nat.min_eq_left (by omega)]
      have eb := bsP_app (l := (coR u v a b).take (j + 1)) (by omega) ((coR u v a b)[j + 1]'(by omega))
      rw [← et, lt] at eb
      refine execC_ok mixed orcJg_ok (askJg_ok 0) (noLoops _) (Eq.mpr (rco_j _ _ n k k' e row e' row' j u v _ _ _ g _) ⟨fun hlt => ⟨hlt, f1, hlt, g1, rfl, g1, f1, rfl, rfl, g1, rfl, rfl, sb, rfl, ?_, fun h3 => ⟨trivial, ?_, ?_⟩, fun h3 => ⟨trivial, ?_, ?_⟩⟩, fun hge => absurd (blt_false hge) (by omega)⟩)
      · exact ieq_ne (by simp only [Int.ofNat_eq_natCast]; omega)
      · have h3 : gtR (coF u v (abR (intAt (a.map gi) (0 + (j + 1) * 1))) (abR (intAt (b.map gi) (0 + (j + 1) * 1)))) (bsP ((coR u v a b).take (j + 1))).1 = true := h3
        rw [ee] at h3
        show _ = [liP n k, slQ n k', ptN 2, ptN 3, ptN 4, gi (Int.ofNat (bsP ((coR u v a b).take (j + 1 + 1))).2), goN (j + 1 + 1)]
        rw [fwrap_nat (by omega), eb, h3]; rfl
      · have h3 : gtR (coF u v (abR (intAt (a.map gi) (0 + (j + 1) * 1))) (abR (intAt (b.map gi) (0 + (j + 1) * 1)))) (bsP ((coR u v a b).take (j + 1))).1 = true := h3
        rw [ee] at h3
        rw [h3] at eb
        intro q x hx
        match q, hx with
        | 0, hx => cases hx; show _ = _; kernel_rfl
        | 1, hx => cases hx; show _ = _; kernel_rfl
        | 2, hx => cases hx; show _ = _; kernel_rfl
        | 3, hx => cases hx; show _ = _; kernel_rfl
        | 4, hx =>
          cases hx
          show _ = some (AObj.cells [gi (bsP ((coR u v a b).take (j + 1 + 1))).1.1, gi (bsP ((coR u v a b).take (j + 1 + 1))).1.2] _ _ _)
          rw [eb]
          show _ = some (AObj.cells [gi ((coR u v a b)[j + 1]'(by omega)).1, gi ((coR u v a b)[j + 1]'(by omega)).2] _ _ _)
          rw [← ee]; show _ = _; kernel_rfl
      · have h3 : gtR (coF u v (abR (intAt (a.map gi) (0 + (j + 1) * 1))) (abR (intAt (b.map gi) (0 + (j + 1) * 1)))) (bsP ((coR u v a b).take (j + 1))).1 = false := h3
        rw [ee] at h3
        show _ = [liP n k, slQ n k', ptN 2, ptN 3, ptN 4, gi (Int.ofNat (bsP ((coR u v a b).take (j + 1 + 1))).2), goN (j + 1 + 1)]
        rw [fwrap_nat (by omega), eb, h3]; rfl
      · have h3 : gtR (coF u v (abR (intAt (a.map gi) (0 + (j + 1) * 1))) (abR (intAt (b.map gi) (0 + (j + 1) * 1)))) (bsP ((coR u v a b).take (j + 1))).1 = false := h3
        rw [ee] at h3
        rw [h3] at eb
        have eb : bsP ((coR u v a b).take (j + 1 + 1)) = bsP ((coR u v a b).take (j + 1)) := eb
        intro q x hx
        match q, hx with
        | 0, hx => cases hx; show _ = _; kernel_rfl
        | 1, hx => cases hx; show _ = _; kernel_rfl
        | 2, hx => cases hx; show _ = _; kernel_rfl
        | 3, hx => cases hx; show _ = _; kernel_rfl
        | 4, hx =>
          cases hx
          show _ = some (AObj.cells [gi (bsP ((coR u v a b).take (j + 1 + 1))).1.1, gi (bsP ((coR u v a b).take (j + 1 + 1))).1.2] _ _ _)
          rw [eb]; show _ = _; kernel_rfl
  · intro _ g
    match n, hl, ha, hb with
    | 0, hl, ha, hb =>
      refine execC_ok mixed orcJg_ok (askJg_ok 0) (noLoops _) (Eq.mpr (rco_0 _ _ 0 k k' e row e' row' u v 0 0 g _) ⟨fun hlt => (by cases hlt), fun _ => ⟨rfl, rfl, ?_⟩⟩)
      rw [List.length_eq_zero_iff.1 hl]; rfl
    | n + 1, hl, ha, hb =>
      refine execC_ok mixed orcJg_ok (askJg_ok 0) (noLoops _) (Eq.mpr (rco_j _ _ (n + 1) k k' e row e' row' n u v _ _ _ g _) ⟨fun hlt => absurd (blt_true hlt) (by omega), fun _ => ⟨rfl, rfl, ?_⟩⟩)
      rw [List.take_of_length_le (by omega)]
noncomputable def rcLo (a b : List Int) (u v : Int) (n e row k e' row' k' : Nat) : Loops Tryz.prog where
  body := fun _ => loopOf Tryz.prog 40 0
  spec := fun _ s h c => entry s 43 [(0, liP n k), (1, slQ n k'), (5, ptN 2), (6, ptN 3), (8, ptN 4), (9, gi 0), (10, goN 0)] (h.get (nG1 + 0) = some (.cells (a.map gi) e row true) ∧ h.get (nG1 + 1) = some (.cells (b.map gi) e' row' true) ∧ h.get (nG1 + 2) = some (.cells [gi u, gi v] 62 0 false) ∧ h.get (nG1 + 3) = some (.cells [gi 0, gi 0] 28 0 false) ∧ h.get (nG1 + 4) = some (.cells [gi 0, gi 0] 28 0 false) ∧ ((a.length = n ∧ b.length = n ∧ n ≤ 65536) ∧ bdU a ∧ bdU b ∧ lim1 u ∧ lim1 v) ∧ ∀ g, c (.exit 0) (stOf 43 [(6, ptN 3), (8, ptN 4), (9, gi (Int.ofNat (bsP (coR u v a b)).2))] g) (rcC (a.map gi) (b.map gi) e row e' row' u v (bsP (coR u v a b)).1.1 (bsP (coR u v a b)).1.2))
  ok := fun i s h c q => by
    obtain ⟨h1, h2, h3, g0, g1, g2, g3, g4, ⟨⟨ha, hb, hs⟩, ba, bb, hu, hv⟩, h5⟩ := entry_facts q
    refine J.of_told (rc_loop a b u v n e row k e' row' k' ha hb hs ba bb hu hv s h (fun q b hb => ?_) h1 h2 ?_) ?_
    · match q, hb with
      | 0, hb => cases hb; exact g0
      | 1, hb => cases hb; exact g1
      | 2, hb => cases hb; exact g2
      | 3, hb => cases hb; exact g3
      | 4, hb => cases hb; exact g4
    · simp only [List.map_cons, List.map_nil]
      rw [h3 (0, liP n k) (by simp), h3 (1, slQ n k') (by simp), h3 (5, ptN 2) (by simp), h3 (6, ptN 3) (by simp), h3 (8, ptN 4) (by simp), h3 (9, gi 0) (by simp), h3 (10, goN 0) (by simp)]
      rfl
    · rintro ex vs h' g ⟨rfl, rfl, rfl⟩
      have := h5 (ov [(0, liP n k), (1, slQ n k'), (5, ptN 2), (10, goN n)] g)
      have ev : rcV n k k' u v a b (nG1 + ·) n = [liP n k, slQ n k', ptN 2, ptN 3, ptN 4, gi (Int.ofNat (bsP (coR u v a b)).2), goN n] := by
        show [liP n k, slQ n k', ptN 2, ptN 3, ptN 4, gi (Int.ofNat (bsP ((coR u v a b).take n)).2), goN n] = _
        rw [List.take_of_length_le (by rw [coR_len ha hb]; omega)]
      rw [ev]
      exact this
theorem rc_runL (a b : List Int) (u v : Int) (m e row k e' row' k' : Nat) (K : Value → Prop) : callC Tryz.prog (exec Tryz.prog orcJg 10) (syOf []) (askJg 0) (rcLo a b u v (m + 1) e row k e' row' k') 40 40 #[liP (m + 1) k, slQ (m + 1) k', .agg #[gi u, gi v]] (i2H a e row b e' row') (fun v _ => K v) = ((loopOf Tryz.prog 40 0 = loopOf Tryz.prog 40 0 ∧ liP (m + 1) k = liP (m + 1) k ∧ slQ (m + 1) k' = slQ (m + 1) k' ∧ Value.pointer (some ⟨nG1 + 2, 0, none⟩) = ptN 2 ∧ Value.pointer (some ⟨nG1 + 3, 0, none⟩) = ptN 3 ∧ Value.pointer (some ⟨nG1 + 4, 0, none⟩) = ptN 4 ∧ gi 0 = gi 0 ∧ gi 0 = goN 0 ∧ (((((i2H a e row b e' row').push (.cells [gi u, gi v] 62 0 false)).push (.cells [gi 0, gi 0] 28 0 false)).push (.cells [gi 0, gi 0] 28 0 false)).set (nG1 + 4) (.cells ([] ++ ([gi 0, gi 0] ++ [])) 28 0 false)).get (nG1) = Option.some (.cells (List.map gi a) e row true) ∧ (((((i2H a e row b e' row').push (.cells [gi u, gi v] 62 0 false)).push (.cells [gi 0, gi 0] 28 0 false)).push (.cells [gi 0, gi 0] 28 0 false)).set (nG1 + 4) (.cells ([] ++ ([gi 0, gi 0] ++ [])) 28 0 false)).get (nG1 + 1) = Option.some (.cells (List.map gi b) e' row' true) ∧ (((((i2H a e row b e' row').push (.cells [gi u, gi v] 62 0 false)).push (.cells [gi 0, gi 0] 28 0 false)).push (.cells [gi 0, gi 0] 28 0 false)).set (nG1 + 4) (.cells ([] ++ ([gi 0, gi 0] ++ [])) 28 0 false)).get (nG1 + 2) = Option.some (.cells [gi u, gi v] 62 0 false) ∧ (((((i2H a e row b e' row').push (.cells [gi u, gi v] 62 0 false)).push (.cells [gi 0, gi 0] 28 0 false)).push (.cells [gi 0, gi 0] 28 0 false)).set (nG1 + 4) (.cells ([] ++ ([gi 0, gi 0] ++ [])) 28 0 false)).get (nG1 + 3) = Option.some (.cells [gi 0, gi 0] 28 0 false) ∧ (((((i2H a e row b e' row').push (.cells [gi u, gi v] 62 0 false)).push (.cells [gi 0, gi 0] 28 0 false)).push (.cells [gi 0, gi 0] 28 0 false)).set (nG1 + 4) (.cells ([] ++ ([gi 0, gi 0] ++ [])) 28 0 false)).get (nG1 + 4) = Option.some (.cells [gi 0, gi 0] 28 0 false) ∧ ((List.length a = (m + 1) ∧ List.length b = (m + 1) ∧ ((m + 1) : Nat) ≤ 65536) ∧ bdU a ∧ bdU b ∧ lim1 u ∧ lim1 v) ∧ (∀ _ : Nat → Value, K (Value.tuple #[Value.agg (Array.mk (List.take 2 (List.drop 0 ([] ++ ([gi (((bsP (coR u v a b)).fst.1)), gi (((bsP (coR u v a b)).fst.2))] ++ []))))), gi (Int.ofNat (((bsP (coR u v a b)).2)))])))) := by kernel_rfl
end Go.Proofs.YtihnnmejkpddeaaGreatDoor
/-! (OWN WORK. Stage 6: greatest sums by limits and moments of the program, carried out.) -/
namespace Go.Proofs.YtihnnmejkpddeaaGreatDoor
open Go Go.Am
def rcCn (a b : List Int) (r : List Value) : Prop := r = [rtV (agP r)] ∧ a.length = b.length ∧ bdU a ∧ bdU b ∧ lim1 (agP r).1 ∧ lim1 (agP r).2
noncomputable abbrev rcO (a b : List Int) (r : List Value) : Out := .plain (.tuple #[rtV (bsP (coR (agP r).1 (agP r).2 a b)).1, gi (Int.ofNat (bsP (coR (agP r).1 (agP r).2 a b)).2)])
def abC (l : List Int) (r : List Value) : Prop := r = [] ∧ l.length ≤ 40
noncomputable def orcJh : Orc := orElse 40 (s2Oo tiT tiT rcCn rcO) (orElse 108 (s1O tiT abC maO) orcJg)
set_option maxRecDepth 100000 in
theorem orcJh_ok : OrcOk Tryz.prog orcJh := by
  refine s2O_ok (s1O_ok orcJg_ok (fun _ _ _ _ => ⟨names_sl _, flat_ints _⟩) ?_) (fun _ _ _ _ => rfl) ?_
  · rintro l m k e row r hl h1 ⟨rfl, h2⟩
    refine callC_ok mixed orcJg_ok (askJg_ok 0) (Eq.mpr (abs_run l m e row k _) ⟨⟨flat_ints l, trivial⟩, okI hl h1, ⟨rfl, by rw [decT]; exact h2⟩, nG1 + 1, rfl, ?_⟩)
    rw [decT]; show _ = _; kernel_rfl
  · rintro a b m k e row m' k' e' row' r hl h1 hl' h1' ⟨hr, h2, h3, h4, h5, h6⟩
    obtain rfl : m' = m := by omega
    generalize agP r = x at hr h5 h6 ⊢
    subst hr
    exact callC_ok mixed orcJg_ok (askJg_ok 0) (Eq.mpr (rc_runL a b x.1 x.2 m' e row k e' row' k' _) ⟨rfl, rfl, rfl, rfl, rfl, rfl, rfl, rfl, by kernel_rfl, by kernel_rfl, by kernel_rfl, by kernel_rfl, by kernel_rfl, ⟨⟨hl, hl', h1⟩, h3, h4, h5, h6⟩, fun _ => rfl⟩)
noncomputable def askJh (n : Nat) : Asks := asksV Tryz.prog.globals.size 40 (s2AY tiT tiT rcCn rcO) (asksV Tryz.prog.globals.size 108 (s1AY tiT abC maO) (askJg n))
theorem askJh_ok (n : Nat) : AsksOk orcJh (askJh n) := asksV_ok (s2A_ok fun _ _ _ h => ⟨h, rfl⟩) (asksV_ok (s1A_ok fun _ _ _ h => ⟨h, rfl⟩) (askJg_ok n))
theorem pm_bad (a b : List Int) (u : Int) (m e row k m' e' row' k' : Nat) (K : Value → AHeap → Prop) : callC Tryz.prog (exec Tryz.prog orcJh 20) (syOf [(14, 7), (20, 31)]) (askJh 0) (noLoops _) 40 37 #[liP (m + 1) k, slQ (m' + 1) k', gi u] (i2H a e row b e' row') K = (((List.all (List.map gi a) (flat 3) = true ∧ List.all (List.map gi b) (flat 3) = true ∧ True) ∧ okT tiT (List.map gi a) (m + 1) ∧ okT tiT (List.map gi b) (m' + 1) ∧ one2 cSe (TellT.dec tiT (List.map gi a)) (TellT.dec tiT (List.map gi b)) [Value.func (.func 35) #[] #[]] ∧ (!(ieq (firstS [pairE (TellT.dec tiT (List.map gi a)) (TellT.dec tiT (List.map gi b)), withinS u (-1000) 1000]) 0)) = true ∧ K (Value.tuple #[nilS, gi (firstS [pairE (TellT.dec tiT (List.map gi a)) (TellT.dec tiT (List.map gi b)), withinS u (-1000) 1000])]) ((i2H a e row b e' row').push (.cells [gi (pairE (TellT.dec tiT (List.map gi a)) (TellT.dec tiT (List.map gi b))), gi (withinS u (-1000) 1000)] 33 2 false)))) := by kernel_rfl
end Go.Proofs.YtihnnmejkpddeaaGreatDoor
/-! (OWN WORK. Stage 6: greatest sums by limits and moments: moments of the program in the good case; entries for the law.) -/
namespace Go.Proofs.YtihnnmejkpddeaaGreatDoor
open Go Go.Am
noncomputable abbrev pmAt : Nat → Nat := fun q => match q with
  | 0 => Tryz.prog.globals.size + 1
  | _ => Tryz.prog.globals.size + 3
noncomputable def pmLo (a b : List Int) (u : Int) (n e row k : Nat) : Loops Tryz.prog where
  body := fun _ => loopOf Tryz.prog 37 0
  spec := fun _ s h c => entry s 42 [(2, gi u), (9, .slice (some ⟨Tryz.prog.globals.size + 3, 0, none⟩) n n), (24, slQ n k), (25, goN n), (26, goN 0)] (h.get (nG1 + 1) = some (.cells (b.map gi) e row true) ∧ h.get (nG1 + 3) = some (.cells (a.map gi) 3 2 false) ∧ ((a.length = n ∧ b.length = n ∧ n ≤ 65536) ∧ bdU a ∧ bdU b ∧ limS u) ∧ ∀ g, c (.exit 0) (stOf 42 [(9, slN 1 n n)] g) (pmH (b.map gi) ((moL u a b).map gi) e row))
  ok := fun i s h c q => by
    obtain ⟨h1, h2, h3, g0, g1, ⟨⟨ha, hb, hs⟩, ba, bb, hu⟩, h5⟩ := entry_facts q
    refine J.of_told (pm_loop a b u n e row k n ha hb ba bb hu hs pmAt (by decide) (fun q hq => ?_) (fun j => by kernel_rfl) s h (fun q b hb => ?_) h1 h2 ?_) ?_
    · match q, hq with
      | 0, _ => show Tryz.prog.globals.size ≤ Tryz.prog.globals.size + 1; omega
      | 1, _ => show Tryz.prog.globals.size ≤ Tryz.prog.globals.size + 3; omega
    · match q, hb with
      | 0, hb => cases hb; exact g0
      | 1, hb => cases hb; exact g1
    · simp only [List.map_cons, List.map_nil]
      rw [h3 (2, gi u) (by simp), h3 (9, .slice (some ⟨Tryz.prog.globals.size + 3, 0, none⟩) n n) (by simp), h3 (24, slQ n k) (by simp), h3 (25, goN n) (by simp), h3 (26, goN 0) (by simp)]
      rfl
    · rintro ex vs h' g ⟨rfl, rfl, rfl⟩
      exact h5 (ov [(2, gi u), (24, liP n k), (25, goN n), (26, goN n)] g)
theorem pm_ok (a b : List Int) (u : Int) (m e row k e' row' k' : Nat) (K : Value → AHeap → Prop) : callC Tryz.prog (exec Tryz.prog orcJh 20) (syOf [(14, 7), (20, 32), (23, 7)]) (askJh (m + 1)) (pmLo a b u (m + 1) e' row' k') 40 37 #[liP (m + 1) k, slQ (m + 1) k', gi u] (i2H a e row b e' row') K = (((List.all (List.map gi a) (flat 3) = true ∧ List.all (List.map gi b) (flat 3) = true ∧ True) ∧ okT tiT (List.map gi a) (m + 1) ∧ okT tiT (List.map gi b) (m + 1) ∧ one2 cSe (TellT.dec tiT (List.map gi a)) (TellT.dec tiT (List.map gi b)) [Value.func (.func 35) #[] #[]] ∧ (!(ieq (firstS [pairE (TellT.dec tiT (List.map gi a)) (TellT.dec tiT (List.map gi b)), withinS u (-1000) 1000]) 0)) = false ∧ (List.all (List.map gi a) (flat 3) = true ∧ True) ∧ okT tiT (List.map gi a) (m + 1) ∧ clC (TellT.dec tiT (List.map gi a)) [] ∧ loopOf Tryz.prog 37 0 = loopOf Tryz.prog 37 0 ∧ gi u = gi u ∧ Value.slice (some ⟨nG1 + 3, 0, none⟩) (m + 1) (m + 1) = Value.slice (some ⟨nG1 + 3, 0, none⟩) (m + 1) (m + 1) ∧ slQ (m + 1) k' = slQ (m + 1) k' ∧ goN (m + 1) = goN (m + 1) ∧ gi 0 = goN 0 ∧ (((i2H a e row b e' row').push (.cells [gi (pairE (TellT.dec tiT (List.map gi a)) (TellT.dec tiT (List.map gi b))), gi (withinS u (-1000) 1000)] 33 2 false)).push (.cells (List.map gi (TellT.dec tiT (List.map gi a))) 3 2 false)).get (nG1 + 1) = Option.some (.cells (List.map gi b) e' row' true) ∧ (((i2H a e row b e' row').push (.cells [gi (pairE (TellT.dec tiT (List.map gi a)) (TellT.dec tiT (List.map gi b))), gi (withinS u (-1000) 1000)] 33 2 false)).push (.cells (List.map gi (TellT.dec tiT (List.map gi a))) 3 2 false)).get (nG1 + 3) = Option.some (.cells (List.map gi a) 3 2 false) ∧ ((List.length a = (m + 1) ∧ List.length b = (m + 1) ∧ ((m + 1) : Nat) ≤ 65536) ∧ bdU a ∧ bdU b ∧ limS u) ∧ (∀ _ : Nat → Value, K (Value.tuple #[slN 1 (m + 1) (m + 1), gi 0]) (pmH (List.map gi b) (List.map gi (moL u a b)) e' row')))) := by kernel_rfl
end Go.Proofs.YtihnnmejkpddeaaGreatDoor
/-! (OWN WORK. Stage 6: the law's small functions, and what it calls where a list is empty, carried out.) -/
namespace Go.Proofs.YtihnnmejkpddeaaGreatDoor
open Go Go.Am
end Go.Proofs.YtihnnmejkpddeaaGreatDoor
/-! (OWN WORK. Stage 6: the law's small functions as known calls; errors where a list is empty.) -/
namespace Go.Proofs.YtihnnmejkpddeaaGreatDoor
open Go Go.Am
noncomputable def shB (n : Nat) : Bool := bif !ilt 40 (Int.ofNat n) then true else ieq (Int.ofNat n) 129
noncomputable def shX (vs : List Value) (B : List Cells) : Option Out := s1Y none (fun _ n r => match r with
  | [] => some (.plain (.bool (shB n)))
  | _ => none) vs B
noncomputable def shY (vs : List Value) (B : List Cells) (K : Out → Prop) : Prop := s1Y False (fun _ n r => match r with
  | [] => K (.plain (.bool (shB n)))
  | _ => False) vs B
noncomputable abbrev pfO (a : List Int) (_ : List Value) : Out := .plain (gi (pairE a []))
noncomputable abbrev peO (b : List Int) (_ : List Value) : Out := .plain (gi (pairE [] b))
noncomputable def orcJi : Orc := orElse 16 (s1O tiT clC cloO) (orElse 14 (anyO Tryz.prog.globals.size shX) orcJh)
noncomputable def askJi (n : Nat) : Asks := asksV Tryz.prog.globals.size 16 (s1AY tiT clC cloO) (asksV Tryz.prog.globals.size 14 shY (askJh n))
noncomputable def orcFe : Orc := orElse 104 (anyO Tryz.prog.globals.size (feX tiT (oneC cSe) pfO)) orcJi
noncomputable def orcEf : Orc := orElse 104 (anyO Tryz.prog.globals.size (efX tiT (oneC cSe) peO)) orcJi
noncomputable def askFe : Asks := asksV Tryz.prog.globals.size 104 (feAY tiT (oneC cSe) pfO) (askJi 0)
noncomputable def askEf : Asks := asksV Tryz.prog.globals.size 104 (efAY tiT (oneC cSe) peO) (askJi 0)
end Go.Proofs.YtihnnmejkpddeaaGreatDoor
