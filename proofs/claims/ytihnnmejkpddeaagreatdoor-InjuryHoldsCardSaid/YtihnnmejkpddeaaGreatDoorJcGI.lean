/-
  OWN WORK. Stage 6: pairs.
-/
import Derived.Test.YtihnnmejkpddeaaGreatDoorJcAE
/-! (OWN WORK. Stage 6: errors of pairs; rounds of the loops over ratios.) -/
namespace Go.Proofs.YtihnnmejkpddeaaGreatDoor
open Go Go.Am
theorem okI {l : List Int} {m : Nat} (hl : l.length = m + 1) (h1 : m + 1 ≤ 65536) : okT tiT (l.map gi) (m + 1) := okT_of (T := tiT) hl (Nat.succ_pos m) h1
theorem okP {l : List P2} {m : Nat} (hl : l.length = m + 1) (h1 : m + 1 ≤ 65536) : okT tpT (cellsP l) (m + 1) := okT_of (T := tpT) hl (Nat.succ_pos m) h1
theorem decT (l : List Int) : TellT.dec tiT (l.map gi) = l := decI_map l
theorem decU (l : List P2) : TellT.dec tpT (cellsP l) = l := decQ_cells l
noncomputable def orcJd : Orc := orElse 35 (s1O tiT nonC serO) orcJc
set_option maxRecDepth 100000 in
theorem orcJd_ok : OrcOk Tryz.prog orcJd := by
  refine s1O_ok orcJc_ok (fun _ _ _ _ => rfl) ?_
  rintro l m k e row r hl h1 rfl
  refine callC_ok mixed orcJc_ok askJc_ok (Eq.mpr (pse_run l m e row k _) ⟨⟨flat_ints l, trivial⟩, okI hl h1, rfl, ?_⟩)
  rw [decT]
  show gi (firstS [cnE (Int.ofNat (m + 1)) 128, firstE uE l]) = gi (serE l)
  unfold serE; rw [hl]
noncomputable def askJd : Asks := asksV Tryz.prog.globals.size 35 (s1AY tiT nonC serO) askJc
theorem askJd_ok : AsksOk orcJd askJd := asksV_ok (s1A_ok fun _ _ _ h => ⟨h, rfl⟩) askJc_ok
noncomputable abbrev cSe : Value := clF 35
noncomputable abbrev cQc : Value := clF 149
noncomputable abbrev i2H (a : List Int) (e row : Nat) (b : List Int) (e' row' : Nat) : AHeap := canon Tryz.prog [(a.map gi, e, row), (b.map gi, e', row')]
theorem cpa_run (a b : List Int) (m e row k m' e' row' k' : Nat) (K : Value → Prop) : callC Tryz.prog (exec Tryz.prog orcJd 10) (syOf [(9, 7), (12, 7)]) askJd (noLoops _) 40 104 #[liP (m + 1) k, slQ (m' + 1) k', cSe] (i2H a e row b e' row') (fun v _ => K v) = (((List.all (List.map gi a) (flat 3) = true ∧ True) ∧ okT tiT (List.map gi a) (m + 1) ∧ nonC (TellT.dec tiT (List.map gi a)) [] ∧ (List.all (List.map gi b) (flat 3) = true ∧ True) ∧ okT tiT (List.map gi b) (m' + 1) ∧ nonC (TellT.dec tiT (List.map gi b)) [] ∧ K (gi (firstS [serE (TellT.dec tiT (List.map gi a)), serE (TellT.dec tiT (List.map gi b)), whenS (!(ieq (Int.ofNat (m + 1)) (Int.ofNat (m' + 1)))) 2])))) := by kernel_rfl
noncomputable abbrev mxH3 (c : List Value) (e row : Nat) (y m : P2) : AHeap := canonT [] (fun _ => 0) Tryz.prog.globals.size [(c, e, row, true), ([gi y.1, gi y.2], 28, 0, false), ([gi m.1, gi m.2], 28, 0, false)]
theorem mxf_body (c : List Value) (e row n k j : Nat) (m1 m2 y1 y2 : Int) (g : Nat → Value) (Q : Exit → List Value → AHeap → Prop) : execC Tryz.prog (exec Tryz.prog orcJd 10) (syOf [(17, 1), (23, 2), (24, 46), (27, 1), (30, 2), (31, 46)]) askJd (noLoops _) 40 (loopOf Tryz.prog 161 0) (stOf 33 [(0, liP n k), (1, cQc), (4, ptN 1), (5, ptN 2), (6, goN j)] g) (mxH3 c e row (y1, y2) (m1, m2)) (told 33 [0, 1, 4, 5, 6] Q) = (((Nat.blt j n = true → (Nat.blt j n = true ∧ c[(0 + (j * 2))]? = Option.some (gi (intAt c (0 + (j * 2)))) ∧ c[((0 + (j * 2)) + 1)]? = Option.some (gi (intAt c ((0 + (j * 2)) + 1))) ∧ (ilt 0 (cpR (Prod.mk (intAt c (0 + (j * 2))) (intAt c ((0 + (j * 2)) + 1))) (Prod.mk m1 m2)) = true → (Nat.blt j n = true ∧ c[(0 + (j * 2))]? = Option.some (gi (intAt c (0 + (j * 2)))) ∧ c[((0 + (j * 2)) + 1)]? = Option.some (gi (intAt c ((0 + (j * 2)) + 1))) ∧ Q .normal [liP n k, cQc, ptN 1, ptN 2, gi (fwrap IntKind.i64 (Int.ofNat (j + 1)))] ((mxH3 c e row (Prod.mk y1 y2) (Prod.mk m1 m2)).set (nG1 + 2) (.cells ([] ++ ([gi (intAt c (0 + (j * 2))), gi (intAt c ((0 + (j * 2)) + 1))] ++ [])) 28 0 false)))) ∧ (ilt 0 (cpR (Prod.mk (intAt c (0 + (j * 2))) (intAt c ((0 + (j * 2)) + 1))) (Prod.mk m1 m2)) = false → Q .normal [liP n k, cQc, ptN 1, ptN 2, gi (fwrap IntKind.i64 (Int.ofNat (j + 1)))] (mxH3 c e row (Prod.mk y1 y2) (Prod.mk m1 m2))))) ∧ (Nat.blt j n = false → Q (.exit 0) [liP n k, cQc, ptN 1, ptN 2, goN j] (mxH3 c e row (Prod.mk y1 y2) (Prod.mk m1 m2))))) := by kernel_rfl
noncomputable abbrev ixH2 (c : List Value) (e row : Nat) (m : P2) : AHeap := canonT [] (fun _ => 0) Tryz.prog.globals.size [(c, e, row, true), ([gi m.1, gi m.2], 28, 0, false)]
theorem ixf_body (c : List Value) (e row n k j : Nat) (m1 m2 : Int) (g : Nat → Value) (Q : Exit → List Value → AHeap → Prop) : execC Tryz.prog (exec Tryz.prog orcJd 10) (syOf [(9, 1), (14, 2), (15, 46), (16, 48)]) askJd (noLoops _) 40 (loopOf Tryz.prog 162 0) (stOf 19 [(0, liP n k), (3, ptN 1), (4, gi 0), (7, goN n), (8, goN j)] g) (ixH2 c e row (m1, m2)) (told 19 [0, 3, 4, 7, 8] Q) = (((Nat.blt j n = true → (Nat.blt j n = true ∧ c[(0 + (j * 2))]? = Option.some (gi (intAt c (0 + (j * 2)))) ∧ c[((0 + (j * 2)) + 1)]? = Option.some (gi (intAt c ((0 + (j * 2)) + 1))) ∧ ((ieq m1 (intAt c (0 + (j * 2))) && (ieq m2 (intAt c ((0 + (j * 2)) + 1)) && true)) = true → Q .ret [liP n k, ptN 1, goN j, goN n, goN j] (ixH2 c e row (Prod.mk m1 m2))) ∧ ((ieq m1 (intAt c (0 + (j * 2))) && (ieq m2 (intAt c ((0 + (j * 2)) + 1)) && true)) = false → Q .normal [liP n k, ptN 1, gi 0, goN n, gi (fwrap IntKind.i64 (Int.ofNat (j + 1)))] (ixH2 c e row (Prod.mk m1 m2))))) ∧ (Nat.blt j n = false → Q (.exit 0) [liP n k, ptN 1, gi 0, goN n, goN j] (ixH2 c e row (Prod.mk m1 m2))))) := by kernel_rfl
end Go.Proofs.YtihnnmejkpddeaaGreatDoor
/-! (OWN WORK. Stage 6: the greatest one of some ratios, and its place: the loops.) -/
namespace Go.Proofs.YtihnnmejkpddeaaGreatDoor
open Go Go.Am
theorem mxF_app : ∀ (l : List P2) (m x : P2), mxF m (l ++ [x]) = bif gtR x (mxF m l) then x else mxF m l
  | [], _, _ => rfl
  | y :: r, m, x => mxF_app r (bif gtR y m then y else m) x
noncomputable abbrev mxfV (n k : Nat) (at_ : Nat → Nat) (j : Nat) : List Value := [.slice (some ⟨at_ 0, 0, none⟩) n k, cQc, .pointer (some ⟨at_ 1, 0, none⟩), .pointer (some ⟨at_ 2, 0, none⟩), goN (j + 1)]
noncomputable abbrev mxfC (y : P2) (r : List P2) (e row : Nat) (j : Nat) : List Blk := [(cellsP (y :: r), e, row, true), ([gi 0, gi 0], 28, 0, false), ([gi (mxF y (r.take j)).1, gi (mxF y (r.take j)).2], 28, 0, false)]
set_option maxRecDepth 100000 in
theorem mxf_loop (y : P2) (r : List P2) (e row k : Nat) (hl : r.length < 65536) : ∀ (a : AAct) (h : AHeap), Laid (mxfC y r e row 0) (nG1 + ·) h → a.n = 33 → a.marks = [] → [0, 1, 4, 5, 6].map a.tmp = mxfV (r.length + 1) k (nG1 + ·) 0 →
    J Tryz.prog (.loop (loopOf Tryz.prog 161 0)) a h (told 33 [0, 1, 4, 5, 6] fun ex vs h => ex = .exit 0 ∧ vs = mxfV (r.length + 1) k (nG1 + ·) r.length ∧ h = mxH3 (cellsP (y :: r)) e row (0, 0) (mxF y r)) := by
  intro a h hs ha hm hv
  refine fold_rule (L := 3) (C := mxfC y r e row) globs_pos (by decide) (by decide) (fun _ => rfl) (fun j b hb => ?_) (V := mxfV (r.length + 1) k) (I := fun _ => True) (m := r.length) trivial _ (nG1 + ·) (plus_nodup nG1 3) (fun q _ => by show Tryz.prog.globals.size ≤ nG1 + q; unfold nG1; omega) (fun j => by kernel_rfl) (fun j => by kernel_rfl)
    (fun at_ j q hq => ?_) ?_ ?_ a h hs ha hm hv
  · simp only [List.mem_cons, List.not_mem_nil, or_false] at hb
    rcases hb with rfl | rfl | rfl
    · exact cellsP_flat _
    · rfl
    · rfl
  · match q, hq with
    | 0, _ => exact ⟨(0, .slice (some ⟨at_ 0, 0, none⟩) (r.length + 1) k), by simp, by simp [named]⟩
    | 1, _ => exact ⟨(4, .pointer (some ⟨at_ 1, 0, none⟩)), by simp, by simp [named]⟩
    | 2, _ => exact ⟨(5, .pointer (some ⟨at_ 2, 0, none⟩)), by simp, by simp [named]⟩
  · intro j hj _ g
    have hj' : j + 1 < (y :: r).length := by simpa using hj
    refine execC_ok mixed orcJd_ok askJd_ok (noLoops _) (Eq.mpr (mxf_body _ e row _ k (j + 1) _ _ 0 0 g _) ⟨fun hlt => ?_, fun hge => absurd (blt_false hge) (by omega)⟩)
    obtain ⟨⟨h1, h1'⟩, h2, h2'⟩ := cellsP_at hj'
    have ee : (y :: r)[j + 1] = r[j] := rfl
    rw [ee] at h2 h2'
    have es : mxF y (r.take (j + 1)) = bif gtR r[j] (mxF y (r.take j)) then r[j] else mxF y (r.take j) := by
      rw [List.take_add_one, List.getElem?_eq_getElem hj]; exact mxF_app _ _ _
    refine ⟨hlt, h1, h1', fun h3 => ⟨hlt, h1, h1', trivial, ?_, ?_⟩, fun h3 => ⟨trivial, ?_, ?_⟩⟩
    · rw [fwrap_nat (by omega)]; rfl
    · rw [h2, h2'] at h3 ⊢
      have h3 : gtR r[j] (mxF y (r.take j)) = true := h3
      intro q b hb
      match q, hb with
      | 0, hb => cases hb; show _ = _; kernel_rfl
      | 1, hb => cases hb; show _ = _; kernel_rfl
      | 2, hb => cases hb; rw [es, h3]; show _ = _; kernel_rfl
    · rw [fwrap_nat (by omega)]; rfl
    · rw [h2, h2'] at h3
      have h3 : gtR r[j] (mxF y (r.take j)) = false := h3
      intro q b hb
      match q, hb with
      | 0, hb => cases hb; show _ = _; kernel_rfl
      | 1, hb => cases hb; show _ = _; kernel_rfl
      | 2, hb => cases hb; rw [es, h3]; show _ = _; kernel_rfl
  · intro _ g
    refine execC_ok mixed orcJd_ok askJd_ok (noLoops _) (Eq.mpr (mxf_body _ e row _ k (r.length + 1) _ _ 0 0 g _) ⟨fun hlt => absurd (blt_true hlt) (by omega), fun _ => ⟨rfl, rfl, ?_⟩⟩)
    rw [List.take_length]
noncomputable def mxfL (y : P2) (r : List P2) (n e row k : Nat) : Loops Tryz.prog where
  body := fun _ => loopOf Tryz.prog 161 0
  spec := fun _ a h c => entry a 33 [(0, liP n k), (1, cQc), (4, ptN 1), (5, ptN 2), (6, goN 1)] (h.get (nG1 + 0) = some (.cells (cellsP (y :: r)) e row true) ∧ h.get (nG1 + 1) = some (.cells [gi 0, gi 0] 28 0 false) ∧ h.get (nG1 + 2) = some (.cells [gi y.1, gi y.2] 28 0 false) ∧ (r.length + 1 = n ∧ n ≤ 65536) ∧ ∀ g, c (.exit 0) (stOf 33 [(4, ptN 1), (5, ptN 2)] g) (mxH3 (cellsP (y :: r)) e row (0, 0) (mxF y r)))
  ok := fun i a h c q => by
    obtain ⟨h1, h2, h3, g0, g1, g2, ⟨rfl, hs⟩, h5⟩ := entry_facts q
    refine J.of_told (mxf_loop y r e row k (by omega) a h (Laid.three g0 g1 g2) h1 h2 ?_) ?_
    · simp only [List.map_cons, List.map_nil]
      rw [h3 (0, liP (r.length + 1) k) (by simp), h3 (1, cQc) (by simp), h3 (4, ptN 1) (by simp), h3 (5, ptN 2) (by simp), h3 (6, goN 1) (by simp)]
      rfl
    · rintro ex vs h' g ⟨rfl, rfl, rfl⟩
      exact h5 (ov [(0, liP (r.length + 1) k), (1, cQc), (4, ptN 1), (5, ptN 2), (6, goN (r.length + 1))] g)
set_option maxRecDepth 100000 in
theorem ixf_loop (l : List P2) (m : P2) (e row k : Nat) (hl : l.length ≤ 65536) : ∀ a : AAct, a.n = 19 → a.marks = [] → [0, 3, 4, 7, 8].map a.tmp = [liP l.length k, ptN 1, gi 0, goN l.length, goN 0] →
    J Tryz.prog (.loop (loopOf Tryz.prog 162 0)) a (ixH2 (cellsP l) e row m) (told 19 [0, 3, 4, 7, 8] fun ex vs h => h = ixH2 (cellsP l) e row m ∧ ((ex = .exit 0 ∧ idxB (eqP m) l 0 = -1) ∨ (ex = .ret ∧ ∃ j, vs = [liP l.length k, ptN 1, gi (idxB (eqP m) l 0), goN l.length, goN j]))) := by
  refine scan_rule _ (fun j => [liP l.length k, ptN 1, gi 0, goN l.length, goN j]) (fun j => idxB (eqP m) l 0 = idxB (eqP m) (l.drop j) j) l.length rfl _ ?_ ?_
  · intro j hj hI g
    refine execC_ok mixed orcJd_ok askJd_ok (noLoops _) (Eq.mpr (ixf_body _ e row _ k j m.1 m.2 g _) ⟨fun hlt => ?_, fun hge => absurd (blt_false hge) (by omega)⟩)
    obtain ⟨⟨h1, h1'⟩, h2, h2'⟩ := cellsP_at hj
    rw [idxB_drop hj] at hI
    refine ⟨hlt, h1, h1', fun h3 => ⟨rfl, .inr ⟨rfl, j, ?_⟩⟩, fun h3 => ⟨?_, ?_, rfl⟩⟩
    · rw [h2, h2'] at h3
      have h3 : eqP m l[j] = true := h3
      rw [hI, h3]; rfl
    · rw [h2, h2'] at h3
      have h3 : eqP m l[j] = false := h3
      rw [hI, h3]; rfl
    · rw [fwrap_nat (by omega)]
  · intro hI g
    exact execC_ok mixed orcJd_ok askJd_ok (noLoops _) (Eq.mpr (ixf_body _ e row _ k _ m.1 m.2 g _) ⟨fun hlt => absurd (blt_true hlt) (by omega), fun _ => ⟨rfl, .inl ⟨rfl, by rw [hI, idxB_end (Nat.le_refl _)]⟩⟩⟩)
noncomputable def ixfL (l : List P2) (m : P2) (n e row k : Nat) : Loops Tryz.prog where
  body := fun _ => loopOf Tryz.prog 162 0
  spec := fun _ a h c => entry a 19 [(0, liP n k), (3, ptN 1), (4, gi 0), (7, goN n), (8, goN 0)] (h = ixH2 (cellsP l) e row m ∧ (l.length = n ∧ n ≤ 65536) ∧ (idxB (eqP m) l 0 = -1 → ∀ g, c (.exit 0) (stOf 19 [] g) (ixH2 (cellsP l) e row m)) ∧ ∀ g, c .ret (stOf 19 [(4, gi (idxB (eqP m) l 0))] g) (ixH2 (cellsP l) e row m))
  ok := fun i a h c q => by
    obtain ⟨h1, h2, h3, rfl, ⟨rfl, hs⟩, h4, h5⟩ := entry_facts q
    refine J.of_told (ixf_loop l m e row k hs a h1 h2 ?_) ?_
    · simp only [List.map_cons, List.map_nil]
      rw [h3 (0, liP l.length k) (by simp), h3 (3, ptN 1) (by simp), h3 (4, gi 0) (by simp), h3 (7, goN l.length) (by simp), h3 (8, goN 0) (by simp)]
    · rintro ex vs h' g ⟨rfl, ⟨rfl, ha⟩ | ⟨rfl, j, rfl⟩⟩
      · exact h4 ha (ov ([0, 3, 4, 7, 8].zip vs) g)
      · exact h5 (ov [(0, liP l.length k), (3, ptN 1), (7, goN l.length), (8, goN j)] g)
theorem mxf_run (y : P2) (r : List P2) (m e row k : Nat) (K : Value → Prop) : callC Tryz.prog (exec Tryz.prog orcJd 10) (syOf []) askJd (mxfL y r (m + 1) e row k) 40 161 #[liP (m + 1) k, cQc] (canon Tryz.prog [(cellsP (y :: r), e, row)]) (fun v _ => K v) = ((loopOf Tryz.prog 161 0 = loopOf Tryz.prog 161 0 ∧ liP (m + 1) k = liP (m + 1) k ∧ cQc = cQc ∧ Value.pointer (some ⟨nG1 + 1, 0, none⟩) = ptN 1 ∧ Value.pointer (some ⟨nG1 + 2, 0, none⟩) = ptN 2 ∧ gi 1 = goN 1 ∧ ((((canon Tryz.prog [Prod.mk (cellsP (y :: r)) (Prod.mk e row)]).push (.cells [gi 0, gi 0] 28 0 false)).push (.cells [gi 0, gi 0] 28 0 false)).set (nG1 + 2) (.cells ([] ++ (List.take 2 (List.drop 0 (cellsP (y :: r))) ++ [])) 28 0 false)).get (nG1) = Option.some (.cells (cellsP (y :: r)) e row true) ∧ ((((canon Tryz.prog [Prod.mk (cellsP (y :: r)) (Prod.mk e row)]).push (.cells [gi 0, gi 0] 28 0 false)).push (.cells [gi 0, gi 0] 28 0 false)).set (nG1 + 2) (.cells ([] ++ (List.take 2 (List.drop 0 (cellsP (y :: r))) ++ [])) 28 0 false)).get (nG1 + 1) = Option.some (.cells [gi 0, gi 0] 28 0 false) ∧ ((((canon Tryz.prog [Prod.mk (cellsP (y :: r)) (Prod.mk e row)]).push (.cells [gi 0, gi 0] 28 0 false)).push (.cells [gi 0, gi 0] 28 0 false)).set (nG1 + 2) (.cells ([] ++ (List.take 2 (List.drop 0 (cellsP (y :: r))) ++ [])) 28 0 false)).get (nG1 + 2) = Option.some (.cells [gi y.1, gi y.2] 28 0 false) ∧ ((List.length r + 1) = (m + 1) ∧ ((m + 1) : Nat) ≤ 65536) ∧ (∀ _ : Nat → Value, K (Value.agg (Array.mk (List.take 2 (List.drop 0 ([] ++ ([gi (((mxF y r).1)), gi (((mxF y r).2))] ++ []))))))))) := by kernel_rfl
theorem ixf_run (l : List P2) (x : P2) (m e row k : Nat) (K : Value → Prop) : callC Tryz.prog (exec Tryz.prog orcJd 10) (syOf []) askJd (ixfL l x (m + 1) e row k) 40 162 #[liP (m + 1) k, .agg #[gi x.1, gi x.2]] (canon Tryz.prog [(cellsP l, e, row)]) (fun v _ => K v) = ((loopOf Tryz.prog 162 0 = loopOf Tryz.prog 162 0 ∧ liP (m + 1) k = liP (m + 1) k ∧ Value.pointer (some ⟨nG1 + 1, 0, none⟩) = ptN 1 ∧ gi 0 = gi 0 ∧ goN (m + 1) = goN (m + 1) ∧ gi 0 = goN 0 ∧ (canon Tryz.prog [Prod.mk (cellsP l) (Prod.mk e row)]).push (.cells [gi x.1, gi x.2] 28 0 false) = ixH2 (cellsP l) e row x ∧ (List.length l = (m + 1) ∧ ((m + 1) : Nat) ≤ 65536) ∧ (idxB (eqP x) l 0 = (-1) → (∀ _ : Nat → Value, K (gi (-1)))) ∧ (∀ _ : Nat → Value, K (gi (idxB (eqP x) l 0))))) := by kernel_rfl
end Go.Proofs.YtihnnmejkpddeaaGreatDoor
/-! (OWN WORK. Stage 6: errors of pairs, the greatest ratio and its place, as known calls.) -/
namespace Go.Proofs.YtihnnmejkpddeaaGreatDoor
open Go Go.Am
noncomputable def pairE (a b : List Int) : Int := firstS [serE a, serE b, whenS (!(ieq (Int.ofNat a.length) (Int.ofNat b.length))) 2]
def one2 {α β : Type} (c : Value) (_ : List α) (_ : List β) (r : List Value) : Prop := r = [c]
noncomputable abbrev paiO (a b : List Int) (_ : List Value) : Out := .plain (gi (pairE a b))
noncomputable def mxG : List P2 → P2
  | [] => (0, 0)
  | y :: r => mxF y r
noncomputable abbrev rtV (x : P2) : Value := .agg #[gi x.1, gi x.2]
noncomputable abbrev mxfO (_ : Nat) (l : List P2) (_ : List Value) : Out := .plain (rtV (mxG l))
noncomputable def agP : List Value → P2
  | [.agg a] => match a.toList with
    | [.int .i64 x, .int .i64 y] => (x, y)
    | _ => (0, 0)
  | _ => (0, 0)
def isP (_ : List P2) (r : List Value) : Prop := r = [rtV (agP r)]
noncomputable abbrev ixfO (_ : Nat) (l : List P2) (r : List Value) : Out := .plain (gi (idxB (eqP (agP r)) l 0))
noncomputable def orcJe : Orc := orElse 162 (s1O tpT isP ixfO) (orElse 161 (s1O tpT (oneC cQc) mxfO) (orElse 104 (s2Oo tiT tiT (one2 cSe) paiO) orcJd))
set_option maxRecDepth 100000 in
theorem orcJe_ok : OrcOk Tryz.prog orcJe := by
  refine s1O_ok (s1O_ok (s2O_ok orcJd_ok (fun _ _ _ _ => rfl) ?_) (fun _ _ _ _ => rfl) ?_) (fun _ _ _ _ => rfl) ?_
  · rintro a b m k e row m' k' e' row' r hl h1 hl' h1' rfl
    refine callC_ok mixed orcJd_ok askJd_ok (Eq.mpr (cpa_run a b m e row k m' e' row' k' _) ⟨⟨flat_ints a, trivial⟩, okI hl h1, rfl, ⟨flat_ints b, trivial⟩, okI hl' h1', rfl, ?_⟩)
    rw [decT, decT]
    show _ = gi (pairE a b)
    unfold pairE; rw [hl, hl']
  · rintro l m k e row r hl h1 rfl
    match l, hl with
    | y :: r, hl =>
    have hl' : r.length = m := by simpa using hl
    exact callC_ok mixed orcJd_ok askJd_ok (Eq.mpr (mxf_run y r m e row k _) ⟨rfl, rfl, rfl, rfl, rfl, rfl, by kernel_rfl, by kernel_rfl, by kernel_rfl, ⟨by omega, h1⟩, fun _ => rfl⟩)
  · rintro l m k e row r hl h1 hr
    have hr' : r = [rtV (agP r)] := hr
    generalize agP r = x at hr' ⊢
    subst hr'
    refine callC_ok mixed orcJd_ok askJd_ok (Eq.mpr (ixf_run l x m e row k _) ⟨rfl, rfl, rfl, rfl, rfl, rfl, rfl, ⟨hl, h1⟩, fun h _ => ?_, fun _ => rfl⟩)
    show gi (-1) = gi (idxB (eqP x) l 0)
    rw [h]
noncomputable def askJe : Asks := asksV Tryz.prog.globals.size 162 (s1AY tpT isP ixfO) (asksV Tryz.prog.globals.size 161 (s1AY tpT (oneC cQc) mxfO) (asksV Tryz.prog.globals.size 104 (s2AY tiT tiT (one2 cSe) paiO) askJd))
theorem askJe_ok : AsksOk orcJe askJe := asksV_ok (s1A_ok fun _ _ _ h => ⟨h, rfl⟩) (asksV_ok (s1A_ok fun _ _ _ h => ⟨h, rfl⟩) (asksV_ok (s2A_ok fun _ _ _ h => ⟨h, rfl⟩) askJd_ok))
theorem gr_run (l : List P2) (m e row k : Nat) (K : Value → Prop) : callC Tryz.prog (exec Tryz.prog orcJe 10) (syOf [(6, 7), (9, 7)]) askJe (noLoops _) 40 106 #[liP (m + 1) k] (canon Tryz.prog [(cellsP l, e, row)]) (fun v _ => K v) = (((List.all (cellsP l) (flat 3) = true ∧ True) ∧ okT tpT (cellsP l) (m + 1) ∧ oneC cQc (TellT.dec tpT (cellsP l)) [Value.func (.func 149) #[] #[]] ∧ (List.all (cellsP l) (flat 3) = true ∧ True) ∧ okT tpT (cellsP l) (m + 1) ∧ isP (TellT.dec tpT (cellsP l)) [Value.agg (Array.mk (List.take 2 (List.drop 0 ([] ++ ([gi (((mxG (tpT.dec (cellsP l, e, row).fst)).1)), gi (((mxG (tpT.dec (cellsP l, e, row).fst)).2))] ++ [])))))] ∧ Value.agg (Array.mk (List.take 2 (List.drop 0 ([] ++ ([gi (((mxG (tpT.dec (cellsP l, e, row).fst)).1)), gi (((mxG (tpT.dec (cellsP l, e, row).fst)).2))] ++ []))))) = Value.agg (Array.mk (List.take 2 (List.drop 0 ([] ++ ([gi (((mxG (tpT.dec (cellsP l, e, row).fst)).1)), gi (((mxG (tpT.dec (cellsP l, e, row).fst)).2))] ++ []))))) ∧ K (Value.tuple #[gi (idxB (eqP (agP [Value.agg (Array.mk (List.take 2 (List.drop 0 ([] ++ ([gi (((mxG (tpT.dec (cellsP l, e, row).fst)).1)), gi (((mxG (tpT.dec (cellsP l, e, row).fst)).2))] ++ [])))))])) (TellT.dec tpT (cellsP l)) 0), Value.agg (Array.mk (List.take 2 (List.drop 0 ([] ++ (List.take 2 (List.drop 0 ([] ++ ([gi (((mxG (tpT.dec (cellsP l, e, row).fst)).1)), gi (((mxG (tpT.dec (cellsP l, e, row).fst)).2))] ++ []))) ++ [])))))]))) := by kernel_rfl
end Go.Proofs.YtihnnmejkpddeaaGreatDoor
