/-
  OWN WORK. Stage 6: how windows compare.
-/
import Derived.Test.YtihnnmejkpddeaaGreatDoorBsAB
import Derived.Test.YtihnnmejkpddeaaGreatDoorBsCD
import Derived.Test.YtihnnmejkpddeaaGreatDoorMgAC
import Derived.Test.YtihnnmejkpddeaaGreatDoorAmU
/-! (OWN WORK. Stage 6: how windows compare, carried out.) -/
namespace Go.Proofs.YtihnnmejkpddeaaGreatDoor
open Go Go.Am
noncomputable abbrev v4 (a b c d : Int) : Value := .agg #[gi a, gi b, gi c, gi d]
noncomputable def cmSy (f : FuncId) : Sy := bif Nat.beq f 183 then syOf [(14, 1)] else syOf [(25, 55)]
theorem cm_run (a b c d a' b' c' d' : Int) (K : Value → AHeap → Prop) : callR Tryz.prog orcJc cmSy askJc 60 157 #[v4 a b c d, v4 a' b' c' d'] (emp Tryz.prog) K = (([gi a, gi b, gi c, gi d][1]? = Option.some (gi b) ∧ [gi a', gi b', gi c', gi d'][1]? = Option.some (gi b') ∧ [gi a, gi b, gi c, gi d][0]? = Option.some (gi a) ∧ [gi a', gi b', gi c', gi d'][0]? = Option.some (gi a') ∧ [gi a, gi b, gi c, gi d][1]? = Option.some (gi b) ∧ [gi a', gi b', gi c', gi d'][1]? = Option.some (gi b') ∧ ((!(ieq (cpR (Prod.mk c d) (Prod.mk c' d')) 0)) = true → K (gi (cpR (Prod.mk c d) (Prod.mk c' d'))) ((((emp Tryz.prog).push (.cells [gi a, gi b, gi c, gi d] 151 0 false)).push (.cells [gi a', gi b', gi c', gi d'] 151 0 false)).push (.cells [gi (cpR (Prod.mk c d) (Prod.mk c' d')), gi (cpE a' a), gi (cpE b' b)] 3 2 false))) ∧ ((!(ieq (cpR (Prod.mk c d) (Prod.mk c' d')) 0)) = false → (((!(ieq (cpE a' a) 0)) = true → K (gi (cpE a' a)) ((((emp Tryz.prog).push (.cells [gi a, gi b, gi c, gi d] 151 0 false)).push (.cells [gi a', gi b', gi c', gi d'] 151 0 false)).push (.cells [gi (cpR (Prod.mk c d) (Prod.mk c' d')), gi (cpE a' a), gi (cpE b' b)] 3 2 false))) ∧ ((!(ieq (cpE a' a) 0)) = false → (((!(ieq (cpE b' b) 0)) = true → K (gi (cpE b' b)) ((((emp Tryz.prog).push (.cells [gi a, gi b, gi c, gi d] 151 0 false)).push (.cells [gi a', gi b', gi c', gi d'] 151 0 false)).push (.cells [gi (cpR (Prod.mk c d) (Prod.mk c' d')), gi (cpE a' a), gi (cpE b' b)] 3 2 false))) ∧ ((!(ieq (cpE b' b) 0)) = false → K (gi 0) ((((emp Tryz.prog).push (.cells [gi a, gi b, gi c, gi d] 151 0 false)).push (.cells [gi a', gi b', gi c', gi d'] 151 0 false)).push (.cells [gi (cpR (Prod.mk c d) (Prod.mk c' d')), gi (cpE a' a), gi (cpE b' b)] 3 2 false))))))))) := by kernel_rfl
end Go.Proofs.YtihnnmejkpddeaaGreatDoor
/-! (OWN WORK. Stage 6: how windows compare is known; the greatest one of a list: a round.) -/
namespace Go.Proofs.YtihnnmejkpddeaaGreatDoor
open Go Go.Am
noncomputable def cmL : List Value → Option Value
 | [.agg x, .agg y] => match x.toList, y.toList with
  | [.int .i64 a, .int .i64 b, .int .i64 c, .int .i64 d], [.int .i64 a', .int .i64 b', .int .i64 c', .int .i64 d'] => some (gi (cmpW (a, b, (c, d)) (a', b', (c', d'))))
  | _, _ => none
 | _ => none
noncomputable def orcBa : Orc := orElse 157 (flatSpec cmL) orcJc
set_option maxRecDepth 100000 in
theorem orcBa_ok : OrcOk Tryz.prog orcBa := by
 refine flatSpec_ok (fun l v h => ?_) orcJc_ok
 unfold cmL at h
 split at h
 ·split at h
  ·rename_i a b c d a' b' c' d' ha hb
   cases h
   obtain rfl := agg_eq ha
   obtain rfl := agg_eq hb
   refine ⟨rfl, rfl, CallJ.ofR mixed orcJc_ok askJc_ok (Eq.mpr (cm_run a b c d a' b' c' d' _) ⟨rfl, rfl, rfl, rfl, rfl, rfl, fun h => ?_, fun h => ⟨fun h' => ?_, fun h' => ⟨fun h'' => ?_, fun h'' => ?_⟩⟩⟩)⟩
   all_goals
    show gi _ = gi (orE (cpR (c, d) (c', d')) (orE (cpE a' a) (cpE b' b)))
    unfold orE
   ·rw [not_f h]; rfl
   ·rw [not_t h, not_f h']; rfl
   ·rw [not_t h, not_t h']; rfl
   ·rw [not_t h, not_t h']
    have := not_t h''
    rw [ieq_dec] at this
    rw [of_decide_eq_true this]; rfl
  ·cases h
 ·cases h
noncomputable def askBa : Asks := skipA 157 askJc
theorem askBa_ok : AsksOk orcBa askBa := skipA_ok askJc_ok
noncomputable abbrev cWc : Value := clF 157
noncomputable abbrev mwH3 (c : List Value) (e row : Nat) (y m : W4) : AHeap := canonT [] (fun _ => 0) Tryz.prog.globals.size [(c, e, row, true), (w4 y, 151, 0, false), (w4 m, 151, 0, false)]
theorem mw_body (c : List Value) (e row n k j : Nat) (m1 m2 m3 m4 y1 y2 y3 y4 : Int) (g : Nat → Value) (Q : Exit → List Value → AHeap → Prop) : execC Tryz.prog (exec Tryz.prog orcBa 10) (syOf [(17, 1), (23, 2), (24, 46), (27, 1), (30, 2), (31, 46)]) askBa (noLoops _) 40 (loopOf Tryz.prog 156 0) (stOf 33 [(0, liP n k), (1, cWc), (4, ptN 1), (5, ptN 2), (6, goN j)] g) (mwH3 c e row (y1, y2, (y3, y4)) (m1, m2, (m3, m4))) (told 33 [0, 1, 4, 5, 6] Q) = (((Nat.blt j n = true → (Nat.blt j n = true ∧ c[(0 + (j * 4))]? = Option.some (gi (intAt c (0 + (j * 4)))) ∧ c[((0 + (j * 4)) + 1)]? = Option.some (gi (intAt c ((0 + (j * 4)) + 1))) ∧ c[(((0 + (j * 4)) + 1) + 1)]? = Option.some (gi (intAt c (((0 + (j * 4)) + 1) + 1))) ∧ c[((((0 + (j * 4)) + 1) + 1) + 1)]? = Option.some (gi (intAt c ((((0 + (j * 4)) + 1) + 1) + 1))) ∧ (ilt 0 (cmpW (Prod.mk (intAt c (0 + (j * 4))) (Prod.mk (intAt c ((0 + (j * 4)) + 1)) (Prod.mk (intAt c (((0 + (j * 4)) + 1) + 1)) (intAt c ((((0 + (j * 4)) + 1) + 1) + 1))))) (Prod.mk m1 (Prod.mk m2 (Prod.mk m3 m4)))) = true → (Nat.blt j n = true ∧ c[(0 + (j * 4))]? = Option.some (gi (intAt c (0 + (j * 4)))) ∧ c[((0 + (j * 4)) + 1)]? = Option.some (gi (intAt c ((0 + (j * 4)) + 1))) ∧ c[(((0 + (j * 4)) + 1) + 1)]? = Option.some (gi (intAt c (((0 + (j * 4)) + 1) + 1))) ∧ c[((((0 + (j * 4)) + 1) + 1) + 1)]? = Option.some (gi (intAt c ((((0 + (j * 4)) + 1) + 1) + 1))) ∧ Q .normal [liP n k, cWc, ptN 1, ptN 2, gi (fwrap IntKind.i64 (Int.ofNat (j + 1)))] ((mwH3 c e row (Prod.mk y1 (Prod.mk y2 (Prod.mk y3 y4))) (Prod.mk m1 (Prod.mk m2 (Prod.mk m3 m4)))).set (nG1 + 2) (.cells (splice (w4 (Prod.mk m1 (Prod.mk m2 (Prod.mk m3 m4)))) 0 [gi (intAt c (0 + (j * 4))), gi (intAt c ((0 + (j * 4)) + 1)), gi (intAt c (((0 + (j * 4)) + 1) + 1)), gi (intAt c ((((0 + (j * 4)) + 1) + 1) + 1))]) 151 0 false)))) ∧ (ilt 0 (cmpW (Prod.mk (intAt c (0 + (j * 4))) (Prod.mk (intAt c ((0 + (j * 4)) + 1)) (Prod.mk (intAt c (((0 + (j * 4)) + 1) + 1)) (intAt c ((((0 + (j * 4)) + 1) + 1) + 1))))) (Prod.mk m1 (Prod.mk m2 (Prod.mk m3 m4)))) = false → Q .normal [liP n k, cWc, ptN 1, ptN 2, gi (fwrap IntKind.i64 (Int.ofNat (j + 1)))] (mwH3 c e row (Prod.mk y1 (Prod.mk y2 (Prod.mk y3 y4))) (Prod.mk m1 (Prod.mk m2 (Prod.mk m3 m4))))))) ∧ (Nat.blt j n = false → Q (.exit 0) [liP n k, cWc, ptN 1, ptN 2, goN j] (mwH3 c e row (Prod.mk y1 (Prod.mk y2 (Prod.mk y3 y4))) (Prod.mk m1 (Prod.mk m2 (Prod.mk m3 m4))))))) := by kernel_rfl
end Go.Proofs.YtihnnmejkpddeaaGreatDoor
/-! (OWN WORK. Stage 6: the greatest one of a list of windows: the loop.) -/
namespace Go.Proofs.YtihnnmejkpddeaaGreatDoor
open Go Go.Am
theorem mxW_app : ∀ (l : List W4) (m x : W4), mxW m (l ++ [x]) = bif gtW x (mxW m l) then x else mxW m l
 | [], _, _ => rfl
 | y :: r, m, x => mxW_app r (bif gtW y m then y else m) x
theorem cells4_at' {l : List W4} {j : Nat} (hj : j < l.length) : ((cells4 l)[0 + j * 4]? = some (gi l[j].1) ∧ (cells4 l)[0 + j * 4 + 1]? = some (gi l[j].2.1) ∧ (cells4 l)[0 + j * 4 + 1 + 1]? = some (gi l[j].2.2.1) ∧ (cells4 l)[0 + j * 4 + 1 + 1 + 1]? = some (gi l[j].2.2.2)) := by
 have h := cells4_at (List.getElem?_eq_getElem hj)
 rw [show 0 + j * 4 = j * 4 by omega]
 exact h
theorem at_int {c : List Value} {o : Nat} {x : Int} (h : c[o]? = some (gi x)) : c[o]? = some (gi (intAt c o)) ∧ intAt c o = x := by
 have : intAt c o = x := by unfold intAt; rw [h]
 rw [this]; exact ⟨h, rfl⟩
noncomputable abbrev mwV (n k : Nat) (at_ : Nat → Nat) (j : Nat) : List Value := [.slice (some ⟨at_ 0, 0, none⟩) n k, cWc, .pointer (some ⟨at_ 1, 0, none⟩), .pointer (some ⟨at_ 2, 0, none⟩), goN (j + 1)]
noncomputable abbrev z4 : W4 := (0, 0, (0, 0))
noncomputable abbrev mwC (y : W4) (r : List W4) (e row : Nat) (j : Nat) : List Blk := [(cells4 (y :: r), e, row, true), (w4 z4, 151, 0, false), (w4 (mxW y (r.take j)), 151, 0, false)]
set_option maxRecDepth 100000 in
theorem mw_loop (y : W4) (r : List W4) (e row k : Nat) (hl : r.length < 65536) : ∀ (a : AAct) (h : AHeap), Laid (mwC y r e row 0) (nG1 + ·) h → a.n = 33 → a.marks = [] → [0, 1, 4, 5, 6].map a.tmp = mwV (r.length + 1) k (nG1 + ·) 0 →
  J Tryz.prog (.loop (loopOf Tryz.prog 156 0)) a h (told 33 [0, 1, 4, 5, 6] fun ex vs h => ex = .exit 0 ∧ vs = mwV (r.length + 1) k (nG1 + ·) r.length ∧ h = mwH3 (cells4 (y :: r)) e row z4 (mxW y r)) := by
 intro a h hs ha hm hv
 refine fold_rule (L := 3) (C := mwC y r e row) globs_pos (by decide) (by decide) (fun _ => rfl) (fun j b hb => ?_) (V := mwV (r.length + 1) k) (I := fun _ => True) (m := r.length) trivial _ (nG1 + ·) (plus_nodup nG1 3) (fun q _ => by show Tryz.prog.globals.size ≤ nG1 + q; unfold nG1; omega) (fun j => by kernel_rfl) (fun j => by kernel_rfl)
  (fun at_ j q hq => ?_) ?_ ?_ a h hs ha hm hv
 ·simp only [List.mem_cons, List.not_mem_nil, or_false] at hb
  rcases hb with rfl | rfl | rfl
  ·exact cells4_flat _
  ·rfl
  ·rfl
 ·match q, hq with
  | 0, _ => exact ⟨(0, .slice (some ⟨at_ 0, 0, none⟩) (r.length + 1) k), by simp, by simp [named]⟩
  | 1, _ => exact ⟨(4, .pointer (some ⟨at_ 1, 0, none⟩)), by simp, by simp [named]⟩
  | 2, _ => exact ⟨(5, .pointer (some ⟨at_ 2, 0, none⟩)), by simp, by simp [named]⟩
 ·intro j hj _ g
  have hj' : j + 1 < (y :: r).length := by simpa using hj
  refine execC_ok mixed orcBa_ok askBa_ok (noLoops _) (Eq.mpr (mw_body _ e row _ k (j + 1) _ _ _ _ 0 0 0 0 g _) ⟨fun hlt => ?_, fun hge => absurd (blt_false hge) (by omega)⟩)
  obtain ⟨c1, c2, c3, c4⟩ := cells4_at' hj'
  have ee : (y :: r)[j + 1] = r[j] := rfl
  rw [ee] at c1 c2 c3 c4
  obtain ⟨d1, i1⟩ := at_int c1
  obtain ⟨d2, i2⟩ := at_int c2
  obtain ⟨d3, i3⟩ := at_int c3
  obtain ⟨d4, i4⟩ := at_int c4
  have es : mxW y (r.take (j + 1)) = bif gtW r[j] (mxW y (r.take j)) then r[j] else mxW y (r.take j) := by
   rw [List.take_add_one, List.getElem?_eq_getElem hj]; exact mxW_app _ _ _
  refine ⟨hlt, d1, d2, d3, d4, fun h3 => ⟨hlt, d1, d2, d3, d4, trivial, ?_, ?_⟩, fun h3 => ⟨trivial, ?_, ?_⟩⟩
  ·rw [fwrap_nat (by omega)]; rfl
  ·rw [i1, i2, i3, i4] at h3 ⊢
   have h3 : gtW r[j] (mxW y (r.take j)) = true := h3
   intro q b hb
   match q, hb with
   | 0, hb => cases hb; show _ = _; kernel_rfl
   | 1, hb => cases hb; show _ = _; kernel_rfl
   | 2, hb => cases hb; rw [es, h3]; show _ = _; kernel_rfl
  ·rw [fwrap_nat (by omega)]; rfl
  ·rw [i1, i2, i3, i4] at h3
   have h3 : gtW r[j] (mxW y (r.take j)) = false := h3
   intro q b hb
   match q, hb with
   | 0, hb => cases hb; show _ = _; kernel_rfl
   | 1, hb => cases hb; show _ = _; kernel_rfl
   | 2, hb => cases hb; rw [es, h3]; show _ = _; kernel_rfl
 ·intro _ g
  refine execC_ok mixed orcBa_ok askBa_ok (noLoops _) (Eq.mpr (mw_body _ e row _ k (r.length + 1) _ _ _ _ 0 0 0 0 g _) ⟨fun hlt => absurd (blt_true hlt) (by omega), fun _ => ⟨rfl, rfl, ?_⟩⟩)
  rw [List.take_length]
noncomputable def mwL (y : W4) (r : List W4) (n e row k : Nat) : Loops Tryz.prog where
 body := fun _ => loopOf Tryz.prog 156 0
 spec := fun _ a h c => entry a 33 [(0, liP n k), (1, cWc), (4, ptN 1), (5, ptN 2), (6, goN 1)] (h.get (nG1 + 0) = some (.cells (cells4 (y :: r)) e row true) ∧ h.get (nG1 + 1) = some (.cells (w4 z4) 151 0 false) ∧ h.get (nG1 + 2) = some (.cells (w4 y) 151 0 false) ∧ (r.length + 1 = n ∧ n ≤ 65536) ∧ ∀ g, c (.exit 0) (stOf 33 [(4, ptN 1), (5, ptN 2)] g) (mwH3 (cells4 (y :: r)) e row z4 (mxW y r)))
 ok := fun i a h c q => by
  obtain ⟨h1, h2, h3, g0, g1, g2, ⟨rfl, hs⟩, h5⟩ := entry_facts q
  refine J.of_told (mw_loop y r e row k (by omega) a h (Laid.three g0 g1 g2) h1 h2 ?_) ?_
  ·simp only [List.map_cons, List.map_nil]
   rw [h3 (0, liP (r.length + 1) k) (by simp), h3 (1, cWc) (by simp), h3 (4, ptN 1) (by simp), h3 (5, ptN 2) (by simp), h3 (6, goN 1) (by simp)]
   rfl
  ·rintro ex vs h' g ⟨rfl, rfl, rfl⟩
   exact h5 (ov [(0, liP (r.length + 1) k), (1, cWc), (6, goN (r.length + 1))] g)
theorem mw_run (y : W4) (r : List W4) (m e row k : Nat) (K : Value → Prop) : callC Tryz.prog (exec Tryz.prog orcBa 10) (syOf []) askBa (mwL y r (m + 1) e row k) 40 156 #[liP (m + 1) k, cWc] (canon Tryz.prog [(cells4 (y :: r), e, row)]) (fun v _ => K v) = ((loopOf Tryz.prog 156 0 = loopOf Tryz.prog 156 0 ∧ liP (m + 1) k = liP (m + 1) k ∧ cWc = cWc ∧ Value.pointer (some ⟨nG1 + 1, 0, none⟩) = ptN 1 ∧ Value.pointer (some ⟨nG1 + 2, 0, none⟩) = ptN 2 ∧ gi 1 = goN 1 ∧ ((((canon Tryz.prog [Prod.mk (cells4 (y :: r)) (Prod.mk e row)]).push (.cells [gi 0, gi 0, gi 0, gi 0] 151 0 false)).push (.cells [gi 0, gi 0, gi 0, gi 0] 151 0 false)).set (nG1 + 2) (.cells ([] ++ (List.take 4 (List.drop 0 (cells4 (y :: r))) ++ [])) 151 0 false)).get (nG1) = Option.some (.cells (cells4 (y :: r)) e row true) ∧ ((((canon Tryz.prog [Prod.mk (cells4 (y :: r)) (Prod.mk e row)]).push (.cells [gi 0, gi 0, gi 0, gi 0] 151 0 false)).push (.cells [gi 0, gi 0, gi 0, gi 0] 151 0 false)).set (nG1 + 2) (.cells ([] ++ (List.take 4 (List.drop 0 (cells4 (y :: r))) ++ [])) 151 0 false)).get (nG1 + 1) = Option.some (.cells (w4 z4) 151 0 false) ∧ ((((canon Tryz.prog [Prod.mk (cells4 (y :: r)) (Prod.mk e row)]).push (.cells [gi 0, gi 0, gi 0, gi 0] 151 0 false)).push (.cells [gi 0, gi 0, gi 0, gi 0] 151 0 false)).set (nG1 + 2) (.cells ([] ++ (List.take 4 (List.drop 0 (cells4 (y :: r))) ++ [])) 151 0 false)).get (nG1 + 2) = Option.some (.cells (w4 y) 151 0 false) ∧ ((List.length r + 1) = (m + 1) ∧ ((m + 1) : Nat) ≤ 65536) ∧ (∀ _ : Nat → Value, K (Value.agg (Array.mk (List.take 4 (List.drop 0 (splice (w4 z4) 0 (List.take 4 (List.drop 0 (w4 (mxW y r)))))))))))) := by kernel_rfl
end Go.Proofs.YtihnnmejkpddeaaGreatDoor
