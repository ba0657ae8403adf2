/-
  OWN WORK. Stage 6: loops over traces.
-/
import Derived.Test.YtihnnmejkpddeaaGreatDoorJdAC
/-! (OWN WORK. Stage 6: loops over traces: errors, places, copies.) -/
namespace Go.Proofs.YtihnnmejkpddeaaGreatDoor
open Go Go.Am
noncomputable def ctF (q : V4) : Int := ctL q.1 q.2.1 q.2.2.1 q.2.2.2
noncomputable def opF (q : V4) : Bool := q.2.2.1 || q.2.2.2
theorem cellsV_first {l : List V4} {j : Nat} (hj : j < l.length) : ((cellsV l)[0 + j * 4]? = some (gi (intAt (cellsV l) (0 + j * 4))) ∧ (cellsV l)[0 + j * 4 + 1]? = some (gi (intAt (cellsV l) (0 + j * 4 + 1))) ∧ (cellsV l)[0 + j * 4 + 1 + 1]? = some (.bool (boolAt (cellsV l) (0 + j * 4 + 1 + 1))) ∧ (cellsV l)[0 + j * 4 + 1 + 1 + 1]? = some (.bool (boolAt (cellsV l) (0 + j * 4 + 1 + 1 + 1)))) ∧
  intAt (cellsV l) (0 + j * 4) = l[j].1 ∧ intAt (cellsV l) (0 + j * 4 + 1) = l[j].2.1 ∧ boolAt (cellsV l) (0 + j * 4 + 1 + 1) = l[j].2.2.1 ∧ boolAt (cellsV l) (0 + j * 4 + 1 + 1 + 1) = l[j].2.2.2 := by
 obtain ⟨e0, e1, e2, e3⟩ := cellsV_at hj
 have i0 : intAt (cellsV l) (0 + j * 4) = l[j].1 := by unfold intAt; rw [e0]
 have i1 : intAt (cellsV l) (0 + j * 4 + 1) = l[j].2.1 := by unfold intAt; rw [e1]
 have i2 : boolAt (cellsV l) (0 + j * 4 + 1 + 1) = l[j].2.2.1 := by unfold boolAt; rw [e2]
 have i3 : boolAt (cellsV l) (0 + j * 4 + 1 + 1 + 1) = l[j].2.2.2 := by unfold boolAt; rw [e3]
 rw [i0, i1, i2, i3]
 exact ⟨⟨e0, e1, e2, e3⟩, rfl, rfl, rfl, rfl⟩
theorem cellsV_take {l : List V4} {j : Nat} (hj : j < l.length) : cellsV (l.take (j + 1)) = cellsV (l.take j) ++ [gi l[j].1, gi l[j].2.1, .bool l[j].2.2.1, .bool l[j].2.2.2] := by
 rw [List.take_add_one, List.getElem?_eq_getElem hj, cellsV_app]; rfl
theorem cellsV_nil' {l : List V4} {j : Nat} (hj : j ≤ l.length) (h : cellsV (l.take j) = []) : j = 0 := by
 have := congrArg List.length h
 rw [cellsV_len, List.length_take, Nat.min_eq_left hj] at this
 simp at this
 omega
noncomputable abbrev evV (l : List V4) (k : Nat) (at_ : Nat → Nat) (j : Nat) : List Value := [cCt1, gi 0, .slice (some ⟨at_ 0, 0, none⟩) l.length k, goN l.length, goN j]
set_option maxRecDepth 100000 in
theorem ev_loop (l : List V4) (e row k : Nat) (hl : l.length ≤ 65536) : ∀ (a : AAct) (h : AHeap), Laid [(cellsV l, e, row, true)] (nG1 + ·) h → a.n = 21 → a.marks = [] → [1, 4, 8, 9, 10].map a.tmp = evV l k (nG1 + ·) 0 →
  J Tryz.prog (.loop (loopOf Tryz.prog 129 0)) a h (told 21 [1, 4, 8, 9, 10] fun ex vs _ => (ex = .exit 0 ∧ firstE ctF l = 0) ∨ (ex = .ret ∧ ∃ r, vs = cCt1 :: gi (firstE ctF l) :: r)) := by
 intro a h hs ha hm hv
 refine fold_rule (L := 1) (C := fun _ => [(cellsV l, e, row, true)]) globs_pos (by decide) (by decide) (fun _ => rfl) (fun _ b hb => ?_) (V := evV l k) (I := fun j => firstE ctF l = firstE ctF (l.drop j)) (m := l.length) rfl _ (nG1 + ·) (by decide) (fun q _ => by show Tryz.prog.globals.size ≤ nG1 + q; unfold nG1; omega) (fun j => by kernel_rfl) (fun j => by kernel_rfl)
  (fun at_ j q hq => ?_) ?_ ?_ a h hs ha hm hv
 ·simp only [List.mem_cons, List.not_mem_nil, or_false] at hb
  rw [hb]; exact cellsV_flat l
 ·obtain rfl : q = 0 := by omega
  exact ⟨(8, .slice (some ⟨at_ 0, 0, none⟩) l.length k), by simp, by simp [named]⟩
 ·intro j hj hI g
  refine execC_ok mixed orcKb_ok (askKb_ok 0) (noLoops _) (Eq.mpr (eb_val _ e row _ k j g _) ⟨fun hlt => ?_, fun hge => absurd (blt_false hge) (by omega)⟩)
  obtain ⟨⟨f0, f1, f2, f3⟩, i0, i1, i2, i3⟩ := cellsV_first hj
  refine ⟨hlt, f0, f1, f2, f3, fun h3 => .inr ⟨rfl, [liP l.length k, goN l.length, goN j], ?_⟩, fun h3 => ⟨?_, ?_, ?_⟩⟩
  ·rw [i0, i1, i2, i3] at h3 ⊢
   rw [hI, firstE_drop hj]
   show _ = cCt1 :: gi (bif ieq (ctL l[j].1 l[j].2.1 l[j].2.2.1 l[j].2.2.2) 0 then _ else ctL l[j].1 l[j].2.1 l[j].2.2.1 l[j].2.2.2) :: _
   rw [not_ieqT h3]; rfl
  ·rw [i0, i1, i2, i3] at h3
   rw [hI, firstE_drop hj]
   show (bif ieq (ctL l[j].1 l[j].2.1 l[j].2.2.1 l[j].2.2.2) 0 then _ else _) = _
   rw [not_ieqF h3]; rfl
  ·rw [fwrap_nat (by omega)]; try rfl
  ·intro q b hb
   match q, hb with
   | 0, hb => cases hb; show _ = _; kernel_rfl
 ·intro hI g
  exact execC_ok mixed orcKb_ok (askKb_ok 0) (noLoops _) (Eq.mpr (eb_val _ e row _ k _ g _) ⟨fun hlt => absurd (blt_true hlt) (by omega), fun _ => .inl ⟨rfl, by rw [hI, firstE_end (Nat.le_refl _)]⟩⟩)
noncomputable abbrev rtrV (l : List V4) (k : Nat) (at_ : Nat → Nat) (j : Nat) : List Value := [.slice (some ⟨at_ 0, 0, none⟩) l.length k, gi 0, goN j]
set_option maxRecDepth 100000 in
theorem rtr_loop (l : List V4) (e row k : Nat) (hl : l.length ≤ 65536) : ∀ (a : AAct) (h : AHeap), Laid [(cellsV l, e, row, true)] (nG1 + ·) h → a.n = 47 → a.marks = [] → [0, 2, 4].map a.tmp = rtrV l k (nG1 + ·) 0 →
  J Tryz.prog (.loop (loopOf Tryz.prog 53 0)) a h (told 47 [0, 2, 4] fun ex vs _ => (ex = .exit 0 ∧ firstE ctF l = 0) ∨ (ex = .ret ∧ ∃ v j, vs = [v, gi (firstE ctF l), goN j])) := by
 intro a h hs ha hm hv
 refine fold_rule (L := 1) (C := fun _ => [(cellsV l, e, row, true)]) globs_pos (by decide) (by decide) (fun _ => rfl) (fun _ b hb => ?_) (V := rtrV l k) (I := fun j => firstE ctF l = firstE ctF (l.drop j)) (m := l.length) rfl _ (nG1 + ·) (by decide) (fun q _ => by show Tryz.prog.globals.size ≤ nG1 + q; unfold nG1; omega) (fun j => by kernel_rfl) (fun j => by kernel_rfl)
  (fun at_ j q hq => ?_) ?_ ?_ a h hs ha hm hv
 ·simp only [List.mem_cons, List.not_mem_nil, or_false] at hb
  rw [hb]; exact cellsV_flat l
 ·obtain rfl : q = 0 := by omega
  exact ⟨(0, .slice (some ⟨at_ 0, 0, none⟩) l.length k), by simp, by simp [named]⟩
 ·intro j hj hI g
  refine execC_ok mixed orcKb_ok (askKb_ok 0) (noLoops _) (Eq.mpr (rb_tr _ e row _ k j g _) ⟨fun hlt => ?_, fun hge => absurd (blt_false hge) (by omega)⟩)
  obtain ⟨⟨f0, f1, f2, f3⟩, i0, i1, i2, i3⟩ := cellsV_first hj
  refine ⟨hlt, f0, hlt, f1, hlt, f0, hlt, f1, f1, f0, f1, f1, f0, fun h3 => .inr ⟨rfl, liP l.length k, j, ?_⟩, fun h3 => ⟨?_, ?_, ?_⟩⟩
  ·rw [Nat.add_zero, i0, i1] at h3 ⊢
   rw [hI, firstE_drop hj]
   show _ = [_, gi (bif ieq (ctL l[j].1 l[j].2.1 l[j].2.2.1 l[j].2.2.2) 0 then _ else ctL l[j].1 l[j].2.1 l[j].2.2.1 l[j].2.2.2), _]
   rw [show ieq (ctL l[j].1 l[j].2.1 l[j].2.2.1 l[j].2.2.2) 0 = false from not_ieqT h3]; rfl
  ·rw [Nat.add_zero, i0, i1] at h3
   rw [hI, firstE_drop hj]
   show (bif ieq (ctL l[j].1 l[j].2.1 l[j].2.2.1 l[j].2.2.2) 0 then _ else _) = _
   rw [show ieq (ctL l[j].1 l[j].2.1 l[j].2.2.1 l[j].2.2.2) 0 = true from not_ieqF h3]; rfl
  ·rw [fwrap_nat (by omega)]; try rfl
  ·intro q b hb
   match q, hb with
   | 0, hb => cases hb; show _ = _; kernel_rfl
 ·intro hI g
  exact execC_ok mixed orcKb_ok (askKb_ok 0) (noLoops _) (Eq.mpr (rb_tr _ e row _ k _ g _) ⟨fun hlt => absurd (blt_true hlt) (by omega), fun _ => .inl ⟨rfl, by rw [hI, firstE_end (Nat.le_refl _)]⟩⟩)
set_option maxRecDepth 100000 in
theorem ixv_loop (l : List V4) (e row k : Nat) (hl : l.length ≤ 65536) : ∀ a : AAct, a.n = 19 → a.marks = [] → [0, 1, 4, 7, 8].map a.tmp = [liP l.length k, cIo, gi 0, goN l.length, goN 0] →
  J Tryz.prog (.loop (loopOf Tryz.prog 165 0)) a (liH (cellsV l) e row) (told 19 [0, 1, 4, 7, 8] fun ex vs h => h = liH (cellsV l) e row ∧ ((ex = .exit 0 ∧ idxB opF l 0 = -1) ∨ (ex = .ret ∧ ∃ j, vs = [liP l.length k, cIo, gi (idxB opF l 0), goN l.length, goN j]))) := by
 refine scan_rule _ (fun j => [liP l.length k, cIo, gi 0, goN l.length, goN j]) (fun j => idxB opF l 0 = idxB opF (l.drop j) j) l.length rfl _ ?_ ?_
 ·intro j hj hI g
  refine execC_ok mixed orcKb_ok (askKb_ok 0) (noLoops _) (Eq.mpr (ixv_body _ e row _ k j g _) ⟨fun hlt => ?_, fun hge => absurd (blt_false hge) (by omega)⟩)
  obtain ⟨⟨f0, f1, f2, f3⟩, i0, i1, i2, i3⟩ := cellsV_first hj
  rw [idxB_drop hj] at hI
  refine ⟨hlt, f0, f1, f2, f3, fun h3 => ⟨rfl, .inr ⟨rfl, j, ?_⟩⟩, fun h3 => ⟨?_, ?_, rfl⟩⟩
  ·rw [i2, i3] at h3
   have h3 : opF l[j] = true := h3
   rw [hI, h3]; rfl
  ·rw [i2, i3] at h3
   have h3 : opF l[j] = false := h3
   rw [hI, h3]; rfl
  ·rw [fwrap_nat (by omega)]
 ·intro hI g
  exact execC_ok mixed orcKb_ok (askKb_ok 0) (noLoops _) (Eq.mpr (ixv_body _ e row _ k _ g _) ⟨fun hlt => absurd (blt_true hlt) (by omega), fun _ => ⟨rfl, .inl ⟨rfl, by rw [hI, idxB_end (Nat.le_refl _)]⟩⟩⟩)
noncomputable def vaV (n k : Nat) : Nat → Value → List Value := fun j w => [w, liP n k, goN n, goN j]
noncomputable abbrev vaD (c d : List Value) (e row : Nat) : AHeap := gW Tryz.prog [(c, e, row, true)] d 174 5
set_option maxRecDepth 100000 in
theorem va_loop (l : List V4) (n e row k : Nat) (ha : l.length = n) (h1 : n ≤ 65536) : ∀ (s : AAct) (h : AHeap), GrownW Tryz.prog [(cellsV l, e, row, true)] 174 5 (vaV n k) (fun j => j) (fun j => cellsV (l.take j)) 0 ([3, 6, 7, 8].map s.tmp) h → s.n = 18 → s.marks = [] →
  J Tryz.prog (.loop (loopOf Tryz.prog 51 0)) s h (told 18 [3, 6, 7, 8] fun ex vs h' => ex = .exit 0 ∧ ((n = 0 ∧ vs = vaV n k n nilS) ∨ (vs = vaV n k n (slN 1 n n) ∧ h' = vaD (cellsV l) (cellsV l) e row))) := by
 intro s h hG hs hk
 refine growW_rule (C := [(cellsV l, e, row, true)]) (el := 174) (rw := 5) globs_pos (by decide) (by decide) (fun x hx => by
   simp only [List.mem_cons, List.not_mem_nil, or_false] at hx
   rw [hx]; exact cellsV_flat l) (vaV n k) (fun j => j) (fun j => cellsV (l.take j)) n _ (fun j => cellsV_flat _) (fun j => by kernel_rfl) (fun j q d hd => by
   obtain rfl | rfl | rfl | rfl : d = 0 ∨ d = 1 ∨ d = 2 ∨ d = 3 := by omega
   all_goals kernel_rfl)
  (fun j w q hq => by
   match q, hq with
   | 0, _ => exact ⟨(6, liP n k), by simp [vaV], by simp [named]⟩) (fun j b q => ⟨(3, .slice (some ⟨b, 0, none⟩) q q), by simp [vaV], by simp [named]⟩) ?_ ?_ ?_ ?_ s h hG hs hk
 ·intro j hj hx g
  obtain ⟨⟨f0, f1, f2, f3⟩, i0, i1, i2, i3⟩ := cellsV_first (l := l) (j := j) (by omega)
  have et := cellsV_take (l := l) (j := j) (by omega)
  have j0 := cellsV_nil' (by omega) hx
  refine execC_ok mixed orcKb_ok (askKb_ok 0) (noLoops _) (Eq.mpr (va_bodyA _ n k e row j g _) ⟨fun hlt => ⟨hlt, f0, f1, f2, f3, fun p b hb => ?_, .inr ⟨nG1 + 3, 2, rfl, by omega, ?_, ?_, ?_⟩⟩, fun hge => absurd (blt_false hge) (by omega)⟩)
  ·match p, hb with
   | 0, hb => cases hb; show _ = _; kernel_rfl
  ·intro hh
   have := cellsV_nil' (by omega) hh
   omega
  ·rw [fwrap_nat (by omega), j0]; rfl
  ·have hx : cellsV (l.take j) = [] := hx
   show _ = some (AObj.cells (cellsV (l.take (j + 1))) _ _ _)
   rw [et, hx, i0, i1, i2, i3]; show _ = _; kernel_rfl
 ·intro j hj hx g
  obtain ⟨⟨f0, f1, f2, f3⟩, i0, i1, i2, i3⟩ := cellsV_first (l := l) (j := j) (by omega)
  have et := cellsV_take (l := l) (j := j) (by omega)
  refine execC_ok mixed orcKb_ok (askKb_ok 0) (noLoops _) (Eq.mpr (va_bodyD _ (cellsV (l.take j)) n k e row j j g _) ⟨fun hlt => ⟨hlt, f0, f1, f2, f3, ble_noV (by omega), by rw [Nat.ble_eq]; omega, by rw [cellsV_len, List.length_take, Nat.min_eq_left (by omega)], fun p b hb => ?_, .inr ⟨nG1 + 4, 3, rfl, by omega, ?_, ?_, ?_⟩⟩, fun hge => absurd (blt_false hge) (by omega)⟩)
  ·match p, hb with
   | 0, hb => cases hb; show _ = _; kernel_rfl
  ·intro hh
   have := cellsV_nil' (by omega) hh
   omega
  ·rw [fwrap_nat (by omega)]; rfl
  ·show _ = some (AObj.cells (cellsV (l.take (j + 1))) _ _ _)
   rw [et, i0, i1, i2, i3]; show _ = _; kernel_rfl
 ·intro hx g
  have j0 := cellsV_nil' (by omega) hx
  exact execC_ok mixed orcKb_ok (askKb_ok 0) (noLoops _) (Eq.mpr (va_bodyA _ n k e row n g _) ⟨fun hlt => absurd (blt_true hlt) (by omega), fun _ => ⟨rfl, .inl ⟨j0, rfl⟩⟩⟩)
 ·intro hx g
  refine execC_ok mixed orcKb_ok (askKb_ok 0) (noLoops _) (Eq.mpr (va_bodyD _ (cellsV (l.take n)) n k e row n n g _) ⟨fun hlt => absurd (blt_true hlt) (by omega), fun _ => ⟨rfl, .inr ⟨rfl, ?_⟩⟩⟩)
  rw [List.take_of_length_le (by omega)]; rfl
end Go.Proofs.YtihnnmejkpddeaaGreatDoor
/-! (OWN WORK. Stage 6: loops over traces, as their functions meet them; these functions, carried out.) -/
namespace Go.Proofs.YtihnnmejkpddeaaGreatDoor
open Go Go.Am
noncomputable def evL (l : List V4) (n e row k : Nat) : Loops Tryz.prog where
 body := fun _ => loopOf Tryz.prog 129 0
 spec := fun _ a h c => entry a 21 [(1, cCt1), (4, gi 0), (8, liP n k), (9, goN n), (10, goN 0)] (h.get nG1 = some (.cells (cellsV l) e row true) ∧ (l.length = n ∧ n ≤ 65536) ∧ (firstE ctF l = 0 → ∀ g h', c (.exit 0) (stOf 21 [] g) h') ∧ ∀ g h', c .ret (stOf 21 [(4, gi (firstE ctF l))] g) h')
 ok := fun i a h c q => by
  obtain ⟨h1, h2, h3, g0, ⟨rfl, hs⟩, h4, h5⟩ := entry_facts q
  refine J.of_told (ev_loop l e row k hs a h (fun q b hb => by match q, hb with | 0, hb => cases hb; exact g0) h1 h2 ?_) ?_
  ·simp only [List.map_cons, List.map_nil]
   rw [h3 (1, cCt1) (by simp), h3 (4, gi 0) (by simp), h3 (8, liP l.length k) (by simp), h3 (9, goN l.length) (by simp), h3 (10, goN 0) (by simp)]
   rfl
  ·rintro ex vs h' g (⟨rfl, ha⟩ | ⟨rfl, r, rfl⟩)
   ·exact h4 ha (ov ([1, 4, 8, 9, 10].zip vs) g) h'
   ·match r with
    | [] => exact h5 (ov [(1, cCt1)] g) h'
    | [a] => exact h5 (ov [(1, cCt1), (8, a)] g) h'
    | [a, b] => exact h5 (ov [(1, cCt1), (8, a), (9, b)] g) h'
    | a :: b :: c :: r => exact h5 (ov [(1, cCt1), (8, a), (9, b), (10, c)] g) h'
noncomputable def rtrL (l : List V4) (n e row k : Nat) : Loops Tryz.prog where
 body := fun _ => loopOf Tryz.prog 53 0
 spec := fun _ a h c => entry a 47 [(0, liP n k), (2, gi 0), (4, goN 0)] (h.get nG1 = some (.cells (cellsV l) e row true) ∧ (l.length = n ∧ n ≤ 65536) ∧ (firstE ctF l = 0 → ∀ g h', c (.exit 0) (stOf 47 [] g) h') ∧ ∀ g h', c .ret (stOf 47 [(2, gi (firstE ctF l))] g) h')
 ok := fun i a h c q => by
  obtain ⟨h1, h2, h3, g0, ⟨rfl, hs⟩, h4, h5⟩ := entry_facts q
  refine J.of_told (rtr_loop l e row k hs a h (fun q b hb => by match q, hb with | 0, hb => cases hb; exact g0) h1 h2 ?_) ?_
  ·simp only [List.map_cons, List.map_nil]
   rw [h3 (0, liP l.length k) (by simp), h3 (2, gi 0) (by simp), h3 (4, goN 0) (by simp)]
   rfl
  ·rintro ex vs h' g (⟨rfl, ha⟩ | ⟨rfl, v, j, rfl⟩)
   ·exact h4 ha (ov ([0, 2, 4].zip vs) g) h'
   ·exact h5 (ov [(0, v), (4, goN j)] g) h'
noncomputable def ixvL (l : List V4) (n e row k : Nat) : Loops Tryz.prog where
 body := fun _ => loopOf Tryz.prog 165 0
 spec := fun _ a h c => entry a 19 [(0, liP n k), (1, cIo), (4, gi 0), (7, goN n), (8, goN 0)] (h = liH (cellsV l) e row ∧ (l.length = n ∧ n ≤ 65536) ∧ (idxB opF l 0 = -1 → ∀ g, c (.exit 0) (stOf 19 [] g) (liH (cellsV l) e row)) ∧ ∀ g, c .ret (stOf 19 [(4, gi (idxB opF l 0))] g) (liH (cellsV l) e row))
 ok := fun i a h c q => by
  obtain ⟨h1, h2, h3, rfl, ⟨rfl, hs⟩, h4, h5⟩ := entry_facts q
  refine J.of_told (ixv_loop l e row k hs a h1 h2 ?_) ?_
  ·simp only [List.map_cons, List.map_nil]
   rw [h3 (0, liP l.length k) (by simp), h3 (1, cIo) (by simp), h3 (4, gi 0) (by simp), h3 (7, goN l.length) (by simp), h3 (8, goN 0) (by simp)]
  ·rintro ex vs h' g ⟨rfl, ⟨rfl, ha⟩ | ⟨rfl, j, rfl⟩⟩
   ·exact h4 ha (ov ([0, 1, 4, 7, 8].zip vs) g)
   ·exact h5 (ov [(0, liP l.length k), (1, cIo), (7, goN l.length), (8, goN j)] g)
noncomputable def vaL (l : List V4) (n e row k : Nat) : Loops Tryz.prog where
 body := fun _ => loopOf Tryz.prog 51 0
 spec := fun _ s h c => entry s 18 [(3, nilS), (6, liP n k), (7, goN n), (8, goN 0)] (h.get (nG1 + 0) = some (.cells (cellsV l) e row true) ∧ (l.length = n ∧ 0 < n ∧ n ≤ 65536) ∧ ∀ g, c (.exit 0) (stOf 18 [(3, slN 1 n n)] g) (vaD (cellsV l) (cellsV l) e row))
 ok := fun i s h c q => by
  obtain ⟨h1, h2, h3, g0, ⟨ha, h0, hs⟩, h5⟩ := entry_facts q
  refine J.of_told (va_loop l n e row k ha hs s h ⟨fun q b hb => ?_, .inl ⟨rfl, ?_⟩⟩ h1 h2) ?_
  ·match q, hb with
   | 0, hb => cases hb; exact g0
  ·simp only [List.map_cons, List.map_nil]
   rw [h3 (3, nilS) (by simp), h3 (6, liP n k) (by simp), h3 (7, goN n) (by simp), h3 (8, goN 0) (by simp)]
   rfl
  ·rintro ex vs h' g ⟨rfl, ⟨hn, _⟩ | ⟨rfl, rfl⟩⟩
   ·omega
   ·exact h5 (ov [(6, liP n k), (7, goN n), (8, goN n)] g)
theorem ev_run (l : List V4) (m e row k : Nat) (K : Value → Prop) : callC Tryz.prog (exec Tryz.prog orcKb 10) (syOf []) (askKb 0) (evL l (m + 1) e row k) 40 129 #[liP (m + 1) k, cCt1] (liH (cellsV l) e row) (fun v _ => K v) = ((loopOf Tryz.prog 129 0 = loopOf Tryz.prog 129 0 ∧ cCt1 = cCt1 ∧ gi 0 = gi 0 ∧ liP (m + 1) k = liP (m + 1) k ∧ goN (m + 1) = goN (m + 1) ∧ gi 0 = goN 0 ∧ (liH (cellsV l) e row).get (nG1) = Option.some (.cells (cellsV l) e row true) ∧ (List.length l = (m + 1) ∧ ((m + 1) : Nat) ≤ 65536) ∧ (firstE ctF l = 0 → (∀ _ : Nat → Value, (∀ _ : AHeap, K (gi 0)))) ∧ (∀ _ : Nat → Value, (∀ _ : AHeap, K (gi (firstE ctF l)))))) := by kernel_rfl
theorem rtr_run (l : List V4) (m e row k : Nat) (K : Value → Prop) : callC Tryz.prog (exec Tryz.prog orcKb 10) (syOf [(10, 1)]) (askKb 0) (rtrL l (m + 1) e row k) 40 53 #[liP (m + 1) k] (liH (cellsV l) e row) (fun v _ => K v) = ((((!(ieq (cnE (Int.ofNat (m + 1)) 128) 0)) = true → K (gi (cnE (Int.ofNat (m + 1)) 128))) ∧ ((!(ieq (cnE (Int.ofNat (m + 1)) 128) 0)) = false → (loopOf Tryz.prog 53 0 = loopOf Tryz.prog 53 0 ∧ liP (m + 1) k = liP (m + 1) k ∧ gi 0 = gi 0 ∧ gi 0 = goN 0 ∧ (liH (cellsV l) e row).get (nG1) = Option.some (.cells (cellsV l) e row true) ∧ (List.length l = (m + 1) ∧ ((m + 1) : Nat) ≤ 65536) ∧ (firstE ctF l = 0 → (∀ _ : Nat → Value, (∀ _ : AHeap, K (gi 0)))) ∧ (∀ _ : Nat → Value, (∀ _ : AHeap, K (gi (firstE ctF l)))))))) := by kernel_rfl
theorem ixv_run (l : List V4) (m e row k : Nat) (K : Value → Prop) : callC Tryz.prog (exec Tryz.prog orcKb 10) (syOf []) (askKb 0) (ixvL l (m + 1) e row k) 40 165 #[liP (m + 1) k, cIo] (liH (cellsV l) e row) (fun v _ => K v) = ((loopOf Tryz.prog 165 0 = loopOf Tryz.prog 165 0 ∧ liP (m + 1) k = liP (m + 1) k ∧ cIo = cIo ∧ gi 0 = gi 0 ∧ goN (m + 1) = goN (m + 1) ∧ gi 0 = goN 0 ∧ liH (cellsV l) e row = liH (cellsV l) e row ∧ (List.length l = (m + 1) ∧ ((m + 1) : Nat) ≤ 65536) ∧ (idxB opF l 0 = (-1) → (∀ _ : Nat → Value, K (gi (-1)))) ∧ (∀ _ : Nat → Value, K (gi (idxB opF l 0))))) := by kernel_rfl
theorem va_run (l : List V4) (m e row k : Nat) (K : Value → AHeap → Prop) : callC Tryz.prog (exec Tryz.prog orcKb 10) (syOf []) (askKb 0) (vaL l (m + 1) e row k) 40 51 #[liP (m + 1) k] (liH (cellsV l) e row) K = ((loopOf Tryz.prog 51 0 = loopOf Tryz.prog 51 0 ∧ nilS = nilS ∧ liP (m + 1) k = liP (m + 1) k ∧ goN (m + 1) = goN (m + 1) ∧ gi 0 = goN 0 ∧ (liH (cellsV l) e row).get (nG1) = Option.some (.cells (cellsV l) e row true) ∧ (List.length l = (m + 1) ∧ (0 : Nat) < (m + 1) ∧ ((m + 1) : Nat) ≤ 65536) ∧ (∀ _ : Nat → Value, K (slN 1 (m + 1) (m + 1)) (vaD (cellsV l) (cellsV l) e row)))) := by kernel_rfl
theorem stt_1 (c : List Value) (n k e row : Nat) (K : Value → Prop) : callC Tryz.prog (exec Tryz.prog orcKb 10) (syOf [(6, 31)]) (askKb 0) (noLoops _) 40 49 #[liP n k] (liH c e row) (fun v _ => K v) = (((!(ilt 40 (Int.ofNat n))) = true ∧ K (Value.bool true))) := by kernel_rfl
theorem stt_0 (c : List Value) (n k e row : Nat) (K : Value → Prop) : callC Tryz.prog (exec Tryz.prog orcKb 10) (syOf [(6, 32)]) (askKb 0) (noLoops _) 40 49 #[liP n k] (liH c e row) (fun v _ => K v) = (((!(ilt 40 (Int.ofNat n))) = false ∧ K (Value.bool (ieq (Int.ofNat n) 129)))) := by kernel_rfl
end Go.Proofs.YtihnnmejkpddeaaGreatDoor
/-! (OWN WORK. Stage 6: errors, places and copies of traces as known calls.) -/
namespace Go.Proofs.YtihnnmejkpddeaaGreatDoor
open Go Go.Am
noncomputable def traE (l : List V4) : Int := firstS [cnE (Int.ofNat l.length) 128, firstE ctF l]
theorem tra_no {l : List V4} {m : Nat} (hl : l.length = m + 1) (h : (!(ieq (cnE (Int.ofNat (m + 1)) 128) 0)) = true) : traE l = cnE (Int.ofNat (m + 1)) 128 := by
 unfold traE
 rw [hl]
 show (bif ieq (cnE (Int.ofNat (m + 1)) 128) 0 then _ else _) = _
 rw [not_ieqT h]; rfl
theorem tra_go {l : List V4} {m : Nat} (hl : l.length = m + 1) (h : (!(ieq (cnE (Int.ofNat (m + 1)) 128) 0)) = false) : traE l = firstE ctF l := by
 unfold traE
 rw [hl]
 show (bif ieq (cnE (Int.ofNat (m + 1)) 128) 0 then firstS [firstE ctF l] else _) = _
 rw [not_ieqF h, firstS_one]; rfl
def clV (_ : List V4) (r : List Value) : Prop := r = []
noncomputable abbrev evO (_ : Nat) (l : List V4) (_ : List Value) : Out := .plain (gi (firstE ctF l))
noncomputable abbrev traO (_ : Nat) (l : List V4) (_ : List Value) : Out := .plain (gi (traE l))
noncomputable abbrev ixvO (_ : Nat) (l : List V4) (_ : List Value) : Out := .plain (gi (idxB opF l 0))
noncomputable abbrev valO (n : Nat) (l : List V4) (_ : List Value) : Out := .wide (slM n) (cellsV l) 174 5
noncomputable def orcKc : Orc := orElse 49 (anyO Tryz.prog.globals.size shX) (orElse 51 (s1O tvT clV valO) (orElse 165 (s1O tvT (oneC cIo) ixvO) (orElse 53 (s1O tvT nonC traO) (orElse 129 (s1O tvT (oneC cCt1) evO) orcKb))))
set_option maxRecDepth 100000 in
theorem orcKc_ok : OrcOk Tryz.prog orcKc := by
 refine anyO_ok globs_pos (s1O_ok (s1O_ok (s1O_ok (s1O_ok orcKb_ok (fun _ _ _ _ => rfl) ?_) (fun _ _ _ _ => rfl) ?_) (fun _ _ _ _ => rfl) ?_) (fun _ _ _ _ => ⟨names_sl _, cellsV_flat _⟩) ?_) fun vs B o h _ => ?_
 ·rintro l m k e row r hl h1 rfl
  exact callC_ok mixed orcKb_ok (askKb_ok 0) (Eq.mpr (ev_run l m e row k _) ⟨rfl, rfl, rfl, rfl, rfl, rfl, by kernel_rfl, ⟨hl, h1⟩, fun h _ _ => by show gi 0 = gi (firstE ctF l); rw [h], fun _ _ => rfl⟩)
 ·rintro l m k e row r hl h1 rfl
  refine callC_ok mixed orcKb_ok (askKb_ok 0) (Eq.mpr (rtr_run l m e row k _) ⟨fun h => ?_, fun h => ?_⟩)
  ·show gi (cnE (Int.ofNat (m + 1)) 128) = gi (traE l)
   rw [tra_no hl h]
  ·exact ⟨rfl, rfl, rfl, rfl, by kernel_rfl, ⟨hl, h1⟩, fun h' _ _ => by show gi 0 = gi (traE l); rw [tra_go hl h, h'], fun _ _ => by show gi (firstE ctF l) = gi (traE l); rw [tra_go hl h]⟩
 ·rintro l m k e row r hl h1 rfl
  exact callC_ok mixed orcKb_ok (askKb_ok 0) (Eq.mpr (ixv_run l m e row k _) ⟨rfl, rfl, rfl, rfl, rfl, rfl, rfl, ⟨hl, h1⟩, fun h _ => by show gi (-1) = gi (idxB opF l 0); rw [h], fun _ => rfl⟩)
 ·rintro l m k e row r hl h1 rfl
  exact callC_ok mixed orcKb_ok (askKb_ok 0) (Eq.mpr (va_run l m e row k _) ⟨rfl, rfl, rfl, rfl, rfl, by kernel_rfl, ⟨hl, by omega, h1⟩, fun _ => ⟨nG1 + 1, rfl, by show _ = _; kernel_rfl⟩⟩)
 ·rcases s1Y_inv (z := (none : Option Out)) (f := fun _ n r => match r with
   | [] => some (.plain (.bool (shB n)))
   | _ => none) (vs := vs) (B := B) with q | ⟨c, n, k, e, row, r, rfl, rfl⟩
  ·unfold shX at h; have h := q.symm.trans h; cases h
  unfold shX at h
  rw [s1Y_at] at h
  match r, h with
  | [], h =>
  cases h
  refine ⟨rfl, ?_⟩
  cases hs : (!(ilt 40 (Int.ofNat n))) with
  | true =>
   refine callC_ok mixed orcKb_ok (askKb_ok 0) (Eq.mpr (stt_1 c n k e row _) ⟨hs, ?_⟩)
   show Value.bool true = .bool (shB n)
   unfold shB; rw [hs]; rfl
  | false =>
   refine callC_ok mixed orcKb_ok (askKb_ok 0) (Eq.mpr (stt_0 c n k e row _) ⟨hs, ?_⟩)
   show Value.bool _ = .bool (shB n)
   unfold shB; rw [hs]; rfl
noncomputable def askKc (n : Nat) : Asks := asksV Tryz.prog.globals.size 49 shY (asksV Tryz.prog.globals.size 51 (s1AY tvT clV valO) (asksV Tryz.prog.globals.size 165 (s1AY tvT (oneC cIo) ixvO) (asksV Tryz.prog.globals.size 53 (s1AY tvT nonC traO) (asksV Tryz.prog.globals.size 129 (s1AY tvT (oneC cCt1) evO) (askKb n)))))
theorem askKc_ok (n : Nat) : AsksOk orcKc (askKc n) := asksV_ok shY_ok (asksV_ok (s1A_ok fun _ _ _ h => ⟨h, rfl⟩) (asksV_ok (s1A_ok fun _ _ _ h => ⟨h, rfl⟩) (asksV_ok (s1A_ok fun _ _ _ h => ⟨h, rfl⟩) (asksV_ok (s1A_ok fun _ _ _ h => ⟨h, rfl⟩) (askKb_ok n)))))
theorem okV {l : List V4} {m : Nat} (hl : l.length = m + 1) (h1 : m + 1 ≤ 65536) : okT tvT (cellsV l) (m + 1) := okT_of (T := tvT) hl (Nat.succ_pos m) h1
theorem decW (l : List V4) : TellT.dec tvT (cellsV l) = l := decV_cells l
noncomputable abbrev cCt : Value := clF 56
theorem ptr_run (l : List V4) (m e row k : Nat) (K : Value → Prop) : callC Tryz.prog (exec Tryz.prog orcKc 10) (syOf [(7, 7)]) (askKc 0) (noLoops _) 40 56 #[liP (m + 1) k] (liH (cellsV l) e row) (fun v _ => K v) = (((List.all (cellsV l) (flat 3) = true ∧ True) ∧ okT tvT (cellsV l) (m + 1) ∧ oneC cCt1 (TellT.dec tvT (cellsV l)) [Value.func (.func 130) #[] #[]] ∧ K (gi (firstS [cnE (Int.ofNat (m + 1)) 128, firstE ctF (TellT.dec tvT (cellsV l))])))) := by kernel_rfl
theorem cfn_run (l : List V4) (m e row k : Nat) (K : Value → Prop) : callC Tryz.prog (exec Tryz.prog orcKc 10) (syOf [(7, 7)]) (askKc 0) (noLoops _) 40 122 #[liP (m + 1) k, cIo] (liH (cellsV l) e row) (fun v _ => K v) = (((List.all (cellsV l) (flat 3) = true ∧ True) ∧ okT tvT (cellsV l) (m + 1) ∧ oneC cIo (TellT.dec tvT (cellsV l)) [cIo] ∧ K (Value.bool (!(ilt (idxB opF (TellT.dec tvT (cellsV l)) 0) 0))))) := by kernel_rfl
end Go.Proofs.YtihnnmejkpddeaaGreatDoor
/-! (OWN WORK. Stage 6: checks of traces as known calls; pairs of traces, carried out.) -/
namespace Go.Proofs.YtihnnmejkpddeaaGreatDoor
open Go Go.Am
noncomputable def conB (l : List V4) : Bool := !(ilt (idxB opF l 0) 0)
noncomputable abbrev conO (_ : Nat) (l : List V4) (_ : List Value) : Out := .plain (.bool (conB l))
noncomputable def orcKd : Orc := orElse 122 (s1O tvT (oneC cIo) conO) (orElse 56 (s1O tvT nonC traO) orcKc)
set_option maxRecDepth 100000 in
theorem orcKd_ok : OrcOk Tryz.prog orcKd := by
 refine s1O_ok (s1O_ok orcKc_ok (fun _ _ _ _ => rfl) ?_) (fun _ _ _ _ => rfl) ?_
 ·rintro l m k e row r hl h1 rfl
  refine callC_ok mixed orcKc_ok (askKc_ok 0) (Eq.mpr (ptr_run l m e row k _) ⟨⟨cellsV_flat l, trivial⟩, okV hl h1, rfl, ?_⟩)
  rw [decW]
  show gi (firstS [cnE (Int.ofNat (m + 1)) 128, firstE ctF l]) = gi (traE l)
  unfold traE; rw [hl]
 ·rintro l m k e row r hl h1 rfl
  refine callC_ok mixed orcKc_ok (askKc_ok 0) (Eq.mpr (cfn_run l m e row k _) ⟨⟨cellsV_flat l, trivial⟩, okV hl h1, rfl, ?_⟩)
  rw [decW]; rfl
noncomputable def askKd (n : Nat) : Asks := asksV Tryz.prog.globals.size 122 (s1AY tvT (oneC cIo) conO) (asksV Tryz.prog.globals.size 56 (s1AY tvT nonC traO) (askKc n))
theorem askKd_ok (n : Nat) : AsksOk orcKd (askKd n) := asksV_ok (s1A_ok fun _ _ _ h => ⟨h, rfl⟩) (asksV_ok (s1A_ok fun _ _ _ h => ⟨h, rfl⟩) (askKc_ok n))
noncomputable abbrev v2H (a : List V4) (e row : Nat) (b : List V4) (e' row' : Nat) : AHeap := canon Tryz.prog [(cellsV a, e, row), (cellsV b, e', row')]
end Go.Proofs.YtihnnmejkpddeaaGreatDoor
