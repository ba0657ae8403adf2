/-
  OWN WORK. The loops of the law.
-/
import Derived.Test.YthgojmebbhpbbaaGreatDoorKcE
import Derived.Test.YthgojmebbhpbbaaGreatDoorAmV
/-! (OWN WORK. Stays: the law's loops.) -/
namespace Go.Proofs.YthgojmebbhpbbaaGreatDoor
open Go Go.Am
theorem gC_laid {C : List Blk} : Laid C (Tryz.prog.globals.size + ·) (gC Tryz.prog C) := fun _ _ hb => gC_get hb
theorem gC_laidN {C : List Blk} : Laid C (nG1 + ·) (gC Tryz.prog C) := fun _ _ hb => gC_get hb
theorem Laid.at {C : List Blk} {at_ : Nat → Nat} {h : AHeap} (l : Laid C at_ h) (q : Nat) {b : Blk} (hb : C[q]? = some b) : h.get (at_ q) = some (.cells b.1 b.2.1 b.2.2.1 b.2.2.2) := l q b hb
section
variable (ck cl cn : List Value) (ek rk el rl en rn nk kk n kl : Nat) (c : Int)
noncomputable abbrev saC : List Blk := [(ck, ek, rk, true), (cl, el, rl, true), (cn, en, rn, false)]
noncomputable abbrev saV (v w : Value) (j : Nat) : List Value := [slX nG1 nk kk, slX (nG1 + 1) n kl, ptP (nG1 + 2), gi c, v, w, goN n, goN j]
set_option maxRecDepth 100000 in
theorem sa_loop (hk : ck.all (flat 3) = true) (hl : cl.all (flat 3) = true) (hn : cn.all (flat 3) = true) (h1 : 1 ≤ n) (hle : n ≤ 65536) : ∀ (a : AAct) (h : AHeap), Laid (saC ck cl cn ek rk el rl en rn) (nG1 + ·) h → a.n = 381 → a.marks = [] → [0, 1, 5, 7, 8, 9, 69, 70].map a.tmp = saV nk kk n kl c nilS nilS 0 →
  J Tryz.prog (.loop (loopOf Tryz.prog 4 0)) a h (told 381 [0, 1, 5, 7, 8, 9, 69, 70] fun ex vs h' => ex = .exit 0 ∧ vs = saV nk kk n kl c (slX (nG1 + 3) n n) nilS n ∧ Laid (saC ck cl cn ek rk el rl en rn ++ [(aP (fun _ => c) n, 3, 2, false)]) (nG1 + ·) h') := by
 intro a h hs ha hm hv
 have fl : ∀ b ∈ saC ck cl cn ek rk el rl en rn, b.1.all (flat 3) = true := fun b hb => by
  simp only [saC, List.mem_cons, List.not_mem_nil, or_false] at hb
  rcases hb with rfl | rfl | rfl
  ·exact hk
  ·exact hl
  ·exact hn
 refine growC_rule (C := saC ck cl cn ek rk el rl en rn) (el := 3) globs_pos (by decide) (by decide) fl (fun j v => saV nk kk n kl c v nilS j) (aP (fun _ => c)) n _ (aP_flat _) (fun j => by kernel_rfl) (fun j q d hd => ?_) (fun j s q hq => ?_) (fun j b q => ⟨(8, slX b q q), by simp, by simp [named]⟩) ?_ ?_ ?_ ?_ a h ⟨hs, .inl ⟨rfl, hv⟩⟩ ha hm
 ·match d, hd with
  | 0, _ => exact rfl
  | 1, _ => exact rfl
  | 2, _ => exact rfl
  | 3, _ => exact rfl
 ·match q, hq with
  | 0, _ => exact ⟨(0, slX nG1 nk kk), by simp, by simp [named, nG1]⟩
  | 1, _ => exact ⟨(1, slX (nG1 + 1) n kl), by simp, by simp [named, nG1]⟩
  | 2, _ => exact ⟨(5, ptP (nG1 + 2)), by simp, by simp [named, nG1]⟩
 ·intro j hj hx g
  obtain rfl : j = 0 := aP_nil hx
  refine execC_ok mixed orcKz_ok (askKz_ok 1) (noLoops _) (Eq.mpr (sa_first ck cl cn ek rk el rl en rn nk kk n kl c 0 g _) ⟨fun hlt => ?_, fun hge => absurd (blt_false hge) (by omega)⟩)
  refine ⟨fun q b hb => ?_, .inr ⟨nG1 + 4, 1, rfl, by omega, fun h0 => absurd (aP_nil h0) (by omega), ?_, ?_⟩⟩
  ·match q, hb with
   | 0, hb => rw [AHeap.get_push_ne (by kernel_rfl), AHeap.get_push_ne (by kernel_rfl)]; exact gC_get hb
   | 1, hb => rw [AHeap.get_push_ne (by kernel_rfl), AHeap.get_push_ne (by kernel_rfl)]; exact gC_get hb
   | 2, hb => rw [AHeap.get_push_ne (by kernel_rfl), AHeap.get_push_ne (by kernel_rfl)]; exact gC_get hb
  ·rw [aP_length]; exact rfl
  ·rw [AHeap.get_push_eq (by kernel_rfl), aP_succ]; rfl
 ·intro j hj hx g
  rw [aP_length]
  refine execC_ok mixed orcKz_ok (askKz_ok 1) (noLoops _) (Eq.mpr (sa_next ck cl cn ek rk el rl en rn nk kk n kl c j _ j g _) ⟨fun hlt => ?_, fun hge => absurd (blt_false hge) (by omega)⟩)
  refine ⟨ble_no (by omega), by rw [Nat.ble_eq]; omega, by rw [aP_length, Nat.mul_one], fun q b hb => ?_, .inr ⟨nG1 + 5, 2, rfl, by omega, fun h0 => absurd (aP_nil h0) (by omega), ?_, ?_⟩⟩
  ·match q, hb with
   | 0, hb => rw [AHeap.get_push_ne (by kernel_rfl), AHeap.get_set_neB (by kernel_rfl), AHeap.get_push_ne (by kernel_rfl)]; exact gD_get hb
   | 1, hb => rw [AHeap.get_push_ne (by kernel_rfl), AHeap.get_set_neB (by kernel_rfl), AHeap.get_push_ne (by kernel_rfl)]; exact gD_get hb
   | 2, hb => rw [AHeap.get_push_ne (by kernel_rfl), AHeap.get_set_neB (by kernel_rfl), AHeap.get_push_ne (by kernel_rfl)]; exact gD_get hb
  ·rw [aP_length, fwrap_nat (by omega)]
  ·rw [AHeap.get_push_eq (by kernel_rfl), aP_succ]
 ·intro hx g
  exact absurd (aP_nil hx) (by omega)
 ·intro hx g
  rw [aP_length]
  exact execC_ok mixed orcKz_ok (askKz_ok 1) (noLoops _) (Eq.mpr (sa_next ck cl cn ek rk el rl en rn nk kk n kl c n _ n g _) ⟨fun hlt => absurd (blt_true hlt) (by omega), fun _ => ⟨rfl, rfl, gC_laidN⟩⟩)
end
noncomputable abbrev g8 (x : Int) : Value := .int .i8 x
theorem g8_at {l : List Int} {j : Nat} (h : j < l.length) : (l.map g8)[0 + j * 1]? = some (g8 (intAt (l.map g8) (0 + j * 1))) ∧ intAt (l.map g8) (0 + j * 1) = l[j] := by
 have e : (l.map g8)[0 + j * 1]? = some (g8 l[j]) := by
  rw [show 0 + j * 1 = j by omega, List.getElem?_map, List.getElem?_eq_getElem h]; rfl
 have e2 : intAt (l.map g8) (0 + j * 1) = l[j] := by
  unfold intAt
  rw [e]
 exact ⟨by rw [e2]; exact e, e2⟩
theorem flat_8 (l : List Int) : (l.map g8).all (flat 3) = true := by
 rw [List.all_eq_true]
 intro y hy
 obtain ⟨z, _, rfl⟩ := List.mem_map.1 hy
 rfl
noncomputable def wvE (x : Int) : Int := (fwrap .i64 x).tmod 31
theorem wv_bd (x : Int) : Bd 30 (wvE x) := by
 unfold wvE Bd
 have h1 := Int.tmod_lt_of_pos (fwrap .i64 x) (b := 31) (by omega)
 have h2 := Int.natAbs_tmod (fwrap .i64 x) 31
 have h3 : (fwrap .i64 x).natAbs % (31 : Int).natAbs < 31 := Nat.mod_lt _ (by decide)
 omega
theorem aP_wave (l : List Int) : aP (fun i => wvE (l.getD i 0)) l.length = (l.map wvE).map gi := by
 have := aP_list (f := fun i => wvE (l.getD i 0)) (L := l.map wvE) fun i hi => by
  rw [List.length_map] at hi
  rw [List.getElem_map, List.getD_eq_getElem?_getD, List.getElem?_eq_getElem hi]; rfl
 rwa [List.length_map] at this
section
variable (ck cn cs : List Value) (l : List Int) (ek rk el rl en rn nk kk n kl m : Nat) (c : Int)
noncomputable abbrev sbC : List Blk := [(ck, ek, rk, true), (l.map g8, el, rl, true), (cn, en, rn, false), (cs, 3, 2, false)]
noncomputable abbrev sbV (w : Value) (j : Nat) : List Value := [slX nG1 nk kk, slX (nG1 + 1) n kl, ptP (nG1 + 2), gi c, slX (nG1 + 3) m m, w, slX (nG1 + 1) n kl, goN n, goN j]
set_option maxRecDepth 100000 in
theorem sb_loop (hk : ck.all (flat 3) = true) (hn : cn.all (flat 3) = true) (hs' : cs.all (flat 3) = true) (hl : l.length = n) (h1 : 1 ≤ n) (hle : n ≤ 65536) : ∀ (a : AAct) (h : AHeap), Laid (sbC ck cn cs l ek rk el rl en rn) (nG1 + ·) h → a.n = 381 → a.marks = [] → [0, 1, 5, 7, 8, 9, 77, 78, 79].map a.tmp = sbV nk kk n kl m c nilS 0 →
  J Tryz.prog (.loop (loopOf Tryz.prog 4 2)) a h (told 381 [0, 1, 5, 7, 8, 9, 77, 78, 79] fun ex vs h' => ex = .exit 2 ∧ vs = sbV nk kk n kl m c (slX (nG1 + 4) n n) n ∧ Laid (sbC ck cn cs l ek rk el rl en rn ++ [(aP (fun i => wvE (l.getD i 0)) n, 3, 2, false)]) (nG1 + ·) h') := by
 intro a h hs ha hm hv
 have fl : ∀ b ∈ sbC ck cn cs l ek rk el rl en rn, b.1.all (flat 3) = true := fun b hb => by
  simp only [sbC, List.mem_cons, List.not_mem_nil, or_false] at hb
  rcases hb with rfl | rfl | rfl | rfl
  ·exact hk
  ·exact flat_8 l
  ·exact hn
  ·exact hs'
 have at_ : ∀ {j : Nat}, j < n → (l.map g8)[0 + j * 1]? = some (g8 (intAt (l.map g8) (0 + j * 1))) ∧ (fwrap .i64 (intAt (l.map g8) (0 + j * 1))).tmod 31 = wvE (l.getD j 0) := fun {j} hj => by
  obtain ⟨f1, f2⟩ := g8_at (l := l) (j := j) (by omega)
  refine ⟨f1, ?_⟩
  rw [f2, List.getD_eq_getElem?_getD, List.getElem?_eq_getElem (by omega)]; rfl
 refine growC_rule (C := sbC ck cn cs l ek rk el rl en rn) (el := 3) globs_pos (by decide) (by decide) fl (fun j v => sbV nk kk n kl m c v j) (aP (fun i => wvE (l.getD i 0))) n _ (aP_flat _) (fun j => by kernel_rfl) (fun j q d hd => ?_) (fun j s q hq => ?_) (fun j b q => ⟨(9, slX b q q), by simp, by simp [named]⟩) ?_ ?_ ?_ ?_ a h ⟨hs, .inl ⟨rfl, hv⟩⟩ ha hm
 ·match d, hd with
  | 0, _ => exact rfl
  | 1, _ => exact rfl
  | 2, _ => exact rfl
  | 3, _ => exact rfl
 ·match q, hq with
  | 0, _ => exact ⟨(0, slX nG1 nk kk), by simp, by simp [named, nG1]⟩
  | 1, _ => exact ⟨(1, slX (nG1 + 1) n kl), by simp, by simp [named, nG1]⟩
  | 2, _ => exact ⟨(5, ptP (nG1 + 2)), by simp, by simp [named, nG1]⟩
  | 3, _ => exact ⟨(8, slX (nG1 + 3) m m), by simp, by simp [named, nG1]⟩
 ·intro j hj hx g
  obtain rfl : j = 0 := aP_nil hx
  obtain ⟨f1, f2⟩ := at_ hj
  refine execC_ok mixed orcKz_ok (askKz_ok 1) (noLoops _) (Eq.mpr (sb_first ck (l.map g8) cn ek rk el rl en rn nk kk n kl c 0 m cs g _) ⟨fun hlt => ?_, fun hge => absurd (blt_false hge) (by omega)⟩)
  refine ⟨hlt, f1, fun q b hb => ?_, .inr ⟨nG1 + 5, 1, rfl, by omega, fun h0 => absurd (aP_nil h0) (by omega), ?_, ?_⟩⟩
  ·match q, hb with
   | 0, hb => rw [AHeap.get_push_ne (by kernel_rfl), AHeap.get_push_ne (by kernel_rfl)]; exact gC_get hb
   | 1, hb => rw [AHeap.get_push_ne (by kernel_rfl), AHeap.get_push_ne (by kernel_rfl)]; exact gC_get hb
   | 2, hb => rw [AHeap.get_push_ne (by kernel_rfl), AHeap.get_push_ne (by kernel_rfl)]; exact gC_get hb
   | 3, hb => rw [AHeap.get_push_ne (by kernel_rfl), AHeap.get_push_ne (by kernel_rfl)]; exact gC_get hb
  ·rw [aP_length]; exact rfl
  ·rw [AHeap.get_push_eq (by kernel_rfl), f2, aP_succ]; rfl
 ·intro j hj hx g
  rw [aP_length]
  obtain ⟨f1, f2⟩ := at_ hj
  refine execC_ok mixed orcKz_ok (askKz_ok 1) (noLoops _) (Eq.mpr (sb_next ck (l.map g8) cn ek rk el rl en rn nk kk n kl c j m j cs _ g _) ⟨fun hlt => ?_, fun hge => absurd (blt_false hge) (by omega)⟩)
  refine ⟨hlt, f1, ble_no (by omega), by rw [Nat.ble_eq]; omega, by rw [aP_length, Nat.mul_one], fun q b hb => ?_, .inr ⟨nG1 + 6, 2, rfl, by omega, fun h0 => absurd (aP_nil h0) (by omega), ?_, ?_⟩⟩
  ·match q, hb with
   | 0, hb => rw [AHeap.get_push_ne (by kernel_rfl), AHeap.get_set_neB (by kernel_rfl), AHeap.get_push_ne (by kernel_rfl)]; exact gD_get hb
   | 1, hb => rw [AHeap.get_push_ne (by kernel_rfl), AHeap.get_set_neB (by kernel_rfl), AHeap.get_push_ne (by kernel_rfl)]; exact gD_get hb
   | 2, hb => rw [AHeap.get_push_ne (by kernel_rfl), AHeap.get_set_neB (by kernel_rfl), AHeap.get_push_ne (by kernel_rfl)]; exact gD_get hb
   | 3, hb => rw [AHeap.get_push_ne (by kernel_rfl), AHeap.get_set_neB (by kernel_rfl), AHeap.get_push_ne (by kernel_rfl)]; exact gD_get hb
  ·rw [aP_length, fwrap_nat (by omega)]
  ·rw [AHeap.get_push_eq (by kernel_rfl), f2, aP_succ]
 ·intro hx g
  exact absurd (aP_nil hx) (by omega)
 ·intro hx g
  rw [aP_length]
  exact execC_ok mixed orcKz_ok (askKz_ok 1) (noLoops _) (Eq.mpr (sb_next ck (l.map g8) cn ek rk el rl en rn nk kk n kl c n m n cs _ g _) ⟨fun hlt => absurd (blt_true hlt) (by omega), fun _ => ⟨rfl, rfl, gC_laidN⟩⟩)
end
end Go.Proofs.YthgojmebbhpbbaaGreatDoor
/-! (OWN WORK. Stays: the law's further loops: weights that are symmetrical, opposites, sums of both.) -/
namespace Go.Proofs.YthgojmebbhpbbaaGreatDoor
open Go Go.Am
theorem take_sum {w : List Int} {j : Nat} (h : j < w.length) : (w.take (j + 1)).sum = (w.take j).sum + w[j] := by
 rw [List.take_add_one, List.getElem?_eq_getElem h, List.sum_append]
 show _ + [w[j]].sum = _
 rw [List.sum_cons, List.sum_nil, Int.add_zero]
theorem sym_get {w : List Int} (hw : w.reverse = w) {j : Nat} (h : j < w.length) : w[j] = w[w.length - 1 - j] := by
 have := List.getElem_reverse (l := w) (i := j) (by rw [List.length_reverse]; exact h)
 rw [← this]
 congr 1
 exact hw.symm
section
variable (ck cn cw : List Value) (w : List Int) (ek rk en rn nk kk m n : Nat) (by_ : Int)
noncomputable abbrev scC : List Blk := [(ck, ek, rk, true), (cn, en, rn, false), (cw, 3, 2, false), (w.map gi, 3, 2, false)]
noncomputable abbrev scV (at_ : Nat → Nat) (j : Nat) : List Value := [slX (at_ 0) nk kk, ptP (at_ 1), slX (at_ 2) m m, slX (at_ 3) n n, gi by_, gi (w.take j).sum, slX (at_ 3) n n, goN n, goN j]
set_option maxRecDepth 100000 in
theorem sc_loop (at₀ : Nat → Nat) (hnd : ((List.range 4).map at₀).Nodup) (hge : ∀ q, q < 4 → Tryz.prog.globals.size ≤ at₀ q) (hr₀ : ∀ j, amapM (renV Tryz.prog.globals.size ((List.range 4).map at₀)) (scV w nk kk m n by_ at₀ j) = some (scV w nk kk m n by_ (Tryz.prog.globals.size + ·) j))
  (hk : ck.all (flat 3) = true) (hn : cn.all (flat 3) = true) (hcw : cw.all (flat 3) = true) (hl : w.length = n) (hle : n ≤ 65536) (hw : w.reverse = w) (hb : ∀ j, j < n → inI64 (w.take (j + 1)).sum = true) : ∀ (a : AAct) (h : AHeap), Laid (scC ck cn cw w ek rk en rn) at₀ h → a.n = 381 → a.marks = [] → [0, 5, 9, 16, 17, 19, 146, 147, 148].map a.tmp = scV w nk kk m n by_ at₀ 0 →
  J Tryz.prog (.loop (loopOf Tryz.prog 4 4)) a h (told 381 [0, 5, 9, 16, 17, 19, 146, 147, 148] fun ex vs h' => ex = .exit 4 ∧ vs = scV w nk kk m n by_ (nG1 + ·) n ∧ Laid (scC ck cn cw w ek rk en rn) (nG1 + ·) h') := by
 intro a h hs ha hm hv
 refine fold_rule (L := 4) (C := fun _ => scC ck cn cw w ek rk en rn) globs_pos (by decide) (by decide) (fun _ => rfl) (fun _ b hb => ?_) (V := scV w nk kk m n by_) (I := fun _ => True) (m := n) trivial _ at₀ hnd hge hr₀ (fun j => by kernel_rfl)
  (fun at_ j q hq => ?_) ?_ ?_ a h hs ha hm hv
 ·simp only [List.mem_cons, List.not_mem_nil, or_false] at hb
  rcases hb with rfl | rfl | rfl | rfl
  ·exact hk
  ·exact hn
  ·exact hcw
  ·exact flat_ints w
 ·match q, hq with
  | 0, _ => exact ⟨(0, slX (at_ 0) nk kk), by simp, by simp [named]⟩
  | 1, _ => exact ⟨(5, ptP (at_ 1)), by simp, by simp [named]⟩
  | 2, _ => exact ⟨(9, slX (at_ 2) m m), by simp, by simp [named]⟩
  | 3, _ => exact ⟨(16, slX (at_ 3) n n), by simp, by simp [named]⟩
 ·intro j hj _ g
  obtain ⟨e1, e2⟩ := gi_at (l := w) (j := j) (by omega)
  obtain ⟨f0, f1, f2, f3⟩ := rev_at hl hj
  refine execC_ok mixed orcKz_ok (askKz_ok 1) (noLoops _) (Eq.mpr (sc_body ck cn cw (w.map gi) ek rk en rn nk kk m by_ (w.take j).sum n j g _) ⟨fun hlt => ?_, fun hge => absurd (blt_false hge) (by omega)⟩)
  rw [f0, e2]
  refine ⟨hlt, by rw [e1, e2], ?_, in_n1 hle, in_n1j hle (by omega), f3, f1, ?_, trivial, ?_, gC_laid⟩
  ·rw [← take_sum (by omega)]; exact hb j hj
  ·rw [f2]
   have e : tuF w j = w[j]'(by omega) := by
    unfold tuF
    rw [List.getD_eq_getElem?_getD, List.getElem?_eq_getElem (by omega)]
    exact (sym_get hw (by omega)).symm
   rw [e, ieq_self]; rfl
  ·rw [fwrap_nat (by omega), ← take_sum (by omega)]; rfl
 ·intro _ g
  exact execC_ok mixed orcKz_ok (askKz_ok 1) (noLoops _) (Eq.mpr (sc_body ck cn cw (w.map gi) ek rk en rn nk kk m by_ (w.take n).sum n n g _) ⟨fun hlt => absurd (blt_true hlt) (by omega), fun _ => ⟨rfl, rfl, gC_laid⟩⟩)
end
noncomputable def dN (f : Nat → Int) (n j : Nat) : List Value := ((List.range j).map fun i => gi (f i)) ++ List.replicate (n - j) (gi 0)
theorem dN_set {f : Nat → Int} {n j : Nat} (h : j < n) : splice (dN f n j) (0 + j * 1) [gi (f j)] = dN f n (j + 1) := by
 have hA : ((List.range j).map fun i => gi (f i)).length = j := by simp
 unfold splice dN
 rw [show 0 + j * 1 = j by omega, List.range_succ, List.map_append, show n - j = (n - (j + 1)) + 1 by omega, List.replicate_succ]
 rw [List.take_append_of_le_length (by omega), List.take_of_length_le (by omega), List.drop_append, List.drop_eq_nil_of_le (by simp), hA]
 simp
theorem dN_length {f : Nat → Int} {n j : Nat} (h : j ≤ n) : (dN f n j).length = n := by simp [dN]; omega
theorem dN_flat (f : Nat → Int) (n j : Nat) : (dN f n j).all (flat 3) = true := by
 rw [List.all_eq_true]
 intro x hx
 rcases List.mem_append.1 hx with hx | hx
 ·obtain ⟨i, _, rfl⟩ := List.mem_map.1 hx; rfl
 ·rw [(List.mem_replicate.1 hx).2]; rfl
theorem dN_end (f : Nat → Int) (n : Nat) : dN f n n = aP f n := by
 unfold dN aP
 rw [Nat.sub_self, List.replicate_zero, List.append_nil]
theorem aP_neg (l : List Int) : aP (fun i => -l.getD i 0) l.length = (l.map fun x => -x).map gi := by
 have := aP_list (f := fun i => -l.getD i 0) (L := l.map fun x => -x) fun i hi => by
  rw [List.length_map] at hi
  rw [List.getElem_map, List.getD_eq_getElem?_getD, List.getElem?_eq_getElem hi]; rfl
 rwa [List.length_map] at this
section
variable (ck cn ct cb : List Value) (wv : List Int) (ek rk en rn nk kk m q p : Nat)
noncomputable abbrev sdC (j : Nat) : List Blk := [(ck, ek, rk, true), (cn, en, rn, false), (wv.map gi, 3, 2, false), (ct, 50, 2, false), (cb, 50, 2, false), (dN (fun i => -wv.getD i 0) m j, 3, 2, false)]
noncomputable abbrev sdV (at_ : Nat → Nat) (j : Nat) : List Value := [slX (at_ 0) nk kk, ptP (at_ 1), slX (at_ 2) m m, slX (at_ 3) q q, slX (at_ 4) p p, gi 0, slX (at_ 5) m m, slX (at_ 2) m m, goN m, goN j]
set_option maxRecDepth 100000 in
theorem sd_loop (at₀ : Nat → Nat) (hnd : ((List.range 6).map at₀).Nodup) (hge : ∀ q, q < 6 → Tryz.prog.globals.size ≤ at₀ q) (hr₀ : ∀ j, amapM (renV Tryz.prog.globals.size ((List.range 6).map at₀)) (sdV nk kk m q p at₀ j) = some (sdV nk kk m q p (Tryz.prog.globals.size + ·) j))
  (hk : ck.all (flat 3) = true) (hn : cn.all (flat 3) = true) (hct : ct.all (flat 3) = true) (hcb : cb.all (flat 3) = true) (hl : wv.length = m) (hle : m ≤ 65536) (hw : ∀ x ∈ wv, Bd 30 x) : ∀ (a : AAct) (h : AHeap), Laid (sdC ck cn ct cb wv ek rk en rn m 0) at₀ h → a.n = 381 → a.marks = [] → [0, 5, 9, 22, 27, 28, 29, 235, 236, 237].map a.tmp = sdV nk kk m q p at₀ 0 →
  J Tryz.prog (.loop (loopOf Tryz.prog 4 6)) a h (told 381 [0, 5, 9, 22, 27, 28, 29, 235, 236, 237] fun ex vs h' => ex = .exit 6 ∧ vs = sdV nk kk m q p (nG1 + ·) m ∧ Laid (sdC ck cn ct cb wv ek rk en rn m m) (nG1 + ·) h') := by
 intro a h hs ha hm hv
 refine fold_rule (L := 6) (C := sdC ck cn ct cb wv ek rk en rn m) globs_pos (by decide) (by decide) (fun _ => rfl) (fun _ b hb => ?_) (V := sdV nk kk m q p) (I := fun _ => True) (m := m) trivial _ at₀ hnd hge hr₀ (fun j => by kernel_rfl)
  (fun at_ j q' hq => ?_) ?_ ?_ a h hs ha hm hv
 ·simp only [List.mem_cons, List.not_mem_nil, or_false] at hb
  rcases hb with rfl | rfl | rfl | rfl | rfl | rfl
  ·exact hk
  ·exact hn
  ·exact flat_ints wv
  ·exact hct
  ·exact hcb
  ·exact dN_flat _ _ _
 ·match q', hq with
  | 0, _ => exact ⟨(0, slX (at_ 0) nk kk), by simp, by simp [named]⟩
  | 1, _ => exact ⟨(5, ptP (at_ 1)), by simp, by simp [named]⟩
  | 2, _ => exact ⟨(9, slX (at_ 2) m m), by simp, by simp [named]⟩
  | 3, _ => exact ⟨(22, slX (at_ 3) q q), by simp, by simp [named]⟩
  | 4, _ => exact ⟨(27, slX (at_ 4) p p), by simp, by simp [named]⟩
  | 5, _ => exact ⟨(29, slX (at_ 5) m m), by simp, by simp [named]⟩
 ·intro j hj _ g
  obtain ⟨e1, e2⟩ := gi_at (l := wv) (j := j) (by omega)
  have hbd := hw _ (List.getElem_mem (l := wv) (n := j) (by omega))
  have ew : IntKind.wrap .i64 (0 - wv[j]'(by omega)) = -wv.getD j 0 := by
   rw [List.getD_eq_getElem?_getD, List.getElem?_eq_getElem (by omega)]
   rw [wrap_small (x := 0 - wv[j]'(by omega)) (by unfold Bd at hbd; omega) (by unfold Bd at hbd; omega)]
   show _ = -wv[j]'(by omega)
   omega
  refine execC_ok mixed orcKz_ok (askKz_ok 1) (noLoops _) (Eq.mpr (sd_body ck cn (wv.map gi) (dN (fun i => -wv.getD i 0) m j) ek rk en rn nk kk m ct cb q p j g _) ⟨fun hlt => ?_, fun hge => absurd (blt_false hge) (by omega)⟩)
  rw [e2, ew]
  refine ⟨hlt, by rw [e1, e2], hlt, by rw [Nat.ble_eq, dN_length (by omega)]; simp; omega, trivial, by rw [fwrap_nat (by omega)]; rfl, ?_⟩
  rw [dN_set (f := fun i => -wv.getD i 0) hj]
  intro q' b hb
  match q', hb with
  | 0, hb => cases hb; rw [AHeap.get_set_neB (by kernel_rfl)]; exact gC_get (q := 0) rfl
  | 1, hb => cases hb; rw [AHeap.get_set_neB (by kernel_rfl)]; exact gC_get (q := 1) rfl
  | 2, hb => cases hb; rw [AHeap.get_set_neB (by kernel_rfl)]; exact gC_get (q := 2) rfl
  | 3, hb => cases hb; rw [AHeap.get_set_neB (by kernel_rfl)]; exact gC_get (q := 3) rfl
  | 4, hb => cases hb; rw [AHeap.get_set_neB (by kernel_rfl)]; exact gC_get (q := 4) rfl
  | 5, hb => cases hb; rw [AHeap.get_set_eqB (by kernel_rfl)]
 ·intro _ g
  exact execC_ok mixed orcKz_ok (askKz_ok 1) (noLoops _) (Eq.mpr (sd_body ck cn (wv.map gi) (dN (fun i => -wv.getD i 0) m m) ek rk en rn nk kk m ct cb q p m g _) ⟨fun hlt => absurd (blt_true hlt) (by omega), fun _ => ⟨rfl, rfl, gC_laid⟩⟩)
end
section
variable (ck cn cw : List Value) (T O : List Int) (ek rk en rn nk kk m n : Nat)
noncomputable abbrev seC : List Blk := [(ck, ek, rk, true), (cn, en, rn, false), (cw, 3, 2, false), ((T.map sampleE).map gf, 50, 2, false), (O.map gi, 3, 2, false)]
noncomputable abbrev seV (at_ : Nat → Nat) (j : Nat) : List Value := [slX (at_ 0) nk kk, ptP (at_ 1), slX (at_ 2) m m, slX (at_ 3) n n, slX (at_ 4) n n, goN n, goN j]
set_option maxRecDepth 100000 in
theorem se_loop (at₀ : Nat → Nat) (hnd : ((List.range 5).map at₀).Nodup) (hge : ∀ q, q < 5 → Tryz.prog.globals.size ≤ at₀ q) (hr₀ : ∀ j, amapM (renV Tryz.prog.globals.size ((List.range 5).map at₀)) (seV nk kk m n at₀ j) = some (seV nk kk m n (Tryz.prog.globals.size + ·) j))
  (hk : ck.all (flat 3) = true) (hn : cn.all (flat 3) = true) (hcw : cw.all (flat 3) = true) (hT : T.length = n) (hO : O.length = n) (hle : n ≤ 65536) (hu : ∀ u ∈ T, Bd 16384 u) (h01 : ∀ j (h1 : j < O.length) (h2 : j < T.length), O[j] + T[j] = 0 ∨ O[j] + T[j] = 1) : ∀ (a : AAct) (h : AHeap), Laid (seC ck cn cw T O ek rk en rn) at₀ h → a.n = 381 → a.marks = [] → [0, 5, 9, 22, 279, 280, 281].map a.tmp = seV nk kk m n at₀ 0 →
  J Tryz.prog (.loop (loopOf Tryz.prog 4 8)) a h (told 381 [0, 5, 9, 22, 279, 280, 281] fun ex vs h' => ex = .exit 8 ∧ vs = seV nk kk m n (nG1 + ·) n ∧ Laid (seC ck cn cw T O ek rk en rn) (nG1 + ·) h') := by
 intro a h hs ha hm hv
 refine fold_rule (L := 5) (C := fun _ => seC ck cn cw T O ek rk en rn) globs_pos (by decide) (by decide) (fun _ => rfl) (fun _ b hb => ?_) (V := seV nk kk m n) (I := fun _ => True) (m := n) trivial _ at₀ hnd hge hr₀ (fun j => by kernel_rfl)
  (fun at_ j q hq => ?_) ?_ ?_ a h hs ha hm hv
 ·simp only [List.mem_cons, List.not_mem_nil, or_false] at hb
  rcases hb with rfl | rfl | rfl | rfl | rfl
  ·exact hk
  ·exact hn
  ·exact hcw
  ·exact flat_floats _
  ·exact flat_ints O
 ·match q, hq with
  | 0, _ => exact ⟨(0, slX (at_ 0) nk kk), by simp, by simp [named]⟩
  | 1, _ => exact ⟨(5, ptP (at_ 1)), by simp, by simp [named]⟩
  | 2, _ => exact ⟨(9, slX (at_ 2) m m), by simp, by simp [named]⟩
  | 3, _ => exact ⟨(22, slX (at_ 3) n n), by simp, by simp [named]⟩
  | 4, _ => exact ⟨(279, slX (at_ 4) n n), by simp, by simp [named]⟩
 ·intro j hj _ g
  obtain ⟨e1, e2⟩ := gi_at (l := O) (j := j) (by omega)
  obtain ⟨e3, e4⟩ := float_at (l := T.map sampleE) (j := j) (by rw [List.length_map]; omega)
  have hTj := hu _ (List.getElem_mem (l := T) (n := j) (by omega))
  have e5 : (T.map sampleE)[j]'(by rw [List.length_map]; omega) = sampleE (T[j]'(by omega)) := List.getElem_map _
  have h01 := h01 j (by omega) (by omega)
  refine execC_ok mixed orcKz_ok (askKz_ok 1) (noLoops _) (Eq.mpr (se_body ck cn cw (O.map gi) ek rk en rn nk kk m ((T.map sampleE).map gf) n n j g _) ⟨fun hlt => ?_, fun hge => absurd (blt_false hge) (by omega)⟩)
  rw [e2, e4, e5, unit_made hTj]
  refine ⟨hlt, by rw [e1, e2], hlt, by rw [e3, e4, e5], by rw [smp_made hTj]; rfl, inI64_small (by omega) (by omega), fun h0 => ⟨?_, trivial, by rw [fwrap_nat (by omega)]; rfl, gC_laid⟩, fun _ => ⟨trivial, by rw [fwrap_nat (by omega)]; rfl, gC_laid⟩⟩
  rcases h01 with h | h
  ·rw [h] at h0; cases h0
  ·rw [h]; rfl
 ·intro _ g
  exact execC_ok mixed orcKz_ok (askKz_ok 1) (noLoops _) (Eq.mpr (se_body ck cn cw (O.map gi) ek rk en rn nk kk m ((T.map sampleE).map gf) n n n g _) ⟨fun hlt => absurd (blt_true hlt) (by omega), fun _ => ⟨rfl, rfl, gC_laid⟩⟩)
end
end Go.Proofs.YthgojmebbhpbbaaGreatDoor
/-! (OWN WORK. Stays: the loop of opposites where the pulse was too large.) -/
namespace Go.Proofs.YthgojmebbhpbbaaGreatDoor
open Go Go.Am
theorem sz_body (ck cn cw cx : List Value) (ek rk en rn nk kk m : Nat) (ct : List Value) (q j : Nat) (g : Nat → Value) (Q : Exit → List Value → AHeap → Prop) : execC Tryz.prog (exec Tryz.prog orcKz 10) (syOf [(238, 1), (240, 2), (241, 3), (246, 2), (10246, 4)]) (askKz 1) (noLoops _) 40 (loopOf Tryz.prog 4 6) (stOf 381 [(0, slX nG1 nk kk), (5, ptP (nG1 + 1)), (9, slX (nG1 + 2) m m), (22, slX (nG1 + 3) q q), (27, nilS), (28, gi 4), (29, slX (nG1 + 4) m m), (235, slX (nG1 + 2) m m), (236, goN m), (237, goN j)] g) (canonT [] (fun _ => 0) Tryz.prog.globals.size [(ck, ek, rk, true), (cn, en, rn, false), (cw, 3, 2, false), (ct, 50, 2, false), (cx, 3, 2, false)]) (told 381 [0, 5, 9, 22, 27, 28, 29, 235, 236, 237] Q) = (((Nat.blt j m = true → (Nat.blt j m = true ∧ cw[(0 + (j * 1))]? = Option.some (gi (intAt cw (0 + (j * 1)))) ∧ Nat.blt j m = true ∧ Nat.ble ((0 + (j * 1)) + List.length [gi (IntKind.wrap .i64 (0 - intAt cw (0 + (j * 1))))]) (List.length cx) = true ∧ Q .normal [slX nG1 nk kk, ptP (nG1 + 1), slX (nG1 + 2) m m, slX (nG1 + 3) q q, nilS, gi 4, slX (nG1 + 4) m m, slX (nG1 + 2) m m, goN m, gi (fwrap IntKind.i64 (Int.ofNat (j + 1)))] ((gC Tryz.prog [(ck, ek, rk, true), (cn, en, rn, false), (cw, 3, 2, false), (ct, 50, 2, false), (cx, 3, 2, false)]).set (nG1 + 4) (.cells (splice cx (0 + (j * 1)) [gi (IntKind.wrap .i64 (0 - intAt cw (0 + (j * 1))))]) 3 2 false)))) ∧ (Nat.blt j m = false → Q (.exit 6) [slX nG1 nk kk, ptP (nG1 + 1), slX (nG1 + 2) m m, slX (nG1 + 3) q q, nilS, gi 4, slX (nG1 + 4) m m, slX (nG1 + 2) m m, goN m, goN j] (gC Tryz.prog [(ck, ek, rk, true), (cn, en, rn, false), (cw, 3, 2, false), (ct, 50, 2, false), (cx, 3, 2, false)])))) := by kernel_rfl
section
variable (ck cn ct : List Value) (wv : List Int) (ek rk en rn nk kk m q : Nat)
noncomputable abbrev szC (j : Nat) : List Blk := [(ck, ek, rk, true), (cn, en, rn, false), (wv.map gi, 3, 2, false), (ct, 50, 2, false), (dN (fun i => -wv.getD i 0) m j, 3, 2, false)]
noncomputable abbrev szV (at_ : Nat → Nat) (j : Nat) : List Value := [slX (at_ 0) nk kk, ptP (at_ 1), slX (at_ 2) m m, slX (at_ 3) q q, nilS, gi 4, slX (at_ 4) m m, slX (at_ 2) m m, goN m, goN j]
set_option maxRecDepth 100000 in
theorem sz_loop (at₀ : Nat → Nat) (hnd : ((List.range 5).map at₀).Nodup) (hge : ∀ q, q < 5 → Tryz.prog.globals.size ≤ at₀ q) (hr₀ : ∀ j, amapM (renV Tryz.prog.globals.size ((List.range 5).map at₀)) (szV nk kk m q at₀ j) = some (szV nk kk m q (Tryz.prog.globals.size + ·) j))
  (hk : ck.all (flat 3) = true) (hn : cn.all (flat 3) = true) (hct : ct.all (flat 3) = true) (hl : wv.length = m) (hle : m ≤ 65536) (hw : ∀ x ∈ wv, Bd 30 x) : ∀ (a : AAct) (h : AHeap), Laid (szC ck cn ct wv ek rk en rn m 0) at₀ h → a.n = 381 → a.marks = [] → [0, 5, 9, 22, 27, 28, 29, 235, 236, 237].map a.tmp = szV nk kk m q at₀ 0 →
  J Tryz.prog (.loop (loopOf Tryz.prog 4 6)) a h (told 381 [0, 5, 9, 22, 27, 28, 29, 235, 236, 237] fun ex vs h' => ex = .exit 6 ∧ vs = szV nk kk m q (nG1 + ·) m ∧ Laid (szC ck cn ct wv ek rk en rn m m) (nG1 + ·) h') := by
 intro a h hs ha hm hv
 refine fold_rule (L := 5) (C := szC ck cn ct wv ek rk en rn m) globs_pos (by decide) (by decide) (fun _ => rfl) (fun _ b hb => ?_) (V := szV nk kk m q) (I := fun _ => True) (m := m) trivial _ at₀ hnd hge hr₀ (fun j => by kernel_rfl)
  (fun at_ j q' hq => ?_) ?_ ?_ a h hs ha hm hv
 ·simp only [List.mem_cons, List.not_mem_nil, or_false] at hb
  rcases hb with rfl | rfl | rfl | rfl | rfl
  ·exact hk
  ·exact hn
  ·exact flat_ints wv
  ·exact hct
  ·exact dN_flat _ _ _
 ·match q', hq with
  | 0, _ => exact ⟨(0, slX (at_ 0) nk kk), by simp, by simp [named]⟩
  | 1, _ => exact ⟨(5, ptP (at_ 1)), by simp, by simp [named]⟩
  | 2, _ => exact ⟨(9, slX (at_ 2) m m), by simp, by simp [named]⟩
  | 3, _ => exact ⟨(22, slX (at_ 3) q q), by simp, by simp [named]⟩
  | 4, _ => exact ⟨(29, slX (at_ 4) m m), by simp, by simp [named]⟩
 ·intro j hj _ g
  obtain ⟨e1, e2⟩ := gi_at (l := wv) (j := j) (by omega)
  have hbd := hw _ (List.getElem_mem (l := wv) (n := j) (by omega))
  have ew : IntKind.wrap .i64 (0 - wv[j]'(by omega)) = -wv.getD j 0 := by
   rw [List.getD_eq_getElem?_getD, List.getElem?_eq_getElem (by omega)]
   rw [wrap_small (x := 0 - wv[j]'(by omega)) (by unfold Bd at hbd; omega) (by unfold Bd at hbd; omega)]
   show _ = -wv[j]'(by omega)
   omega
  refine execC_ok mixed orcKz_ok (askKz_ok 1) (noLoops _) (Eq.mpr (sz_body ck cn (wv.map gi) (dN (fun i => -wv.getD i 0) m j) ek rk en rn nk kk m ct q j g _) ⟨fun hlt => ?_, fun hge => absurd (blt_false hge) (by omega)⟩)
  rw [e2, ew]
  refine ⟨hlt, by rw [e1, e2], hlt, by rw [Nat.ble_eq, dN_length (by omega)]; simp; omega, trivial, by rw [fwrap_nat (by omega)]; rfl, ?_⟩
  rw [dN_set (f := fun i => -wv.getD i 0) hj]
  intro q' b hb
  match q', hb with
  | 0, hb => cases hb; rw [AHeap.get_set_neB (by kernel_rfl)]; exact gC_get (q := 0) rfl
  | 1, hb => cases hb; rw [AHeap.get_set_neB (by kernel_rfl)]; exact gC_get (q := 1) rfl
  | 2, hb => cases hb; rw [AHeap.get_set_neB (by kernel_rfl)]; exact gC_get (q := 2) rfl
  | 3, hb => cases hb; rw [AHeap.get_set_neB (by kernel_rfl)]; exact gC_get (q := 3) rfl
  | 4, hb => cases hb; rw [AHeap.get_set_eqB (by kernel_rfl)]
 ·intro _ g
  exact execC_ok mixed orcKz_ok (askKz_ok 1) (noLoops _) (Eq.mpr (sz_body ck cn (wv.map gi) (dN (fun i => -wv.getD i 0) m m) ek rk en rn nk kk m ct q m g _) ⟨fun hlt => absurd (blt_true hlt) (by omega), fun _ => ⟨rfl, rfl, gC_laid⟩⟩)
end
end Go.Proofs.YthgojmebbhpbbaaGreatDoor
/-! (OWN WORK. Stays: the law's loops as its run meets them.) -/
namespace Go.Proofs.YthgojmebbhpbbaaGreatDoor
open Go Go.Am
noncomputable def blkY (h : AHeap) (i : Nat) (b : Blk) : Prop := match h.get i with
 | some (.cells c t r ro) => c = b.1 ∧ t = b.2.1 ∧ r = b.2.2.1 ∧ ro = b.2.2.2
 | _ => False
theorem blkY_get {h : AHeap} {i : Nat} {b : Blk} (k : blkY h i b) : h.get i = some (.cells b.1 b.2.1 b.2.2.1 b.2.2.2) := by
 unfold blkY at k
 split at k
 ·rename_i c t r ro e
  obtain ⟨rfl, rfl, rfl, rfl⟩ := k
  exact e
 ·exact k.elim
noncomputable def tabsY (h : AHeap) (K : Prop) : Prop := match hasTabs tabs2 h with
 | true => K
 | false => False
theorem tabsY_of {h : AHeap} {K : Prop} (k : tabsY h K) : hasTabs tabs2 h = true ∧ K := by
 unfold tabsY at k
 split at k
 ·rename_i e; exact ⟨e, k⟩
 ·exact k.elim
noncomputable def opY (v : Value) (A B : Prop) : Prop := match v with
 | .int _ x => match ieq x 0 with
  | true => A
  | false => B
 | _ => False
theorem opY_of {v : Value} {A B : Prop} (k : opY v A B) : A ∨ B := by
 unfold opY at k
 split at k
 ·split at k
  ·exact .inl k
  ·exact .inr k
 ·exact k.elim
theorem lt_D : 1 < Tryz.prog.globals.size := by
 have h : Nat.blt 1 Tryz.prog.globals.size = true := by kernel_rfl
 rwa [Nat.blt_eq] at h
theorem wts_len {kl : List Int} {q : Nat} (_ : keE kl = 0) (hq : kl.length = q + 1) : (wtsE kl).length = 2 * q + 1 := by rw [wts_length, hq]; omega
theorem wts_le {kl : List Int} {q : Nat} (hk : keE kl = 0) (hq : kl.length = q + 1) : 2 * q + 1 ≤ 65536 := by
 have := (ke_valid hk).1.2
 omega
theorem sum_bd {l : List Int} : ∀ {B : Nat}, (∀ w ∈ l, Bd B w) → Bd (l.length * B) l.sum := by
 induction l with
 | nil => intro B _; unfold Bd; simp
 | cons w l ih =>
  intro B hw
  have h1 := hw w (by simp)
  have h2 := ih (B := B) fun x hx => hw x (by simp [hx])
  rw [List.sum_cons, List.length_cons]
  unfold Bd at *
  have e : (l.length + 1) * B = l.length * B + B := by rw [Nat.add_mul, Nat.one_mul]
  omega
theorem wts_in {kl : List Int} {q : Nat} (hk : keE kl = 0) (hq : kl.length = q + 1) (j : Nat) (_ : j < 2 * q + 1) : inI64 ((wtsE kl).take (j + 1)).sum = true := by
 obtain ⟨⟨_, k2⟩, k3, _⟩ := ke_valid hk
 have hb := sum_bd (l := (wtsE kl).take (j + 1)) (B := 490000) fun w hw => wts_bd k3 k2 w (List.mem_of_mem_take hw)
 have hl : ((wtsE kl).take (j + 1)).length ≤ 13 := by rw [List.length_take, wts_length]; omega
 exact (hb.le (Nat.mul_le_mul_right 490000 hl)).in (by decide)
set_option maxRecDepth 100000 in
noncomputable def stL (kl l wv T B O : List Int) (q kk e n lk e' : Nat) (a b c : Int) : Loops Tryz.prog where
 body := fun i => loopOf Tryz.prog 4 i
 spec := fun i a' h k => match i with
  | 0 => entry a' 381 [(0, slX nG1 (q + 1) kk), (1, slX (nG1 + 1) (n + 1) lk), (5, ptP (nG1 + 2)), (7, gi c), (8, nilS), (9, nilS), (69, goN (n + 1)), (70, goN 0)] (tabsY h ((blkY h nG1 (kl.map gi, e, 0, true) ∧ blkY h (nG1 + 1) (l.map g8, e', 0, true) ∧ blkY h (nG1 + 2) ([Value.int .u8 a, Value.int .u8 b], 45, 0, false)) ∧ (n + 1 ≤ 65536) ∧ ∀ es g, k (.exit 0) (stOf 381 [(0, slX nG1 (q + 1) kk), (1, slX (nG1 + 1) (n + 1) lk), (5, ptP (nG1 + 2)), (7, gi c), (8, slX (nG1 + 3) (n + 1) (n + 1)), (9, nilS)] g) (canonT tabs2 es Tryz.prog.globals.size [(kl.map gi, e, 0, true), (l.map g8, e', 0, true), ([Value.int .u8 a, Value.int .u8 b], 45, 0, false), ((List.replicate (n + 1) c).map gi, 3, 2, false)])))
  | 1 => False
  | 2 => entry a' 381 [(0, slX nG1 (q + 1) kk), (1, slX (nG1 + 1) (n + 1) lk), (5, ptP (nG1 + 2)), (7, gi c), (8, slX (nG1 + 3) (n + 1) (n + 1)), (9, nilS), (77, slX (nG1 + 1) (n + 1) lk), (78, goN (n + 1)), (79, goN 0)] (tabsY h ((blkY h nG1 (kl.map gi, e, 0, true) ∧ blkY h (nG1 + 1) (l.map g8, e', 0, true) ∧ blkY h (nG1 + 2) ([Value.int .u8 a, Value.int .u8 b], 45, 0, false) ∧ blkY h (nG1 + 3) ((List.replicate (n + 1) c).map gi, 3, 2, false)) ∧ (l.length = n + 1 ∧ n + 1 ≤ 65536 ∧ wv = l.map wvE) ∧ ∀ es g, k (.exit 2) (stOf 381 [(0, slX nG1 (q + 1) kk), (5, ptP (nG1 + 1)), (8, slX (nG1 + 2) (n + 1) (n + 1)), (9, slX (nG1 + 3) (n + 1) (n + 1))] g) (canonT tabs2 es Tryz.prog.globals.size [(kl.map gi, e, 0, true), ([Value.int .u8 a, Value.int .u8 b], 45, 0, false), ((List.replicate (n + 1) c).map gi, 3, 2, false), (wv.map gi, 3, 2, false)])))
  | 3 => False
  | 4 => entry a' 381 [(0, slX nG1 (q + 1) kk), (5, ptP (nG1 + 1)), (9, slX (nG1 + 3) (n + 1) (n + 1)), (16, slX (nG1 + 11) (2 * q + 1) (2 * q + 1)), (17, gi (sumW kl * sumW kl)), (19, gi 0), (146, slX (nG1 + 11) (2 * q + 1) (2 * q + 1)), (147, goN (2 * q + 1)), (148, goN 0)] (tabsY h ((blkY h nG1 (kl.map gi, e, 0, true) ∧ blkY h (nG1 + 1) ([Value.int .u8 a, Value.int .u8 b], 45, 0, false) ∧ blkY h (nG1 + 3) (wv.map gi, 3, 2, false) ∧ blkY h (nG1 + 11) ((wtsE kl).map gi, 3, 2, false)) ∧ (keE kl = 0 ∧ kl.length = q + 1) ∧ ∀ es g, k (.exit 4) (stOf 381 [(0, slX nG1 (q + 1) kk), (5, ptP (nG1 + 1)), (9, slX (nG1 + 2) (n + 1) (n + 1)), (17, gi (sumW kl * sumW kl)), (19, gi (sumW kl * sumW kl))] g) (canonT tabs2 es Tryz.prog.globals.size [(kl.map gi, e, 0, true), ([Value.int .u8 a, Value.int .u8 b], 45, 0, false), (wv.map gi, 3, 2, false)])))
  | 5 => False
  | 6 => opY (a'.tmp 28) (entry a' 381 [(0, slX nG1 (q + 1) kk), (5, ptP (nG1 + 1)), (9, slX (nG1 + 2) (n + 1) (n + 1)), (22, slX (nG1 + 5) (n + 1) (n + 1)), (27, slX (nG1 + 19) (n + 1 + (n + 1)) (n + 1 + (n + 1))), (28, gi 0), (29, slX (nG1 + 20) (n + 1) (n + 1)), (235, slX (nG1 + 2) (n + 1) (n + 1)), (236, goN (n + 1)), (237, goN 0)] (tabsY h ((blkY h nG1 (kl.map gi, e, 0, true) ∧ blkY h (nG1 + 1) ([Value.int .u8 a, Value.int .u8 b], 45, 0, false) ∧ blkY h (nG1 + 2) (wv.map gi, 3, 2, false) ∧ blkY h (nG1 + 5) ((T.map sampleE).map gf, 50, 2, false) ∧ blkY h (nG1 + 19) ((B.map sampleE).map gf, 50, 2, false) ∧ blkY h (nG1 + 20) (List.replicate (n + 1) (gi 0), 3, 2, false)) ∧ (wv.length = n + 1 ∧ n + 1 ≤ 65536 ∧ ∀ x ∈ wv, Bd 30 x) ∧ ∀ es g, k (.exit 6) (stOf 381 [(0, slX nG1 (q + 1) kk), (5, ptP (nG1 + 1)), (9, slX (nG1 + 2) (n + 1) (n + 1)), (22, slX (nG1 + 3) (n + 1) (n + 1)), (27, slX (nG1 + 4) (n + 1 + (n + 1)) (n + 1 + (n + 1))), (28, gi 0), (29, slX (nG1 + 5) (n + 1) (n + 1))] g) (canonT tabs2 es Tryz.prog.globals.size [(kl.map gi, e, 0, true), ([Value.int .u8 a, Value.int .u8 b], 45, 0, false), (wv.map gi, 3, 2, false), ((T.map sampleE).map gf, 50, 2, false), ((B.map sampleE).map gf, 50, 2, false), ((wv.map fun x => -x).map gi, 3, 2, false)])))) (entry a' 381 [(0, slX nG1 (q + 1) kk), (5, ptP (nG1 + 1)), (9, slX (nG1 + 2) (n + 1) (n + 1)), (22, slX (nG1 + 5) (n + 1) (n + 1)), (27, nilS), (28, gi 4), (29, slX (nG1 + 19) (n + 1) (n + 1)), (235, slX (nG1 + 2) (n + 1) (n + 1)), (236, goN (n + 1)), (237, goN 0)] (tabsY h ((blkY h nG1 (kl.map gi, e, 0, true) ∧ blkY h (nG1 + 1) ([Value.int .u8 a, Value.int .u8 b], 45, 0, false) ∧ blkY h (nG1 + 2) (wv.map gi, 3, 2, false) ∧ blkY h (nG1 + 5) ((T.map sampleE).map gf, 50, 2, false) ∧ blkY h (nG1 + 19) (List.replicate (n + 1) (gi 0), 3, 2, false)) ∧ (wv.length = n + 1 ∧ n + 1 ≤ 65536 ∧ ∀ x ∈ wv, Bd 30 x) ∧ ∀ es g, k (.exit 6) (stOf 381 [(0, slX nG1 (q + 1) kk), (5, ptP (nG1 + 1)), (9, slX (nG1 + 2) (n + 1) (n + 1)), (22, slX (nG1 + 3) (n + 1) (n + 1)), (27, nilS), (28, gi 4), (29, slX (nG1 + 4) (n + 1) (n + 1))] g) (canonT tabs2 es Tryz.prog.globals.size [(kl.map gi, e, 0, true), ([Value.int .u8 a, Value.int .u8 b], 45, 0, false), (wv.map gi, 3, 2, false), ((T.map sampleE).map gf, 50, 2, false), ((wv.map fun x => -x).map gi, 3, 2, false)]))))
  | 7 => False
  | 8 => entry a' 381 [(0, slX nG1 (q + 1) kk), (5, ptP (nG1 + 1)), (9, slX (nG1 + 2) (n + 1) (n + 1)), (22, slX (nG1 + 3) (n + 1) (n + 1)), (279, slX (nG1 + 12) (n + 1) (n + 1)), (280, goN (n + 1)), (281, goN 0)] (tabsY h ((blkY h nG1 (kl.map gi, e, 0, true) ∧ blkY h (nG1 + 1) ([Value.int .u8 a, Value.int .u8 b], 45, 0, false) ∧ blkY h (nG1 + 2) (wv.map gi, 3, 2, false) ∧ blkY h (nG1 + 3) ((T.map sampleE).map gf, 50, 2, false) ∧ blkY h (nG1 + 12) (O.map gi, 3, 2, false)) ∧ (T.length = n + 1 ∧ O.length = n + 1 ∧ n + 1 ≤ 65536 ∧ (∀ u ∈ T, Bd 16384 u) ∧ ∀ j, j < n + 1 → O.getD j 0 + T.getD j 0 = 0 ∨ O.getD j 0 + T.getD j 0 = 1) ∧ ∀ es g, k (.exit 8) (stOf 381 [(0, slX nG1 (q + 1) kk), (5, ptP (nG1 + 1)), (9, slX (nG1 + 2) (n + 1) (n + 1)), (22, slX (nG1 + 3) (n + 1) (n + 1))] g) (canonT tabs2 es Tryz.prog.globals.size [(kl.map gi, e, 0, true), ([Value.int .u8 a, Value.int .u8 b], 45, 0, false), (wv.map gi, 3, 2, false), ((T.map sampleE).map gf, 50, 2, false)])))
  | _ + 9 => False
 ok := fun i a' h k qq => by
  match i, qq with
  | 0, qq =>
   obtain ⟨h1, h2, h3, hty⟩ := entry_facts qq
   obtain ⟨ht, ⟨g0, g1, g2⟩, c1, k1⟩ := tabsY_of hty
   refine J.of_toldT tabs2_flat ht (D := 1) lt_D (by kernel_rfl) (sa_loop (kl.map gi) (l.map g8) [Value.int .u8 a, Value.int .u8 b] e 0 e' 0 45 0 (q + 1) kk (n + 1) lk c (flat_ints _) (flat_8 _) rfl (by omega) c1 a' h (fun x b hb => by match x, hb with | 0, hb => cases hb; exact blkY_get g0 | 1, hb => cases hb; exact blkY_get g1 | 2, hb => cases hb; exact blkY_get g2) h1 h2 ?_) ?_
   ·simp only [List.map_cons, List.map_nil]
    rw [h3 (0, slX nG1 (q + 1) kk) (by simp), h3 (1, slX (nG1 + 1) (n + 1) lk) (by simp), h3 (5, ptP (nG1 + 2)) (by simp), h3 (7, gi c) (by simp), h3 (8, nilS) (by simp), h3 (9, nilS) (by simp), h3 (69, goN (n + 1)) (by simp), h3 (70, goN 0) (by simp)]
    all_goals rfl
   ·rintro ex vs h' ⟨rfl, rfl, lay⟩
    refine ⟨[0, 1, 5, 7, 8, 9], [slX nG1 (q + 1) kk, slX (nG1 + 1) (n + 1) lk, ptP (nG1 + 2), gi c, slX (nG1 + 3) (n + 1) (n + 1), nilS], [slX nG1 (q + 1) kk, slX (nG1 + 1) (n + 1) lk, ptP (nG1 + 2), gi c, slX (nG1 + 3) (n + 1) (n + 1), nilS], [(kl.map gi, e, 0, true), (l.map g8, e', 0, true), ([Value.int .u8 a, Value.int .u8 b], 45, 0, false), ((List.replicate (n + 1) c).map gi, 3, 2, false)], [nG1, nG1 + 1, nG1 + 2, nG1 + 3], ?_, rfl, ?_, ?_, ?_, ?_, ?_, fun es g => ?_⟩
    ·intro x hx
     simp only [List.zip_cons_cons, List.zip_nil_right, List.zip_nil_left, List.mem_cons, List.not_mem_nil, or_false] at hx ⊢
     rcases hx with rfl | rfl | rfl | rfl | rfl | rfl <;> simp
    ·decide
    ·intro x hx
     simp only [List.mem_cons, List.not_mem_nil, or_false] at hx
     rcases hx with rfl | rfl | rfl | rfl <;> (unfold nG1; omega)
    ·intro x bb y hb hy
     match x, hb, hy with
     | 0, hb, hy => cases hb; cases hy; exact ⟨lay 0 _ rfl, flat_ints _⟩
     | 1, hb, hy => cases hb; cases hy; exact ⟨lay 1 _ rfl, flat_8 _⟩
     | 2, hb, hy => cases hb; cases hy; exact ⟨lay 2 _ rfl, rfl⟩
     | 3, hb, hy => cases hb; cases hy; refine ⟨?_, flat_ints _⟩; have := lay 3 _ rfl; rw [← aP_rep]; exact this
    ·kernel_rfl
    ·intro x hx
     simp only [List.mem_cons, List.not_mem_nil, or_false] at hx
     rcases hx with rfl | rfl | rfl | rfl
     ·exact ⟨(0, slX nG1 (q + 1) kk), by simp, by simp [named, nG1]⟩
     ·exact ⟨(1, slX (nG1 + 1) (n + 1) lk), by simp, by simp [named, nG1]⟩
     ·exact ⟨(5, ptP (nG1 + 2)), by simp, by simp [named, nG1]⟩
     ·exact ⟨(8, slX (nG1 + 3) (n + 1) (n + 1)), by simp, by simp [named, nG1]⟩
    ·exact k1 es g
  | 1, qq => exact qq.elim
  | 2, qq =>
   obtain ⟨h1, h2, h3, hty⟩ := entry_facts qq
   obtain ⟨ht, ⟨g0, g1, g2, g3⟩, ⟨c1, c2, c3⟩, k1⟩ := tabsY_of hty
   refine J.of_toldT tabs2_flat ht (D := 1) lt_D (by kernel_rfl) (sb_loop (kl.map gi) [Value.int .u8 a, Value.int .u8 b] ((List.replicate (n + 1) c).map gi) l e 0 e' 0 45 0 (q + 1) kk (n + 1) lk (n + 1) c (flat_ints _) rfl (flat_ints _) c1 (by omega) c2 a' h (fun x b hb => by match x, hb with | 0, hb => cases hb; exact blkY_get g0 | 1, hb => cases hb; exact blkY_get g1 | 2, hb => cases hb; exact blkY_get g2 | 3, hb => cases hb; exact blkY_get g3) h1 h2 ?_) ?_
   ·simp only [List.map_cons, List.map_nil]
    rw [h3 (0, slX nG1 (q + 1) kk) (by simp), h3 (1, slX (nG1 + 1) (n + 1) lk) (by simp), h3 (5, ptP (nG1 + 2)) (by simp), h3 (7, gi c) (by simp), h3 (8, slX (nG1 + 3) (n + 1) (n + 1)) (by simp), h3 (9, nilS) (by simp), h3 (77, slX (nG1 + 1) (n + 1) lk) (by simp), h3 (78, goN (n + 1)) (by simp), h3 (79, goN 0) (by simp)]
    all_goals rfl
   ·rintro ex vs h' ⟨rfl, rfl, lay⟩
    refine ⟨[0, 5, 8, 9], [slX nG1 (q + 1) kk, ptP (nG1 + 2), slX (nG1 + 3) (n + 1) (n + 1), slX (nG1 + 4) (n + 1) (n + 1)], [slX nG1 (q + 1) kk, ptP (nG1 + 1), slX (nG1 + 2) (n + 1) (n + 1), slX (nG1 + 3) (n + 1) (n + 1)], [(kl.map gi, e, 0, true), ([Value.int .u8 a, Value.int .u8 b], 45, 0, false), ((List.replicate (n + 1) c).map gi, 3, 2, false), (wv.map gi, 3, 2, false)], [nG1, nG1 + 2, nG1 + 3, nG1 + 4], ?_, rfl, ?_, ?_, ?_, ?_, ?_, fun es g => ?_⟩
    ·intro x hx
     simp only [List.zip_cons_cons, List.zip_nil_right, List.zip_nil_left, List.mem_cons, List.not_mem_nil, or_false] at hx ⊢
     rcases hx with rfl | rfl | rfl | rfl <;> simp
    ·decide
    ·intro x hx
     simp only [List.mem_cons, List.not_mem_nil, or_false] at hx
     rcases hx with rfl | rfl | rfl | rfl <;> (unfold nG1; omega)
    ·intro x bb y hb hy
     match x, hb, hy with
     | 0, hb, hy => cases hb; cases hy; exact ⟨lay 0 _ rfl, flat_ints _⟩
     | 1, hb, hy => cases hb; cases hy; exact ⟨lay 2 _ rfl, rfl⟩
     | 2, hb, hy => cases hb; cases hy; exact ⟨lay 3 _ rfl, flat_ints _⟩
     | 3, hb, hy => cases hb; cases hy; refine ⟨?_, flat_ints _⟩; have := lay 4 _ rfl; rw [c3, ← aP_wave, c1]; exact this
    ·kernel_rfl
    ·intro x hx
     simp only [List.mem_cons, List.not_mem_nil, or_false] at hx
     rcases hx with rfl | rfl | rfl | rfl
     ·exact ⟨(0, slX nG1 (q + 1) kk), by simp, by simp [named, nG1]⟩
     ·exact ⟨(5, ptP (nG1 + 2)), by simp, by simp [named, nG1]⟩
     ·exact ⟨(8, slX (nG1 + 3) (n + 1) (n + 1)), by simp, by simp [named, nG1]⟩
     ·exact ⟨(9, slX (nG1 + 4) (n + 1) (n + 1)), by simp, by simp [named, nG1]⟩
    ·exact k1 es g
  | 3, qq => exact qq.elim
  | 4, qq =>
   obtain ⟨h1, h2, h3, hty⟩ := entry_facts qq
   obtain ⟨ht, ⟨g0, g1, g2, g3⟩, ⟨c1, c2⟩, k1⟩ := tabsY_of hty
   refine J.of_toldT tabs2_flat ht (D := 1) lt_D (by kernel_rfl) (sc_loop (kl.map gi) [Value.int .u8 a, Value.int .u8 b] (wv.map gi) (wtsE kl) e 0 45 0 (q + 1) kk (n + 1) (2 * q + 1) (sumW kl * sumW kl) (fun x => nG1 + [0, 1, 3, 11].getD x 0) (by decide) (fun x hx => by show _ ≤ nG1 + _; unfold nG1; omega) (fun j => by kernel_rfl) (flat_ints _) rfl (flat_ints _) (wts_len c1 c2) (wts_le c1 c2) (wts_sym c1) (wts_in c1 c2) a' h (fun x b hb => by match x, hb with | 0, hb => cases hb; exact blkY_get g0 | 1, hb => cases hb; exact blkY_get g1 | 2, hb => cases hb; exact blkY_get g2 | 3, hb => cases hb; exact blkY_get g3) h1 h2 ?_) ?_
   ·simp only [List.map_cons, List.map_nil]
    rw [h3 (0, slX nG1 (q + 1) kk) (by simp), h3 (5, ptP (nG1 + 1)) (by simp), h3 (9, slX (nG1 + 3) (n + 1) (n + 1)) (by simp), h3 (16, slX (nG1 + 11) (2 * q + 1) (2 * q + 1)) (by simp), h3 (17, gi (sumW kl * sumW kl)) (by simp), h3 (19, gi 0) (by simp), h3 (146, slX (nG1 + 11) (2 * q + 1) (2 * q + 1)) (by simp), h3 (147, goN (2 * q + 1)) (by simp), h3 (148, goN 0) (by simp)]
    all_goals rfl
   ·rintro ex vs h' ⟨rfl, rfl, lay⟩
    refine ⟨[0, 5, 9, 17, 19], [slX nG1 (q + 1) kk, ptP (nG1 + 1), slX (nG1 + 2) (n + 1) (n + 1), gi (sumW kl * sumW kl), gi ((wtsE kl).take (2 * q + 1)).sum], [slX nG1 (q + 1) kk, ptP (nG1 + 1), slX (nG1 + 2) (n + 1) (n + 1), gi (sumW kl * sumW kl), gi ((wtsE kl).take (2 * q + 1)).sum], [(kl.map gi, e, 0, true), ([Value.int .u8 a, Value.int .u8 b], 45, 0, false), (wv.map gi, 3, 2, false)], [nG1, nG1 + 1, nG1 + 2], ?_, rfl, ?_, ?_, ?_, ?_, ?_, fun es g => ?_⟩
    ·intro x hx
     simp only [List.zip_cons_cons, List.zip_nil_right, List.zip_nil_left, List.mem_cons, List.not_mem_nil, or_false] at hx ⊢
     rcases hx with rfl | rfl | rfl | rfl | rfl <;> simp
    ·decide
    ·intro x hx
     simp only [List.mem_cons, List.not_mem_nil, or_false] at hx
     rcases hx with rfl | rfl | rfl <;> (unfold nG1; omega)
    ·intro x bb y hb hy
     match x, hb, hy with
     | 0, hb, hy => cases hb; cases hy; exact ⟨lay 0 _ rfl, flat_ints _⟩
     | 1, hb, hy => cases hb; cases hy; exact ⟨lay 1 _ rfl, rfl⟩
     | 2, hb, hy => cases hb; cases hy; exact ⟨lay 2 _ rfl, flat_ints _⟩
    ·kernel_rfl
    ·intro x hx
     simp only [List.mem_cons, List.not_mem_nil, or_false] at hx
     rcases hx with rfl | rfl | rfl
     ·exact ⟨(0, slX nG1 (q + 1) kk), by simp, by simp [named, nG1]⟩
     ·exact ⟨(5, ptP (nG1 + 1)), by simp, by simp [named, nG1]⟩
     ·exact ⟨(9, slX (nG1 + 2) (n + 1) (n + 1)), by simp, by simp [named, nG1]⟩
    ·have e : ((wtsE kl).take (2 * q + 1)).sum = sumW kl * sumW kl := by rw [List.take_of_length_le (Nat.le_of_eq (wts_len c1 c2)), wts_sum c1]
     rw [e]; exact k1 es g
  | 5, qq => exact qq.elim
  | 6, qq =>
   rcases opY_of qq with qq | qq
   ·skip
    obtain ⟨h1, h2, h3, hty⟩ := entry_facts qq
    obtain ⟨ht, ⟨g0, g1, g2, g3, g4, g5⟩, ⟨c1, c2, c3⟩, k1⟩ := tabsY_of hty
    refine J.of_toldT tabs2_flat ht (D := 1) lt_D (by kernel_rfl) (sd_loop (kl.map gi) [Value.int .u8 a, Value.int .u8 b] ((T.map sampleE).map gf) ((B.map sampleE).map gf) wv e 0 45 0 (q + 1) kk (n + 1) (n + 1) (n + 1 + (n + 1)) (fun x => nG1 + [0, 1, 2, 5, 19, 20].getD x 0) (by decide) (fun x hx => by show _ ≤ nG1 + _; unfold nG1; omega) (fun j => by kernel_rfl) (flat_ints _) rfl (flat_floats _) (flat_floats _) c1 c2 c3 a' h (fun x b hb => by match x, hb with | 0, hb => cases hb; exact blkY_get g0 | 1, hb => cases hb; exact blkY_get g1 | 2, hb => cases hb; exact blkY_get g2 | 3, hb => cases hb; exact blkY_get g3 | 4, hb => cases hb; exact blkY_get g4 | 5, hb => cases hb; exact blkY_get g5) h1 h2 ?_) ?_
    ·simp only [List.map_cons, List.map_nil]
     rw [h3 (0, slX nG1 (q + 1) kk) (by simp), h3 (5, ptP (nG1 + 1)) (by simp), h3 (9, slX (nG1 + 2) (n + 1) (n + 1)) (by simp), h3 (22, slX (nG1 + 5) (n + 1) (n + 1)) (by simp), h3 (27, slX (nG1 + 19) (n + 1 + (n + 1)) (n + 1 + (n + 1))) (by simp), h3 (28, gi 0) (by simp), h3 (29, slX (nG1 + 20) (n + 1) (n + 1)) (by simp), h3 (235, slX (nG1 + 2) (n + 1) (n + 1)) (by simp), h3 (236, goN (n + 1)) (by simp), h3 (237, goN 0) (by simp)]
     all_goals rfl
    ·rintro ex vs h' ⟨rfl, rfl, lay⟩
     refine ⟨[0, 5, 9, 22, 27, 28, 29], [slX nG1 (q + 1) kk, ptP (nG1 + 1), slX (nG1 + 2) (n + 1) (n + 1), slX (nG1 + 3) (n + 1) (n + 1), slX (nG1 + 4) (n + 1 + (n + 1)) (n + 1 + (n + 1)), gi 0, slX (nG1 + 5) (n + 1) (n + 1)], [slX nG1 (q + 1) kk, ptP (nG1 + 1), slX (nG1 + 2) (n + 1) (n + 1), slX (nG1 + 3) (n + 1) (n + 1), slX (nG1 + 4) (n + 1 + (n + 1)) (n + 1 + (n + 1)), gi 0, slX (nG1 + 5) (n + 1) (n + 1)], [(kl.map gi, e, 0, true), ([Value.int .u8 a, Value.int .u8 b], 45, 0, false), (wv.map gi, 3, 2, false), ((T.map sampleE).map gf, 50, 2, false), ((B.map sampleE).map gf, 50, 2, false), ((wv.map fun x => -x).map gi, 3, 2, false)], [nG1, nG1 + 1, nG1 + 2, nG1 + 3, nG1 + 4, nG1 + 5], ?_, rfl, ?_, ?_, ?_, ?_, ?_, fun es g => ?_⟩
     ·intro x hx
      simp only [List.zip_cons_cons, List.zip_nil_right, List.zip_nil_left, List.mem_cons, List.not_mem_nil, or_false] at hx ⊢
      rcases hx with rfl | rfl | rfl | rfl | rfl | rfl | rfl <;> simp
     ·decide
     ·intro x hx
      simp only [List.mem_cons, List.not_mem_nil, or_false] at hx
      rcases hx with rfl | rfl | rfl | rfl | rfl | rfl <;> (unfold nG1; omega)
     ·intro x bb y hb hy
      match x, hb, hy with
      | 0, hb, hy => cases hb; cases hy; exact ⟨lay 0 _ rfl, flat_ints _⟩
      | 1, hb, hy => cases hb; cases hy; exact ⟨lay 1 _ rfl, rfl⟩
      | 2, hb, hy => cases hb; cases hy; exact ⟨lay 2 _ rfl, flat_ints _⟩
      | 3, hb, hy => cases hb; cases hy; exact ⟨lay 3 _ rfl, flat_floats _⟩
      | 4, hb, hy => cases hb; cases hy; exact ⟨lay 4 _ rfl, flat_floats _⟩
      | 5, hb, hy => cases hb; cases hy; refine ⟨?_, flat_ints _⟩; have := lay 5 _ rfl; rw [← aP_neg, c1, ← dN_end]; exact this
     ·kernel_rfl
     ·intro x hx
      simp only [List.mem_cons, List.not_mem_nil, or_false] at hx
      rcases hx with rfl | rfl | rfl | rfl | rfl | rfl
      ·exact ⟨(0, slX nG1 (q + 1) kk), by simp, by simp [named, nG1]⟩
      ·exact ⟨(5, ptP (nG1 + 1)), by simp, by simp [named, nG1]⟩
      ·exact ⟨(9, slX (nG1 + 2) (n + 1) (n + 1)), by simp, by simp [named, nG1]⟩
      ·exact ⟨(22, slX (nG1 + 3) (n + 1) (n + 1)), by simp, by simp [named, nG1]⟩
      ·exact ⟨(27, slX (nG1 + 4) (n + 1 + (n + 1)) (n + 1 + (n + 1))), by simp, by simp [named, nG1]⟩
      ·exact ⟨(29, slX (nG1 + 5) (n + 1) (n + 1)), by simp, by simp [named, nG1]⟩
     ·exact k1 es g
   ·skip
    obtain ⟨h1, h2, h3, hty⟩ := entry_facts qq
    obtain ⟨ht, ⟨g0, g1, g2, g3, g4⟩, ⟨c1, c2, c3⟩, k1⟩ := tabsY_of hty
    refine J.of_toldT tabs2_flat ht (D := 1) lt_D (by kernel_rfl) (sz_loop (kl.map gi) [Value.int .u8 a, Value.int .u8 b] ((T.map sampleE).map gf) wv e 0 45 0 (q + 1) kk (n + 1) (n + 1) (fun x => nG1 + [0, 1, 2, 5, 19].getD x 0) (by decide) (fun x hx => by show _ ≤ nG1 + _; unfold nG1; omega) (fun j => by kernel_rfl) (flat_ints _) rfl (flat_floats _) c1 c2 c3 a' h (fun x b hb => by match x, hb with | 0, hb => cases hb; exact blkY_get g0 | 1, hb => cases hb; exact blkY_get g1 | 2, hb => cases hb; exact blkY_get g2 | 3, hb => cases hb; exact blkY_get g3 | 4, hb => cases hb; exact blkY_get g4) h1 h2 ?_) ?_
    ·simp only [List.map_cons, List.map_nil]
     rw [h3 (0, slX nG1 (q + 1) kk) (by simp), h3 (5, ptP (nG1 + 1)) (by simp), h3 (9, slX (nG1 + 2) (n + 1) (n + 1)) (by simp), h3 (22, slX (nG1 + 5) (n + 1) (n + 1)) (by simp), h3 (27, nilS) (by simp), h3 (28, gi 4) (by simp), h3 (29, slX (nG1 + 19) (n + 1) (n + 1)) (by simp), h3 (235, slX (nG1 + 2) (n + 1) (n + 1)) (by simp), h3 (236, goN (n + 1)) (by simp), h3 (237, goN 0) (by simp)]
     all_goals rfl
    ·rintro ex vs h' ⟨rfl, rfl, lay⟩
     refine ⟨[0, 5, 9, 22, 27, 28, 29], [slX nG1 (q + 1) kk, ptP (nG1 + 1), slX (nG1 + 2) (n + 1) (n + 1), slX (nG1 + 3) (n + 1) (n + 1), nilS, gi 4, slX (nG1 + 4) (n + 1) (n + 1)], [slX nG1 (q + 1) kk, ptP (nG1 + 1), slX (nG1 + 2) (n + 1) (n + 1), slX (nG1 + 3) (n + 1) (n + 1), nilS, gi 4, slX (nG1 + 4) (n + 1) (n + 1)], [(kl.map gi, e, 0, true), ([Value.int .u8 a, Value.int .u8 b], 45, 0, false), (wv.map gi, 3, 2, false), ((T.map sampleE).map gf, 50, 2, false), ((wv.map fun x => -x).map gi, 3, 2, false)], [nG1, nG1 + 1, nG1 + 2, nG1 + 3, nG1 + 4], ?_, rfl, ?_, ?_, ?_, ?_, ?_, fun es g => ?_⟩
     ·intro x hx
      simp only [List.zip_cons_cons, List.zip_nil_right, List.zip_nil_left, List.mem_cons, List.not_mem_nil, or_false] at hx ⊢
      rcases hx with rfl | rfl | rfl | rfl | rfl | rfl | rfl <;> simp
     ·decide
     ·intro x hx
      simp only [List.mem_cons, List.not_mem_nil, or_false] at hx
      rcases hx with rfl | rfl | rfl | rfl | rfl <;> (unfold nG1; omega)
     ·intro x bb y hb hy
      match x, hb, hy with
      | 0, hb, hy => cases hb; cases hy; exact ⟨lay 0 _ rfl, flat_ints _⟩
      | 1, hb, hy => cases hb; cases hy; exact ⟨lay 1 _ rfl, rfl⟩
      | 2, hb, hy => cases hb; cases hy; exact ⟨lay 2 _ rfl, flat_ints _⟩
      | 3, hb, hy => cases hb; cases hy; exact ⟨lay 3 _ rfl, flat_floats _⟩
      | 4, hb, hy => cases hb; cases hy; refine ⟨?_, flat_ints _⟩; have := lay 4 _ rfl; rw [← aP_neg, c1, ← dN_end]; exact this
     ·kernel_rfl
     ·intro x hx
      simp only [List.mem_cons, List.not_mem_nil, or_false] at hx
      rcases hx with rfl | rfl | rfl | rfl | rfl
      ·exact ⟨(0, slX nG1 (q + 1) kk), by simp, by simp [named, nG1]⟩
      ·exact ⟨(5, ptP (nG1 + 1)), by simp, by simp [named, nG1]⟩
      ·exact ⟨(9, slX (nG1 + 2) (n + 1) (n + 1)), by simp, by simp [named, nG1]⟩
      ·exact ⟨(22, slX (nG1 + 3) (n + 1) (n + 1)), by simp, by simp [named, nG1]⟩
      ·exact ⟨(29, slX (nG1 + 4) (n + 1) (n + 1)), by simp, by simp [named, nG1]⟩
     ·exact k1 es g
  | 7, qq => exact qq.elim
  | 8, qq =>
   obtain ⟨h1, h2, h3, hty⟩ := entry_facts qq
   obtain ⟨ht, ⟨g0, g1, g2, g3, g4⟩, ⟨c1, c2, c3, c4, c5⟩, k1⟩ := tabsY_of hty
   refine J.of_toldT tabs2_flat ht (D := 1) lt_D (by kernel_rfl) (se_loop (kl.map gi) [Value.int .u8 a, Value.int .u8 b] (wv.map gi) T O e 0 45 0 (q + 1) kk (n + 1) (n + 1) (fun x => nG1 + [0, 1, 2, 3, 12].getD x 0) (by decide) (fun x hx => by show _ ≤ nG1 + _; unfold nG1; omega) (fun j => by kernel_rfl) (flat_ints _) rfl (flat_ints _) c1 c2 c3 c4 (fun j h1 h2 => by have := c5 j (by omega); rw [List.getD_eq_getElem?_getD, List.getD_eq_getElem?_getD, List.getElem?_eq_getElem h1, List.getElem?_eq_getElem h2] at this; exact this) a' h (fun x b hb => by match x, hb with | 0, hb => cases hb; exact blkY_get g0 | 1, hb => cases hb; exact blkY_get g1 | 2, hb => cases hb; exact blkY_get g2 | 3, hb => cases hb; exact blkY_get g3 | 4, hb => cases hb; exact blkY_get g4) h1 h2 ?_) ?_
   ·simp only [List.map_cons, List.map_nil]
    rw [h3 (0, slX nG1 (q + 1) kk) (by simp), h3 (5, ptP (nG1 + 1)) (by simp), h3 (9, slX (nG1 + 2) (n + 1) (n + 1)) (by simp), h3 (22, slX (nG1 + 3) (n + 1) (n + 1)) (by simp), h3 (279, slX (nG1 + 12) (n + 1) (n + 1)) (by simp), h3 (280, goN (n + 1)) (by simp), h3 (281, goN 0) (by simp)]
    all_goals rfl
   ·rintro ex vs h' ⟨rfl, rfl, lay⟩
    refine ⟨[0, 5, 9, 22], [slX nG1 (q + 1) kk, ptP (nG1 + 1), slX (nG1 + 2) (n + 1) (n + 1), slX (nG1 + 3) (n + 1) (n + 1)], [slX nG1 (q + 1) kk, ptP (nG1 + 1), slX (nG1 + 2) (n + 1) (n + 1), slX (nG1 + 3) (n + 1) (n + 1)], [(kl.map gi, e, 0, true), ([Value.int .u8 a, Value.int .u8 b], 45, 0, false), (wv.map gi, 3, 2, false), ((T.map sampleE).map gf, 50, 2, false)], [nG1, nG1 + 1, nG1 + 2, nG1 + 3], ?_, rfl, ?_, ?_, ?_, ?_, ?_, fun es g => ?_⟩
    ·intro x hx
     simp only [List.zip_cons_cons, List.zip_nil_right, List.zip_nil_left, List.mem_cons, List.not_mem_nil, or_false] at hx ⊢
     rcases hx with rfl | rfl | rfl | rfl <;> simp
    ·decide
    ·intro x hx
     simp only [List.mem_cons, List.not_mem_nil, or_false] at hx
     rcases hx with rfl | rfl | rfl | rfl <;> (unfold nG1; omega)
    ·intro x bb y hb hy
     match x, hb, hy with
     | 0, hb, hy => cases hb; cases hy; exact ⟨lay 0 _ rfl, flat_ints _⟩
     | 1, hb, hy => cases hb; cases hy; exact ⟨lay 1 _ rfl, rfl⟩
     | 2, hb, hy => cases hb; cases hy; exact ⟨lay 2 _ rfl, flat_ints _⟩
     | 3, hb, hy => cases hb; cases hy; exact ⟨lay 3 _ rfl, flat_floats _⟩
    ·kernel_rfl
    ·intro x hx
     simp only [List.mem_cons, List.not_mem_nil, or_false] at hx
     rcases hx with rfl | rfl | rfl | rfl
     ·exact ⟨(0, slX nG1 (q + 1) kk), by simp, by simp [named, nG1]⟩
     ·exact ⟨(5, ptP (nG1 + 1)), by simp, by simp [named, nG1]⟩
     ·exact ⟨(9, slX (nG1 + 2) (n + 1) (n + 1)), by simp, by simp [named, nG1]⟩
     ·exact ⟨(22, slX (nG1 + 3) (n + 1) (n + 1)), by simp, by simp [named, nG1]⟩
    ·exact k1 es g
  | _ + 9, qq => exact qq.elim
end Go.Proofs.YthgojmebbhpbbaaGreatDoor
/-! (OWN WORK. Kernels: parts of records that are the same.) -/
namespace Go.Proofs.YthgojmebbhpbbaaGreatDoor
open Go Go.Am Ieee
noncomputable abbrev slOff (i o n k : Nat) : Value := .slice (some ⟨i, o, none⟩) n k
theorem so_body (c c' : List Value) (e row e' row' n k m k' j o p : Nat) (g : Nat → Value) (Q : Exit → List Value → AHeap → Prop) : execC Tryz.prog (exec Tryz.prog orcKz 10) (syOf [(14, 1), (19, 2), (20, 3), (23, 2), (24, 3), (25, 1)]) (askKz 1) (noLoops _) 40 (loopOf Tryz.prog 20 0) (stOf 26 [(0, slOff nG1 o n k), (1, slOff (nG1 + 1) p m k'), (5, goN j)] g) (twH c c' e row e' row') (told 26 [0, 1, 5] Q) = (((Nat.blt j n = true → (Nat.blt j n = true ∧ c[(o + (j * 1))]? = Option.some (gf (floatAt c (o + (j * 1)))) ∧ Nat.blt j m = true ∧ c'[(p + (j * 1))]? = Option.some (gf (floatAt c' (p + (j * 1)))) ∧ (bne (Ieee.Format.order (FloatKind.format FloatKind.f32) (floatAt c (o + (j * 1))) (floatAt c' (p + (j * 1)))) (Option.some Ordering.eq) = true → Q .ret [slOff nG1 o n k, slOff (nG1 + 1) p m k', goN j] (twH c c' e row e' row')) ∧ (bne (Ieee.Format.order (FloatKind.format FloatKind.f32) (floatAt c (o + (j * 1))) (floatAt c' (p + (j * 1)))) (Option.some Ordering.eq) = false → Q .normal [slOff nG1 o n k, slOff (nG1 + 1) p m k', gi (fwrap IntKind.i64 (Int.ofNat (j + 1)))] (twH c c' e row e' row')))) ∧ (Nat.blt j n = false → Q (.exit 0) [slOff nG1 o n k, slOff (nG1 + 1) p m k', goN j] (twH c c' e row e' row')))) := by kernel_rfl
theorem float_ix {l : List Nat} {i : Nat} (h : i < l.length) : (l.map gf)[i]? = some (gf l[i]) ∧ floatAt (l.map gf) i = l[i] := by
 have e : (l.map gf)[i]? = some (gf l[i]) := by rw [List.getElem?_map, List.getElem?_eq_getElem h]; rfl
 refine ⟨e, ?_⟩
 unfold floatAt
 rw [e]
set_option maxRecDepth 100000 in
theorem so_loop (l1 l2 : List Nat) (o p n : Nat) (h1 : o + n ≤ l1.length) (h2 : p + n ≤ l2.length) (hle : n ≤ 65536) (hs' : (l1.drop o).take n = (l2.drop p).take n) (hf : ∀ x ∈ (l1.drop o).take n, fin32 x) (e row e' row' k k' : Nat) : ∀ (a : AAct) (h : AHeap), Laid (twC (l1.map gf) (l2.map gf) e row e' row') (nG1 + ·) h → a.n = 26 → a.marks = [] → [0, 1, 5].map a.tmp = [slOff nG1 o n k, slOff (nG1 + 1) p n k', goN 0] →
  J Tryz.prog (.loop (loopOf Tryz.prog 20 0)) a h (told 26 [0, 1, 5] fun ex vs h' => ex = .exit 0) := by
 intro a h hs ha hk hv
 have at_ : ∀ {j : Nat}, j < n → ∃ x, fin32 x ∧ (l1.map gf)[o + j * 1]? = some (gf x) ∧ floatAt (l1.map gf) (o + j * 1) = x ∧ (l2.map gf)[p + j * 1]? = some (gf x) ∧ floatAt (l2.map gf) (p + j * 1) = x := fun {j} hj => by
  obtain ⟨a1, a2⟩ := float_ix (l := l1) (i := o + j) (by omega)
  obtain ⟨b1, b2⟩ := float_ix (l := l2) (i := p + j) (by omega)
  have e1 : ((l1.drop o).take n)[j]? = some (l1[o + j]'(by omega)) := by rw [List.getElem?_take_of_lt hj, List.getElem?_drop, List.getElem?_eq_getElem (by omega)]
  have e2 : ((l2.drop p).take n)[j]? = some (l2[p + j]'(by omega)) := by rw [List.getElem?_take_of_lt hj, List.getElem?_drop, List.getElem?_eq_getElem (by omega)]
  have e3 : l1[o + j]'(by omega) = l2[p + j]'(by omega) := by
   rw [hs', e2] at e1
   exact (Option.some.inj e1).symm
  rw [Nat.mul_one]
  exact ⟨_, hf _ (List.mem_of_getElem? e1), a1, a2, by rw [e3]; exact b1, by rw [e3]; exact b2⟩
 refine fold_rule (L := 2) (C := fun _ => twC (l1.map gf) (l2.map gf) e row e' row') globs_pos (by decide) (by decide) (fun _ => rfl) (fun _ b hb => ?_) (V := fun at_ j => [slOff (at_ 0) o n k, slOff (at_ 1) p n k', goN j]) (I := fun j => True) (m := n) trivial _ (nG1 + ·) (plus_nodup _ _) (fun q _ => Nat.le_add_right _ _) (fun j => by kernel_rfl) (fun j => by kernel_rfl)
  (fun at_ j q hq => by match q, hq with | 0, _ => exact ⟨(0, slOff (at_ 0) o n k), by simp, by simp [named]⟩ | 1, _ => exact ⟨(1, slOff (at_ 1) p n k'), by simp, by simp [named]⟩) ?_ ?_ a h hs ha hk hv
 ·rcases List.mem_cons.1 hb with rfl | hb
  ·exact flat_floats l1
  ·cases List.mem_singleton.1 hb; exact flat_floats l2
 ·intro j hj hI g
  obtain ⟨x, hx, a1, a2, b1, b2⟩ := at_ hj
  refine execC_ok mixed orcKz_ok (askKz_ok 1) (noLoops _) (Eq.mpr (so_body _ _ e row e' row' n k n k' j o p g _) ⟨fun hlt => ?_, fun hge => absurd (blt_false hge) (by omega)⟩)
  rw [a2, b2]
  refine ⟨hlt, a1, hlt, b1, fun hx' => ?_, fun hx' => ?_⟩
  ·have hs := ne_self hx
   exact absurd (show ne32 x x = true from hx') (by rw [hs]; decide)
  ·exact ⟨trivial, by rw [fwrap_nat (by omega)]; exact rfl, .two (gC_get (C := twC _ _ _ _ _ _) (q := 0) rfl) (gC_get (C := twC _ _ _ _ _ _) (q := 1) rfl)⟩
 ·intro hI g
  exact execC_ok mixed orcKz_ok (askKz_ok 1) (noLoops _) (Eq.mpr (so_body _ _ e row e' row' n k n k' n o p g _) ⟨fun hlt => absurd (blt_true hlt) (by omega), fun _ => rfl⟩)
noncomputable def soL (l1 l2 : List Nat) (o p n e row e' row' k k' : Nat) : Loops Tryz.prog where
 body := fun _ => loopOf Tryz.prog 20 0
 spec := fun _ a h c => entry a 26 [(0, slOff nG1 o n k), (1, slOff (nG1 + 1) p n k'), (5, goN 0)] ((h.get nG1 = some (.cells (l1.map gf) e row true) ∧ h.get (nG1 + 1) = some (.cells (l2.map gf) e' row' true)) ∧ (o + n ≤ l1.length ∧ p + n ≤ l2.length ∧ n ≤ 65536 ∧ (l1.drop o).take n = (l2.drop p).take n ∧ ∀ x ∈ (l1.drop o).take n, fin32 x) ∧ ∀ g h', c (.exit 0) (stOf 26 [] g) h')
 ok := fun i a h c q => by
  obtain ⟨h1, h2, h3, ⟨g0, g1⟩, ⟨c1, c2, c3, c4, c5⟩, k1⟩ := entry_facts q
  have e0 : a.tmp 0 = slOff nG1 o n k := h3 (0, slOff nG1 o n k) (by simp)
  have e1 : a.tmp 1 = slOff (nG1 + 1) p n k' := h3 (1, slOff (nG1 + 1) p n k') (by simp)
  have e2 : a.tmp 5 = goN 0 := h3 (5, goN 0) (by simp)
  refine J.of_told (so_loop l1 l2 o p n c1 c2 c3 c4 c5 e row e' row' k k' a h (.two g0 g1) h1 h2 ?_) ?_
  ·show [a.tmp 0, a.tmp 1, a.tmp 5] = _
   rw [e0, e1, e2]
  ·rintro ex vs h' g rfl
   exact k1 (ov ([0, 1, 5].zip vs) g) h'
theorem so_run (l1 l2 : List Nat) (o p m k k' e row e' row' : Nat) (K : Value → Prop) : callC Tryz.prog (exec Tryz.prog orcKz 10) (syOf [(10, 32)]) (askKz 1) (soL l1 l2 o p (m + 1) e row e' row' k k') 40 20 #[slOff nG1 o (m + 1) k, slOff (nG1 + 1) p (m + 1) k'] (canon Tryz.prog [(l1.map gf, e, row), (l2.map gf, e', row')]) (fun v _ => K v) = (((!(ieq (Int.ofNat (m + 1)) (Int.ofNat (m + 1)))) = false ∧ loopOf Tryz.prog 20 0 = loopOf Tryz.prog 20 0 ∧ slOff nG1 o (m + 1) k = slOff nG1 o (m + 1) k ∧ slOff (nG1 + 1) p (m + 1) k' = slOff (nG1 + 1) p (m + 1) k' ∧ gi 0 = goN 0 ∧ ((canon Tryz.prog [Prod.mk (List.map gf l1) (Prod.mk e row), Prod.mk (List.map gf l2) (Prod.mk e' row')]).get (nG1) = Option.some (.cells (List.map gf l1) e row true) ∧ (canon Tryz.prog [Prod.mk (List.map gf l1) (Prod.mk e row), Prod.mk (List.map gf l2) (Prod.mk e' row')]).get (nG1 + 1) = Option.some (.cells (List.map gf l2) e' row' true)) ∧ (((o + (m + 1)) : Nat) ≤ List.length l1 ∧ ((p + (m + 1)) : Nat) ≤ List.length l2 ∧ ((m + 1) : Nat) ≤ 65536 ∧ List.take (m + 1) (List.drop o l1) = List.take (m + 1) (List.drop p l2) ∧ (∀ y1 : Nat, (List.Mem y1 (List.take (m + 1) (List.drop o l1)) → Nat.le ((y1 % 2147483648) + 1) 2139095040))) ∧ (∀ _ : Nat → Value, (∀ _ : AHeap, K (Value.bool true))))) := by kernel_rfl
open Classical in
noncomputable def soX (vs : List Value) (B : List Cells) : Option Out := match B with
 | [(c1, _, _), (c2, _, _)] => match vs with
  | [.slice (some ⟨i, o, none⟩) n _, .slice (some ⟨j, p, none⟩) n' _] =>
   if (i = Tryz.prog.globals.size ∧ j = Tryz.prog.globals.size + 1) ∧ ∃ (l1 l2 : List Nat) (m : Nat), (c1 = l1.map gf ∧ c2 = l2.map gf) ∧ (n = m + 1 ∧ n' = m + 1 ∧ m + 1 ≤ 65536 ∧ o + (m + 1) ≤ l1.length ∧ p + (m + 1) ≤ l2.length) ∧ (l1.drop o).take (m + 1) = (l2.drop p).take (m + 1) ∧ ∀ x ∈ (l1.drop o).take (m + 1), fin32 x then some (.plain (.bool true)) else none
  | _ => none
 | _ => none
noncomputable def soVY (vs : List Value) (B : List Cells) (K : Out → Prop) : Prop := match B with
 | [(c1, _, _), (c2, _, _)] => match vs with
  | [.slice (some ⟨i, o, none⟩) n _, .slice (some ⟨j, p, none⟩) n' _] => (Nat.beq i Tryz.prog.globals.size = true ∧ Nat.beq j (Tryz.prog.globals.size + 1) = true) ∧
   ∃ (l1 l2 : List Nat) (m : Nat), (c1 = l1.map gf ∧ c2 = l2.map gf) ∧ (n = m + 1 ∧ n' = m + 1 ∧ m + 1 ≤ 65536 ∧ o + (m + 1) ≤ l1.length ∧ p + (m + 1) ≤ l2.length) ∧ ((l1.drop o).take (m + 1) = (l2.drop p).take (m + 1) ∧ ∀ x ∈ (l1.drop o).take (m + 1), fin32 x) ∧ K (.plain (.bool true))
  | _ => False
 | _ => False
theorem soVY_ok (vs : List Value) (B : List Cells) (K : Out → Prop) (h : soVY vs B K) : ∃ o, soX vs B = some o ∧ K o := by
 unfold soVY at h
 split at h
 ·split at h
  ·obtain ⟨⟨hi, hj⟩, l1, l2, m, h1, h2, ⟨h3, h4⟩, hK⟩ := h
   refine ⟨_, ?_, hK⟩
   unfold soX
   exact if_pos ⟨⟨Nat.eq_of_beq_eq_true hi, Nat.eq_of_beq_eq_true hj⟩, l1, l2, m, h1, h2, h3, h4⟩
  ·exact h.elim
 ·exact h.elim
noncomputable def orcSb : Orc := orElse 20 (anyO Tryz.prog.globals.size soX) orcSa
set_option maxRecDepth 100000 in
theorem orcSb_ok : OrcOk Tryz.prog orcSb := by
 refine anyO_ok globs_pos orcSa_ok fun vs B o h hfl => ?_
 unfold soX at h
 split at h
 ·split at h
  ·rename_i e row e' row' i o1 n k j p n' k'
   split at h
   ·rename_i hc
    cases h
    obtain ⟨⟨rfl, rfl⟩, l1, l2, m, ⟨rfl, rfl⟩, ⟨rfl, rfl, h1, h2, h3⟩, h4, h5⟩ := hc
    exact ⟨rfl, callC_ok mixed orcKz_ok (askKz_ok 1) (Eq.mpr (so_run l1 l2 o1 p m _ _ _ _ _ _ _) ⟨by rw [ieq_self]; rfl, rfl, rfl, rfl, rfl, ⟨by kernel_rfl, by kernel_rfl⟩, ⟨h2, h3, h1, h4, h5⟩, fun _ _ => rfl⟩)⟩
   ·cases h
  ·cases h
 ·cases h
noncomputable def askSu : Asks :=
 overA 20 (asksV Tryz.prog.globals.size 20 soVY noA)
 (overA 11 (asks2 Tryz.prog.globals.size 11 tF tI (flZY wtsE sqW) noA)
 (overA 8 (asks2 Tryz.prog.globals.size 8 tF tI (flZY List.reverse sumW) noA)
 (overA 12 (asksT' Tryz.prog.globals.size 12 tI (wVY true) noA)
 (overA 22 (asksT' Tryz.prog.globals.size 22 tI mdZY noA)
 (asksV Tryz.prog.globals.size 20 soVY (asksT' Tryz.prog.globals.size 24 tF inVY (asksT' Tryz.prog.globals.size 26 tI paVY (asksT' Tryz.prog.globals.size 23 tI tuVY (askKz 1)))))))))
set_option maxRecDepth 100000 in
theorem askSu_ok : AsksOk orcSb askSu := by
 refine overA_ok (asksV_ok soVY_ok noA_ok) (fun _ _ _ q => ?_)
  (overA_ok (asks2_ok flZY_ok noA_ok) (fun _ _ _ q => ?_)
  (overA_ok (asks2_ok flZY_ok noA_ok) (fun _ _ _ q => ?_)
  (overA_ok (asksT'_ok (wV_ok true) noA_ok) (fun _ _ _ q => ?_)
  (overA_ok (asksT'_ok mdZY_ok noA_ok) (fun _ _ _ q => ?_) (asksV_ok soVY_ok (asksT'_ok inVY_ok (asksT'_ok paVY_ok (asksT'_ok tuVY_ok (askKz_ok 1)))))))))
 all_goals
  have q' := oe_of q
  repeat' (first | exact oe_at q' | refine oe_ne rfl ?_)
end Go.Proofs.YthgojmebbhpbbaaGreatDoor
