/-
  OWN WORK. Springs: forces, by the program and by the reference.
-/
import Derived.Test.YtmlfpmkhfklbfaaGreatDoorShC
namespace Go.Proofs.YtmlfpmkhfklbfaaGreatDoor
open Go Go.Am

/-- The force between two points, and the force behind the first of some points. -/
noncomputable def fAt (w : Int) (a b : P2) : Int := a.2 + floorE ((b.2 - a.2) * (w - a.1)) (b.1 - a.1)
noncomputable def fRa (w : Int) : P2 → List P2 → Int
  | a, [] => a.2
  | a, b :: r => bif !ilt b.1 w then fAt w a b else fRa w b r
noncomputable def fPa (w : Int) : P2 → List P2 → Int
  | a, [] => a.2
  | a, b :: r => bif ilt w b.1 then fAt w a b else fPa w b r
/-- Points that ascend, within their ranges. -/
def okS : P2 → List P2 → Prop
  | a, [] => 0 ≤ a.1 ∧ a.1 ≤ 100000 ∧ 0 ≤ a.2 ∧ a.2 ≤ 1000000
  | a, b :: r => (0 ≤ a.1 ∧ a.1 ≤ 100000 ∧ 0 ≤ a.2 ∧ a.2 ≤ 1000000) ∧ a.1 < b.1 ∧ okS b r
theorem okS_head : ∀ {a : P2} {r : List P2}, okS a r → 0 ≤ a.1 ∧ a.1 ≤ 100000 ∧ 0 ≤ a.2 ∧ a.2 ≤ 1000000
  | _, [], h => h
  | _, _ :: _, h => h.1
theorem spE_ok : ∀ {r : List P2} {a : P2} {fr to : Int}, spE fr to (a :: r) = 0 → okS a r ∧ fr ≤ a.1 ∧ a.1 ≤ to
  | [], a, fr, to, h => by
    have h : (bif ieq (cE a fr to) 0 then (0 : Int) else cE a fr to) = 0 := h
    cases q : ieq (cE a fr to) 0 with
    | true => rw [ieq_dec] at q; obtain ⟨h1, h2, h3, h4, h5, h6⟩ := cE_zero (of_decide_eq_true q); exact ⟨⟨h1, h2, h3, h4⟩, h5, h6⟩
    | false => rw [q] at h; rw [ieq_dec] at q; exact absurd h (of_decide_eq_false q)
  | b :: r, a, fr, to, h => by
    have h : (bif ieq (cE a fr to) 0 then spE (a.1 + 1) 100000 (b :: r) else cE a fr to) = 0 := h
    cases q : ieq (cE a fr to) 0 with
    | true =>
      rw [q] at h
      rw [ieq_dec] at q
      obtain ⟨h1, h2, h3, h4, h5, h6⟩ := cE_zero (of_decide_eq_true q)
      obtain ⟨k1, k2, k3⟩ := spE_ok (r := r) (a := b) h
      exact ⟨⟨⟨h1, h2, h3, h4⟩, by omega, k1⟩, h5, h6⟩
    | false => rw [q] at h; rw [ieq_dec] at q; exact absurd h (of_decide_eq_false q)
theorem floorE_zero (b : Int) : floorE 0 b = 0 := by
  unfold floorE
  rw [Int.zero_tmod, Int.zero_tdiv]; rfl
theorem floorE_mul (a : Int) {b : Int} (hb : 0 < b) : floorE (a * b) b = a := by
  unfold floorE
  rw [Int.mul_tmod_left, Int.mul_tdiv_cancel _ (by omega)]; rfl
theorem f_same (w : Int) : ∀ {r : List P2} {a : P2}, okS a r → a.1 ≤ w → fRa w a r = fPa w a r
  | [], _, _, _ => rfl
  | b :: r, a, h, hw => by
    obtain ⟨h1, h2, h3⟩ := h
    show (bif !ilt b.1 w then fAt w a b else fRa w b r) = (bif ilt w b.1 then fAt w a b else fPa w b r)
    rw [ilt_say, ilt_say]
    rcases Int.lt_trichotomy w b.1 with q | q | q
    · rw [decide_eq_false (by omega), decide_eq_true q]; rfl
    · rw [decide_eq_false (by omega), decide_eq_false (by omega)]
      show fAt w a b = fPa w b r
      have e1 : fAt w a b = b.2 := by
        unfold fAt
        rw [q, floorE_mul _ (by omega)]; omega
      rw [e1]
      cases r with
      | nil => rfl
      | cons c r =>
        have h4 := h3.2.1
        show b.2 = (bif ilt w c.1 then fAt w b c else fPa w c r)
        rw [ilt_say, decide_eq_true (by omega)]
        show b.2 = fAt w b c
        unfold fAt
        rw [show w - b.1 = 0 by omega, Int.mul_zero, floorE_zero]; omega
    · rw [decide_eq_true q, decide_eq_false (by omega)]
      exact f_same w h3 (by omega)
theorem floorE_le {a b : Int} (h1 : -1099511627776 ≤ a) (h2 : a ≤ 1099511627776) : -1099511627777 ≤ floorE a b ∧ floorE a b ≤ 1099511627776 := by
  have := Int.natAbs_tdiv_le_natAbs a b
  unfold floorE
  cases ilt (a.tmod b) 0 <;> simp only [cond_true, cond_false] <;> omega
theorem mul_le9 {d q : Int} (h1 : -1000000 ≤ d) (h2 : d ≤ 1000000) (h3 : -100000 ≤ q) (h4 : q ≤ 100000) : -100000000000 ≤ d * q ∧ d * q ≤ 100000000000 := by
  have h : (d * q).natAbs ≤ 1000000 * 100000 := by
    rw [Int.natAbs_mul]
    exact Nat.mul_le_mul (by omega) (by omega)
  omega
theorem small_of {a : Int} (h1 : -1099511627776 ≤ a) (h2 : a ≤ 1099511627776) : small a = true := by
  unfold small
  rw [ilt_say, ilt_say, decide_eq_false (by omega), decide_eq_false (by omega)]; rfl
/-- What is asked of the numbers between two points. -/
theorem asks_at {w : Int} {a b : P2} (ha : 0 ≤ a.1 ∧ a.1 ≤ 100000 ∧ 0 ≤ a.2 ∧ a.2 ≤ 1000000) (hb : 0 ≤ b.1 ∧ b.1 ≤ 100000 ∧ 0 ≤ b.2 ∧ b.2 ≤ 1000000) (hab : a.1 < b.1) (h1 : 0 ≤ w) (h2 : w ≤ 100000) :
    inI64 (b.2 - a.2) = true ∧ inI64 (w - a.1) = true ∧ inI64 ((b.2 - a.2) * (w - a.1)) = true ∧ inI64 (b.1 - a.1) = true ∧ (ilt 0 (b.1 - a.1) && small ((b.2 - a.2) * (w - a.1))) = true ∧ inI64 (a.2 + floorE ((b.2 - a.2) * (w - a.1)) (b.1 - a.1)) = true := by
  obtain ⟨m1, m2⟩ := mul_le9 (d := b.2 - a.2) (q := w - a.1) (by omega) (by omega) (by omega) (by omega)
  obtain ⟨f1, f2⟩ := floorE_le (a := (b.2 - a.2) * (w - a.1)) (b := b.1 - a.1) (by omega) (by omega)
  refine ⟨inI64_small (by omega) (by omega), inI64_small (by omega) (by omega), inI64_small (by omega) (by omega), inI64_small (by omega) (by omega), ?_, inI64_small (by omega) (by omega)⟩
  rw [ilt_say, decide_eq_true (by omega), small_of (by omega) (by omega)]; rfl
theorem okS_drop : ∀ {l : List P2} {a : P2} {i : Nat} (_ : okS a l) (hi : i < (a :: l).length), okS (a :: l)[i] ((a :: l).drop (i + 1))
  | _, _, 0, h, _ => h
  | [], _, i + 1, _, hi => by simp at hi
  | b :: l, a, i + 1, h, hi => okS_drop (l := l) (a := b) (i := i) h.2.2 (by simpa using hi)
set_option maxRecDepth 100000 in
theorem rf_loop (a0 : P2) (l : List P2) (m e row k : Nat) (w : Int) (hn : l.length = m) (hle : m + 1 ≤ 65536) (hok : okS a0 l) (hw : 0 < w) : ∀ (ac : AAct) (h : AHeap), Laid [(cellsP (a0 :: l), e, row, true)] (Tryz.prog.globals.size + ·) h → ac.n = 55 → ac.marks = [] → [0, 1, 4, 5].map ac.tmp = [liP (m + 1) k, gi w, gi 0, goN 1] →
    J Tryz.prog (.loop (loopOf Tryz.prog 23 0)) ac h (told 55 [0, 1, 4, 5] fun ex vs h' => (ex = .exit 0 ∧ fRa w a0 l = (((a0 :: l).getD m (0, 0))).2 ∧ vs = [liP (m + 1) k, gi w, gi 0, goN (m + 1)] ∧ h' = roH (cellsP (a0 :: l)) e row) ∨ (ex = .ret ∧ ∃ v v' r, vs = v :: v' :: gi (fRa w a0 l) :: r)) := by
  refine fold_rule (L := 1) (C := fun _ => [(cellsP (a0 :: l), e, row, true)]) globs_pos (by decide) (by decide) (fun _ => rfl) (fun _ => one_flat (a0 :: l) e row) (V := fun at_ j => [.slice (some ⟨at_ 0, 0, none⟩) (m + 1) k, gi w, gi 0, goN (j + 1)]) (I := fun j => fRa w a0 l = fRa w ((a0 :: l).getD j (0, 0)) ((a0 :: l).drop (j + 1))) (m := m) rfl _ _ (by simp) (fun q _ => Nat.le_add_right _ _) (fun j => by kernel_rfl) (fun j => by kernel_rfl)
    (fun at_ j q hq => by match q, hq with | 0, _ => exact ⟨(0, .slice (some ⟨at_ 0, 0, none⟩) (m + 1) k), by simp, by simp [named]⟩) ?_ ?_
  · intro j hj hI g
    have hjl : j < (a0 :: l).length := by simp; omega
    have hjl' : j + 1 < (a0 :: l).length := by simp; omega
    obtain ⟨⟨p0, p1⟩, q0, q1⟩ := cellsP_at hjl
    obtain ⟨⟨f0, f1⟩, i0, i1⟩ := cellsP_at hjl'
    obtain ⟨e1, e2, e3, e4⟩ := has_prev (n := m + 1) (Nat.succ_pos j) (by omega)
    have e4 : Int.toNat (Int.ofNat (j + 1) - 1) = j := e4
    have hin : inI64 (Int.ofNat (j + 1) - 1) = true := by rw [e1]; exact inI64_nat (by omega)
    have hA := okS_drop hok hjl
    have hB := okS_drop hok hjl'
    rw [List.drop_eq_getElem_cons hjl'] at hA
    have gj : (a0 :: l).getD j (0, 0) = (a0 :: l)[j] := by rw [List.getD_eq_getElem?_getD, List.getElem?_eq_getElem hjl]; rfl
    have gj' : (a0 :: l).getD (j + 1) (0, 0) = (a0 :: l)[j + 1] := by rw [List.getD_eq_getElem?_getD, List.getElem?_eq_getElem hjl']; rfl
    rw [gj, List.drop_eq_getElem_cons hjl'] at hI
    have hI : fRa w a0 l = bif !ilt (a0 :: l)[j + 1].1 w then fAt w (a0 :: l)[j] (a0 :: l)[j + 1] else fRa w (a0 :: l)[j + 1] ((a0 :: l).drop (j + 1 + 1)) := hI
    refine execC_ok mixed orcSd_ok askSd_ok (noLoops _) (Eq.mpr (rf_body (cellsP (a0 :: l)) (m + 1) k e row (j + 1) w g _) ⟨fun hlt => ?_, fun hge => ?_⟩)
    · rw [e4]
      refine ⟨hin, e3, p0, p1, hlt, f0, f1, f0, f1, rfl, p0, p1, rfl, rfl, f0, f1, rfl, p0, p1, rfl, f0, f1, rfl, fun hx => ?_, fun hx => ?_⟩
      · rw [i0] at hx
        rw [i0, i1, q0, q1]
        have hx' : w ≤ (a0 :: l)[j + 1].1 := by rw [ilt_say] at hx; simpa using hx
        have hb := okS_head hB
        obtain ⟨b1, b2, b3, b4, b5, b6⟩ := asks_at (w := w) (okS_head hA) hb hA.2.1 (by omega) (by omega)
        refine ⟨b1, b2, b3, b4, b5, rfl, b6, .inr ⟨rfl, liP (m + 1) k, gi w, [goN (j + 1)], ?_⟩⟩
        rw [hI, hx]; rfl
      · rw [i0] at hx
        refine ⟨?_, by rw [fwrap_nat (by omega)]; rfl, .one ?_⟩
        · rw [gj', hI, hx]; rfl
        · rw [AHeap.get_set_neB (by kernel_rfl), AHeap.get_set_neB (by kernel_rfl), AHeap.get_push_ne (by kernel_rfl), AHeap.get_push_ne (by kernel_rfl)]; exact gC_get (P := Tryz.prog) (C := [(cellsP (a0 :: l), e, row, true)]) (q := 0) rfl
    · have := blt_false hge; omega
  · intro hI g
    refine execC_ok mixed orcSd_ok askSd_ok (noLoops _) (Eq.mpr (rf_body (cellsP (a0 :: l)) (m + 1) k e row (m + 1) w g _) ⟨fun hlt => ?_, fun _ => ?_⟩)
    · have := blt_true hlt; omega
    · refine .inl ⟨rfl, ?_, rfl, rfl⟩
      rw [hI, List.drop_eq_nil_of_le (by simp; omega)]; rfl
end Go.Proofs.YtmlfpmkhfklbfaaGreatDoor
