/-
  OWN WORK. Springs: their errors and forces; the loops.
-/
import Derived.Test.YtmlfpmkhfklbfaaGreatDoorShA
import Derived.Test.YtmlfpmkhfklbfaaGreatDoorAm28
namespace Go.Proofs.YtmlfpmkhfklbfaaGreatDoor
open Go Go.Am

noncomputable def cE (p : P2) (fr to : Int) : Int := firstS [withinS p.1 0 100000, withinS p.2 0 1000000, whenS (ilt p.1 fr || ilt to p.1) 11]
/-- The first error of points, of which the first one is from here to there. -/
noncomputable def spE : Int → Int → List P2 → Int
  | _, _, [] => 0
  | fr, to, p :: l => bif ieq (cE p fr to) 0 then spE (p.1 + 1) 100000 l else cE p fr to
noncomputable def frL (l : List P2) (a : Int) : Nat → Int
  | 0 => a
  | i + 1 => (l.getD i (0, 0)).1 + 1
noncomputable def toL (b : Int) : Nat → Int
  | 0 => b
  | _ + 1 => 100000
theorem frL_succ {l : List P2} {a : Int} {j : Nat} (hj : j < l.length) : frL l a (j + 1) = l[j].1 + 1 := by
  show (l.getD j (0, 0)).1 + 1 = _
  rw [List.getD_eq_getElem?_getD, List.getElem?_eq_getElem hj]; rfl
theorem spE_drop {l : List P2} {j : Nat} (hj : j < l.length) (fr to : Int) : spE fr to (l.drop j) = bif ieq (cE l[j] fr to) 0 then spE (l[j].1 + 1) 100000 (l.drop (j + 1)) else cE l[j] fr to := by
  rw [List.drop_eq_getElem_cons hj]; rfl
theorem spE_end {l : List P2} {j : Nat} (hj : l.length ≤ j) (fr to : Int) : spE fr to (l.drop j) = 0 := by
  rw [List.drop_eq_nil_of_le hj]; rfl
theorem cE_zero {p : P2} {fr to : Int} (h : cE p fr to = 0) : 0 ≤ p.1 ∧ p.1 ≤ 100000 ∧ 0 ≤ p.2 ∧ p.2 ≤ 1000000 ∧ fr ≤ p.1 ∧ p.1 ≤ to := by
  have z := firstS_none h
  have h1 := within_zero (z _ (.head _))
  have h2 := within_zero (z _ (.tail _ (.head _)))
  have h3 := when_none (by decide) (z _ (.tail _ (.tail _ (.head _))))
  rw [ilt_say, ilt_say, Bool.or_eq_false_iff] at h3
  simp at h3
  omega
theorem cs_flat (l : List P2) (e row : Nat) (a b : Int) : ∀ q ∈ csC (cellsP l) e row a b, q.1.all (flat 3) = true := by
  intro q hq
  simp only [List.mem_cons, List.not_mem_nil, or_false] at hq
  rcases hq with rfl | rfl | rfl
  · exact cellsP_flat l
  · rfl
  · rfl
set_option maxRecDepth 100000 in
theorem ep_loop (l : List P2) (n e row k : Nat) (a b : Int) (hn : l.length = n) (hle : n ≤ 65536) : ∀ (ac : AAct) (h : AHeap), Laid (csC (cellsP l) e row a b) (Tryz.prog.globals.size + ·) h → ac.n = 21 → ac.marks = [] → [1, 4, 8, 9, 10].map ac.tmp = [cpF, gi 0, liP n k, goN n, goN 0] →
    J Tryz.prog (.loop (loopOf Tryz.prog 84 0)) ac h (told 21 [1, 4, 8, 9, 10] fun ex vs _ => (ex = .exit 0 ∧ spE a b l = 0) ∨ (ex = .ret ∧ ∃ v r, vs = v :: gi (spE a b l) :: r)) := by
  refine fold_rule (L := 3) (C := fun j => csC (cellsP l) e row (frL l a j) (toL b j)) globs_pos (by decide) (by decide) (fun _ => rfl) (fun _ => cs_flat l e row _ _) (V := fun at_ j => [.func (.func 85) #[] #[.pointer (some ⟨at_ 1, 0, none⟩), .pointer (some ⟨at_ 2, 0, none⟩)], gi 0, .slice (some ⟨at_ 0, 0, none⟩) n k, goN n, goN j]) (I := fun j => spE a b l = spE (frL l a j) (toL b j) (l.drop j)) (m := n) rfl _ _ (plus_nodup _ _) (fun q _ => Nat.le_add_right _ _) (fun j => by kernel_rfl) (fun j => by kernel_rfl)
    (fun at_ j q hq => by
      match q, hq with
      | 0, _ => exact ⟨(8, .slice (some ⟨at_ 0, 0, none⟩) n k), by simp, by simp [named]⟩
      | 1, _ => exact ⟨(1, .func (.func 85) #[] #[.pointer (some ⟨at_ 1, 0, none⟩), .pointer (some ⟨at_ 2, 0, none⟩)]), by simp, by simp [named, namedP]⟩
      | 2, _ => exact ⟨(1, .func (.func 85) #[] #[.pointer (some ⟨at_ 1, 0, none⟩), .pointer (some ⟨at_ 2, 0, none⟩)]), by simp, by simp [named, namedP]⟩) ?_ ?_
  · intro j hj hI g
    have hjl : j < l.length := by omega
    obtain ⟨⟨f0, f1⟩, i0, i1⟩ := cellsP_at hjl
    refine J.ofR mixed orcSd_ok askSd_ok (Eq.mpr (ep_body (cellsP l) n k e row j (frL l a j) (toL b j) g _) ⟨fun hlt => ⟨hlt, f0, f1, fun hx => ⟨rfl, rfl, rfl, rfl, rfl, fun hz => ?_, fun hz => ?_⟩, fun hx => ⟨rfl, rfl, rfl, rfl, rfl, fun hz => ?_, fun hz => ?_⟩⟩, fun hge => ?_⟩)
    · rw [i0] at hx
      have hc : cE l[j] (frL l a j) (toL b j) = firstS [withinS l[j].1 0 100000, withinS l[j].2 0 1000000, 11] := by unfold cE; rw [hx]; rfl
      rw [i0, i1, ← hc] at hz ⊢
      refine .inr ⟨rfl, cpF, [liP n k, goN n, goN j], ?_⟩
      rw [hI, spE_drop hjl, not_ieqT hz]; rfl
    · exact absurd (firstS_none (not_ieq' hz) 11 (by simp)) (by decide)
    · rw [i0] at hx
      have hc : cE l[j] (frL l a j) (toL b j) = firstS [withinS l[j].1 0 100000, withinS l[j].2 0 1000000, whenS (ilt (toL b j) l[j].1) 11] := by unfold cE; rw [hx]; rfl
      rw [i0, i1, ← hc] at hz ⊢
      refine .inr ⟨rfl, cpF, [liP n k, goN n, goN j], ?_⟩
      rw [hI, spE_drop hjl, not_ieqT hz]; rfl
    · rw [i0] at hx
      have hc : cE l[j] (frL l a j) (toL b j) = firstS [withinS l[j].1 0 100000, withinS l[j].2 0 1000000, whenS (ilt (toL b j) l[j].1) 11] := by unfold cE; rw [hx]; rfl
      rw [i0, i1, ← hc] at hz
      have h0 := not_ieq' hz
      obtain ⟨b1, b2, _⟩ := cE_zero h0
      refine ⟨?_, ?_, .three ?_ ?_ ?_⟩
      · rw [hI, spE_drop hjl, not_ieqF hz, frL_succ hjl]; rfl
      · rw [fwrap_nat (by omega)]; rfl
      · rw [AHeap.get_set_neB (by kernel_rfl), AHeap.get_set_neB (by kernel_rfl), AHeap.get_push_ne (by kernel_rfl), AHeap.get_push_ne (by kernel_rfl), AHeap.get_set_neB (by kernel_rfl), AHeap.get_push_ne (by kernel_rfl)]; exact gC_get (q := 0) rfl
      · rw [AHeap.get_set_neB (by kernel_rfl), AHeap.get_set_eqB (by kernel_rfl), i0, fwrap_mid (by omega) (by omega), ← frL_succ (a := a) hjl]; rfl
      · rw [AHeap.get_set_eqB (by kernel_rfl)]; rfl
    · have := blt_false hge; omega
  · intro hI g
    refine J.ofR mixed orcSd_ok askSd_ok (Eq.mpr (ep_body (cellsP l) n k e row n (frL l a n) (toL b n) g _) ⟨fun hlt => ?_, fun _ => ?_⟩)
    · have := blt_true hlt; omega
    · exact .inl ⟨rfl, by rw [hI, spE_end (by omega)]⟩
/-! The reference. -/
theorem one_flat (l : List P2) (e row : Nat) : ∀ q ∈ ([(cellsP l, e, row, true)] : List Blk), q.1.all (flat 3) = true := by
  intro q hq
  cases List.mem_singleton.1 hq; exact cellsP_flat l
theorem cellsP_at0 {l : List P2} {j : Nat} (hj : j < l.length) : (cellsP l)[0 + j * 2 + 0]? = some (gi (intAt (cellsP l) (0 + j * 2 + 0))) ∧ (cellsP l)[0 + j * 2 + 1]? = some (gi (intAt (cellsP l) (0 + j * 2 + 1))) ∧ intAt (cellsP l) (0 + j * 2 + 0) = l[j].1 ∧ intAt (cellsP l) (0 + j * 2 + 1) = l[j].2 := by
  obtain ⟨⟨f0, f1⟩, i0, i1⟩ := cellsP_at hj
  exact ⟨f0, f1, i0, i1⟩
set_option maxRecDepth 100000 in
theorem firstS_two {a b x : Int} (h : ieq (firstS [a, b]) 0 = true) : firstS [a, b, x] = x := by
  unfold firstS at h ⊢
  cases ha : ieq a 0 <;> rw [ha] at h
  · exact absurd h (by rw [show (bif false then _ else a) = a from rfl, ha]; decide)
  · have h : ieq (firstS [b]) 0 = true := h
    show firstS [b, x] = x
    unfold firstS at h ⊢
    cases hb : ieq b 0 <;> rw [hb] at h
    · exact absurd h (by rw [show (bif false then _ else b) = b from rfl, hb]; decide)
    · show firstS [x] = x
      unfold firstS
      cases hx : ieq x 0
      · rfl
      · rw [ieq_dec] at hx
        have : x = 0 := by simpa using hx
        rw [this]; rfl
theorem firstS_bad {a b x : Int} (h : ieq (firstS [a, b]) 0 = false) : firstS [a, b, x] = firstS [a, b] := by
  unfold firstS at h ⊢
  cases ha : ieq a 0 <;> rw [ha] at h
  · rfl
  · have h : ieq (firstS [b]) 0 = false := h
    show firstS [b, x] = firstS [b]
    unfold firstS at h ⊢
    cases hb : ieq b 0 <;> rw [hb] at h
    · rfl
    · exact absurd h (by show ieq 0 0 ≠ false; decide)
theorem two_zero {p : P2} {fr to : Int} (h : firstS [withinS p.1 0 100000, withinS p.2 0 1000000] = 0) : cE p fr to = whenS (ilt p.1 fr || ilt to p.1) 11 := by
  unfold cE
  exact firstS_two (by rw [h]; rfl)
theorem two_bad {p : P2} {fr to : Int} (h : firstS [withinS p.1 0 100000, withinS p.2 0 1000000] ≠ 0) : cE p fr to = firstS [withinS p.1 0 100000, withinS p.2 0 1000000] := by
  unfold cE
  exact firstS_bad (ieq_ne h)
theorem two_le {p : P2} (h : firstS [withinS p.1 0 100000, withinS p.2 0 1000000] = 0) : 0 ≤ p.1 ∧ p.1 ≤ 100000 := within_zero (firstS_none h _ (.head _))
theorem has_prev {j n : Nat} (h0 : 0 < j) (hj : j < n) : Int.ofNat j - 1 = Int.ofNat (j - 1) ∧ inI64 (Int.ofNat j - 1) = inI64 (Int.ofNat (j - 1)) ∧ ahasIndex (Int.ofNat j - 1) n = true ∧ Int.toNat (Int.ofNat j - 1) = j - 1 := by
  have e : Int.ofNat j - 1 = Int.ofNat (j - 1) := by simp only [Int.ofNat_eq_natCast]; omega
  refine ⟨e, by rw [e], ?_, by rw [e]; rfl⟩
  rw [e]
  show Nat.blt (j - 1) n = true
  rw [Nat.blt_eq]; omega
end Go.Proofs.YtmlfpmkhfklbfaaGreatDoor
