/-
  OWN WORK. Springs: errors and forces as known calls.
-/
import Derived.Test.YtmlfpmkhfklbfaaGreatDoorShF
namespace Go.Proofs.YtmlfpmkhfklbfaaGreatDoor
open Go Go.Am

theorem rc_nil : (call Tryz.prog orcSd 40 21 #[nilS] (emp Tryz.prog)).map (·.1) = some (gi 16) := by kernel_rfl
theorem rc_emp (k : Nat) : (call Tryz.prog orcSd 40 21 #[.slice (some ⟨0, 0, none⟩) 0 k] (emp Tryz.prog)).map (·.1) = some (gi 16) := by kernel_rfl
theorem ptN0 : Tryz.prog.globals.size + 0 = Tryz.prog.globals.size := rfl
noncomputable def orcSf : Orc := orElse 21 (lstI Tryz.prog.globals.size tP noC sprO) (orElse 24 (lstI Tryz.prog.globals.size tP noC sprO) orcSe)
set_option maxRecDepth 100000 in
theorem orcSf_ok : OrcOk Tryz.prog orcSf := by
  refine lstI_ok globs_pos (lstI_ok globs_pos orcSe_ok (fun _ _ _ => rfl) ?_ ?_ ?_) (fun _ _ _ => rfl) ?_ ?_ ?_
  · rintro r rfl
    exact callC_ok mixed orcSe_ok askSe_ok (Eq.mpr (cs_nil _) ⟨⟨rfl, rfl, trivial⟩, [], 0, 0, .inl ⟨rfl, .inl rfl, rfl⟩, rfl⟩)
  · rintro r k rfl
    exact callC_ok mixed orcSe_ok askSe_ok (Eq.mpr (cs_emp k _) ⟨⟨rfl, rfl, trivial⟩, [], 0, 0, .inl ⟨rfl, .inr ⟨k, rfl⟩, rfl⟩, rfl⟩)
  · rintro l r m e row k rfl hm h1
    refine callC_ok mixed orcSe_ok askSe_ok (Eq.mpr (cs_run l m e row k _) ⟨⟨cellsP_flat l, rfl, rfl, trivial⟩, l, 0, 0, .inr ⟨m, k, e, row, rfl, rfl, hm, h1⟩, ?_⟩)
    show gi _ = gi (sprE l)
    unfold sprE
    rw [hm]
  · rintro r rfl; exact CallJ.of_call mixed orcSd_ok rc_nil fun _ => rfl
  · rintro r k rfl; exact CallJ.of_call mixed orcSd_ok (rc_emp k) fun _ => rfl
  · rintro l r m e row k rfl hm h1
    refine callC_ok mixed orcSd_ok askSd_ok (Eq.mpr (rc_run l (m + 1) e row k _) ⟨fun hz => ?_, fun hz => ⟨rfl, rfl, rfl, rfl, ?_, ⟨hm, h1⟩, fun h0 _ _ => ?_, fun _ _ => ?_⟩⟩)
    · show gi _ = gi (sprE l)
      unfold sprE
      rw [hm, firstS_bad (not_ieqT hz)]
    · rw [AHeap.get_push_ne (by kernel_rfl), canon_get, if_pos (Nat.le_refl _), Nat.sub_self]; rfl
    · show gi 0 = gi (sprE l)
      unfold sprE
      rw [hm, firstS_two (not_ieqF hz), h0]
    · show gi (spE 0 0 l) = gi (sprE l)
      unfold sprE
      rw [hm, firstS_two (not_ieqF hz)]
noncomputable def askSf : Asks := asksI' Tryz.prog.globals.size 21 tP noC sprO (asksI' Tryz.prog.globals.size 24 tP noC sprO askSe)
theorem askSf_ok : AsksOk orcSf askSf := asksI'_ok (asksI'_ok askSe_ok)
/-! Forces. -/
noncomputable def foV (l : List P2) (w : Int) : Int := bif ilt 0 w then (match l with
  | a :: r => fPa w a r
  | [] => 0) else 0
noncomputable def wOf : List Value → Int
  | [.int .i64 w] => w
  | _ => 0
def foC (l : List P2) (r : List Value) : Prop := r = [gi (wOf r)] ∧ sprE l = 0 ∧ wOf r ≤ 100000000
noncomputable abbrev foO : List P2 → List Value → Out := fun l r => .plain (gi (foV l (wOf r)))
theorem spr_ok {l : List P2} (h : sprE l = 0) : ∃ a r, l = a :: r ∧ okS a r ∧ a.1 = 0 ∧ 1 ≤ r.length ∧ r.length ≤ 7 := by
  have z := firstS_none h
  have h1 := when_none (by decide) (z _ (.head _))
  have h2 := when_none (by decide) (z _ (.tail _ (.head _)))
  have h3 := z _ (.tail _ (.tail _ (.head _)))
  rw [ilt_say] at h1 h2
  simp only [Int.ofNat_eq_natCast, decide_eq_false_iff_not] at h1 h2
  match l, h1, h2, h3 with
  | [], h1, _, _ => simp at h1
  | a :: r, h1, h2, h3 =>
    obtain ⟨k1, k2, k3⟩ := spE_ok h3
    simp only [List.length_cons] at h1 h2
    exact ⟨a, r, rfl, k1, by omega, by omega, by omega⟩
theorem ix_fP (w : Int) : ∀ (r : List P2) (a : P2) (j : Nat), ¬ w < a.1 → (ixF w (a :: r) j = -1 ∧ fPa w a r = ((a :: r).getD r.length (0, 0)).2) ∨
    ∃ i, i < r.length ∧ ixF w (a :: r) j = Int.ofNat (j + i + 1) ∧ w < ((a :: r).getD (i + 1) (0, 0)).1 ∧ fPa w a r = fAt w ((a :: r).getD i (0, 0)) ((a :: r).getD (i + 1) (0, 0))
  | [], a, j, h => by
    refine .inl ⟨?_, rfl⟩
    show (bif ilt w a.1 then Int.ofNat j else -1) = -1
    rw [ilt_say, decide_eq_false h]; rfl
  | b :: r, a, j, h => by
    have e1 : ixF w (a :: b :: r) j = ixF w (b :: r) (j + 1) := by
      show (bif ilt w a.1 then Int.ofNat j else ixF w (b :: r) (j + 1)) = _
      rw [ilt_say, decide_eq_false h]; rfl
    have e2 : fPa w a (b :: r) = bif ilt w b.1 then fAt w a b else fPa w b r := rfl
    by_cases hb : w < b.1
    · refine .inr ⟨0, by simp, ?_, hb, ?_⟩
      · rw [e1]
        show (bif ilt w b.1 then Int.ofNat (j + 1) else _) = _
        rw [ilt_say, decide_eq_true hb]; rfl
      · rw [e2, ilt_say, decide_eq_true hb]; rfl
    · rw [ilt_say, decide_eq_false hb] at e2
      have e2 : fPa w a (b :: r) = fPa w b r := e2
      rcases ix_fP w r b (j + 1) hb with ⟨h1, h2⟩ | ⟨i, h1, h2, h3, h4⟩
      · exact .inl ⟨by rw [e1]; exact h1, by rw [e2]; exact h2⟩
      · refine .inr ⟨i + 1, by simp; omega, by rw [e1, h2]; congr 1; omega, h3, by rw [e2]; exact h4⟩
theorem getD_at {l : List P2} {i : Nat} (h : i < l.length) : l.getD i (0, 0) = l[i] := by rw [List.getD_eq_getElem?_getD, List.getElem?_eq_getElem h]; rfl
set_option maxRecDepth 100000 in
theorem fo_call (a : P2) (r : List P2) (m e row k : Nat) (w : Int) (hok : okS a r) (ha : a.1 = 0) (hr : 1 ≤ r.length) (hm : r.length = m) (h1 : m + 1 ≤ 65536) : CallJ Tryz.prog 83 #[liP (m + 1) k, gi w] (canon Tryz.prog [(cellsP (a :: r), e, row)]) (fun v _ => v = gi (foV (a :: r) w)) := by
  refine callC_ok mixed orcSe_ok askSe_ok (Eq.mpr (fo_run (a :: r) m e row k w _) ⟨fun hx => ?_, fun hx => ⟨⟨cellsP_flat _, rfl, trivial⟩, a :: r, w, ⟨m, k, e, row, _, _, rfl, rfl, by rw [List.length_cons, hm], h1⟩, ?_⟩⟩)
  · unfold foV
    rw [not_f hx]; rfl
  · have hx := not_t hx
    have hv : foV (a :: r) w = fPa w a r := by unfold foV; rw [hx]; rfl
    rw [ilt_say] at hx
    have hw : 0 < w := of_decide_eq_true hx
    rw [hv]
    rcases ix_fP w r a 0 (by omega) with ⟨q1, q2⟩ | ⟨i, q0, q1, q2, q3⟩
    · have hml : m < (a :: r).length := by simp; omega
      obtain ⟨⟨p0, p1⟩, i0, i1⟩ := cellsP_at hml
      obtain ⟨e1, _, e3, e4⟩ := has_prev (j := m + 1) (n := m + 2) (by omega) (by omega)
      have e4 : Int.toNat (Int.ofNat (m + 1) - 1) = m := e4
      rw [q1]
      refine ⟨fun _ => ⟨by rw [e1]; exact inI64_nat (by omega), ?_, by rw [e4]; exact p1, ?_⟩, fun hc => by cases hc⟩
      · rw [e1]; show Nat.blt m (m + 1) = true; rw [Nat.blt_eq]; omega
      · rw [e4, i1, q2, hm, getD_at hml]
    · have hil : i < (a :: r).length := by simp; omega
      have hil' : i + 1 < (a :: r).length := by simp; omega
      obtain ⟨⟨p0, p1⟩, i0, i1⟩ := cellsP_at hil
      obtain ⟨⟨f0, f1⟩, j0, j1⟩ := cellsP_at hil'
      rw [getD_at hil'] at q2 q3
      rw [getD_at hil] at q3
      have q1 : ixF w (a :: r) 0 = Int.ofNat (i + 1) := by rw [q1, Nat.zero_add]
      obtain ⟨e1, _, e3, e4⟩ := has_prev (j := i + 1) (n := m + 1) (by omega) (by omega)
      have e4 : Int.toNat (Int.ofNat (i + 1) - 1) = i := e4
      have e5 : Int.toNat (Int.ofNat (i + 1)) = i + 1 := rfl
      have hA := okS_drop hok hil
      have hB := okS_head (okS_drop hok hil')
      rw [List.drop_eq_getElem_cons hil'] at hA
      obtain ⟨b1, b2, b3, b4, b5, b6⟩ := asks_at (w := w) (okS_head hA) hB hA.2.1 (by omega) (by omega)
      rw [q1, e4, e5]
      refine ⟨fun hc => (by rw [ilt_say] at hc; have := of_decide_eq_true hc; simp only [Int.ofNat_eq_natCast] at this; omega), fun _ => ⟨by rw [e1]; exact inI64_nat (by omega), e3, p0, p1, ?_, f0, f1, f0, f1, rfl, p0, p1, rfl, rfl, f0, f1, rfl, p0, p1, rfl, f0, f1, rfl, ?_⟩⟩
      · show Nat.blt (i + 1) (m + 1) = true; rw [Nat.blt_eq]; omega
      · rw [i0, i1, j0, j1]
        exact ⟨b1, b2, b3, b4, b5, rfl, b6, by rw [q3]; rfl⟩
set_option maxRecDepth 100000 in
theorem rfo_call (a : P2) (r : List P2) (m e row k : Nat) (w : Int) (hok : okS a r) (ha : a.1 = 0) (hr : 1 ≤ r.length) (hm : r.length = m) (h1 : m + 1 ≤ 65536) : CallJ Tryz.prog 23 #[liP (m + 1) k, gi w] (canon Tryz.prog [(cellsP (a :: r), e, row)]) (fun v _ => v = gi (foV (a :: r) w)) := by
  refine callC_ok mixed orcSd_ok askSd_ok (Eq.mpr (rf_run a r m e row k w _) ⟨fun hx => ?_, fun hx => ?_⟩)
  · unfold foV
    rw [not_f hx]; rfl
  · have hx := not_t hx
    have hv : foV (a :: r) w = fPa w a r := by unfold foV; rw [hx]; rfl
    rw [ilt_say] at hx
    have hw : 0 < w := of_decide_eq_true hx
    rw [hv, ← f_same w hok (by omega)]
    have hml : m < (a :: r).length := by simp; omega
    obtain ⟨⟨p0, p1⟩, i0, i1⟩ := cellsP_at hml
    obtain ⟨e1, _, e3, e4⟩ := has_prev (j := m + 1) (n := m + 2) (by omega) (by omega)
    have e4 : Int.toNat (Int.ofNat (m + 1) - 1) = m := e4
    refine ⟨rfl, rfl, rfl, rfl, rfl, ?_, ⟨hm, h1, hok, hw⟩, fun hz _ => ⟨by rw [e1]; exact inI64_nat (by omega), ?_, by rw [e4]; exact p1, ?_⟩, fun _ _ => rfl⟩
    · rw [canon_get, if_pos (Nat.le_refl _), Nat.sub_self]; rfl
    · rw [e1]; show Nat.blt m (m + 1) = true; rw [Nat.blt_eq]; omega
    · rw [e4, i1, hz, getD_at hml]
noncomputable def orcSg : Orc := orElse 23 (lstI Tryz.prog.globals.size tP foC foO) (orElse 83 (lstI Tryz.prog.globals.size tP foC foO) orcSf)
theorem fo_nil {r : List Value} (h : foC [] r) : False := by
  obtain ⟨a, q, e, _⟩ := spr_ok h.2.1
  cases e
set_option maxRecDepth 100000 in
theorem orcSg_ok : OrcOk Tryz.prog orcSg := by
  refine lstI_ok globs_pos (lstI_ok globs_pos orcSf_ok (fun _ _ _ => rfl) ?_ ?_ ?_) (fun _ _ _ => rfl) ?_ ?_ ?_
  · intro r h; exact (fo_nil h).elim
  · intro r k h; exact (fo_nil h).elim
  · rintro l r m e row k ⟨hr, h, _⟩ hm h1
    obtain ⟨a, q, rfl, k1, k2, k3, k4⟩ := spr_ok h
    rw [hr]
    exact fo_call a q m e row k (wOf r) k1 k2 k3 (by simpa using hm) h1
  · intro r h; exact (fo_nil h).elim
  · intro r k h; exact (fo_nil h).elim
  · rintro l r m e row k ⟨hr, h, _⟩ hm h1
    obtain ⟨a, q, rfl, k1, k2, k3, k4⟩ := spr_ok h
    rw [hr]
    exact rfo_call a q m e row k (wOf r) k1 k2 k3 (by simpa using hm) h1
noncomputable def askSg : Asks := asksI' Tryz.prog.globals.size 23 tP foC foO (asksI' Tryz.prog.globals.size 83 tP foC foO askSf)
theorem askSg_ok : AsksOk orcSg askSg := asksI'_ok (asksI'_ok askSf_ok)
end Go.Proofs.YtmlfpmkhfklbfaaGreatDoor
