/-
  OWN WORK. Gates: errors and copies as known calls.
-/
import Derived.Test.YtclohbagdmelbaaGreatDoorGtB
import Derived.Test.YtclohbagdmelbaaGreatDoorAm19
namespace Go.Proofs.YtclohbagdmelbaaGreatDoor
open Go Go.Am

theorem itE_zero {a b l h : Int} (q : itE a b l h = 0) : l ≤ a ∧ a ≤ h ∧ l ≤ b ∧ b ≤ h ∧ a ≤ b := by
  have z := firstS_none q
  have h1 := within_zero (z _ (.head _))
  have h2 := within_zero (z _ (.tail _ (.head _)))
  have h3 := when_none (by decide) (z _ (.tail _ (.tail _ (.head _))))
  rw [ilt_say] at h3
  simp only [decide_eq_false_iff_not] at h3
  omega
theorem max_eq (x p : Int) : ieq (if x > p then x else p) p = decide (x ≤ p) := by
  by_cases h : x > p
  · rw [if_pos h, ieq_ne (by omega), decide_eq_false (by omega)]
  · rw [if_neg h, ieq_self, decide_eq_true (by omega)]
theorem fwB_say {p a b p' b' : Int} (h1 : -1 ≤ p') (h2 : p' ≤ 1000000) (h3 : -1 ≤ b') (h4 : b' ≤ 100000000) : fwB p a b p' b' = (decide (p' + 1 ≤ p) && decide (b' + 1 ≤ a)) := by
  unfold fwB
  rw [fwrap_mid (by omega) (by omega), fwrap_mid (by omega) (by omega), max_eq, max_eq, ieq_self, Bool.and_true, Bool.and_true, Bool.and_true]
theorem gE_zero {p b : P3} (h : gE p b = 0) : 0 ≤ p.1 ∧ p.1 ≤ 1000000 ∧ 0 ≤ p.2.1 ∧ p.2.1 ≤ 100000000 ∧ 0 ≤ p.2.2 ∧ p.2.2 ≤ 100000000 ∧ p.2.1 ≤ p.2.2 ∧ fwB p.1 p.2.1 p.2.2 b.1 b.2.2 = true := by
  have z := firstS_none h
  have h1 := within_zero (z _ (.head _))
  have h2 := itE_zero (z _ (.tail _ (.head _)))
  have h3 := when_none (by decide) (z _ (.tail _ (.tail _ (.head _))))
  exact ⟨h1.1, h1.2, h2.1, h2.2.1, h2.2.2.1, h2.2.2.2.1, h2.2.2.2.2, by simpa using h3⟩
/-- The errors before the third one count first. -/
theorem firstS_third {a b x y : Int} (h : a = 0 → b = 0 → x = y) : firstS [a, b, x] = firstS [a, b, y] := by
  unfold firstS
  cases ha : ieq a 0 with
  | false => rfl
  | true =>
    rw [ieq_dec] at ha
    show firstS [b, x] = firstS [b, y]
    unfold firstS
    cases hb : ieq b 0 with
    | false => rfl
    | true =>
      rw [ieq_dec] at hb
      rw [h (of_decide_eq_true ha) (of_decide_eq_true hb)]
theorem gE_first (p : P3) : gE p (-1, -1, -1) = rE p 0 := by
  unfold gE
  refine firstS_third fun h1 h2 => ?_
  have k1 := within_zero h1
  have k2 := itE_zero h2
  rw [fwB_say (by decide) (by decide) (by decide) (by decide), decide_eq_true (by show (-1 : Int) + 1 ≤ p.1; omega), decide_eq_true (by show (-1 : Int) + 1 ≤ p.2.1; omega)]
  rfl
theorem gE_t {p b : P3} (h1 : -1 ≤ b.1) (h2 : b.1 ≤ 1000000) (h3 : -1 ≤ b.2.2) (h4 : b.2.2 ≤ 100000000) (h : (!ilt b.1 p.1) = true) : gE p b = rE p 11 := by
  unfold gE
  rw [fwB_say h1 h2 h3 h4]
  have h := not_f h
  rw [ilt_say] at h
  rw [decide_eq_false (by have := of_decide_eq_false h; omega)]; rfl
theorem gE_f {p b : P3} (h1 : -1 ≤ b.1) (h2 : b.1 ≤ 1000000) (h3 : -1 ≤ b.2.2) (h4 : b.2.2 ≤ 100000000) (h : (!ilt b.1 p.1) = false) : gE p b = rE p (whenS (!(ilt b.2.2 p.2.1)) 11) := by
  unfold gE
  rw [fwB_say h1 h2 h3 h4]
  have h := not_t h
  rw [ilt_say] at h
  rw [decide_eq_true (by have := of_decide_eq_true h; omega), Bool.true_and, ilt_say]
  congr 3
theorem rgY_ok {K : Int → Prop} : ∀ {l : List P3} {b : P3} (_ : -1 ≤ b.1 ∧ b.1 ≤ 1000000 ∧ -1 ≤ b.2.2 ∧ b.2.2 ≤ 100000000), K (gpE b l) → rgY b l K
  | [], _, _, h => h
  | p :: r, b, hb, h => by
    have h : K (bif ieq (gE p b) 0 then gpE p r else gE p b) := h
    refine ⟨rfl, fun hc => ?_, fun hc => ?_⟩
    · rw [gE_t hb.1 hb.2.1 hb.2.2.1 hb.2.2.2 hc] at h
      refine ⟨fun hz => ?_, fun hz => ?_⟩
      · rw [not_ieqT hz] at h; exact h
      · exact absurd (firstS_none (not_ieq' hz) 11 (by simp)) (by decide)
    · have e := gE_f hb.1 hb.2.1 hb.2.2.1 hb.2.2.2 hc
      rw [e] at h
      refine ⟨fun hz => ?_, fun hz => ?_⟩
      · rw [not_ieqT hz] at h; exact h
      · rw [not_ieqF hz] at h
        have g := gE_zero (e.trans (not_ieq' hz))
        exact rgY_ok ⟨by omega, g.2.1, by omega, g.2.2.2.2.2.1⟩ h
theorem rgY0_ok {K : Int → Prop} : ∀ {l : List P3}, K (gpE (-1, -1, -1) l) → rgY0 l K
  | [], h => h
  | p :: r, h => by
    have h : K (bif ieq (gE p (-1, -1, -1)) 0 then gpE p r else gE p (-1, -1, -1)) := h
    have e := gE_first p
    rw [e] at h
    refine ⟨rfl, fun hz => ?_, fun hz => ?_⟩
    · rw [not_ieqT hz] at h; exact h
    · rw [not_ieqF hz] at h
      have g := gE_zero (e.trans (not_ieq' hz))
      exact rgY_ok ⟨by omega, g.2.1, by omega, g.2.2.2.2.2.1⟩ h
noncomputable def chkE (l : List P3) : Int := pfE l.length (gpE (-1, -1, -1) l)
theorem pf_mid {n : Nat} {x : Int} (h1 : 2 ≤ n) (h2 : n ≤ 8) : pfE n x = x := by
  unfold pfE
  rw [ilt_say, ilt_say, decide_eq_false (by simp only [Int.ofNat_eq_natCast]; omega), decide_eq_false (by simp only [Int.ofNat_eq_natCast]; omega)]
  show (bif ieq x 0 then 0 else x) = x
  cases h : ieq x 0 with
  | false => rfl
  | true => rw [ieq_dec] at h; exact (of_decide_eq_true h).symm
def ckC (l : List P3) (r : List Value) : Prop := r = [] ∧ 1 ≤ l.length ∧ l.length ≤ 9
noncomputable abbrev ckO : List P3 → List Value → Out := fun l _ => .plain (gi (chkE l))
noncomputable abbrev gaO : List P3 → List Value → Out := fun l _ => .wide (slM l.length) (cells3 l) 54 4
theorem ck_nil {r : List Value} {P : Prop} (h : ckC [] r) : P := by have := h.2.1; simp at this
noncomputable def orcTc : Orc := orElse 9 (lstI Tryz.prog.globals.size t3 ckC ckO) (orElse 15 (lstI Tryz.prog.globals.size t3 ckC ckO) (orElse 6 (lstI Tryz.prog.globals.size t3 ckC gaO) orcTb))
set_option maxRecDepth 100000 in
theorem orcTc_ok : OrcOk Tryz.prog orcTc := by
  refine lstI_ok globs_pos (lstI_ok globs_pos (lstI_ok globs_pos orcTb_ok (fun l r _ => ⟨names_sl _, cells3_flat l⟩) ?_ ?_ ?_) (fun _ _ _ => rfl) ?_ ?_ ?_) (fun _ _ _ => rfl) ?_ ?_ ?_
  · intro r h; exact ck_nil h
  · intro r k h; exact ck_nil h
  · rintro l r m e row k ⟨rfl, h1, h2⟩ hm _
    rw [← hm]
    have fin := CallJ.ofR mixed orcTb_ok askTb_ok (Eq.mpr (ga_e l h1 h2 e row k fun v o => v = .slice (some ⟨nG1 + 3 * l.length, 0, none⟩) l.length l.length ∧ o = some (.cells (cells3 l) 54 4 false)) ⟨rfl, rfl⟩)
    exact fin.mono fun v h' ⟨e1, e2⟩ => ⟨_, e1, e2⟩
  · intro r h; exact ck_nil h
  · intro r k h; exact ck_nil h
  · rintro l r m e row k ⟨rfl, h1, h2⟩ hm _
    rw [← hm]
    exact CallJ.ofR mixed orcTb_ok askTb_ok (Eq.mpr (cg_e l h1 h2 e row k _) (cgY_ok rfl))
  · intro r h; exact ck_nil h
  · intro r k h; exact ck_nil h
  · rintro l r m e row k ⟨rfl, h1, h2⟩ hm _
    rw [← hm]
    by_cases q1 : l.length = 1
    · obtain ⟨p, rfl⟩ : ∃ p, l = [p] := by
        match l, q1 with
        | [p], _ => exact ⟨p, rfl⟩
      exact CallJ.ofR mixed orcTb_ok askTb_ok (Eq.mpr (rg_1 p e row k _) ⟨rfl, rfl⟩)
    by_cases q9 : l.length = 9
    · rw [q9]
      refine CallJ.ofR mixed orcTb_ok askTb_ok (Eq.mpr (rg_9 l q9 e row k _) ⟨rfl, ?_⟩)
      show gi 5 = gi (chkE l)
      unfold chkE
      rw [q9]; rfl
    refine CallJ.ofR mixed orcTb_ok askTb_ok (Eq.mpr (rg_e l (by omega) (by omega) e row k _) ⟨rfl, rgY0_ok ?_⟩)
    show gi _ = gi (chkE l)
    unfold chkE
    rw [pf_mid (by omega) (by omega)]
/-- Gates that are copied: there is a first one. -/
noncomputable def gatY (l : List P3) (r : List Value) (K : Out → Prop) : Prop := ∃ p t, l = p :: t ∧ ckC l r ∧ K (.wide (slM (t.length + 1)) (cells3 (p :: t)) 54 4)
theorem gatY_ok (l : List P3) (r : List Value) (K : Out → Prop) (h : gatY l r K) : ∃ o, ifX ckC gaO l r = some o ∧ K o := by
  obtain ⟨p, t, rfl, h1, h2⟩ := h
  exact ⟨_, if_pos h1, h2⟩
noncomputable def askTc : Asks := asksI' Tryz.prog.globals.size 9 t3 ckC ckO (asksI' Tryz.prog.globals.size 15 t3 ckC ckO (asksT' Tryz.prog.globals.size 6 t3 gatY askTb))
theorem askTc_ok : AsksOk orcTc askTc := asksI'_ok (asksI'_ok (asksT'_ok gatY_ok askTb_ok))
end Go.Proofs.YtclohbagdmelbaaGreatDoor
