/-
  OWN WORK. Gates: speeds as known calls; the overlap of two spans.
-/
import Derived.Test.YtclohbagdmelbaaGreatDoorGtG

namespace Go.Proofs.YtclohbagdmelbaaGreatDoor
open Go Go.Am

/-- What a relation that is a function gives. -/
noncomputable def relX {α β γ : Type} (R : α → β → γ → Prop) (a : α) (b : β) : Option γ := open Classical in if h : ∃ c, R a b c then some h.choose else none
theorem relX_some {α β γ : Type} {R : α → β → γ → Prop} {a : α} {b : β} {c : γ} (h : relX R a b = some c) : R a b c := by
  unfold relX at h
  split at h
  · rename_i hx; cases h; exact hx.choose_spec
  · cases h
theorem relX_of {α β γ : Type} {R : α → β → γ → Prop} {a : α} {b : β} {c : γ} (fn : ∀ c c', R a b c → R a b c' → c = c') (h : R a b c) : relX R a b = some c := by
  have hx : ∃ c, R a b c := ⟨c, h⟩
  unfold relX
  rw [dif_pos hx]
  exact congrArg some (fn _ _ hx.choose_spec h)
theorem cells3_inj {l l' : List P3} (h : cells3 l = cells3 l') : l = l' := by
  have := dec3_cells l
  rw [h, dec3_cells l'] at this
  exact (Option.some.inj this).symm
noncomputable def cmG : List P3 → P2
  | [] => (0, 0)
  | p :: l => cmC p l
noncomputable def spT : List P3 → List P2
  | [] => []
  | p :: l => spF p l
noncomputable def sdA (l : List P3) : Int := bif ieq (chkE l) 0 && !ilt (cmG l).2 (cmG l).1 then (cmG l).1 else 0
noncomputable def sdB (l : List P3) : Int := bif ieq (chkE l) 0 && !ilt (cmG l).2 (cmG l).1 then (cmG l).2 else 0
noncomputable def sdZ (l : List P3) : Int := bif ieq (chkE l) 0 then (bif ilt (cmG l).2 (cmG l).1 then 24 else 0) else chkE l
noncomputable abbrev sdV (l : List P3) : Value := .tuple #[.agg #[gi (sdA l), gi (sdB l)], gi (sdZ l)]
noncomputable def spC (vs : List Value) (B : List Cells) (l : List P3) : Prop := ∃ m e, vs = [liP (m + 1) (m + 1)] ∧ B = [(cells3 l, e, 4)] ∧ l.length = m + 1 ∧ m + 1 ≤ 9
theorem spC_fn {vs : List Value} {B : List Cells} {l l' : List P3} (h : spC vs B l) (h' : spC vs B l') : l = l' := by
  obtain ⟨m, e, _, rfl, _⟩ := h
  obtain ⟨m', e', _, hB, _⟩ := h'
  simp only [List.cons.injEq, Prod.mk.injEq, and_true] at hB
  exact cells3_inj hB.1
noncomputable def spO (l : List P3) : Out := bif ieq (chkE l) 0 then .wide (tupM [] (l.length - 1) [gi 0]) (cellsP (spT l)) 34 3 else .plain (.tuple #[nilS, gi (chkE l)])
noncomputable def spR (vs : List Value) (B : List Cells) (o : Out) : Prop := ∃ l, spC vs B l ∧ o = spO l
noncomputable def pdR (vs : List Value) (B : List Cells) (o : Out) : Prop := ∃ l, spC vs B l ∧ o = .plain (sdV l)
theorem spR_fn (vs : List Value) (B : List Cells) (o o' : Out) (h : spR vs B o) (h' : spR vs B o') : o = o' := by
  obtain ⟨l, h, rfl⟩ := h
  obtain ⟨l', h', rfl⟩ := h'
  rw [spC_fn h h']
theorem pdR_fn (vs : List Value) (B : List Cells) (o o' : Out) (h : pdR vs B o) (h' : pdR vs B o') : o = o' := by
  obtain ⟨l, h, rfl⟩ := h
  obtain ⟨l', h', rfl⟩ := h'
  rw [spC_fn h h']
/-- Speeds, asked of valid gates, or of others. -/
noncomputable def spY (b : Bool) (vs : List Value) (B : List Cells) (K : Out → Prop) : Prop := match b with
  | true => ∃ p q r, spC vs B (p :: q :: r) ∧ chkE (p :: q :: r) = 0 ∧ K (.wide (tupM [] (r.length + 1) [gi 0]) (cellsP (spF p (q :: r))) 34 3)
  | false => ∃ l, spC vs B l ∧ chkE l ≠ 0 ∧ K (.plain (.tuple #[nilS, gi (chkE l)]))
theorem spY_ok {b : Bool} (vs : List Value) (B : List Cells) (K : Out → Prop) (h : spY b vs B K) : ∃ o, relX spR vs B = some o ∧ K o := by
  cases b with
  | true =>
    obtain ⟨p, q, r, h1, h2, h3⟩ := h
    refine ⟨_, relX_of (spR_fn vs B) ⟨_, h1, rfl⟩, ?_⟩
    unfold spO
    rw [h2, ieq_self]; exact h3
  | false =>
    obtain ⟨l, h1, h2, h3⟩ := h
    refine ⟨_, relX_of (spR_fn vs B) ⟨_, h1, rfl⟩, ?_⟩
    unfold spO
    rw [ieq_ne h2]; exact h3
noncomputable def pdY (vs : List Value) (B : List Cells) (K : Out → Prop) : Prop := ∃ l, spC vs B l ∧ K (.plain (sdV l))
theorem pdY_ok (vs : List Value) (B : List Cells) (K : Out → Prop) (h : pdY vs B K) : ∃ o, relX pdR vs B = some o ∧ K o := by
  obtain ⟨l, h1, h2⟩ := h
  exact ⟨_, relX_of (pdR_fn vs B) ⟨l, h1, rfl⟩, h2⟩
noncomputable def ckV (l : List P3) (r : List Value) : Prop := r = [] ∧ chkE l = 0
noncomputable abbrev srO : List P3 → List Value → Out := fun l _ => .wide (slM (l.length - 1)) (cellsP (spT l)) 34 3
noncomputable abbrev rdO : List P3 → List Value → Out := fun l _ => .plain (sdV l)
noncomputable def srwY (l : List P3) (r : List Value) (K : Out → Prop) : Prop := ∃ p q t, l = p :: q :: t ∧ ckV l r ∧ K (.wide (slM (t.length + 1)) (cellsP (spF p (q :: t))) 34 3)
theorem srwY_ok (l : List P3) (r : List Value) (K : Out → Prop) (h : srwY l r K) : ∃ o, ifX ckV srO l r = some o ∧ K o := by
  obtain ⟨p, q, t, rfl, h1, h2⟩ := h
  exact ⟨_, if_pos h1, h2⟩
noncomputable def siC (vs : List Value) (B : List Cells) : Prop := (vs = [nilS, nilS] ∧ B = []) ∨ ∃ (s : List P2) (m k e row k' e' row' : Nat), vs = [liP (m + 1) k, .slice (some ⟨Tryz.prog.globals.size + 1, 0, none⟩) (m + 1) k'] ∧ B = [(cellsP s, e, row), (cellsP s, e', row')] ∧ s.length = m + 1 ∧ m + 1 ≤ 7
noncomputable def siR (vs : List Value) (B : List Cells) (o : Out) : Prop := siC vs B ∧ o = .plain (.bool true)
noncomputable def siqY (vs : List Value) (B : List Cells) (K : Out → Prop) : Prop := siC vs B ∧ K (.plain (.bool true))
theorem siqY_ok (vs : List Value) (B : List Cells) (K : Out → Prop) (h : siqY vs B K) : ∃ o, relX siR vs B = some o ∧ K o :=
  ⟨_, relX_of (fun _ _ h h' => h.2.trans h'.2.symm) ⟨h.1, rfl⟩, h.2⟩
theorem sd_t {p : P3} {l : List P3} (hc : chkE (p :: l) = 0) (h : ilt (cmC p l).2 (cmC p l).1 = true) : sdV (p :: l) = .tuple #[.agg #[gi 0, gi 0], gi 24] := by
  unfold sdV sdA sdB sdZ
  rw [hc, ieq_self, show cmG (p :: l) = cmC p l from rfl, h]; rfl
theorem sd_f {p : P3} {l : List P3} (hc : chkE (p :: l) = 0) (h : ilt (cmC p l).2 (cmC p l).1 = false) : sdV (p :: l) = .tuple #[.agg #[gi (cmC p l).1, gi (cmC p l).2], gi 0] := by
  unfold sdV sdA sdB sdZ
  rw [hc, ieq_self, show cmG (p :: l) = cmC p l from rfl, h]; rfl
theorem sd_i {l : List P3} (hc : chkE l ≠ 0) : sdV l = .tuple #[.agg #[gi 0, gi 0], gi (chkE l)] := by
  unfold sdV sdA sdB sdZ
  rw [ieq_ne hc]; rfl
theorem sdY_ok {p : P3} {l : List P3} {K : Value → Prop} (hc : chkE (p :: l) = 0) (h : K (sdV (p :: l))) : sdY (cmC p l) K :=
  ⟨fun z => by rw [sd_t hc z] at h; exact h, fun z => by rw [sd_f hc z] at h; exact h⟩
noncomputable def orcTe : Orc := orElse 5 (anyO Tryz.prog.globals.size (relX spR)) (orElse 7 (anyO Tryz.prog.globals.size (relX pdR)) (orElse 16 (anyO Tryz.prog.globals.size (relX siR)) (orElse 12 (lstI Tryz.prog.globals.size t3 ckV srO) (orElse 13 (lstI Tryz.prog.globals.size t3 ckV rdO) orcTd))))
theorem ckV_nil {r : List Value} {P : Prop} (h : ckV [] r) : P := by
  obtain ⟨p, q, t, h, _⟩ := chk_ok h.2
  cases h
theorem si_nil : (call Tryz.prog orcTc 40 16 #[nilS, nilS] (canon Tryz.prog [])).map (·.1) = some (.bool true) := by kernel_rfl
set_option maxRecDepth 100000 in
theorem orcTe_ok : OrcOk Tryz.prog orcTe := by
  refine anyO_ok globs_pos (anyO_ok globs_pos (anyO_ok globs_pos (lstI_ok globs_pos (lstI_ok globs_pos orcTd_ok (fun _ _ _ => rfl) ?_ ?_ ?_) (fun l r _ => ⟨names_sl _, cellsP_flat _⟩) ?_ ?_ ?_) fun vs B o h _ => ?_) fun vs B o h _ => ?_) fun vs B o h _ => ?_
  · intro r h; exact ckV_nil h
  · intro r k h; exact ckV_nil h
  · rintro l r m e row k ⟨rfl, hc⟩ hm _
    obtain ⟨p, q, t, rfl, h6, h1, h2⟩ := chk_ok hc
    rw [← hm]
    refine CallJ.ofR mixed orcTc_ok askTc_ok (Eq.mpr (rd_e p (q :: t) e row k _ (by simp) (by simp; omega)) (srY_ok h1 h2 (sdY_ok hc ?_)))
    rfl
  · intro r h; exact ckV_nil h
  · intro r k h; exact ckV_nil h
  · rintro l r m e row k ⟨rfl, hc⟩ hm _
    obtain ⟨p, q, t, rfl, h6, h1, h2⟩ := chk_ok hc
    rw [← hm]
    have fin := CallJ.ofR mixed orcTc_ok askTc_ok (Eq.mpr (sr_e p (q :: t) e row k (by simp) (by simp; omega) fun v o => v = .slice (some ⟨nG1 + 4 * (q :: t).length, 0, none⟩) (q :: t).length (q :: t).length ∧ o = some (.cells (cellsP (spF p (q :: t))) 34 3 false)) (srY_ok h1 h2 ⟨rfl, rfl⟩))
    exact fin.mono fun v h' ⟨e1, e2⟩ => ⟨_, e1, e2⟩
  · obtain ⟨⟨rfl, rfl⟩ | ⟨s, m, k, e, row, k', e', row', rfl, rfl, hm, h7⟩, rfl⟩ := relX_some h
    · exact ⟨rfl, CallJ.of_call mixed orcTc_ok si_nil fun _ => rfl⟩
    rw [← hm]
    exact ⟨rfl, CallJ.ofR mixed orcTc_ok askTc_ok (Eq.mpr (si_e e row k _ s (by omega) (by omega) e' row' k') (siY_ok rfl s))⟩
  · obtain ⟨l, ⟨m, e, rfl, rfl, hm, h9⟩, rfl⟩ := relX_some h
    refine ⟨rfl, ?_⟩
    by_cases hc : chkE l = 0
    · obtain ⟨p, q, t, rfl, h6, h1, h2⟩ := chk_ok hc
      rw [← hm]
      refine CallJ.ofR mixed orcTc_ok askTc_ok (Eq.mpr (pd_e p (q :: t) e 4 _ _ (by simp) (by simp; omega)) ⟨⟨cells3_flat _, trivial⟩, rfl, _, rfl, ⟨by simp, rfl, by simp; omega⟩, ⟨rfl, by simp, by simp; omega⟩, by rw [hc]; rfl, by omega, by simp; omega, by simp; omega, rfl, stY_ok h1 h2 ⟨rfl, ?_⟩⟩)
      rw [cmD_eq]
      exact sdY_ok hc rfl
    · obtain ⟨p, t, rfl⟩ : ∃ p t, l = p :: t := by
        match l, hm with
        | p :: t, _ => exact ⟨p, t, rfl⟩
      rw [← hm]
      refine CallJ.ofR mixed orcTc_ok askTc_ok (Eq.mpr (pd_i p t e 4 _ _ (by simp at hm; omega)) ⟨⟨cells3_flat _, trivial⟩, rfl, _, rfl, ⟨by simp, rfl, by simp at hm ⊢; omega⟩, ⟨rfl, by simp, by omega⟩, by rw [ieq_ne hc]; rfl, by rw [ieq_ne hc]; rfl, ?_⟩)
      rw [← sd_i hc]
  · obtain ⟨l, ⟨m, e, rfl, rfl, hm, h9⟩, rfl⟩ := relX_some h
    by_cases hc : chkE l = 0
    · obtain ⟨p, q, t, rfl, h6, h1, h2⟩ := chk_ok hc
      have e0 : spO (p :: q :: t) = .wide (tupM [] (t.length + 1) [gi 0]) (cellsP (spF p (q :: t))) 34 3 := by
        unfold spO; rw [hc, ieq_self]; rfl
      rw [e0, ← hm]
      refine ⟨⟨names_tup rfl rfl, cellsP_flat _⟩, ?_⟩
      have fin := CallJ.ofR mixed orcTc_ok askTc_ok (Eq.mpr (sp_e p (q :: t) e 4 (t.length + 1 + 1) (by simp) (by simp; omega) fun v o => v = .tuple #[.slice (some ⟨nG1 + 3 * (q :: t).length, 0, none⟩) (q :: t).length (q :: t).length, gi 0] ∧ o = some (.cells (cellsP (spF p (q :: t))) 34 3 false)) ⟨⟨cells3_flat _, trivial⟩, rfl, _, rfl, ⟨by simp, rfl, by simp; omega⟩, ⟨rfl, by simp, by simp; omega⟩, by rw [hc]; rfl, by omega, by simp; omega, by simp; omega, rfl, stY_ok h1 h2 ⟨rfl, rfl⟩⟩)
      exact fin.mono fun v h' ⟨e1, e2⟩ => ⟨_, e1, e2⟩
    · have e0 : spO l = .plain (.tuple #[nilS, gi (chkE l)]) := by
        unfold spO; rw [ieq_ne hc]; rfl
      rw [e0]
      obtain ⟨p, t, rfl⟩ : ∃ p t, l = p :: t := by
        match l, hm with
        | p :: t, _ => exact ⟨p, t, rfl⟩
      rw [← hm]
      exact ⟨rfl, CallJ.ofR mixed orcTc_ok askTc_ok (Eq.mpr (sp_i p t e 4 _ (by simp at hm; omega) _) ⟨⟨cells3_flat _, trivial⟩, rfl, _, rfl, ⟨by simp, rfl, by simp at hm ⊢; omega⟩, ⟨rfl, by simp, by omega⟩, by rw [ieq_ne hc]; rfl, rfl⟩)⟩
noncomputable def askTe (b : Bool) : Asks := asksV Tryz.prog.globals.size 5 (spY b) (asksV Tryz.prog.globals.size 7 pdY (asksV Tryz.prog.globals.size 16 siqY (asksT' Tryz.prog.globals.size 12 t3 srwY (asksI' Tryz.prog.globals.size 13 t3 ckV rdO askTd))))
theorem askTe_ok (b : Bool) : AsksOk orcTe (askTe b) := asksV_ok spY_ok (asksV_ok pdY_ok (asksV_ok siqY_ok (asksT'_ok srwY_ok (asksI'_ok askTd_ok))))
end Go.Proofs.YtclohbagdmelbaaGreatDoor
