/-
  OWN WORK. 'Am': behind some code the tables are what they were, and so are blocks that name one another.
-/
import Derived.Test.YtfkiiacbchbgdaaGreatDoorAmV
import Derived.Test.YtfkiiacbchbgdaaGreatDoorAm26
namespace Go.Am
section
variable {P : Program} {T : Tabs}
/-- As J.of_toldT, for blocks that may name one another. -/
theorem J.of_toldRT {a : AAct} {h : AHeap} {k : Post} {n : Nat} {ts : List Nat} {c : Code} {Out : Exit → List Value → AHeap → Prop} (hT : tabsFlat P.globals.size T = true) (hh : hasTabs T h = true) {D : Nat} (hD : D < P.globals.size) (hDT : T.any (fun x => Nat.beq x.1 D) = false) (hj : J P c a h (told n ts Out))
    (hk : ∀ e vs h', Out e vs h' → ∃ (ts' : List Nat) (vs' vs₂ : List Value) (B₀ B : List Blk) (ids : List Nat), (∀ x ∈ ts'.zip vs', x ∈ ts.zip vs) ∧ ids.length = B.length ∧ ids.Nodup ∧ (∀ i ∈ ids, P.globals.size ≤ i) ∧
      Moves P h' ids B₀ B ∧ amapM (renV P.globals.size ids) vs' = some vs₂ ∧
      ∀ es g, k e (stOf n (ts'.zip vs₂) g) (canonT T es P.globals.size B)) : J P c a h k := by
  intro ρ act w S
  refine (hj ρ act w S).mono ?_
  rintro e act' w' ⟨a', h', ρ', q, S', F⟩
  obtain ⟨q1, q2, q3⟩ := told_facts q
  obtain ⟨ts', vs', vs₂, B₀, B, ids, sub, hl, hn, hge, hB, hv, hk⟩ := hk _ _ _ q3
  have at' : ∀ x ∈ ts'.zip vs', a'.tmp x.1 = x.2 := fun x hx => zip_facts rfl x (sub x hx)
  let pre := preT P.globals.size [] ids
  have preE : ∀ {j i : Nat}, pre j = some i → P.globals.size ≤ j ∧ ids[j - P.globals.size]? = some i := fun {j i} e => by
    simp only [pre, preT] at e
    split at e
    · exact ⟨by assumption, e⟩
    · simp at e
  -- the map
  let ρ₂ : Rho := fun j => if P.globals.size ≤ j then (match ids[j - P.globals.size]? with | some i => ρ' i | none => .unborn) else if T.any (fun x => Nat.beq x.1 j) = true then ρ j else .dead
  have r_hi : ∀ {j i : Nat}, P.globals.size ≤ j → ids[j - P.globals.size]? = some i → ρ₂ j = ρ' i := fun {j i} h1 h2 => by
    simp only [ρ₂]; rw [if_pos h1, h2]
  have r_no : ∀ {j : Nat}, P.globals.size ≤ j → ids[j - P.globals.size]? = none → ρ₂ j = .unborn := fun {j} h1 h2 => by
    simp only [ρ₂]; rw [if_pos h1, h2]
  have r_lo : ∀ {j : Nat}, j < P.globals.size → T.any (fun x => Nat.beq x.1 j) = true → ρ₂ j = ρ j := fun {j} h1 h2 => by
    simp only [ρ₂]; rw [if_neg (by omega), if_pos h2]
  have r_de : ∀ {j : Nat}, j < P.globals.size → ¬ T.any (fun x => Nat.beq x.1 j) = true → ρ₂ j = .dead := fun {j} h1 h2 => by
    simp only [ρ₂]; rw [if_neg (by omega), if_neg h2]
  have live : ∀ {j : Nat} {g : G}, ρ₂ j = .live g → (P.globals.size ≤ j ∧ ∃ i, ids[j - P.globals.size]? = some i ∧ ρ' i = .live g) ∨ (j < P.globals.size ∧ (∃ c, (j, c) ∈ T) ∧ ρ j = .live g) := fun {j g} hg => by
    by_cases hj : P.globals.size ≤ j
    · cases hi : ids[j - P.globals.size]? with
      | none => rw [r_no hj hi] at hg; cases hg
      | some i => rw [r_hi hj hi] at hg; exact .inl ⟨hj, i, rfl, hg⟩
    · by_cases ha : T.any (fun x => Nat.beq x.1 j) = true
      · rw [r_lo (by omega) ha] at hg; exact .inr ⟨by omega, tab_any.1 ha, hg⟩
      · rw [r_de (by omega) ha] at hg; cases hg
  have tabL : ∀ {j : Nat} {c : List Value}, (j, c) ∈ T → j < P.globals.size ∧ h.get j = some (.cells c (typesOf h j) 0 true) := fun {j c} hc => by
    have := List.all_eq_true.1 hT _ hc
    simp only [Bool.and_eq_true] at this
    exact ⟨by have := this.1; rw [Nat.blt_eq] at this; exact this, hasTabs_get hh hc⟩
  -- the block of a table is not owned, and stays
  have free : ∀ {j : Nat} {g : G}, (∃ c, (j, c) ∈ T) → ρ j = .live g → ¬ Own ρ h g.b := fun {j g} hc hg ⟨j', g', k1, k2, k3⟩ => by
    obtain ⟨c, hc⟩ := hc
    have e := S.heap.inj j' j g' g k1 hg k2 k3
    subst e
    simp only [AHeap.rw, (tabL hc).2] at k3
    cases k3
  let h₂ := canonT T (typesOf h) P.globals.size B
  have hn₂ : h₂.n = P.globals.size + B.length := canonT_n hT B
  have g_hi : ∀ {j i : Nat}, P.globals.size ≤ j → ids[j - P.globals.size]? = some i → ∃ (b b₀ : Blk), h₂.get j = some (.cells b.1 b.2.1 b.2.2.1 b.2.2.2) ∧ h'.get i = some (.cells b₀.1 b.2.1 b.2.2.1 b.2.2.2) ∧ amapM (renV P.globals.size ids) b₀.1 = some b.1 := fun {j i} h1 h2 => by
    have hlt : j - P.globals.size < B.length := by rw [← hl]; exact (List.getElem?_eq_some_iff.1 h2).1
    obtain ⟨b₀, _, k1, k2, k3⟩ := hB _ i _ h2 (List.getElem?_eq_getElem hlt)
    refine ⟨B[j - P.globals.size], b₀, by rw [canonT_get hT, if_pos h1, List.getElem?_eq_getElem hlt]; rfl, ?_, k2⟩
    rw [k3]; exact k1
  have g_lo : ∀ {j : Nat} {c : List Value}, (j, c) ∈ T → h₂.get j = some (.cells c (typesOf h j) 0 true) := fun {j c} hc => by
    obtain ⟨o, ho⟩ := tab_some (es := typesOf h) hc
    obtain ⟨c', hm', rfl⟩ := tab_get ho
    have e := (tabL hm').2.symm.trans (tabL hc).2
    injection e with e
    injection e with e
    subst e
    rw [canonT_get hT, if_neg (by have := (tabL hc).1; omega)]
    exact ho
  have own₂ : ∀ b, Own ρ₂ h₂ b → Own ρ' h' b := fun b ⟨j, g, k1, k2, k3⟩ => by
    rcases live k1 with ⟨hj, i, hi, hg⟩ | ⟨_, ⟨c, hc⟩, _⟩
    · obtain ⟨b', _, g1, g2, _⟩ := g_hi hj hi
      refine ⟨i, g, hg, k2, ?_⟩
      simp only [AHeap.rw, g1] at k3
      simp only [AHeap.rw, g2]
      exact k3
    · simp only [AHeap.rw, g_lo hc] at k3
      cases k3
  have H₂ : HRel ρ₂ h₂ w' := by
    refine ⟨fun i hi => ?_, fun i j g g' hi hj e hr => ?_, fun i g hi => ?_, fun j hj o ho => ?_⟩
    · rw [hn₂] at hi
      exact r_no (by omega) (List.getElem?_eq_none (by omega))
    · have hown : Own ρ₂ h₂ g.b := ⟨i, g, hi, rfl, hr⟩
      rcases live hi with ⟨h1, i', k1, k2⟩ | ⟨_, ⟨c, hc⟩, _⟩
      · obtain ⟨b', _, g1, g2, _⟩ := g_hi h1 k1
        have hr' : h'.rw i' = true := by
          simp only [AHeap.rw, g1] at hr
          simp only [AHeap.rw, g2]
          exact hr
        rcases live hj with ⟨h2, j', k3, k4⟩ | ⟨_, hc, k4⟩
        · have := S'.heap.inj i' j' g g' k2 k4 e hr'
          subst this
          have := (List.getElem?_inj (List.getElem?_eq_some_iff.1 k1).1 hn).1 (k1.trans k3.symm)
          omega
        · exact absurd (F.own _ (S.heap.lt k4) (e ▸ own₂ _ hown)) (free hc k4)
      · simp only [AHeap.rw, g_lo hc] at hr
        cases hr
    · rcases live hi with ⟨h1, i', k1, k2⟩ | ⟨_, ⟨c, hc⟩, k2⟩
      · obtain ⟨b', b₀, g1, g2, g3⟩ := g_hi h1 k1
        obtain ⟨m1, m2⟩ := amapM_spec g3
        obtain ⟨o, o', q1, q2, q3⟩ := S'.heap.obj i' g k2
        rw [g2] at q1
        cases q1
        obtain ⟨c', fr, e1, e2, e3, e4, e5, e6⟩ := q3
        refine ⟨_, _, g1, q2, c', fr, e1, by rw [← m1]; exact e2, e3, e4, fun j v hv => ?_, e6⟩
        have hlt : j < b₀.1.length := by rw [m1]; exact (List.getElem?_eq_some_iff.1 hv).1
        obtain ⟨v', w1, w2⟩ := e5 j _ (List.getElem?_eq_getElem hlt)
        exact ⟨v', w1, (renV_spec (T := []) (m2 j _ v (List.getElem?_eq_getElem hlt) hv)).vrelT (fun e => r_hi (preE e).1 (preE e).2) w2⟩
      · obtain ⟨o, o', q1, q2, q3⟩ := S.heap.obj i g k2
        rw [(tabL hc).2] at q1
        cases q1
        obtain ⟨c', fr, e1, e2, e3, e4, e5, e6⟩ := q3
        have hcf : c.all (flat 3) = true := by
          have := List.all_eq_true.1 hT _ hc
          simp only [Bool.and_eq_true] at this
          exact this.2
        refine ⟨_, o', g_lo hc, by rw [F.kept _ (S.heap.lt k2) (free ⟨c, hc⟩ k2)]; exact q2, c', fr, e1, e2, e3, e4, fun j v hv => ?_, e6⟩
        obtain ⟨v', w1, w2⟩ := e5 j v hv
        have hf := List.all_eq_true.1 hcf v (List.mem_of_getElem? hv)
        exact ⟨v', w1, by rw [VRel.flat_eq hf w2]; exact .flat hf⟩
    · by_cases hj' : P.globals.size ≤ j
      · cases hi : ids[j - P.globals.size]? with
        | none => rw [r_no hj' hi] at hj; cases hj
        | some i =>
          rw [r_hi hj' hi] at hj
          obtain ⟨b', _, _, g2, _⟩ := g_hi hj' hi
          have := S'.heap.dead i hj _ g2
          cases this
      · by_cases ha : T.any (fun x => Nat.beq x.1 j) = true
        · rw [r_lo (by omega) ha] at hj
          obtain ⟨c, hc⟩ := tab_any.1 ha
          have := S.heap.dead j hj _ (tabL hc).2
          cases this
        · rw [canonT_get hT, if_neg hj'] at ho
          obtain ⟨c, hc, _⟩ := tab_get (T := T) (es := typesOf h) ho
          exact absurd (tab_any.2 ⟨c, hc⟩) ha
  have hDρ : ρ₂ D = .dead := r_de hD (by rw [hDT]; decide)
  have ex : ∀ t, ∃ x, VRel ρ₂ x (act'.tmps.getD t Go.undef) := fun t => some_rel hDρ (S'.tmps.tmp t)
  let g : Nat → Value := fun t => Classical.choose (ex t)
  have hg : ∀ t, VRel ρ₂ (g t) (act'.tmps.getD t Go.undef) := fun t => Classical.choose_spec (ex t)
  have hov : ∀ (l : List (Nat × Value)), (∀ x ∈ l, Ren pre (a'.tmp x.1) x.2) → ∀ t, VRel ρ₂ (ov l g t) (act'.tmps.getD t Go.undef) := by
    intro l
    induction l with
    | nil => intro _ t; exact hg t
    | cons x l ih =>
      intro hx t
      rw [ov_cons]
      split
      · rename_i e
        subst e
        exact (hx x (by simp)).vrelT (fun e => r_hi (preE e).1 (preE e).2) (S'.tmps.tmp x.1)
      · exact ih (fun y hy => hx y (by simp [hy])) t
  have hren : ∀ x ∈ ts'.zip vs₂, Ren pre (a'.tmp x.1) x.2 := fun x hx => by
    obtain ⟨v, h1, h2⟩ := zip_at hv hx
    rw [at' _ h1]
    exact renV_spec (T := []) h2
  refine ⟨stOf n (ts'.zip vs₂) g, h₂, ρ₂, hk _ g, ⟨H₂, ⟨?_, fun t => ?_⟩, ?_, fun i hi => ?_⟩, F.size, F.os, F.tape, F.output, F.kept, fun b hb o => F.own b hb (own₂ b o)⟩
  · rw [← S'.tmps.size, ← q1]; rfl
  · simp only [stOf, AAct.tmp, get_lit]
    by_cases hlt : t < n
    · rw [if_pos hlt]; exact hov _ hren t
    · rw [if_neg hlt, undef_getD _ _ (by rw [← S'.tmps.size, q1]; exact Nat.le_of_not_lt hlt)]
      exact .undef
  · have M := S'.marks
    rw [q2] at M
    exact ⟨M.1, fun i m d hm' => by simp [stOf] at hm'⟩
  · by_cases ha : T.any (fun x => Nat.beq x.1 i) = true
    · rw [r_lo hi ha]; exact S.globs i hi
    · exact .inl (r_de hi ha)
end
end Go.Am
