/-
  OWN WORK. 'Am', twenty-third text: a call that was carried out once is known in whatever heap that holds the tables; from the abstract machine to a contract.
-/
import Derived.Test.YtmfepbkpojafnaaGreatDoorAmV
namespace Go.Am

/-- Package-level variables that are only read: number, cells. (Of which type their blocks are, is another matter: es.) -/
abbrev Tabs := List (Nat × List Value)
noncomputable def tabT (T : Tabs) (es : Nat → TypeId) : Tr AObj := List.rec (motive := fun _ => Tr AObj) .nil (fun x _ ih => ih.set x.1 (.cells x.2 (es x.1) 0 true)) T
noncomputable def base (T : Tabs) (es : Nat → TypeId) (n : Nat) : AHeap := { n := n, t := tabT T es }
noncomputable def hasTabs (T : Tabs) (h : AHeap) : Bool := T.all fun x => match h.get x.1 with
  | some (.cells c _ row ro) => beqVs c x.2 && Nat.beq row 0 && ro
  | _ => false
def tabsFlat (n : Nat) (T : Tabs) : Bool := T.all fun x => Nat.blt x.1 n && x.2.all (flat 3)
/-- One more call whose end is known. -/
noncomputable def known (T : Tabs) (orc : Orc) (f : FuncId) (args : Array Value) (res : Value) : Orc := fun f' args' h =>
  match Nat.beq f f' && beqDs args.toList args'.toList && hasTabs T h with
  | true => some (res, h)
  | false => orc f' args' h

section
variable {P : Program} {ρ : Rho} {h : AHeap} {w : World} {T : Tabs}
theorem tab_get {es : Nat → TypeId} : ∀ {T : Tabs} {i : Nat} {o : AObj}, (tabT T es).get i = some o → ∃ c, (i, c) ∈ T ∧ o = .cells c (es i) 0 true
  | [], i, o, h => by cases h
  | x :: T, i, o, h => by
    have h : ((tabT T es).set x.1 (.cells x.2 (es x.1) 0 true)).get i = some o := h
    rw [Tr.get_set] at h
    by_cases e : i = x.1
    · subst e
      rw [if_pos rfl] at h
      cases h
      exact ⟨x.2, by simp, rfl⟩
    · rw [if_neg e] at h
      obtain ⟨c, hm, ho⟩ := tab_get h
      exact ⟨c, by simp [hm], ho⟩
theorem tab_some {es : Nat → TypeId} : ∀ {T : Tabs} {x : Nat × List Value}, x ∈ T → ∃ o, (tabT T es).get x.1 = some o
  | y :: T, x, hx => by
    show ∃ o, ((tabT T es).set y.1 (.cells y.2 (es y.1) 0 true)).get x.1 = some o
    rw [Tr.get_set]
    by_cases e : x.1 = y.1
    · rw [if_pos e]; exact ⟨_, rfl⟩
    · rw [if_neg e]
      rcases List.mem_cons.1 hx with rfl | hx
      · exact (e rfl).elim
      · exact tab_some hx
/-- Of which types the blocks of a heap are. -/
noncomputable def typesOf (h : AHeap) (i : Nat) : TypeId := match h.get i with
  | some (.cells _ e _ _) => e
  | _ => 0
theorem hasTabs_get (hT : hasTabs T h = true) {i : Nat} {c : List Value} (hx : (i, c) ∈ T) : h.get i = some (.cells c (typesOf h i) 0 true) := by
  have := List.all_eq_true.1 hT _ hx
  simp only at this
  split at this
  · rename_i c' e row ro ho
    simp only [Bool.and_eq_true, Nat.beq_eq] at this
    obtain ⟨⟨h1, h2⟩, h3⟩ := this
    rw [ho, beqVs_eq h1, h2, h3]
    simp only [typesOf, ho]
  · cases this

open Classical in
theorem known_ok (hm : P.follows .mixedOrders = true) {orc : Orc} (ho : OrcOk P orc) (hT : tabsFlat P.globals.size T = true) {n : Nat} {f : FuncId} {args : Array Value} {res : Value} (hargs : args.toList.all (flat 3) = true) (hres : flat 3 res = true)
    (hrun : ∀ es, (call P orc n f args (base T es P.globals.size)).map (·.1) = some res) : OrcOk P (known T orc f args res) := by
  intro f' argsA h v h' hk ρ args' w H G hA
  unfold known at hk
  split at hk
  · rename_i hc
    simp only [Bool.and_eq_true, Nat.beq_eq] at hc
    obtain ⟨⟨rfl, hb⟩, htab⟩ := hc
    cases hk
    obtain rfl : args = argsA := Array.toList_inj.1 (beqDs_eq hb)
    obtain rfl : args' = args := toList_of_ARel_eq hA fun x hx y hy => VRel.flat_eq (List.all_eq_true.1 hargs x hx) hy
    have hin : ∀ i c, (i, c) ∈ T → i < P.globals.size ∧ c.all (flat 3) = true := fun i c hx => by
      have := List.all_eq_true.1 hT _ hx
      simpa [Nat.blt_eq] using this
    have hlive : ∀ i c, (i, c) ∈ T → ∃ g, ρ i = .live g ∧ g.b = i ∧ g.sh = 0 := fun i c hx => by
      rcases G i (hin i c hx).1 with hd | k
      · have := H.dead i hd _ (hasTabs_get htab hx)
        cases this
      · exact k
    let ρ₀ : Rho := fun i => if i < P.globals.size then (if ∃ c, (i, c) ∈ T then ρ i else .dead) else .unborn
    have liv : ∀ i g, ρ₀ i = .live g → ∃ c, (i, c) ∈ T ∧ ρ i = .live g := fun i g hi => by
      simp only [ρ₀] at hi
      split at hi
      · split at hi
        · rename_i k
          obtain ⟨c, hx⟩ := k
          exact ⟨c, hx, hi⟩
        · cases hi
      · cases hi
    have H₀ : HRel ρ₀ (base T (typesOf h) P.globals.size) w := by
      refine ⟨fun i hi => ?_, fun i j g g' hi hj e => ?_, fun i g hi => ?_, fun i hi o ho => ?_⟩
      · simp only [ρ₀]
        rw [if_neg (by simp [base] at hi; omega)]
      · obtain ⟨_, _, h1⟩ := liv i g hi
        obtain ⟨_, _, h2⟩ := liv j g' hj
        exact H.inj i j g g' h1 h2 e
      · obtain ⟨c, hx, hl⟩ := liv i g hi
        obtain ⟨o, hg⟩ := tab_some (es := typesOf h) hx
        obtain ⟨c', hx', rfl⟩ := tab_get hg
        have hh := hasTabs_get htab hx'
        obtain ⟨o₁, o', k1, k2, k3⟩ := H.obj i g hl
        rw [hh] at k1
        cases k1
        obtain ⟨d, fr, q1, q2, q3, q4, q5, q6⟩ := k3
        refine ⟨_, o', hg, k2, d, fr, q1, q2, q3, q4, fun j v hv => ?_, q6⟩
        obtain ⟨v', r1, r2⟩ := q5 j v hv
        have hf := List.all_eq_true.1 (hin i c' hx').2 v (List.mem_of_getElem? hv)
        exact ⟨v', r1, by rw [VRel.flat_eq hf r2]; exact .flat hf⟩
      · obtain ⟨c, hx, rfl⟩ := tab_get (i := i) ho
        simp only [ρ₀] at hi
        rw [if_pos (hin i c hx).1, if_pos ⟨c, hx⟩] at hi
        obtain ⟨g, hl, _⟩ := hlive i c hx
        rw [hl] at hi
        cases hi
    have G₀ : Globs P ρ₀ := fun g hg => by
      simp only [ρ₀]
      rw [if_pos hg]
      split
      · rename_i k
        obtain ⟨c, hx⟩ := k
        exact .inr (hlive g c hx)
      · exact .inl rfl
    obtain ⟨⟨v₁, h₁⟩, hcall, hv₁⟩ := Option.map_eq_some_iff.1 (hrun (typesOf h))
    simp only at hv₁
    subst hv₁
    refine CallsIn.mono (call_ok hm ho H₀ G₀ (ARel.refl_of fun x hx => VRel.flat (List.all_eq_true.1 hargs x hx)) hcall none) ?_
    rintro e' w' ⟨v', ρ', rfl, hv, _, A⟩
    obtain rfl := VRel.flat_eq hres hv
    have own : ∀ b, ¬ Own ρ₀ (base T (typesOf h) P.globals.size) b := fun b ⟨i, g, hi, _, hr⟩ => by
      obtain ⟨c, hx, _⟩ := liv i g hi
      obtain ⟨o, hg⟩ := tab_some (es := typesOf h) hx
      obtain ⟨c', _, rfl⟩ := tab_get hg
      have hg : (base T (typesOf h) P.globals.size).get i = some (.cells c' (typesOf h i) 0 true) := hg
      simp [AHeap.rw, hg] at hr
    have kept : ∀ b, b < w.heap.size → w'.heap[b]? = w.heap[b]? := fun b hb => A.kept b hb (own b)
    refine ⟨_, ρ, rfl, .flat hres, ⟨H.bound, H.inj, fun i g hi => ?_, H.dead⟩, ⟨Rho.le_refl _, Nat.le_refl _, A.size, A.os, A.tape, A.output, fun b hb _ => kept b hb, fun _ _ o => o, fun _ _ u => u⟩⟩
    obtain ⟨o, o', k1, k2, k3⟩ := H.obj i g hi
    exact ⟨o, o', k1, by rw [kept _ (H.lt hi)]; exact k2, k3⟩
  · exact ho f' argsA h v h' hk ρ args' w H G hA
end
end Go.Am
