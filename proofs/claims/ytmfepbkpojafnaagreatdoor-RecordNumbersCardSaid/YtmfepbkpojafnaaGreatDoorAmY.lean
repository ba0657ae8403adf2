/-
  OWN WORK. 'Am', twenty-fifth text: a state seen with fewer blocks, by other numbers; calls whose results are plain, or are slices of their own, become known.
-/
import Derived.Test.YtmfepbkpojafnaaGreatDoorAmX
namespace Go.Am

/-- The blocks that a smaller state keeps, each under its old number. -/
abbrev Pre := Nat → Option Nat
def viewRho (ρ : Rho) (n : Nat) (pre : Pre) : Rho := fun j => if j < n then (match pre j with | some i => ρ i | none => .dead) else .unborn
/-- A block as it is, or as one that is only read. -/
def SameObj : AObj → AObj → Prop
  | .cells c e row ro, .cells c₂ e₂ row₂ ro₂ => c₂ = c ∧ e₂ = e ∧ row₂ = row ∧ c.all (flat 3) = true ∧ (ro = true → ro₂ = true)
  | .iter s p, .iter s₂ p₂ => s₂ = s ∧ p₂ = p
  | _, _ => False
structure View (P : Program) (h h₂ : AHeap) (pre : Pre) : Prop where
  lt : ∀ j i, pre j = some i → j < h₂.n
  inj : ∀ j j' i, pre j = some i → pre j' = some i → j = j'
  obj : ∀ j i, pre j = some i → ∃ o o₂, h.get i = some o ∧ h₂.get j = some o₂ ∧ SameObj o o₂
  gone : ∀ j, pre j = none → j < h₂.n → ∀ o, h₂.get j = some o → o = .dead
  globs : ∀ g, g < P.globals.size → g < h₂.n ∧ (pre g = none ∨ pre g = some g)
def Mentions (v : Value) (i : Nat) : Prop := (∃ o n k, v = .slice (some ⟨i, o, none⟩) n k) ∨ (∃ o, v = .pointer (some ⟨i, o, none⟩))
/-- A value under the new numbers. -/
inductive Ren (pre : Pre) : Value → Value → Prop
  | flat {v : Value} : flat 3 v = true → Ren pre v v
  | slice {i j o n k : Nat} : pre j = some i → Ren pre (.slice (some ⟨i, o, none⟩) n k) (.slice (some ⟨j, o, none⟩) n k)
  | ptr {i j o : Nat} : pre j = some i → Ren pre (.pointer (some ⟨i, o, none⟩)) (.pointer (some ⟨j, o, none⟩))
  | agg {l l₂ : List Value} : l.length = l₂.length → (∀ (i : Nat) x y, l[i]? = some x → l₂[i]? = some y → Ren pre x y) → Ren pre (.agg l.toArray) (.agg l₂.toArray)
  | tuple {l l₂ : List Value} : l.length = l₂.length → (∀ (i : Nat) x y, l[i]? = some x → l₂[i]? = some y → Ren pre x y) → Ren pre (.tuple l.toArray) (.tuple l₂.toArray)

section
variable {P : Program} {ρ : Rho} {h h₂ : AHeap} {w : World} {pre : Pre}
theorem Mentions.born {v c : Value} {i : Nat} (m : Mentions v i) (r : VRel ρ v c) : ρ i ≠ .unborn := by
  rcases m with ⟨o, n, k, rfl⟩ | ⟨o, rfl⟩
  · obtain ⟨a', k', _, h1, _⟩ := r.unfold
    exact h1.born
  · obtain ⟨a', _, h1⟩ := r.unfold
    exact h1.born
/-- Each kept block is there. -/
def Alive (ρ : Rho) (pre : Pre) : Prop := ∀ j i, pre j = some i → ∃ g, ρ i = .live g
theorem View.alive (V : View P h h₂ pre) (H : HRel ρ h w) (hb : ∀ j i, pre j = some i → ρ i ≠ .unborn) : Alive ρ pre := fun j i hp => by
  obtain ⟨o, o₂, h1, _, h3⟩ := V.obj j i hp
  refine H.get_live h1 (fun e => ?_) (hb j i hp)
  subst e
  cases o₂ <;> exact h3
theorem viewRho_some (V : View P h h₂ pre) {j i : Nat} (hp : pre j = some i) : viewRho ρ h₂.n pre j = ρ i := by
  simp only [viewRho, if_pos (V.lt j i hp), hp]
theorem viewRho_live {j : Nat} {g : G} (hl : viewRho ρ h₂.n pre j = .live g) : ∃ i, pre j = some i ∧ ρ i = .live g := by
  simp only [viewRho] at hl
  split at hl
  · split at hl
    · exact ⟨_, by assumption, hl⟩
    · cases hl
  · cases hl
theorem Ren.vrel (V : View P h h₂ pre) : ∀ {v v₂ c : Value}, Ren pre v v₂ → VRel ρ v c → VRel (viewRho ρ h₂.n pre) v₂ c := by
  intro v v₂ c r
  induction r generalizing c with
  | flat hf => intro k; rw [VRel.flat_eq hf k]; exact .flat hf
  | @slice i j o n k hp =>
    intro x
    obtain ⟨a', k', rfl, h1, h2, h3, h4⟩ := x.unfold
    refine .fold ⟨a', k', rfl, ?_, h2, h3, fun g hg => h4 g ?_⟩
    · unfold PRel at h1 ⊢
      rw [viewRho_some V hp]
      exact h1
    · rw [viewRho_some V hp] at hg
      exact hg
  | @ptr i j o hp =>
    intro x
    obtain ⟨a', rfl, h1⟩ := x.unfold
    refine .fold ⟨a', rfl, ?_⟩
    unfold PRel at h1 ⊢
    rw [viewRho_some V hp]
    exact h1
  | @agg l l₂ hl _ ih =>
    intro x
    obtain ⟨cs', rfl, h1, h2⟩ := x.unfold
    refine .fold ⟨cs', rfl, by simpa [hl] using h1, fun i x y hx hy => ?_⟩
    have hi : i < l.length := by
      rw [hl]
      have := (Array.getElem?_eq_some_iff.1 hx).1
      simpa using this
    exact ih i l[i] x (List.getElem?_eq_getElem hi) (by simpa using hx) (h2 i l[i] y (by simp [hi]) hy)
  | @tuple l l₂ hl _ ih =>
    intro x
    obtain ⟨cs', rfl, h1, h2⟩ := x.unfold
    refine .fold ⟨cs', rfl, by simpa [hl] using h1, fun i x y hx hy => ?_⟩
    have hi : i < l.length := by
      rw [hl]
      have := (Array.getElem?_eq_some_iff.1 hx).1
      simpa using this
    exact ih i l[i] x (List.getElem?_eq_getElem hi) (by simpa using hx) (h2 i l[i] y (by simp [hi]) hy)
theorem View.hrel (V : View P h h₂ pre) (H : HRel ρ h w) (A : Alive ρ pre) : HRel (viewRho ρ h₂.n pre) h₂ w := by
  refine ⟨fun i hi => ?_, fun i j g g' hi hj e => ?_, fun i g hi => ?_, fun j hj o ho => ?_⟩
  · simp only [viewRho]
    rw [if_neg (by omega)]
  · obtain ⟨i', p1, q1⟩ := viewRho_live hi
    obtain ⟨j', p2, q2⟩ := viewRho_live hj
    obtain rfl := H.inj i' j' g g' q1 q2 e
    exact V.inj i j i' p1 p2
  · obtain ⟨i', p1, q1⟩ := viewRho_live hi
    obtain ⟨o, o', k1, k2, k3⟩ := H.obj i' g q1
    obtain ⟨x, x₂, r1, r2, r3⟩ := V.obj i i' p1
    rw [k1] at r1
    cases r1
    refine ⟨x₂, o', r2, k2, ?_⟩
    cases o with
    | cells c e row ro =>
      cases x₂ with
      | cells c₂ e₂ row₂ ro₂ =>
        obtain ⟨rfl, rfl, rfl, hf, _⟩ := r3
        obtain ⟨d, fr, q1, q2, q3, q4, q5, q6⟩ := k3
        refine ⟨d, fr, q1, q2, q3, q4, fun j v hv => ?_, q6⟩
        obtain ⟨v', z1, z2⟩ := q5 j v hv
        have hfv := List.all_eq_true.1 hf v (List.mem_of_getElem? hv)
        exact ⟨v', z1, by rw [VRel.flat_eq hfv z2]; exact .flat hfv⟩
      | _ => exact r3.elim
    | iter s p =>
      cases x₂ with
      | iter s₂ p₂ =>
        obtain ⟨rfl, rfl⟩ := r3
        exact k3
      | _ => exact r3.elim
    | _ => cases x₂ <;> exact r3.elim
  · simp only [viewRho] at hj
    split at hj
    · rename_i hlt
      split at hj
      · rename_i i hp
        obtain ⟨g, hg⟩ := A j i hp
        rw [hg] at hj
        cases hj
      · rename_i hp
        exact V.gone j hp hlt o ho
    · cases hj
theorem View.own (V : View P h h₂ pre) {b : Nat} (ho : Own (viewRho ρ h₂.n pre) h₂ b) : Own ρ h b := by
  obtain ⟨j, g, h1, h2, h3⟩ := ho
  obtain ⟨i, hp, hl⟩ := viewRho_live h1
  refine ⟨i, g, hl, h2, ?_⟩
  obtain ⟨o, o₂, k1, k2, k3⟩ := V.obj j i hp
  simp only [AHeap.rw, k1, k2] at h3 ⊢
  cases o with
  | cells c e row ro =>
    cases o₂ with
    | cells c₂ e₂ row₂ ro₂ =>
      obtain ⟨_, _, _, _, hr⟩ := k3
      cases ro with
      | false => rfl
      | true => simp [hr rfl] at h3
    | _ => exact k3.elim
  | _ => rfl
theorem View.globs' (V : View P h h₂ pre) (G : Globs P ρ) : Globs P (viewRho ρ h₂.n pre) := fun g hg => by
  obtain ⟨hl, hp⟩ := V.globs g hg
  simp only [viewRho, if_pos hl]
  rcases hp with hp | hp
  · rw [hp]; exact .inl rfl
  · rw [hp]; exact G g hg
/-- Whatever a value stands for, some value stands for it without the blocks that are not kept. -/
theorem some_rel {ρ₂ : Rho} {D : Nat} (hD : ρ₂ D = .dead) {v c : Value} (r : VRel ρ v c) : ∃ x, VRel ρ₂ x c := by
  refine r (fun _ c => ∃ x, VRel ρ₂ x c) fun v c hs => ?_
  have arr : ∀ a b : Array Value, ARel (fun _ c => ∃ x, VRel ρ₂ x c) a b → ∃ a₂, ARel (VRel ρ₂) a₂ b := fun a b hab => by
    have : ∀ i : Fin b.size, ∃ x, VRel ρ₂ x b[i] := fun i => by
      have hi : i.1 < a.size := by rw [hab.1]; exact i.2
      exact hab.2 i.1 a[i.1] b[i.1] (Array.getElem?_eq_getElem hi) (Array.getElem?_eq_getElem i.2)
    refine ⟨Array.ofFn fun i => Classical.choose (this i), by simp, fun i x y hx hy => ?_⟩
    obtain ⟨hi, rfl⟩ := Array.getElem?_eq_some_iff.1 hy
    have := Classical.choose_spec (this ⟨i, hi⟩)
    rw [Array.getElem?_eq_getElem (by simpa using hi)] at hx
    cases hx
    simpa using this
  have atom : ∀ u, atomB u = true → c = u → ∃ x, VRel ρ₂ x c := fun u hu e => ⟨u, by rw [e]; exact .atom hu⟩
  have pd : ∀ a' : Addr, PRel ρ₂ ⟨D, 0, none⟩ a' := fun a' => by simp [PRel, hD]
  cases v with
  | pointer a =>
    cases a with
    | none => exact atom _ rfl hs
    | some a => obtain ⟨a', rfl, _⟩ := hs; exact ⟨.pointer (some ⟨D, 0, none⟩), .fold ⟨a', rfl, pd a'⟩⟩
  | slice a n k =>
    cases a with
    | none => exact atom _ rfl hs
    | some a =>
      obtain ⟨a', k', rfl, _, h2, h3, _⟩ := hs
      exact ⟨.slice (some ⟨D, 0, none⟩) n k, .fold ⟨a', k', rfl, pd a', h2, h3, fun g hg => by rw [hD] at hg; cases hg⟩⟩
  | map r =>
    cases r with
    | none => exact atom _ rfl hs
    | some r => obtain ⟨r', rfl, _⟩ := hs; exact ⟨.map (some D), .fold ⟨r', rfl, by simp [BRel, hD]⟩⟩
  | chan r =>
    cases r with
    | none => exact atom _ rfl hs
    | some r => exact hs.elim
  | func fn first cap =>
    obtain ⟨fn', f', c', rfl, hf, h1, h2⟩ := hs
    obtain ⟨x1, k1⟩ := arr _ _ h1
    obtain ⟨x2, k2⟩ := arr _ _ h2
    cases fn with
    | yield l =>
      obtain ⟨l', rfl, _⟩ := hf
      exact ⟨.func (.yield D) x1 x2, .fold ⟨_, _, _, rfl, ⟨l', rfl, by simp [BRel, hD]⟩, k1, k2⟩⟩
    | func f => exact ⟨.func (.func f) x1 x2, .fold ⟨_, _, _, rfl, hf, k1, k2⟩⟩
    | method t => exact ⟨.func (.method t) x1 x2, .fold ⟨_, _, _, rfl, hf, k1, k2⟩⟩
    | methodOf t m => exact ⟨.func (.methodOf t m) x1 x2, .fold ⟨_, _, _, rfl, hf, k1, k2⟩⟩
    | via t m b u => exact ⟨.func (.via t m b u) x1 x2, .fold ⟨_, _, _, rfl, hf, k1, k2⟩⟩
  | agg cs =>
    obtain ⟨cs', rfl, h1⟩ := hs
    obtain ⟨x1, k1⟩ := arr _ _ h1
    exact ⟨.agg x1, .fold ⟨_, rfl, k1⟩⟩
  | tuple cs =>
    obtain ⟨cs', rfl, h1⟩ := hs
    obtain ⟨x1, k1⟩ := arr _ _ h1
    exact ⟨.tuple x1, .fold ⟨_, rfl, k1⟩⟩
  | iface t v =>
    obtain ⟨v', rfl, x, hx⟩ := hs
    exact ⟨.iface t x, .fold ⟨v', rfl, hx⟩⟩
  | _ => exact atom _ rfl hs
end

section
variable {P : Program} {a : AAct} {h h₂ : AHeap} {k : Post} {pre : Pre}
/-- Code goes on from a state with fewer blocks; of temporaries that are not kept nothing is known. -/
theorem J.view {c : Code} (V : View P h h₂ pre) (kept : Nat → Option Value) {D : Nat} (hD : D < h₂.n) (hp : pre D = none) (hm : a.marks = [])
    (hk : ∀ t v, kept t = some v → Ren pre (a.tmp t) v) (hb : ∀ j i, pre j = some i → i < P.globals.size ∨ ∃ t, Mentions (a.tmp t) i)
    (hj : ∀ a₂ : AAct, a₂.n = a.n → a₂.marks = [] → (∀ t v, t < a.n → kept t = some v → a₂.tmp t = v) → J P c a₂ h₂ k) : J P c a h k := by
  intro ρ act w S
  have hDρ : viewRho ρ h₂.n pre D = .dead := by simp only [viewRho, if_pos hD, hp]
  have A : Alive ρ pre ∨ ∃ j i, pre j = some i ∧ ρ i = .dead := by
    by_cases hx : ∃ j i, pre j = some i ∧ ρ i = .dead
    · exact .inr hx
    · refine .inl (V.alive S.heap fun j i hji hu => ?_)
      rcases hb j i hji with hg | ⟨t, ht⟩
      · rcases S.globs i hg with e | ⟨q, e, _⟩ <;> rw [e] at hu <;> cases hu
      · exact ht.born (S.tmps.tmp t) hu
  rcases A with A | ⟨j, i, hji, hd⟩
  · have ex : ∀ t, ∃ x, VRel (viewRho ρ h₂.n pre) x (act.tmps.getD t Go.undef) ∧ ∀ v, kept t = some v → x = v := fun t => by
      cases hkt : kept t with
      | none => obtain ⟨x, hx⟩ := some_rel hDρ (S.tmps.tmp t); exact ⟨x, hx, fun v hv => by cases hv⟩
      | some v => exact ⟨v, (hk t v hkt).vrel V (S.tmps.tmp t), fun v' hv => by cases hv; rfl⟩
    let f : Nat → Value := fun t => Classical.choose (ex t)
    have hf : ∀ t, VRel (viewRho ρ h₂.n pre) (f t) (act.tmps.getD t Go.undef) ∧ ∀ v, kept t = some v → f t = v := fun t => Classical.choose_spec (ex t)
    let a₂ : AAct := { n := a.n, t := Go.Am.lit a.n f, marks := [] }
    have ht : ∀ t, a₂.tmp t = if t < a.n then f t else Go.undef := fun t => by
      simp only [a₂, AAct.tmp, get_lit]
      split <;> rfl
    have S₂ : SRel P (viewRho ρ h₂.n pre) a₂ h₂ act w := by
      refine ⟨V.hrel S.heap A, ⟨S.tmps.size, fun t => ?_⟩, ?_, V.globs' S.globs⟩
      · rw [ht]
        by_cases hlt : t < a.n
        · rw [if_pos hlt]; exact (hf t).1
        · rw [if_neg hlt, undef_getD _ _ (by rw [← S.tmps.size]; exact Nat.le_of_not_lt hlt)]
          exact .undef
      · have M := S.marks
        rw [hm] at M
        exact ⟨M.1, fun i m d hm' => by simp [a₂] at hm'⟩
    refine (hj a₂ rfl rfl (fun t v hlt hv => by rw [ht, if_pos hlt]; exact (hf t).2 v hv) _ act w S₂).mono ?_
    rintro e act' w' ⟨a', h', ρ', k1, k2, F⟩
    exact ⟨a', h', ρ', k1, k2, F.size, F.os, F.tape, F.output, fun b hb' ho => F.kept b hb' fun o => ho (V.own o), fun b hb' o => V.own (F.own b hb' o)⟩
  · obtain ⟨o, o₂, h1, _, h3⟩ := V.obj j i hji
    have := S.heap.dead i hd o h1
    subst this
    cases o₂ <;> exact h3.elim

/-- What is asked for a call to be carried out on a smaller heap that it only reads. -/
structure Small (P : Program) (args args₂ : Array Value) (h h₂ : AHeap) (pre : Pre) : Prop where
  view : View P h h₂ pre
  rens : args.size = args₂.size ∧ ∀ (i : Nat) x y, args[i]? = some x → args₂[i]? = some y → Ren pre x y
  born : ∀ j i, pre j = some i → i < P.globals.size ∨ ∃ v ∈ args.toList, Mentions v i
  ro : ∀ j, (pre j).isSome = true → h₂.rw j = false
theorem Small.start {args args₂ : Array Value} (s : Small P args args₂ h h₂ pre) {ρ : Rho} {w : World} {args' : Array Value} (H : HRel ρ h w) (G : Globs P ρ) (hA : ARel (VRel ρ) args args') :
    HRel (viewRho ρ h₂.n pre) h₂ w ∧ Globs P (viewRho ρ h₂.n pre) ∧ ARel (VRel (viewRho ρ h₂.n pre)) args₂ args' ∧ ∀ b, ¬ Own (viewRho ρ h₂.n pre) h₂ b := by
  have hnd : ∀ j i, pre j = some i → ρ i ≠ .dead := fun j i hji hd => by
    obtain ⟨o, o₂, h1, _, h3⟩ := s.view.obj j i hji
    have := H.dead i hd o h1
    subst this
    cases o₂ <;> exact h3.elim
  have A : Alive ρ pre := s.view.alive H fun j i hji hu => by
    rcases s.born j i hji with hg | ⟨v, hv, hm⟩
    · rcases G i hg with e | ⟨q, e, _⟩
      · exact hnd j i hji e
      · rw [e] at hu; cases hu
    · obtain ⟨n, hn⟩ := List.getElem?_of_mem hv
      have hn : args[n]? = some v := by rw [← Array.getElem?_toList]; exact hn
      have hlt : n < args'.size := by rw [← hA.1]; exact (Array.getElem?_eq_some_iff.1 hn).1
      exact hm.born (hA.2 n v args'[n] hn (Array.getElem?_eq_getElem hlt)) hu
  refine ⟨s.view.hrel H A, s.view.globs' G, ⟨s.rens.1 ▸ hA.1, fun i x y hx hy => ?_⟩, fun b ⟨j, g, hj, _, hr⟩ => ?_⟩
  · have hi : i < args.size := by rw [s.rens.1]; exact (Array.getElem?_eq_some_iff.1 hx).1
    exact (s.rens.2 i args[i] x (Array.getElem?_eq_getElem hi) hx).vrel s.view (hA.2 i args[i] y (Array.getElem?_eq_getElem hi) hy)
  · obtain ⟨i, hp, _⟩ := viewRho_live hj
    rw [s.ro j (by rw [hp]; rfl)] at hr
    cases hr
theorem Fr.still {ρ ρ₂ ρ' : Rho} {h' : AHeap} {w w' : World} (H : HRel ρ h w) (own : ∀ b, ¬ Own ρ₂ h₂ b) (F : Fr ρ₂ h₂ w ρ' h' w') : HRel ρ h w' ∧ Adv h.n ρ h w ρ h w' := by
  have kept : ∀ b, b < w.heap.size → w'.heap[b]? = w.heap[b]? := fun b hb => F.kept b hb (own b)
  refine ⟨⟨H.bound, H.inj, fun i g hi => ?_, H.dead⟩, ⟨Rho.le_refl _, Nat.le_refl _, F.size, F.os, F.tape, F.output, fun b hb _ => kept b hb, fun _ _ o => o, fun _ _ u => u⟩⟩
  obtain ⟨o, o', k1, k2, k3⟩ := H.obj i g hi
  exact ⟨o, o', k1, by rw [kept _ (H.lt hi)]; exact k2, k3⟩
/-- A call whose result is plain. -/
theorem CallJ.plain {f : FuncId} {args args₂ : Array Value} {res : Value} (hres : flat 3 res = true) (s : Small P args args₂ h h₂ pre) (hc : CallJ P f args₂ h₂ (fun v _ => v = res)) :
    ∀ ρ args' w, HRel ρ h w → Globs P ρ → ARel (VRel ρ) args args' → CallsIn (fence none) 0 P f args' w (CPost ρ h w res h) := by
  intro ρ args' w H G hA
  obtain ⟨H₂, G₂, A₂, own⟩ := s.start H G hA
  refine CallsIn.mono (hc _ args' w H₂ G₂ A₂) ?_
  rintro e w' ⟨v, v', h', ρ', rfl, rfl, hv, H', F⟩
  obtain rfl := VRel.flat_eq hres hv
  obtain ⟨k1, k2⟩ := F.still H own
  exact ⟨_, ρ, rfl, .flat hres, k1, k2⟩
/-- A call whose result names one block of its own. -/
theorem CallJ.fresh {f : FuncId} {args args₂ : Array Value} {xs : List Value} {el : TypeId} {row : Nat} (hxs : xs.all (flat 3) = true) (R : Nat → Value) (hR : ∀ r m, Ren (fun j => if j = m then some r else none) (R r) (R m)) (hMe : ∀ r ρ c, VRel ρ (R r) c → ρ r ≠ .unborn)
    (s : Small P args args₂ h h₂ pre) (hc : CallJ P f args₂ h₂ (fun v h' => ∃ r, v = R r ∧ h'.get r = some (.cells xs el row false))) :
    ∀ ρ args' w, HRel ρ h w → Globs P ρ → ARel (VRel ρ) args args' → CallsIn (fence none) 0 P f args' w (CPost ρ h w (R h.n) (h.push (.cells xs el row false))) := by
  intro ρ args' w H G hA
  obtain ⟨H₂, G₂, A₂, own⟩ := s.start H G hA
  refine CallsIn.mono (hc _ args' w H₂ G₂ A₂) ?_
  rintro e w' ⟨v, v', h', ρ', rfl, ⟨r, rfl, hget⟩, hv, H', F⟩
  obtain ⟨H₃, A₃⟩ := F.still H own
  obtain ⟨g, hg⟩ := H'.get_live hget (by simp) (hMe r ρ' _ hv)
  have hnew : w.heap.size ≤ g.b := by
    apply Nat.le_of_not_lt
    intro hlt
    exact own g.b (F.own g.b hlt ⟨r, g, hg, rfl, by simp [AHeap.rw, hget]⟩)
  obtain ⟨o, o', q1, q2, q3⟩ := H'.obj r g hg
  rw [hget] at q1
  cases q1
  have hun : ρ h.n = .unborn := H.bound h.n (Nat.le_refl _)
  let ρ₁ : Rho := fun i => if i = h.n then .live g else ρ i
  have hle : ρ.le ρ₁ := fun i => by
    simp only [ρ₁]
    by_cases e : i = h.n
    · rw [e, hun]; trivial
    · rw [if_neg e]; exact St.le_refl _
  have hlive : ∀ i q, ρ₁ i = .live q → (i = h.n ∧ q = g) ∨ (i ≠ h.n ∧ ρ i = .live q) := fun i q hi => by
    simp only [ρ₁] at hi
    by_cases e : i = h.n
    · rw [if_pos e] at hi; cases hi; exact .inl ⟨e, rfl⟩
    · rw [if_neg e] at hi; exact .inr ⟨e, hi⟩
  have V : View P h' (h.push (.cells xs el row false)) (fun j => if j = h.n then some r else none) → True := fun _ => trivial
  refine ⟨v', ρ₁, rfl, ?_, ⟨fun i hi => ?_, fun i j p q hi hj e => ?_, fun i p hi => ?_, fun i hi o ho => ?_⟩, ⟨hle, ?_, A₃.size, A₃.os, A₃.tape, A₃.output, A₃.kept, fun b hb o => ?_, fun i hi hu => ?_⟩⟩
  · -- the result under the new map
    have key : ∀ {x y c : Value}, Ren (fun j => if j = h.n then some r else none) x y → VRel ρ' x c → VRel ρ₁ y c := by
      intro x y c hr
      have hpre : ∀ {j i : Nat}, (if j = h.n then some r else (none : Option Nat)) = some i → ρ₁ j = .live g ∧ ρ' i = .live g := fun {j i} e => by
        split at e
        · rename_i e1
          cases e
          exact ⟨by simp only [ρ₁]; rw [if_pos e1], hg⟩
        · cases e
      induction hr generalizing c with
      | flat hf => intro k; rw [VRel.flat_eq hf k]; exact .flat hf
      | @slice i j o n k hp =>
        intro x
        obtain ⟨e1, e2⟩ := hpre hp
        obtain ⟨a', k', rfl, h1, h2, h3, h4⟩ := x.unfold
        refine .fold ⟨a', k', rfl, ?_, h2, h3, fun q hq => h4 q ?_⟩
        · unfold PRel at h1 ⊢
          simp only at h1 ⊢
          rw [e1]; rw [e2] at h1; exact h1
        · simp only at hq ⊢
          rw [e1] at hq; rw [e2]; exact hq
      | @ptr i j o hp =>
        intro x
        obtain ⟨e1, e2⟩ := hpre hp
        obtain ⟨a', rfl, h1⟩ := x.unfold
        refine .fold ⟨a', rfl, ?_⟩
        unfold PRel at h1 ⊢
        simp only at h1 ⊢
        rw [e1]; rw [e2] at h1; exact h1
      | @agg l l₂ hl _ ih =>
        intro x
        obtain ⟨cs', rfl, h1, h2⟩ := x.unfold
        refine .fold ⟨cs', rfl, by simpa [hl] using h1, fun i x y hx hy => ?_⟩
        have hi : i < l.length := by
          rw [hl]
          have := (Array.getElem?_eq_some_iff.1 hx).1
          simpa using this
        exact ih i l[i] x (List.getElem?_eq_getElem hi) (by simpa using hx) (h2 i l[i] y (by simp [hi]) hy)
      | @tuple l l₂ hl _ ih =>
        intro x
        obtain ⟨cs', rfl, h1, h2⟩ := x.unfold
        refine .fold ⟨cs', rfl, by simpa [hl] using h1, fun i x y hx hy => ?_⟩
        have hi : i < l.length := by
          rw [hl]
          have := (Array.getElem?_eq_some_iff.1 hx).1
          simpa using this
        exact ih i l[i] x (List.getElem?_eq_getElem hi) (by simpa using hx) (h2 i l[i] y (by simp [hi]) hy)
    exact key (hR r h.n) hv
  · have hi : h.n + 1 ≤ i := hi
    simp only [ρ₁]
    rw [if_neg (by omega)]
    exact H.bound i (by omega)
  · rcases hlive i p hi with ⟨e1, e2⟩ | ⟨e1, e2⟩ <;> rcases hlive j q hj with ⟨e3, e4⟩ | ⟨e3, e4⟩
    · rw [e1, e3]
    · subst e2
      have := H.lt e4
      omega
    · subst e4
      have := H.lt e2
      omega
    · exact H.inj i j p q e2 e4 e
  · rcases hlive i p hi with ⟨e1, e2⟩ | ⟨e1, e2⟩
    · subst e1 e2
      refine ⟨_, o', by rw [AHeap.get_push, if_pos rfl], q2, ?_⟩
      obtain ⟨d, fr, z1, z2, z3, z4, z5, z6⟩ := q3
      refine ⟨d, fr, z1, z2, z3, z4, fun j v hv => ?_, z6⟩
      obtain ⟨v', y1, y2⟩ := z5 j v hv
      have hfv := List.all_eq_true.1 hxs v (List.mem_of_getElem? hv)
      exact ⟨v', y1, by rw [VRel.flat_eq hfv y2]; exact .flat hfv⟩
    · obtain ⟨o₁, o₁', k1, k2, k3⟩ := H₃.obj i p e2
      refine ⟨o₁, o₁', by rw [AHeap.get_push, if_neg e1]; exact k1, k2, k3.mono hle⟩
  · simp only [ρ₁] at hi
    by_cases e : i = h.n
    · rw [if_pos e] at hi; cases hi
    · rw [if_neg e] at hi
      rw [AHeap.get_push, if_neg e] at ho
      exact H.dead i hi o ho
  · exact Nat.le_succ _
  · obtain ⟨i, p, hi, hb', hr⟩ := o
    rcases hlive i p hi with ⟨e1, e2⟩ | ⟨e1, e2⟩
    · subst e2; omega
    · refine ⟨i, p, e2, hb', ?_⟩
      simpa [AHeap.rw, AHeap.get_push, if_neg e1] using hr
  · simp only [ρ₁]
    rw [if_neg (by omega)]
    exact hu
/-- More calls are known. -/
def orElse (f : FuncId) (S : Array Value → AHeap → Option (Value × AHeap)) (orc : Orc) : Orc := fun f' args h =>
  match Nat.beq f f' with
  | true => match S args h with
    | some r => some r
    | none => orc f' args h
  | false => orc f' args h
theorem orElse_ok {f : FuncId} {S : Array Value → AHeap → Option (Value × AHeap)} {orc : Orc} (ho : OrcOk P orc)
    (hS : ∀ args h v h', S args h = some (v, h') → ∀ ρ args' w, HRel ρ h w → Globs P ρ → ARel (VRel ρ) args args' → CallsIn (fence none) 0 P f args' w (CPost ρ h w v h')) : OrcOk P (orElse f S orc) := by
  intro f' args h v h' hk
  unfold orElse at hk
  split at hk
  · rename_i e
    obtain rfl : f = f' := by simpa using e
    split at hk
    · rename_i r hr
      cases hk
      exact hS args h v h' hr
    · exact ho _ _ _ _ _ hk
  · exact ho _ _ _ _ _ hk
end
end Go.Am
