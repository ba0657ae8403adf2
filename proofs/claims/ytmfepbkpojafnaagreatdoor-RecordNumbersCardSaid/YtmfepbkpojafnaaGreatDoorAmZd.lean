/-
  OWN WORK. 'Am', thirtieth text: a smaller view of the state behind some code.
-/
import Derived.Test.YtmfepbkpojafnaaGreatDoorAmZc
namespace Go.Am
section
variable {P : Program} {a : AAct} {h h₂ : AHeap} {k : Post} {pre : Pre}
theorem SRel.view {ρ : Rho} {act : Act} {w : World} (S : SRel P ρ a h act w) (V : View P h h₂ pre) (l : List (Nat × Value)) {D : Nat} (hD : D < h₂.n) (hp : pre D = none) (hm : a.marks = [])
    (hk : ∀ x ∈ l, Ren pre (a.tmp x.1) x.2) (hb : ∀ j i, pre j = some i → i < P.globals.size ∨ ∃ t, Mentions (a.tmp t) i) :
    ∃ g ρ₂, SRel P ρ₂ (stOf a.n l g) h₂ act w ∧ ∀ b, Own ρ₂ h₂ b → Own ρ h b := by
  have hDρ : viewRho ρ h₂.n pre D = .dead := by simp only [viewRho, if_pos hD, hp]
  have nodead : ∀ j i, pre j = some i → ρ i ≠ .dead := fun j i hji hd => by
    obtain ⟨o, o₂, h1, _, h3⟩ := V.obj j i hji
    have := S.heap.dead i hd o h1
    subst this
    cases o₂ <;> exact h3.elim
  have A : Alive ρ pre := V.alive S.heap fun j i hji hu => by
    rcases hb j i hji with hg | ⟨t, ht⟩
    · rcases S.globs i hg with e | ⟨q, e, _⟩
      · exact nodead j i hji e
      · rw [e] at hu; cases hu
    · exact ht.born (S.tmps.tmp t) hu
  have ex : ∀ t, ∃ x, VRel (viewRho ρ h₂.n pre) x (act.tmps.getD t Go.undef) := fun t => some_rel hDρ (S.tmps.tmp t)
  let g : Nat → Value := fun t => Classical.choose (ex t)
  have hg : ∀ t, VRel (viewRho ρ h₂.n pre) (g t) (act.tmps.getD t Go.undef) := fun t => Classical.choose_spec (ex t)
  have hov : ∀ (l : List (Nat × Value)), (∀ x ∈ l, Ren pre (a.tmp x.1) x.2) → ∀ t, VRel (viewRho ρ h₂.n pre) (ov l g t) (act.tmps.getD t Go.undef) := by
    intro l
    induction l with
    | nil => intro _ t; exact hg t
    | cons x l ih =>
      intro hx t
      rw [ov_cons]
      split
      · rename_i e
        subst e
        exact (hx x (by simp)).vrel V (S.tmps.tmp x.1)
      · exact ih (fun y hy => hx y (by simp [hy])) t
  refine ⟨g, viewRho ρ h₂.n pre, ⟨V.hrel S.heap A, ⟨S.tmps.size, fun t => ?_⟩, ?_, V.globs' S.globs⟩, fun b o => V.own o⟩
  · simp only [stOf, AAct.tmp, get_lit]
    by_cases hlt : t < a.n
    · rw [if_pos hlt]; exact hov l hk t
    · rw [if_neg hlt, undef_getD _ _ (by rw [← S.tmps.size]; exact Nat.le_of_not_lt hlt)]
      exact .undef
  · have M := S.marks
    rw [hm] at M
    exact ⟨M.1, fun i m d hm' => by simp [stOf] at hm'⟩
/-- Code goes on from a smaller view. -/
theorem J.from_view {c : Code} (V : View P h h₂ pre) (l : List (Nat × Value)) {D : Nat} (hD : D < h₂.n) (hp : pre D = none) (hm : a.marks = [])
    (hk : ∀ x ∈ l, Ren pre (a.tmp x.1) x.2) (hb : ∀ j i, pre j = some i → i < P.globals.size ∨ ∃ t, Mentions (a.tmp t) i) (hj : ∀ g, J P c (stOf a.n l g) h₂ k) : J P c a h k := by
  intro ρ act w S
  obtain ⟨g, ρ₂, S₂, own⟩ := S.view V l hD hp hm hk hb
  refine (hj g ρ₂ act w S₂).mono ?_
  rintro e act' w' ⟨a', h', ρ', k1, k2, F⟩
  exact ⟨a', h', ρ', k1, k2, F.size, F.os, F.tape, F.output, fun b hb' ho => F.kept b hb' fun o => ho (own b o), fun b hb' o => own b (F.own b hb' o)⟩
/-- Behind some code a smaller view is taken. -/
theorem J.to_view {c : Code} (hj : J P c a h (fun e a' h' => ∃ (h₂ : AHeap) (pre : Pre) (l : List (Nat × Value)) (D : Nat), View P h' h₂ pre ∧ D < h₂.n ∧ pre D = none ∧ a'.marks = [] ∧ (∀ x ∈ l, Ren pre (a'.tmp x.1) x.2) ∧
    (∀ j i, pre j = some i → i < P.globals.size ∨ ∃ t, Mentions (a'.tmp t) i) ∧ ∀ g, k e (stOf a'.n l g) h₂)) : J P c a h k := by
  intro ρ act w S
  refine (hj ρ act w S).mono ?_
  rintro e act' w' ⟨a', h', ρ', ⟨h₂, pre, l, D, V, hD, hp, hm, hk, hb, hk'⟩, S', F⟩
  obtain ⟨g, ρ₂, S₂, own⟩ := S'.view V l hD hp hm hk hb
  exact ⟨_, h₂, ρ₂, hk' g, S₂, F.size, F.os, F.tape, F.output, F.kept, fun b hb' o => F.own b hb' (own b o)⟩
/-- One block is kept, under the number of the first one. -/
def preOne (n b : Nat) : Pre := fun j => if j = n then some b else none
theorem View.one {n b : Nat} {c : List Value} {e row : Nat} {ro : Bool} (hn : P.globals.size ≤ n) (hg : h.get b = some (.cells c e row ro)) (hc : c.all (flat 3) = true) (h2 : h₂.get n = some (.cells c e row ro)) (hlt : n < h₂.n)
    (hd : ∀ j, j ≠ n → j < h₂.n → ∀ o, h₂.get j = some o → o = .dead) : View P h h₂ (preOne n b) where
  lt j i e := by
    simp only [preOne] at e
    split at e
    · rename_i e1; rw [e1]; exact hlt
    · cases e
  inj j j' i e e' := by
    simp only [preOne] at e e'
    split at e
    · split at e'
      · omega
      · cases e'
    · cases e
  obj j i e := by
    simp only [preOne] at e
    split at e
    · rename_i e1
      cases e
      subst e1
      exact ⟨_, _, hg, h2, rfl, rfl, rfl, hc, fun h => h⟩
    · cases e
  gone j e hj o ho := by
    simp only [preOne] at e
    split at e
    · cases e
    · rename_i e1; exact hd j e1 hj o ho
  globs g hg := ⟨by omega, .inl (by simp only [preOne]; rw [if_neg (by omega)])⟩
theorem CallJ.of_call {orc : Orc} (hm : P.follows .mixedOrders = true) (ho : OrcOk P orc) {n : Nat} {f : FuncId} {args : Array Value} {K : Value → AHeap → Prop} {res : Value} (hc : (call P orc n f args h).map (·.1) = some res) (hK : ∀ h', K res h') : CallJ P f args h K := by
  intro ρ args' w H G hA
  obtain ⟨⟨v, h'⟩, hcall, hv⟩ := Option.map_eq_some_iff.1 hc
  simp only at hv
  subst hv
  refine CallsIn.mono (call_ok hm ho H G hA hcall none) ?_
  rintro e w' ⟨v', ρ', rfl, hv, H', A⟩
  exact ⟨_, v', h', ρ', rfl, hK h', hv, H', A.fr⟩
end
end Go.Am
