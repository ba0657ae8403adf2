/-
  OWN WORK. 'Am': calls that take over a block of their caller's, and give one in its place.
-/
import Derived.Test.YtclohbagdmelbaaGreatDoorAm11
namespace Go.Am
section
variable {P : Program} {h h₂ : AHeap} {pre : Pre}
/-- What is asked for a call to be carried out on a smaller heap of which it takes over one block, and only reads the others. -/
structure SmallW (P : Program) (args args₂ : Array Value) (h h₂ : AHeap) (pre : Pre) (i₀ : Nat) : Prop where
  view : View P h h₂ pre
  rens : args.size = args₂.size ∧ ∀ (i : Nat) x y, args[i]? = some x → args₂[i]? = some y → Ren pre x y ∨ Empt h₂ pre x y
  born : ∀ j i, pre j = some i → i < P.globals.size ∨ ∃ v ∈ args.toList, Mentions v i
  ro : ∀ j i, pre j = some i → i ≠ i₀ → h₂.rw j = false
  wr : h.rw i₀ = true
  there : ∃ j, pre j = some i₀
theorem SmallW.start {args args₂ : Array Value} {i₀ : Nat} (s : SmallW P args args₂ h h₂ pre i₀) {ρ : Rho} {w : World} {args' : Array Value} (H : HRel ρ h w) (G : Globs P ρ) (hA : ARel (VRel ρ) args args') :
    HRel (viewRho ρ h₂.n pre) h₂ w ∧ Globs P (viewRho ρ h₂.n pre) ∧ ARel (VRel (viewRho ρ h₂.n pre)) args₂ args' ∧ ∃ g₀, ρ i₀ = .live g₀ ∧ ∀ b, Own (viewRho ρ h₂.n pre) h₂ b → g₀.b = b := by
  have hnd : ∀ j i, pre j = some i → ρ i ≠ .dead := fun j i hji hd => by
    obtain ⟨o, o₂, h1, _, h3⟩ := s.view.obj j i hji
    have := H.dead i hd o h1
    subst this
    cases o₂ <;> exact h3.elim
  have A : Alive ρ pre := s.view.alive H fun j i hji hu => by
    rcases s.born j i hji with hg | ⟨v, hv, hm⟩
    · rcases G i hg with e | ⟨q, e, _⟩
      · exact hnd j i hji e
      · rw [e] at hu; cases hu
    · obtain ⟨n, hn⟩ := List.getElem?_of_mem hv
      have hn : args[n]? = some v := by rw [← Array.getElem?_toList]; exact hn
      have hlt : n < args'.size := by rw [← hA.1]; exact (Array.getElem?_eq_some_iff.1 hn).1
      exact hm.born (hA.2 n v args'[n] hn (Array.getElem?_eq_getElem hlt)) hu
  obtain ⟨j₀, hj₀⟩ := s.there
  obtain ⟨g₀, hg₀⟩ := A j₀ i₀ hj₀
  refine ⟨s.view.hrel H A, s.view.globs' G, ⟨s.rens.1 ▸ hA.1, fun i x y hx hy => ?_⟩, g₀, hg₀, fun b ⟨j, g, hj, hb, hr⟩ => ?_⟩
  · have hi : i < args.size := by rw [s.rens.1]; exact (Array.getElem?_eq_some_iff.1 hx).1
    have hv := hA.2 i args[i] y (Array.getElem?_eq_getElem hi) hy
    rcases s.rens.2 i args[i] x (Array.getElem?_eq_getElem hi) hx with r | r
    · exact r.vrel s.view hv
    · exact r.vrel s.view hv
  · obtain ⟨i, hp, hl⟩ := viewRho_live hj
    by_cases e : i = i₀
    · subst e
      rw [hg₀] at hl
      cases hl
      exact hb
    · rw [s.ro j i hp e] at hr
      cases hr
theorem sl_vrel {ρ ρ₁ : Rho} {r m n k : Nat} {g : G} {c : Value} (h1 : ρ r = .live g) (h2 : ρ₁ m = .live g) (hv : VRel ρ (.slice (some ⟨r, 0, none⟩) n k) c) : VRel ρ₁ (.slice (some ⟨m, 0, none⟩) n k) c := by
  obtain ⟨a', k', rfl, q1, q2, q3, q4⟩ := hv.unfold
  refine .fold ⟨a', k', rfl, ?_, q2, q3, fun q hq => q4 q ?_⟩
  · unfold PRel at q1 ⊢
    simp only at q1 ⊢
    rw [h2]; rw [h1] at q1; exact q1
  · simp only at hq ⊢
    rw [h2] at hq; rw [h1]; exact hq
/-- A call that takes over a block, and whose result lies in a block in its place. -/
theorem CallJ.moved {f : FuncId} {args args₂ : Array Value} {xs : List Value} {el : TypeId} {row i₀ n k : Nat} (hxs : xs.all (flat 3) = true)
    (s : SmallW P args args₂ h h₂ pre i₀) (hc : CallJ P f args₂ h₂ (fun v h' => ∃ r, v = .slice (some ⟨r, 0, none⟩) n k ∧ h'.get r = some (.cells xs el row false))) :
    ∀ ρ args' w, HRel ρ h w → Globs P ρ → ARel (VRel ρ) args args' → CallsIn (fence none) 0 P f args' w (CPost ρ h w (.slice (some ⟨h.n, 0, none⟩) n k) ((h.set i₀ .dead).push (.cells xs el row false))) := by
  intro ρ args' w H G hA
  obtain ⟨H₂, G₂, A₂, g₀, hg₀, own⟩ := s.start H G hA
  refine CallsIn.mono (hc _ args' w H₂ G₂ A₂) ?_
  rintro e w' ⟨v, v', h', ρ', rfl, ⟨r, rfl, hget⟩, hv, H', F⟩
  obtain ⟨g, hg⟩ := H'.get_live hget (by simp) (by
    obtain ⟨a', k', _, hp, _⟩ := hv.slice_any
    exact hp.born)
  have hlt0 : i₀ < h.n := by
    apply Nat.lt_of_not_le
    intro hle
    rw [H.bound i₀ hle] at hg₀
    cases hg₀
  have hnew : g.b < w.heap.size → g₀.b = g.b := fun hlt => own g.b (F.own g.b hlt ⟨r, g, hg, rfl, by simp [AHeap.rw, hget]⟩)
  obtain ⟨o, o', q1, q2, q3⟩ := H'.obj r g hg
  rw [hget] at q1
  cases q1
  have hun : ρ h.n = .unborn := H.bound h.n (Nat.le_refl _)
  let ρ₁ : Rho := fun i => if i = h.n then .live g else if i = i₀ then .dead else ρ i
  have e1 : ρ₁ h.n = .live g := if_pos rfl
  have e2 : ρ₁ i₀ = .dead := by
    show (if i₀ = h.n then St.live g else if i₀ = i₀ then .dead else ρ i₀) = .dead
    rw [if_neg (by omega), if_pos rfl]
  have e3 : ∀ i, i ≠ h.n → i ≠ i₀ → ρ₁ i = ρ i := fun i h1 h2 => by
    show (if i = h.n then St.live g else if i = i₀ then .dead else ρ i) = ρ i
    rw [if_neg h1, if_neg h2]
  have hle : ρ.le ρ₁ := fun i => by
    by_cases e : i = h.n
    · rw [e, hun]; trivial
    · by_cases e' : i = i₀
      · rw [e', e2]; cases ρ i₀ <;> simp [St.le]
      · rw [e3 i e e']; exact St.le_refl _
  have hlive : ∀ i q, ρ₁ i = .live q → (i = h.n ∧ q = g) ∨ (i ≠ h.n ∧ i ≠ i₀ ∧ ρ i = .live q) := fun i q hi => by
    by_cases e : i = h.n
    · rw [e, e1] at hi; cases hi; exact .inl ⟨e, rfl⟩
    · by_cases e' : i = i₀
      · rw [e', e2] at hi; cases hi
      · rw [e3 i e e'] at hi; exact .inr ⟨e, e', hi⟩
  have get3 : ∀ i, i ≠ h.n → i ≠ i₀ → ((h.set i₀ .dead).push (.cells xs el row false)).get i = h.get i := fun i h1 h2 => by
    rw [AHeap.get_push, AHeap.set_n, if_neg h1, AHeap.get_set, if_neg h2]
  have rw3 : ∀ i, i ≠ h.n → i ≠ i₀ → ((h.set i₀ .dead).push (.cells xs el row false)).rw i = h.rw i := fun i h1 h2 => by
    simp only [AHeap.rw, get3 i h1 h2]
  have sep : ∀ j q, j ≠ i₀ → ρ j = .live q → g₀.b ≠ q.b := fun j q hj hq e => hj (H.inj i₀ j g₀ q hg₀ hq e s.wr).symm
  refine ⟨v', ρ₁, rfl, sl_vrel hg e1 hv, ⟨fun i hi => ?_, fun i j p q hi hj e hr => ?_, fun i p hi => ?_, fun i hi o ho => ?_⟩, ⟨hle, ?_, F.size, F.os, F.tape, F.output, fun b hb ho => F.kept b hb fun x => ho (s.view.own x), fun b hb o => ?_, fun i hi hu => ?_⟩⟩
  · have hi : h.n + 1 ≤ i := hi
    rw [e3 i (by omega) (by omega)]
    exact H.bound i (by omega)
  · rcases hlive i p hi with ⟨z1, z2⟩ | ⟨z1, z1', z2⟩ <;> rcases hlive j q hj with ⟨z3, z4⟩ | ⟨z3, z3', z4⟩
    · rw [z1, z3]
    · subst z2
      have := hnew (by rw [e]; exact H.lt z4)
      exact absurd (this.trans e) (sep j q z3' z4)
    · subst z4
      have := hnew (by rw [← e]; exact H.lt z2)
      exact absurd (this.trans e.symm) (sep i p z1' z2)
    · exact H.inj i j p q z2 z4 e (by rwa [rw3 i z1 z1'] at hr)
  · rcases hlive i p hi with ⟨z1, z2⟩ | ⟨z1, z1', z2⟩
    · subst z1 z2
      refine ⟨_, o', by rw [AHeap.get_push, AHeap.set_n, if_pos rfl], q2, ?_⟩
      obtain ⟨d, fr, z1, z2, z3, z4, z5, z6⟩ := q3
      refine ⟨d, fr, z1, z2, z3, z4, fun j v hv => ?_, z6⟩
      obtain ⟨v', y1, y2⟩ := z5 j v hv
      have hfv := List.all_eq_true.1 hxs v (List.mem_of_getElem? hv)
      exact ⟨v', y1, by rw [VRel.flat_eq hfv y2]; exact .flat hfv⟩
    · obtain ⟨o₁, o₁', k1, k2, k3⟩ := H.obj i p z2
      refine ⟨o₁, o₁', by rw [get3 i z1 z1']; exact k1, ?_, k3.mono hle⟩
      rw [F.kept p.b (H.lt z2) fun x => sep i p z1' z2 (own _ x)]
      exact k2
  · by_cases e : i = h.n
    · rw [e, e1] at hi; cases hi
    · by_cases e' : i = i₀
      · rw [AHeap.get_push, AHeap.set_n, if_neg e, AHeap.get_set, if_pos e'] at ho
        cases ho; rfl
      · rw [e3 i e e'] at hi
        rw [get3 i e e'] at ho
        exact H.dead i hi o ho
  · exact Nat.le_succ _
  · obtain ⟨i, p, hi, hb', hr⟩ := o
    rcases hlive i p hi with ⟨z1, z2⟩ | ⟨z1, z1', z2⟩
    · subst z2
      subst hb'
      exact s.view.own (F.own p.b hb ⟨r, p, hg, rfl, by simp [AHeap.rw, hget]⟩)
    · exact ⟨i, p, z2, hb', by rwa [rw3 i z1 z1'] at hr⟩
  · rw [e3 i (by omega) fun e => by rw [e, hg₀] at hu; cases hu]
    exact hu
/-- Blocks of a heap, of which one may be written. -/
theorem viewW {ids : List Nat} {B : List Blk} (es : Nat → TypeId) (hl : ids.length = B.length) (hn : ids.Nodup) (hge : ∀ i ∈ ids, P.globals.size ≤ i)
    (hB : ∀ (j : Nat) b i, B[j]? = some b → ids[j]? = some i → (∃ ro, h.get i = some (.cells b.1 b.2.1 b.2.2.1 ro) ∧ (ro = true → b.2.2.2 = true)) ∧ b.1.all (flat 3) = true) :
    View P h (canonT [] es P.globals.size B) (preT P.globals.size [] ids) := by
  have hT : tabsFlat P.globals.size [] = true := rfl
  have pn : ∀ j i, preT P.globals.size [] ids j = some i → P.globals.size ≤ j ∧ ids[j - P.globals.size]? = some i := fun j i e => by
    simp only [preT] at e
    split at e
    · rename_i h1; exact ⟨h1, e⟩
    · simp at e
  refine ⟨fun j i e => ?_, fun j j' i e e' => ?_, fun j i e => ?_, fun j e hj o ho => ?_, fun g hg => ?_⟩
  · obtain ⟨h1, h2⟩ := pn j i e
    have := (List.getElem?_eq_some_iff.1 h2).1
    rw [canonT_n hT]
    omega
  · obtain ⟨h1, h2⟩ := pn j i e
    obtain ⟨h3, h4⟩ := pn j' i e'
    have h5 := (List.getElem?_eq_some_iff.1 h2).1
    have := (List.getElem?_inj h5 hn).1 (h2.trans h4.symm)
    omega
  · obtain ⟨h1, h2⟩ := pn j i e
    have h3 := (List.getElem?_eq_some_iff.1 h2).1
    have hb' : B[j - P.globals.size]? = some B[j - P.globals.size] := List.getElem?_eq_getElem (by omega)
    obtain ⟨⟨ro, k1, k2⟩, k3⟩ := hB _ _ i hb' h2
    exact ⟨_, .cells B[j - P.globals.size].1 B[j - P.globals.size].2.1 B[j - P.globals.size].2.2.1 B[j - P.globals.size].2.2.2, k1, by rw [canonT_get hT, if_pos h1, hb']; rfl, rfl, rfl, rfl, flat_ren k3, k2⟩
  · rw [canonT_get hT] at ho
    rw [canonT_n hT] at hj
    split at ho
    · rename_i h1
      simp only [preT, if_pos h1, List.getElem?_eq_none_iff] at e
      omega
    · rw [show base [] es P.globals.size = emp P from rfl] at ho
      cases ho
  · refine ⟨by rw [canonT_n hT]; omega, .inl ?_⟩
    simp only [preT]
    rw [if_neg (by omega)]
    rfl
theorem SmallW.canonT {args args₂ : Array Value} {B : List Blk} {ids : List Nat} {i₀ : Nat} (es : Nat → TypeId) (hl : ids.length = B.length) (hn : ids.Nodup) (hge : ∀ i ∈ ids, P.globals.size ≤ i)
    (hB : ∀ (j : Nat) b i, B[j]? = some b → ids[j]? = some i → (∃ ro, h.get i = some (.cells b.1 b.2.1 b.2.2.1 ro) ∧ (ro = true → b.2.2.2 = true)) ∧ b.1.all (flat 3) = true ∧ (i ≠ i₀ → b.2.2.2 = true))
    (hr : args.size = args₂.size ∧ ∀ (i : Nat) x y, args[i]? = some x → args₂[i]? = some y → Ren (preT P.globals.size [] ids) x y)
    (hb : ∀ i ∈ ids, ∃ v ∈ args.toList, Mentions v i) (hw : h.rw i₀ = true) (h0 : i₀ ∈ ids) : SmallW P args args₂ h (Go.Am.canonT [] es P.globals.size B) (preT P.globals.size [] ids) i₀ where
  view := viewW es hl hn hge fun j b i h1 h2 => ⟨(hB j b i h1 h2).1, (hB j b i h1 h2).2.1⟩
  rens := ⟨hr.1, fun i x y hx hy => .inl (hr.2 i x y hx hy)⟩
  born := fun j i e => by
    simp only [preT] at e
    split at e
    · exact .inr (hb i (List.mem_of_getElem? e))
    · simp at e
  ro := fun j i e hne => by
    simp only [preT] at e
    split at e
    · rename_i h1
      have h3 := (List.getElem?_eq_some_iff.1 e).1
      have hb' : B[j - P.globals.size]? = some B[j - P.globals.size] := List.getElem?_eq_getElem (by omega)
      simp only [AHeap.rw, canonT_get (T := []) rfl, if_pos h1, hb', Option.map_some, (hB _ _ i hb' e).2.2 hne]
      rfl
    · simp at e
  wr := hw
  there := by
    obtain ⟨j, hj⟩ := List.getElem?_of_mem h0
    refine ⟨P.globals.size + j, ?_⟩
    simp only [preT]
    rw [if_pos (by omega), show P.globals.size + j - P.globals.size = j by omega]
    exact hj
end
end Go.Am
