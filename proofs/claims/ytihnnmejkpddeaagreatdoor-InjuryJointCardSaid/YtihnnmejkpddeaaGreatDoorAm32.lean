/-
  OWN WORK. 'Am': functions whose arguments name blocks that name blocks (a slice of slices; a closure that has caught slices): what they return becomes known.
-/
import Derived.Test.YtihnnmejkpddeaaGreatDoorAmY
import Derived.Test.YtihnnmejkpddeaaGreatDoorAmV
namespace Go.Am
noncomputable section
section
variable {P : Program} {h h₂ : AHeap} {pre : Pre}
/-- As Small; a block may also be named by a cell of a block that an argument names. -/
structure SmallD (P : Program) (args args₂ : Array Value) (h h₂ : AHeap) (pre : Pre) : Prop where
  view : View P h h₂ pre
  rens : args.size = args₂.size ∧ ∀ (i : Nat) x y, args[i]? = some x → args₂[i]? = some y → Ren pre x y ∨ Empt h₂ pre x y
  born : ∀ j i, pre j = some i → (∃ v ∈ args.toList, Mentions v i) ∨ ∃ (i' : Nat) (c : List Value) (e : TypeId) (row : Nat) (ro : Bool) (v : Value), (∃ u ∈ args.toList, Mentions u i') ∧ h.get i' = some (.cells c e row ro) ∧ v ∈ c ∧ Mentions v i
  ro : ∀ j, (pre j).isSome = true → h₂.rw j = false
theorem SmallD.start {args args₂ : Array Value} (s : SmallD P args args₂ h h₂ pre) {ρ : Rho} {w : World} {args' : Array Value} (H : HRel ρ h w) (G : Globs P ρ) (hA : ARel (VRel ρ) args args') :
    HRel (viewRho ρ h₂.n pre) h₂ w ∧ Globs P (viewRho ρ h₂.n pre) ∧ ARel (VRel (viewRho ρ h₂.n pre)) args₂ args' ∧ ∀ b, ¬ Own (viewRho ρ h₂.n pre) h₂ b := by
  have first : ∀ i, (∃ v ∈ args.toList, Mentions v i) → ρ i ≠ .unborn := by
    rintro i ⟨v, hv, hm⟩ hu
    obtain ⟨n, hn⟩ := List.getElem?_of_mem hv
    have hn : args[n]? = some v := by rw [← Array.getElem?_toList]; exact hn
    have hlt : n < args'.size := by rw [← hA.1]; exact (Array.getElem?_eq_some_iff.1 hn).1
    exact hm.born (hA.2 n v args'[n] hn (Array.getElem?_eq_getElem hlt)) hu
  have A : Alive ρ pre := s.view.alive H fun j i hji => by
    rcases s.born j i hji with hv | ⟨i', c, e, row, ro, v, hi', hg, hv, hm⟩
    · exact first i hv
    · obtain ⟨g, hl⟩ := H.get_live hg (by simp) (first i' hi')
      obtain ⟨o, o', k1, _, k3⟩ := H.obj i' g hl
      rw [hg] at k1
      cases k1
      obtain ⟨d, fr, q1, q2, q3, q4, q5, q6⟩ := k3
      obtain ⟨n, hn⟩ := List.getElem?_of_mem hv
      obtain ⟨v', _, z2⟩ := q5 n v hn
      exact hm.born z2
  refine ⟨s.view.hrel H A, s.view.globs' G, ⟨s.rens.1 ▸ hA.1, fun i x y hx hy => ?_⟩, fun b ⟨j, g, hj, _, hr⟩ => ?_⟩
  · have hi : i < args.size := by rw [s.rens.1]; exact (Array.getElem?_eq_some_iff.1 hx).1
    have hv := hA.2 i args[i] y (Array.getElem?_eq_getElem hi) hy
    rcases s.rens.2 i args[i] x (Array.getElem?_eq_getElem hi) hx with r | r
    · exact r.vrel s.view hv
    · exact r.vrel s.view hv
  · obtain ⟨i, hp, _⟩ := viewRho_live hj
    rw [s.ro j (by rw [hp]; rfl)] at hr
    cases hr
theorem CallJ.plainD {f : FuncId} {args args₂ : Array Value} {res : Value} (hres : flat 3 res = true) (s : SmallD P args args₂ h h₂ pre) (hc : CallJ P f args₂ h₂ (fun v _ => v = res)) :
    ∀ ρ args' w, HRel ρ h w → Globs P ρ → ARel (VRel ρ) args args' → CallsIn (fence none) 0 P f args' w (CPost ρ h w res h) := by
  intro ρ args' w H G hA
  obtain ⟨H₂, G₂, A₂, own⟩ := s.start H G hA
  refine CallsIn.mono (hc _ args' w H₂ G₂ A₂) ?_
  rintro e w' ⟨v, v', h', ρ', rfl, rfl, hv, H', F⟩
  obtain rfl := VRel.flat_eq hres hv
  obtain ⟨k1, k2⟩ := F.still H own
  exact ⟨_, ρ, rfl, .flat hres, k1, k2⟩
theorem CallJ.freshD {f : FuncId} {args args₂ : Array Value} {xs : List Value} {el : TypeId} {row : Nat} (hxs : xs.all (flat 3) = true) (R : Nat → Value) (hR : ∀ r m, Ren (fun j => if j = m then some r else none) (R r) (R m)) (hMe : ∀ r ρ c, VRel ρ (R r) c → ρ r ≠ .unborn)
    (s : SmallD P args args₂ h h₂ pre) (hc : CallJ P f args₂ h₂ (fun v h' => ∃ r, v = R r ∧ h'.get r = some (.cells xs el row false))) :
    ∀ ρ args' w, HRel ρ h w → Globs P ρ → ARel (VRel ρ) args args' → CallsIn (fence none) 0 P f args' w (CPost ρ h w (R h.n) (h.push (.cells xs el row false))) := by
  intro ρ args' w H G hA
  obtain ⟨H₂, G₂, A₂, own⟩ := s.start H G hA
  refine CallsIn.mono (hc _ args' w H₂ G₂ A₂) ?_
  rintro e w' ⟨v, v', h', ρ', rfl, ⟨r, rfl, hget⟩, hv, H', F⟩
  obtain ⟨H₃, A₃⟩ := F.still H own
  obtain ⟨g, hg⟩ := H'.get_live hget (by simp) (hMe r ρ' _ hv)
  have hnew : w.heap.size ≤ g.b := by
    apply Nat.le_of_not_lt
    intro hlt
    exact own g.b (F.own g.b hlt ⟨r, g, hg, rfl, by simp [AHeap.rw, hget]⟩)
  obtain ⟨o, o', q1, q2, q3⟩ := H'.obj r g hg
  rw [hget] at q1
  cases q1
  have hun : ρ h.n = .unborn := H.bound h.n (Nat.le_refl _)
  let ρ₁ : Rho := fun i => if i = h.n then .live g else ρ i
  have hle : ρ.le ρ₁ := fun i => by
    simp only [ρ₁]
    by_cases e : i = h.n
    · rw [e, hun]; trivial
    · rw [if_neg e]; exact St.le_refl _
  have hlive : ∀ i q, ρ₁ i = .live q → (i = h.n ∧ q = g) ∨ (i ≠ h.n ∧ ρ i = .live q) := fun i q hi => by
    simp only [ρ₁] at hi
    by_cases e : i = h.n
    · rw [if_pos e] at hi; cases hi; exact .inl ⟨e, rfl⟩
    · rw [if_neg e] at hi; exact .inr ⟨e, hi⟩
  have V : View P h' (h.push (.cells xs el row false)) (fun j => if j = h.n then some r else none) → True := fun _ => trivial
  refine ⟨v', ρ₁, rfl, ?_, ⟨fun i hi => ?_, fun i j p q hi hj e hr => ?_, fun i p hi => ?_, fun i hi o ho => ?_⟩, ⟨hle, ?_, A₃.size, A₃.os, A₃.tape, A₃.output, A₃.kept, fun b hb o => ?_, fun i hi hu => ?_⟩⟩
  · -- the result under the new map
    have key : ∀ {x y c : Value}, Ren (fun j => if j = h.n then some r else none) x y → VRel ρ' x c → VRel ρ₁ y c := by
      intro x y c hr
      have hpre : ∀ {j i : Nat}, (if j = h.n then some r else (none : Option Nat)) = some i → ρ₁ j = .live g ∧ ρ' i = .live g := fun {j i} e => by
        split at e
        · rename_i e1
          cases e
          exact ⟨by simp only [ρ₁]; rw [if_pos e1], hg⟩
        · cases e
      induction hr generalizing c with
      | flat hf => intro k; rw [VRel.flat_eq hf k]; exact .flat hf
      | @slice i j o n k hp =>
        intro x
        obtain ⟨e1, e2⟩ := hpre hp
        obtain ⟨a', k', rfl, h1, h2, h3, h4⟩ := x.unfold
        refine .fold ⟨a', k', rfl, ?_, h2, h3, fun q hq => h4 q ?_⟩
        · unfold PRel at h1 ⊢
          simp only at h1 ⊢
          rw [e1]; rw [e2] at h1; exact h1
        · simp only at hq ⊢
          rw [e1] at hq; rw [e2]; exact hq
      | @ptr i j o hp =>
        intro x
        obtain ⟨e1, e2⟩ := hpre hp
        obtain ⟨a', rfl, h1⟩ := x.unfold
        refine .fold ⟨a', rfl, ?_⟩
        unfold PRel at h1 ⊢
        simp only at h1 ⊢
        rw [e1]; rw [e2] at h1; exact h1
      | @fn f =>
        intro x
        obtain ⟨fn', f', c', rfl, h0, h1, h2⟩ := x.unfold
        exact .fold ⟨fn', f', c', rfl, h0, ⟨h1.1, fun i x y hx _ => by simp at hx⟩, ⟨h2.1, fun i x y hx _ => by simp at hx⟩⟩
      | @agg l l₂ hl _ ih =>
        intro x
        obtain ⟨cs', rfl, h1, h2⟩ := x.unfold
        refine .fold ⟨cs', rfl, by simpa [hl] using h1, fun i x y hx hy => ?_⟩
        have hi : i < l.length := by
          rw [hl]
          have := (Array.getElem?_eq_some_iff.1 hx).1
          simpa using this
        exact ih i l[i] x (List.getElem?_eq_getElem hi) (by simpa using hx) (h2 i l[i] y (by simp [hi]) hy)
      | @tuple l l₂ hl _ ih =>
        intro x
        obtain ⟨cs', rfl, h1, h2⟩ := x.unfold
        refine .fold ⟨cs', rfl, by simpa [hl] using h1, fun i x y hx hy => ?_⟩
        have hi : i < l.length := by
          rw [hl]
          have := (Array.getElem?_eq_some_iff.1 hx).1
          simpa using this
        exact ih i l[i] x (List.getElem?_eq_getElem hi) (by simpa using hx) (h2 i l[i] y (by simp [hi]) hy)
      | @cl f l l₂ hl _ ih =>
        intro x
        obtain ⟨fn', f', c', rfl, h0, h1, h2⟩ := x.unfold
        refine .fold ⟨fn', f', c', rfl, h0, ⟨h1.1, fun i x y hx _ => by simp at hx⟩, ⟨by simpa [hl] using h2.1, fun i x y hx hy => ?_⟩⟩
        have hi : i < l.length := by
          rw [hl]
          have := (Array.getElem?_eq_some_iff.1 hx).1
          simpa using this
        exact ih i l[i] x (List.getElem?_eq_getElem hi) (by simpa using hx) (h2.2 i l[i] y (by simp [hi]) hy)
    exact key (hR r h.n) hv
  · have hi : h.n + 1 ≤ i := hi
    simp only [ρ₁]
    rw [if_neg (by omega)]
    exact H.bound i (by omega)
  · rcases hlive i p hi with ⟨e1, e2⟩ | ⟨e1, e2⟩ <;> rcases hlive j q hj with ⟨e3, e4⟩ | ⟨e3, e4⟩
    · rw [e1, e3]
    · subst e2
      have := H.lt e4
      omega
    · subst e4
      have := H.lt e2
      omega
    · exact H.inj i j p q e2 e4 e (by rwa [rw_push_live H e2] at hr)
  · rcases hlive i p hi with ⟨e1, e2⟩ | ⟨e1, e2⟩
    · subst e1 e2
      refine ⟨_, o', by rw [AHeap.get_push, if_pos rfl], q2, ?_⟩
      obtain ⟨d, fr, z1, z2, z3, z4, z5, z6⟩ := q3
      refine ⟨d, fr, z1, z2, z3, z4, fun j v hv => ?_, z6⟩
      obtain ⟨v', y1, y2⟩ := z5 j v hv
      have hfv := List.all_eq_true.1 hxs v (List.mem_of_getElem? hv)
      exact ⟨v', y1, by rw [VRel.flat_eq hfv y2]; exact .flat hfv⟩
    · obtain ⟨o₁, o₁', k1, k2, k3⟩ := H₃.obj i p e2
      refine ⟨o₁, o₁', by rw [AHeap.get_push, if_neg e1]; exact k1, k2, k3.mono hle⟩
  · simp only [ρ₁] at hi
    by_cases e : i = h.n
    · rw [if_pos e] at hi; cases hi
    · rw [if_neg e] at hi
      rw [AHeap.get_push, if_neg e] at ho
      exact H.dead i hi o ho
  · exact Nat.le_succ _
  · obtain ⟨i, p, hi, hb', hr⟩ := o
    rcases hlive i p hi with ⟨e1, e2⟩ | ⟨e1, e2⟩
    · subst e2; omega
    · refine ⟨i, p, e2, hb', ?_⟩
      simpa [AHeap.rw, AHeap.get_push, if_neg e1] using hr
  · simp only [ρ₁]
    rw [if_neg (by omega)]
    exact hu
theorem Out.callD {f : FuncId} {args args₂ : Array Value} {h h₂ : AHeap} {pre : Pre} {o : Out} (ho : o.Ok) (s : SmallD P args args₂ h h₂ pre) (hc : CallJ P f args₂ h₂ o.Got) :
    ∀ ρ args' w, HRel ρ h w → Globs P ρ → ARel (VRel ρ) args args' → CallsIn (fence none) 0 P f args' w (CPost ρ h w (o.val h.n) (o.heap h)) := by
  cases o with
  | plain v => exact CallJ.plainD ho s hc
  | fresh mk xs el => exact CallJ.freshD ho.2 mk ho.1.ren ho.1.born s hc
  | wide mk xs el row => exact CallJ.freshD ho.2 mk ho.1.ren ho.1.born s hc
end
/-- The blocks that the arguments name; then those that these name. -/
def namedD (C : List Cells) : List Nat := addIds [] (C.flatMap fun b => b.1.flatMap named)
def renB (n : Nat) (ids : List Nat) (b : Cells) : Option Cells := match amapM (renV n ids) b.1 with
  | some c => some (c, b.2)
  | none => none
def viewD (n : Nat) (vs : List Value) (h : AHeap) : Option (List Value × List Cells × List Cells) :=
  match amapM (blkB h) (idsA vs) with
  | some C => match (idsA vs ++ namedD C).all (Nat.ble n) && (namedD C).all (fun j => !((idsA vs).any (Nat.beq j))), amapM (renA n (idsA vs ++ namedD C)) vs, amapM (renB n (idsA vs ++ namedD C)) C, amapM (blkB h) (namedD C) with
    | true, some us, some B, some B₂ => some (us, B, B₂)
    | _, _, _, _ => none
  | none => none
def anyD (n : Nat) (X : List Value → List Cells → List Cells → Option Out) : Array Value → AHeap → Option (Value × AHeap) := fun args h => match viewD n args.toList h with
  | some (vs, B, B₂) => match flatB B₂, X vs B B₂ with
    | true, some o => some (o.val h.n, o.heap h)
    | _, _ => none
  | none => none
def asksD (n : Nat) (f : FuncId) (Y : List Value → List Cells → List Cells → (Out → Prop) → Prop) (A : Asks) : Asks := fun f' args h k => match Nat.beq f f' with
  | true => match viewD n args.toList h with
    | some (vs, B, B₂) => flatP B₂ ∧ Y vs B B₂ fun o => o.kont h k
    | none => False
  | false => A f' args h k
theorem asksD_ok {n : Nat} {f : FuncId} {X : List Value → List Cells → List Cells → Option Out} {Y : List Value → List Cells → List Cells → (Out → Prop) → Prop} (hY : ∀ vs B B₂ K, Y vs B B₂ K → ∃ o, X vs B B₂ = some o ∧ K o) {A : Asks} {orc : Orc} (hA : AsksOk orc A) : AsksOk (orElse f (anyD n X) orc) (asksD n f Y A) := by
  intro f' args h k hk
  unfold asksD at hk
  split at hk
  · rename_i hf
    split at hk
    · rename_i vs B B₂ hv
      obtain ⟨hB, hk⟩ := hk
      obtain ⟨o, hX, hq⟩ := hY _ _ _ _ hk
      rw [o.kont_iff] at hq
      refine ⟨_, _, ?_, hq⟩
      have : anyD n X args h = some (o.val h.n, o.heap h) := by
        unfold anyD
        rw [hv]
        simp only [flatP_iff hB, hX]
      simp only [orElse, hf, this]
    · exact hk.elim
  · rename_i hf
    obtain ⟨v, h', e, q⟩ := hA f' args h k hk
    exact ⟨v, h', by simp only [orElse, hf, e], q⟩
theorem SmallD.canon {P : Program} {h : AHeap} {args args₂ : Array Value} {B : List Cells} {ids : List Nat} (hl : ids.length = B.length) (hn : ids.Nodup)
    (hB : ∀ (j : Nat) b i, B[j]? = some b → ids[j]? = some i → ∃ c ro, h.get i = some (.cells c b.2.1 b.2.2 ro) ∧ b.1.length = c.length ∧ ∀ (q : Nat) x y, c[q]? = some x → b.1[q]? = some y → Ren (preOf P.globals.size ids) x y)
    (hr : args.size = args₂.size ∧ ∀ (i : Nat) x y, args[i]? = some x → args₂[i]? = some y → Ren (preOf P.globals.size ids) x y ∨ Empt (Go.Am.canon P B) (preOf P.globals.size ids) x y)
    (hb : ∀ i ∈ ids, (∃ v ∈ args.toList, Mentions v i) ∨ ∃ (i' : Nat) (c : List Value) (e : TypeId) (row : Nat) (ro : Bool) (v : Value), (∃ u ∈ args.toList, Mentions u i') ∧ h.get i' = some (.cells c e row ro) ∧ v ∈ c ∧ Mentions v i) : SmallD P args args₂ h (Go.Am.canon P B) (preOf P.globals.size ids) where
  view := by
    refine ⟨fun j i e => ?_, fun j j' i e e' => ?_, fun j i e => ?_, fun j e hj o ho => ?_, fun g hg => ?_⟩
    · simp only [preOf] at e
      split at e
      · have := (List.getElem?_eq_some_iff.1 e).1
        rw [canon_n]
        omega
      · cases e
    · simp only [preOf] at e e'
      split at e
      · split at e'
        · have h1 := (List.getElem?_eq_some_iff.1 e).1
          have := (List.getElem?_inj h1 hn).1 (e.trans e'.symm)
          omega
        · cases e'
      · cases e
    · have e0 := e
      simp only [preOf] at e
      split at e
      · rename_i hge
        have h1 := (List.getElem?_eq_some_iff.1 e).1
        have hb' : B[j - P.globals.size]? = some B[j - P.globals.size] := List.getElem?_eq_getElem (by omega)
        obtain ⟨c, ro, h2, h3, h4⟩ := hB _ _ i hb' e
        exact ⟨_, .cells B[j - P.globals.size].1 B[j - P.globals.size].2.1 B[j - P.globals.size].2.2 true, h2, by rw [canon_get, if_pos hge, hb']; rfl, h3, rfl, rfl, h4, fun _ => rfl⟩
      · cases e
    · rw [canon_get] at ho
      split at ho
      · rename_i hge
        rw [canon_n] at hj
        simp only [preOf, if_pos hge] at e
        rw [List.getElem?_eq_none_iff] at e
        omega
      · cases ho
    · refine ⟨by rw [canon_n]; omega, .inl ?_⟩
      simp only [preOf]
      rw [if_neg (by omega)]
  rens := hr
  born := fun j i e => by
    simp only [preOf] at e
    split at e
    · exact hb i (List.mem_of_getElem? e)
    · cases e
  ro := fun j e => by
    simp only [AHeap.rw, canon_get]
    simp only [preOf] at e
    split at e
    · rename_i hge
      rw [if_pos hge]
      obtain ⟨i, hi⟩ := Option.isSome_iff_exists.1 e
      have h1 := (List.getElem?_eq_some_iff.1 hi).1
      have hb' : B[j - P.globals.size]? = some B[j - P.globals.size] := List.getElem?_eq_getElem (by omega)
      rw [hb']
      rfl
    · cases e
/-- A cell, under the new numbers. -/
theorem renV_of {n : Nat} {ids : List Nat} {v u : Value} (e : renV n ids v = some u) : Ren (preOf n ids) v u := by
  rw [← pre_same]; exact renV_spec e
theorem renA_of {P : Program} {B : List Cells} {ids : List Nat} {v u : Value} (hP : 0 < P.globals.size) (e : renA P.globals.size ids v = some u) : Ren (preOf P.globals.size ids) v u ∨ Empt (canon P B) (preOf P.globals.size ids) v u := renA_spec hP e
theorem anyD_ok {P : Program} {f : FuncId} {X : List Value → List Cells → List Cells → Option Out} {orc : Orc} (hP : 0 < P.globals.size) (ho : OrcOk P orc)
    (hX : ∀ vs B B₂ o, X vs B B₂ = some o → flatB B₂ = true → o.Ok ∧ CallJ P f vs.toArray (canon P (B ++ B₂)) o.Got) : OrcOk P (orElse f (anyD P.globals.size X) orc) := by
  refine orElse_ok ho fun args h v h' hk => ?_
  unfold anyD at hk
  split at hk
  · rename_i vs B B₂ hv
    split at hk
    · rename_i o hB ho'
      cases hk
      obtain ⟨h1, h2⟩ := hX vs B B₂ o ho' hB
      unfold viewD at hv
      split at hv
      · rename_i C hC
        generalize hJ : namedD C = J at hv
        generalize hI : idsA args.toList = I at hv hC
        split at hv
        · rename_i us B' B₂' hge hr hb hb2
          cases hv
          rw [Bool.and_eq_true] at hge
          obtain ⟨r1, r2⟩ := amapM_spec hr
          obtain ⟨b1, b2⟩ := amapM_spec hb
          obtain ⟨c1, c2⟩ := amapM_spec hC
          obtain ⟨d1, d2⟩ := amapM_spec hb2
          obtain ⟨i1, i2⟩ := addIds_spec (args.toList.flatMap namedA) [] (by simp)
          obtain ⟨j1, j2⟩ := addIds_spec (C.flatMap fun b => b.1.flatMap named) [] (by simp)
          have hI' : addIds [] (args.toList.flatMap namedA) = I := hI
          have hJ' : addIds [] (C.flatMap fun b => b.1.flatMap named) = J := hJ
          rw [hI'] at i1 i2
          rw [hJ'] at j1 j2
          have hn : (I ++ J).Nodup := by
            rw [List.nodup_append]
            refine ⟨i1, j1, fun a ha b hb e => ?_⟩
            subst e
            have q := List.all_eq_true.1 hge.2 a hb
            rw [show I.any (Nat.beq a) = true from List.any_eq_true.2 ⟨a, ha, Nat.beq_refl a⟩] at q
            cases q
          have hl : (I ++ J).length = (B ++ B₂).length := by
            rw [List.length_append, List.length_append]; omega
          have argI : ∀ i ∈ I, ∃ v ∈ args.toList, Mentions v i := fun i hi => by
            rcases i2 i hi with hi | hi
            · cases hi
            · obtain ⟨v, hv', hi⟩ := List.mem_flatMap.1 hi
              exact ⟨v, hv', namedA_spec hi⟩
          have blk : ∀ {i : Nat} {b : Cells}, blkB h i = some b → ∃ ro, h.get i = some (.cells b.1 b.2.1 b.2.2 ro) := fun {i b} hq => by
            unfold blkB at hq
            split at hq
            · rename_i c e row ro hg
              cases hq
              exact ⟨ro, hg⟩
            · cases hq
          have s : SmallD P args vs.toArray h (canon P (B ++ B₂)) (preOf P.globals.size (I ++ J)) := by
            refine SmallD.canon hl hn (fun j b i hbj hij => ?_) ⟨?_, fun i x y hx hy => ?_⟩ (fun i hi => ?_)
            · by_cases hjI : j < I.length
              · rw [List.getElem?_append_left hjI] at hij
                rw [List.getElem?_append_left (by omega)] at hbj
                have hCj : C[j]? = some C[j] := List.getElem?_eq_getElem (by omega)
                obtain ⟨ro, hg⟩ := blk (c2 j i _ hij hCj)
                have hq := b2 j _ b hCj hbj
                unfold renB at hq
                split at hq
                · rename_i c' hc'
                  cases hq
                  obtain ⟨e1, e2⟩ := amapM_spec hc'
                  exact ⟨_, ro, hg, e1.symm, fun q x y hx hy => renV_of (e2 q x y hx hy)⟩
                · cases hq
              · rw [List.getElem?_append_right (by omega)] at hij
                rw [List.getElem?_append_right (by omega)] at hbj
                rw [show j - B.length = j - I.length by omega] at hbj
                obtain ⟨ro, hg⟩ := blk (d2 _ i b hij hbj)
                exact ⟨_, ro, hg, rfl, flat_ren (List.all_eq_true.1 hB _ (List.mem_of_getElem? hbj))⟩
            · rw [← Array.length_toList, r1]; simp
            · exact renA_of hP (r2 i x y (by rw [Array.getElem?_toList]; exact hx) (by simpa using hy))
            · rcases List.mem_append.1 hi with hi | hi
              · exact .inl (argI i hi)
              · rcases j2 i hi with hi | hi
                · cases hi
                · obtain ⟨b, hbC, hi⟩ := List.mem_flatMap.1 hi
                  obtain ⟨v, hv', hi⟩ := List.mem_flatMap.1 hi
                  obtain ⟨q, hq⟩ := List.getElem?_of_mem hbC
                  have hlt := (List.getElem?_eq_some_iff.1 hq).1
                  have hIq : I[q]? = some I[q] := List.getElem?_eq_getElem (by omega)
                  obtain ⟨ro, hg⟩ := blk (c2 q _ b hIq hq)
                  exact .inr ⟨I[q], b.1, b.2.1, b.2.2, ro, v, argI _ (List.getElem_mem _), hg, hv', named_spec hi⟩
          exact Out.callD h1 s h2
        · cases hv
      · cases hv
    · cases hk
  · cases hk
end
end Go.Am
