/-
  OWN WORK. 'Am': functions that give a map, or end with marks; blocks that name blocks.
-/
import Derived.Test.YtihnnmejkpddeaaGreatDoorAmY
import Derived.Test.YtihnnmejkpddeaaGreatDoorAmV
/-! (OWN WORK. 'Am': functions that give a new map; loops whose heap is told as a whole.) -/
namespace Go.Am
noncomputable section
section
variable {P : Program} {h h₂ : AHeap} {pre : Pre}
theorem CallJ.freshMp {f : FuncId} {args args₂ : Array Value} {es : List MapEntry} {ck : Nat} (hes : ∀ e ∈ es, flat 3 e.val = true)
  (s : Small P args args₂ h h₂ pre) (hc : CallJ P f args₂ h₂ (fun v h' => ∃ r, v = .map (some r) ∧ h'.get r = some (.map es ck))) :
  ∀ ρ args' w, HRel ρ h w → Globs P ρ → ARel (VRel ρ) args args' → CallsIn (fence none) 0 P f args' w (CPost ρ h w (.map (some h.n)) (h.push (.map es ck))) := by
 intro ρ args' w H G hA
 obtain ⟨H₂, G₂, A₂, own⟩ := s.start H G hA
 refine CallsIn.mono (hc _ args' w H₂ G₂ A₂) ?_
 rintro e w' ⟨v, v', h', ρ', rfl, ⟨r, rfl, hget⟩, hv, H', F⟩
 obtain ⟨H₃, A₃⟩ := F.still H own
 obtain ⟨g, hg⟩ := H'.get_live hget (by simp) (by obtain ⟨r', _, hb⟩ := hv.unfold; exact hb.born)
 have hnew : w.heap.size ≤ g.b := by
  apply Nat.le_of_not_lt
  intro hlt
  exact own g.b (F.own g.b hlt ⟨r, g, hg, rfl, by simp [AHeap.rw, hget]⟩)
 obtain ⟨o, o', q1, q2, q3⟩ := H'.obj r g hg
 rw [hget] at q1
 cases q1
 have hun : ρ h.n = .unborn := H.bound h.n (Nat.le_refl _)
 let ρ₁ : Rho := fun i => if i = h.n then .live g else ρ i
 have hle : ρ.le ρ₁ := fun i => by
  simp only [ρ₁]
  by_cases e : i = h.n
  ·rw [e, hun]; trivial
  ·rw [if_neg e]; exact St.le_refl _
 have hlive : ∀ i q, ρ₁ i = .live q → (i = h.n ∧ q = g) ∨ (i ≠ h.n ∧ ρ i = .live q) := fun i q hi => by
  simp only [ρ₁] at hi
  by_cases e : i = h.n
  ·rw [if_pos e] at hi; cases hi; exact .inl ⟨e, rfl⟩
  ·rw [if_neg e] at hi; exact .inr ⟨e, hi⟩
 refine ⟨v', ρ₁, rfl, ?_, ⟨fun i hi => ?_, fun i j p q hi hj e hr => ?_, fun i p hi => ?_, fun i hi o ho => ?_⟩, ⟨hle, ?_, A₃.size, A₃.os, A₃.tape, A₃.output, A₃.kept, fun b hb o => ?_, fun i hi hu => ?_⟩⟩
 ·-- the result under the new map
  have key : ∀ {x y c : Value}, Ren (fun j => if j = h.n then some r else none) x y → VRel ρ' x c → VRel ρ₁ y c := by
   intro x y c hr
   have hpre : ∀ {j i : Nat}, (if j = h.n then some r else (none : Option Nat)) = some i → ρ₁ j = .live g ∧ ρ' i = .live g := fun {j i} e => by
    split at e
    ·rename_i e1
     cases e
     exact ⟨by simp only [ρ₁]; rw [if_pos e1], hg⟩
    ·cases e
   induction hr generalizing c with
   | flat hf => intro k; rw [VRel.flat_eq hf k]; exact .flat hf
   | @slice i j o n k hp =>
    intro x
    obtain ⟨e1, e2⟩ := hpre hp
    obtain ⟨a', k', rfl, h1, h2, h3, h4⟩ := x.unfold
    refine .fold ⟨a', k', rfl, ?_, h2, h3, fun q hq => h4 q ?_⟩
    ·unfold PRel at h1 ⊢
     simp only at h1 ⊢
     rw [e1]; rw [e2] at h1; exact h1
    ·simp only at hq ⊢
     rw [e1] at hq; rw [e2]; exact hq
   | @ptr i j o hp =>
    intro x
    obtain ⟨e1, e2⟩ := hpre hp
    obtain ⟨a', rfl, h1⟩ := x.unfold
    refine .fold ⟨a', rfl, ?_⟩
    unfold PRel at h1 ⊢
    simp only at h1 ⊢
    rw [e1]; rw [e2] at h1; exact h1
   | @fn f =>
    intro x
    obtain ⟨fn', f', c', rfl, h0, h1, h2⟩ := x.unfold
    exact .fold ⟨fn', f', c', rfl, h0, ⟨h1.1, fun i x y hx _ => by simp at hx⟩, ⟨h2.1, fun i x y hx _ => by simp at hx⟩⟩
   | @agg l l₂ hl _ ih =>
    intro x
    obtain ⟨cs', rfl, h1, h2⟩ := x.unfold
    refine .fold ⟨cs', rfl, by simpa [hl] using h1, fun i x y hx hy => ?_⟩
    have hi : i < l.length := by
     rw [hl]
     have := (Array.getElem?_eq_some_iff.1 hx).1
     simpa using this
    exact ih i l[i] x (List.getElem?_eq_getElem hi) (by simpa using hx) (h2 i l[i] y (by simp [hi]) hy)
   | @tuple l l₂ hl _ ih =>
    intro x
    obtain ⟨cs', rfl, h1, h2⟩ := x.unfold
    refine .fold ⟨cs', rfl, by simpa [hl] using h1, fun i x y hx hy => ?_⟩
    have hi : i < l.length := by
     rw [hl]
     have := (Array.getElem?_eq_some_iff.1 hx).1
     simpa using this
    exact ih i l[i] x (List.getElem?_eq_getElem hi) (by simpa using hx) (h2 i l[i] y (by simp [hi]) hy)
   | @cl f l l₂ hl _ ih =>
    intro x
    obtain ⟨fn', f', c', rfl, h0, h1, h2⟩ := x.unfold
    refine .fold ⟨fn', f', c', rfl, h0, ⟨h1.1, fun i x y hx _ => by simp at hx⟩, ⟨by simpa [hl] using h2.1, fun i x y hx hy => ?_⟩⟩
    have hi : i < l.length := by
     rw [hl]
     have := (Array.getElem?_eq_some_iff.1 hx).1
     simpa using this
    exact ih i l[i] x (List.getElem?_eq_getElem hi) (by simpa using hx) (h2.2 i l[i] y (by simp [hi]) hy)
   | @mp i j hp =>
    intro x
    obtain ⟨e1, e2⟩ := hpre hp
    obtain ⟨r', rfl, h1⟩ := x.unfold
    refine .fold ⟨r', rfl, ?_⟩
    unfold BRel at h1 ⊢
    rw [e1]; rw [e2] at h1; exact h1
  exact key (.mp (by simp)) hv
 ·have hi : h.n + 1 ≤ i := hi
  simp only [ρ₁]
  rw [if_neg (by omega)]
  exact H.bound i (by omega)
 ·rcases hlive i p hi with ⟨e1, e2⟩ | ⟨e1, e2⟩ <;> rcases hlive j q hj with ⟨e3, e4⟩ | ⟨e3, e4⟩
  ·rw [e1, e3]
  ·subst e2
   have := H.lt e4
   omega
  ·subst e4
   have := H.lt e2
   omega
  ·exact H.inj i j p q e2 e4 e (by rwa [rw_push_live H e2] at hr)
 ·rcases hlive i p hi with ⟨e1, e2⟩ | ⟨e1, e2⟩
  ·subst e1 e2
   refine ⟨_, o', by rw [AHeap.get_push, if_pos rfl], q2, ?_⟩
   obtain ⟨d, z1, z2, z3⟩ := q3
   refine ⟨d, z1, z2, fun j e e' ha hb => ?_⟩
   obtain ⟨y1, y2, y3, y4⟩ := z3 j e e' ha hb
   have hfv := hes e (List.mem_of_getElem? ha)
   exact ⟨y1, y2, y3, by rw [VRel.flat_eq hfv y4]; exact .flat hfv⟩
  ·obtain ⟨o₁, o₁', k1, k2, k3⟩ := H₃.obj i p e2
   refine ⟨o₁, o₁', by rw [AHeap.get_push, if_neg e1]; exact k1, k2, k3.mono hle⟩
 ·simp only [ρ₁] at hi
  by_cases e : i = h.n
  ·rw [if_pos e] at hi; cases hi
  ·rw [if_neg e] at hi
   rw [AHeap.get_push, if_neg e] at ho
   exact H.dead i hi o ho
 ·exact Nat.le_succ _
 ·obtain ⟨i, p, hi, hb', hr⟩ := o
  rcases hlive i p hi with ⟨e1, e2⟩ | ⟨e1, e2⟩
  ·subst e2; omega
  ·refine ⟨i, p, e2, hb', ?_⟩
   simpa [AHeap.rw, AHeap.get_push, if_neg e1] using hr
 ·simp only [ρ₁]
  rw [if_neg (by omega)]
  exact hu
end
def anyMp (n : Nat) (X : List Value → List Cells → Option (List MapEntry × Nat)) : Array Value → AHeap → Option (Value × AHeap) := fun args h => match viewA n args.toList h with
 | some (vs, B) => match flatB B, X vs B with
  | true, some o => some (.map (some h.n), h.push (.map o.1 o.2))
  | _, _ => none
 | none => none
def asksMp (n : Nat) (f : FuncId) (Y : List Value → List Cells → (List MapEntry → Nat → Prop) → Prop) (A : Asks) : Asks := fun f' args h k => match Nat.beq f f' with
 | true => match viewA n args.toList h with
  | some (vs, B) => flatP B ∧ Y vs B fun es ck => k (.map (some h.n)) (h.push (.map es ck))
  | none => False
 | false => A f' args h k
theorem asksMp_ok {n : Nat} {f : FuncId} {X : List Value → List Cells → Option (List MapEntry × Nat)} {Y : List Value → List Cells → (List MapEntry → Nat → Prop) → Prop} (hY : ∀ vs B K, Y vs B K → ∃ o, X vs B = some o ∧ K o.1 o.2) {A : Asks} {orc : Orc} (hA : AsksOk orc A) : AsksOk (orElse f (anyMp n X) orc) (asksMp n f Y A) := by
 intro f' args h k hk
 unfold asksMp at hk
 split at hk
 ·rename_i hf
  split at hk
  ·rename_i vs B hv
   obtain ⟨hB, hk⟩ := hk
   obtain ⟨o, hX, hq⟩ := hY _ _ _ hk
   refine ⟨_, _, ?_, hq⟩
   have : anyMp n X args h = some (.map (some h.n), h.push (.map o.1 o.2)) := by
    unfold anyMp
    rw [hv]
    simp only [flatP_iff hB, hX]
   simp only [orElse, hf, this]
  ·exact hk.elim
 ·rename_i hf
  obtain ⟨v, h', e, q⟩ := hA f' args h k hk
  exact ⟨v, h', by simp only [orElse, hf, e], q⟩
theorem anyMp_ok {P : Program} {f : FuncId} {X : List Value → List Cells → Option (List MapEntry × Nat)} {orc : Orc} (hP : 0 < P.globals.size) (ho : OrcOk P orc)
  (hX : ∀ vs B o, X vs B = some o → flatB B = true → (∀ e ∈ o.1, flat 3 e.val = true) ∧ CallJ P f vs.toArray (canon P B) (fun v h' => ∃ r, v = .map (some r) ∧ h'.get r = some (.map o.1 o.2))) : OrcOk P (orElse f (anyMp P.globals.size X) orc) := by
 refine orElse_ok ho fun args h v h' hk => ?_
 unfold anyMp at hk
 split at hk
 ·rename_i vs B hv
  split at hk
  ·rename_i o hB ho'
   cases hk
   obtain ⟨h1, h2⟩ := hX vs B o ho' hB
   unfold viewA at hv
   split at hv
   ·rename_i us B' hge hr hb
    cases hv
    obtain ⟨r1, r2⟩ := amapM_spec hr
    obtain ⟨b1, b2⟩ := amapM_spec hb
    obtain ⟨i1, i2⟩ := addIds_spec (args.toList.flatMap namedA) [] (by simp)
    have s : Small P args vs.toArray h (canon P B) (preOf P.globals.size (idsA args.toList)) := by
     refine Small.canonE b1 i1 (fun j b i hbj hij => ?_) ⟨?_, fun i x y hx hy => ?_⟩ (fun i hi => ?_)
     ·have hq := b2 j i b hij hbj
      unfold blkB at hq
      split at hq
      ·rename_i c e row ro hg
       cases hq
       refine ⟨⟨ro, hg⟩, ?_⟩
       exact List.all_eq_true.1 hB _ (List.mem_of_getElem? hbj)
      ·cases hq
     ·rw [← Array.length_toList, r1]; simp
     ·exact renA_spec hP (r2 i x y (by rw [Array.getElem?_toList]; exact hx) (by simpa using hy))
     ·rcases i2 i hi with hi | hi
      ·cases hi
      ·obtain ⟨v, hv', hi⟩ := List.mem_flatMap.1 hi
       exact ⟨v, hv', namedA_spec hi⟩
    exact CallJ.freshMp h1 s h2
   ·cases hv
  ·cases hk
 ·cases hk
section
variable {P : Program}
theorem heap_rule {n : Nat} {ts : List Nat} {body : Code} (H : Nat → AHeap) (V : Nat → List Value) (I : Nat → Prop) (m : Nat) (hI : I 0) (Out : Exit → List Value → AHeap → Prop)
  (step : ∀ j, j < m → I j → ∀ g, J P body (stOf n (ts.zip (V j)) g) (H j) (told n ts fun ex vs h => match ex with
   | .normal => I (j + 1) ∧ vs = V (j + 1) ∧ h = H (j + 1)
   | ex => Out ex vs h))
  (last : I m → ∀ g, J P body (stOf n (ts.zip (V m)) g) (H m) (told n ts fun ex vs h => match ex with
   | .normal => False
   | ex => Out ex vs h)) :
  ∀ a, a.n = n → a.marks = [] → ts.map a.tmp = V 0 → J P (.loop body) a (H 0) (told n ts Out) := by
 intro a ha hm hv
 refine loop_rule (fun q vs h => ∃ j, j ≤ m ∧ q = m - j ∧ I j ∧ vs = V j ∧ h = H j) Out ?_ m _ (H 0) a ⟨0, Nat.zero_le _, rfl, hI, hv, rfl⟩ ha hm rfl
 rintro q vs h g ⟨j, hj, rfl, hIj, rfl, rfl⟩
 by_cases hjm : j < m
 ·refine (step j hjm hIj g).mono fun ex a' h' q => ?_
  obtain ⟨q1, q2, q3⟩ := told_facts q
  simp only [told, q1, q2, Nat.beq_refl]
  cases ex with
  | normal => exact (⟨m - (j + 1), by omega, j + 1, by omega, rfl, q3.1, q3.2.1, q3.2.2⟩)
  | _ => simpa using q3
 ·obtain rfl : j = m := by omega
  refine (last hIj g).mono fun ex a' h' q => ?_
  obtain ⟨q1, q2, q3⟩ := told_facts q
  simp only [told, q1, q2]
  cases ex with
  | normal => exact q3.elim
  | _ => simpa using q3
end
end
end Go.Am
/-! (OWN WORK. 'Am': calls that end with marks, and whose results lie in the heap.) -/
namespace Go.Am
noncomputable section
variable {P : Program} {a : AAct} {h : AHeap}
def finS (P : Program) (fn : Func) (K : Value → AHeap → Prop) : Post := fun e a h =>
 match e with
 | .normal => match shutMarks h a.marks with
  | some h'' => match aresult P fn a h'' with
   | some v => K v h''
   | none => False
  | none => False
 | .ret => match shutMarks h a.marks with
  | some h'' => match aresult P fn a h'' with
   | some v => K v h''
   | none => False
  | none => False
 | _ => False
theorem finS_M {fn : Func} {K : Value → AHeap → Prop} {e : Exit} (hx : finS P fn K e a h) : finM P fn K e a h := by
 unfold finS at hx
 unfold finM
 split at hx
 ·split at hx
  ·rename_i h'' hs; exact ⟨h'', hs, hx⟩
  ·exact hx.elim
 ·split at hx
  ·rename_i h'' hs; exact ⟨h'', hs, hx⟩
  ·exact hx.elim
 ·exact hx.elim
def callS (P : Program) (ex : Ex) (sy : Sy) (pc : Asks) (L : Loops P) (n : Nat) (f : FuncId) (args : Array Value) (h : AHeap) (K : Value → AHeap → Prop) : Prop :=
 match P.funcs[f]? with
 | some fn => match fn.body with
  | some c => match Nat.ble args.size fn.ntmps with
   | true => execC P ex sy pc L n c (enterAct fn.ntmps args.toList) h (finS P fn K)
   | false => False
  | none => False
 | none => False
theorem callS_ok {orc : Orc} (hm : P.follows .mixedOrders = true) (ho : OrcOk P orc) {m : Nat} {sy : Sy} {pc : Asks} (hpc : AsksOk orc pc) {L : Loops P} {n : Nat} {f : FuncId} {args : Array Value} {K : Value → AHeap → Prop} (hk : callS P (exec P orc m) sy pc L n f args h K) : CallJ P f args h K := by
 unfold callS at hk
 split at hk
 ·rename_i fn hfn
  split at hk
  ·rename_i c hc
   split at hk
   ·rename_i hs
    exact CallJ.of_bodyM hfn hc (by simpa [Nat.ble_eq] using hs) ((execC_ok hm ho hpc L hk).mono fun _ _ _ q => finS_M q)
   ·exact hk.elim
  ·exact hk.elim
 ·exact hk.elim
end
end Go.Am
/-! (OWN WORK. 'Am': functions whose arguments name blocks that name blocks (a slice of slices; a closure that has caught slices): what they return becomes known.) -/
namespace Go.Am
noncomputable section
section
variable {P : Program} {h h₂ : AHeap} {pre : Pre}
structure SmallD (P : Program) (args args₂ : Array Value) (h h₂ : AHeap) (pre : Pre) : Prop where
 view : View P h h₂ pre
 rens : args.size = args₂.size ∧ ∀ (i : Nat) x y, args[i]? = some x → args₂[i]? = some y → Ren pre x y ∨ Empt h₂ pre x y
 born : ∀ j i, pre j = some i → (∃ v ∈ args.toList, Mentions v i) ∨ ∃ (i' : Nat) (c : List Value) (e : TypeId) (row : Nat) (ro : Bool) (v : Value), (∃ u ∈ args.toList, Mentions u i') ∧ h.get i' = some (.cells c e row ro) ∧ v ∈ c ∧ Mentions v i
 ro : ∀ j, (pre j).isSome = true → h₂.rw j = false
theorem SmallD.start {args args₂ : Array Value} (s : SmallD P args args₂ h h₂ pre) {ρ : Rho} {w : World} {args' : Array Value} (H : HRel ρ h w) (G : Globs P ρ) (hA : ARel (VRel ρ) args args') :
  HRel (viewRho ρ h₂.n pre) h₂ w ∧ Globs P (viewRho ρ h₂.n pre) ∧ ARel (VRel (viewRho ρ h₂.n pre)) args₂ args' ∧ ∀ b, ¬ Own (viewRho ρ h₂.n pre) h₂ b := by
 have first : ∀ i, (∃ v ∈ args.toList, Mentions v i) → ρ i ≠ .unborn := by
  rintro i ⟨v, hv, hm⟩ hu
  obtain ⟨n, hn⟩ := List.getElem?_of_mem hv
  have hn : args[n]? = some v := by rw [← Array.getElem?_toList]; exact hn
  have hlt : n < args'.size := by rw [← hA.1]; exact (Array.getElem?_eq_some_iff.1 hn).1
  exact hm.born (hA.2 n v args'[n] hn (Array.getElem?_eq_getElem hlt)) hu
 have A : Alive ρ pre := s.view.alive H fun j i hji => by
  rcases s.born j i hji with hv | ⟨i', c, e, row, ro, v, hi', hg, hv, hm⟩
  ·exact first i hv
  ·obtain ⟨g, hl⟩ := H.get_live hg (by simp) (first i' hi')
   obtain ⟨o, o', k1, _, k3⟩ := H.obj i' g hl
   rw [hg] at k1
   cases k1
   obtain ⟨d, fr, q1, q2, q3, q4, q5, q6⟩ := k3
   obtain ⟨n, hn⟩ := List.getElem?_of_mem hv
   obtain ⟨v', _, z2⟩ := q5 n v hn
   exact hm.born z2
 refine ⟨s.view.hrel H A, s.view.globs' G, ⟨s.rens.1 ▸ hA.1, fun i x y hx hy => ?_⟩, fun b ⟨j, g, hj, _, hr⟩ => ?_⟩
 ·have hi : i < args.size := by rw [s.rens.1]; exact (Array.getElem?_eq_some_iff.1 hx).1
  have hv := hA.2 i args[i] y (Array.getElem?_eq_getElem hi) hy
  rcases s.rens.2 i args[i] x (Array.getElem?_eq_getElem hi) hx with r | r
  ·exact r.vrel s.view hv
  ·exact r.vrel s.view hv
 ·obtain ⟨i, hp, _⟩ := viewRho_live hj
  rw [s.ro j (by rw [hp]; rfl)] at hr
  cases hr
end
def namedD (C : List Cells) : List Nat := addIds [] (C.flatMap fun b => b.1.flatMap named)
def renB (n : Nat) (ids : List Nat) (b : Cells) : Option Cells := match amapM (renV n ids) b.1 with
 | some c => some (c, b.2)
 | none => none
def viewD (n : Nat) (vs : List Value) (h : AHeap) : Option (List Value × List Cells × List Cells) :=
 match amapM (blkB h) (idsA vs) with
 | some C => match (idsA vs ++ namedD C).all (Nat.ble n) && (namedD C).all (fun j => !((idsA vs).any (Nat.beq j))), amapM (renA n (idsA vs ++ namedD C)) vs, amapM (renB n (idsA vs ++ namedD C)) C, amapM (blkB h) (namedD C) with
  | true, some us, some B, some B₂ => some (us, B, B₂)
  | _, _, _, _ => none
 | none => none
def anyD (n : Nat) (X : List Value → List Cells → List Cells → Option Out) : Array Value → AHeap → Option (Value × AHeap) := fun args h => match viewD n args.toList h with
 | some (vs, B, B₂) => match flatB B₂, X vs B B₂ with
  | true, some o => some (o.val h.n, o.heap h)
  | _, _ => none
 | none => none
def asksD (n : Nat) (f : FuncId) (Y : List Value → List Cells → List Cells → (Out → Prop) → Prop) (A : Asks) : Asks := fun f' args h k => match Nat.beq f f' with
 | true => match viewD n args.toList h with
  | some (vs, B, B₂) => flatP B₂ ∧ Y vs B B₂ fun o => o.kont h k
  | none => False
 | false => A f' args h k
theorem SmallD.canon {P : Program} {h : AHeap} {args args₂ : Array Value} {B : List Cells} {ids : List Nat} (hl : ids.length = B.length) (hn : ids.Nodup)
  (hB : ∀ (j : Nat) b i, B[j]? = some b → ids[j]? = some i → ∃ c ro, h.get i = some (.cells c b.2.1 b.2.2 ro) ∧ b.1.length = c.length ∧ ∀ (q : Nat) x y, c[q]? = some x → b.1[q]? = some y → Ren (preOf P.globals.size ids) x y)
  (hr : args.size = args₂.size ∧ ∀ (i : Nat) x y, args[i]? = some x → args₂[i]? = some y → Ren (preOf P.globals.size ids) x y ∨ Empt (Go.Am.canon P B) (preOf P.globals.size ids) x y)
  (hb : ∀ i ∈ ids, (∃ v ∈ args.toList, Mentions v i) ∨ ∃ (i' : Nat) (c : List Value) (e : TypeId) (row : Nat) (ro : Bool) (v : Value), (∃ u ∈ args.toList, Mentions u i') ∧ h.get i' = some (.cells c e row ro) ∧ v ∈ c ∧ Mentions v i) : SmallD P args args₂ h (Go.Am.canon P B) (preOf P.globals.size ids) where
 view := by
  refine ⟨fun j i e => ?_, fun j j' i e e' => ?_, fun j i e => ?_, fun j e hj o ho => ?_, fun g hg => ?_⟩
  ·simp only [preOf] at e
   split at e
   ·have := (List.getElem?_eq_some_iff.1 e).1
    rw [canon_n]
    omega
   ·cases e
  ·simp only [preOf] at e e'
   split at e
   ·split at e'
    ·have h1 := (List.getElem?_eq_some_iff.1 e).1
     have := (List.getElem?_inj h1 hn).1 (e.trans e'.symm)
     omega
    ·cases e'
   ·cases e
  ·have e0 := e
   simp only [preOf] at e
   split at e
   ·rename_i hge
    have h1 := (List.getElem?_eq_some_iff.1 e).1
    have hb' : B[j - P.globals.size]? = some B[j - P.globals.size] := List.getElem?_eq_getElem (by omega)
    obtain ⟨c, ro, h2, h3, h4⟩ := hB _ _ i hb' e
    exact ⟨_, .cells B[j - P.globals.size].1 B[j - P.globals.size].2.1 B[j - P.globals.size].2.2 true, h2, by rw [canon_get, if_pos hge, hb']; rfl, h3, rfl, rfl, h4, fun _ => rfl⟩
   ·cases e
  ·rw [canon_get] at ho
   split at ho
   ·rename_i hge
    rw [canon_n] at hj
    simp only [preOf, if_pos hge] at e
    rw [List.getElem?_eq_none_iff] at e
    omega
   ·cases ho
  ·refine ⟨by rw [canon_n]; omega, .inl ?_⟩
   simp only [preOf]
   rw [if_neg (by omega)]
 rens := hr
 born := fun j i e => by
  simp only [preOf] at e
  split at e
  ·exact hb i (List.mem_of_getElem? e)
  ·cases e
 ro := fun j e => by
  simp only [AHeap.rw, canon_get]
  simp only [preOf] at e
  split at e
  ·rename_i hge
   rw [if_pos hge]
   obtain ⟨i, hi⟩ := Option.isSome_iff_exists.1 e
   have h1 := (List.getElem?_eq_some_iff.1 hi).1
   have hb' : B[j - P.globals.size]? = some B[j - P.globals.size] := List.getElem?_eq_getElem (by omega)
   rw [hb']
   rfl
  ·cases e
end
end Go.Am
