/-
  OWN WORK. 'Am', nineteenth text: a region that draws its order: whatever the order, the abstract run's end is come to.
-/
import Derived.Test.YtmfepbkpojafnaaGreatDoorAmR
namespace Go.Am
section
variable {P : Program}

/-- What an operation that the abstract run has carried out ahead will do. -/
def Does (P : Program) (ops : Array Oper) (ρ : Rho) (k : Nat) (h : AHeap) (p : Pend) : Prop :=
  (Region.wanted p.o (ayielded ops p.a) = false ∧ p.v = Go.undef) ∨
  (Region.wanted p.o (ayielded ops p.a) = true ∧
    ((p.new = none ∧ aop P p.o p.a.eval h = some (.val p.v h)) ∨
     ∃ id ob h₁, p.new = some (id, ob) ∧ ρ id = .unborn ∧ k ≤ id ∧ id < h.n ∧ h.get id = some ob ∧ h₁.n = id ∧ maker p.o ob = true ∧ aop P p.o p.a.eval h₁ = some (.val p.v (h₁.push ob))))

/-- The abstract run is ahead of a run: la, lc: what each has carried out. -/
structure DInv (P : Program) (ops : Array Oper) (bs : List Nat) (ρ₀ : Rho) (h₀ : AHeap) (w₀ : World) (lc la : Array Bool) (W : List Pend) (ρ : Rho) (a : AAct) (h : AHeap) (act : Act) (w : World) : Prop where
  slc : lc.size = ops.size
  sla : la.size = ops.size
  sub : ∀ i, lc.getD i false = true → la.getD i false = true
  clc : ∀ j, lc.getD j false = true → ∀ i, Bef bs j i → lc.getD i false = true
  cla : ∀ j, la.getD j false = true → ∀ i, Bef bs j i → la.getD i false = true
  pend : ∀ j, la.getD j false = true → lc.getD j false = false → ∃ p ∈ W, p.i = j
  wla : ∀ p ∈ W, la.getD p.i false = true
  uniq : ∀ p ∈ W, ∀ q ∈ W, p.i = q.i → p = q
  op : ∀ p ∈ W, ops[p.i]? = some p.o ∧ eager p.o = true ∧ p.a.n = a.n ∧ (∀ d, p.o.dst = some d → d < a.n) ∧ ∀ id ob, p.new = some (id, ob) → id < h.n
  new : ∀ p ∈ W, ∀ q ∈ W, ∀ id o o', p.new = some (id, o) → q.new = some (id, o') → p = q
  does : ∀ p ∈ W, lc.getD p.i false = false → Does P ops ρ h₀.n h p
  n : a.n = act.tmps.size
  last : ∀ t, (∃ q ∈ W, lc.getD q.i false = false ∧ q.o.dst = some t ∧ q.v = a.tmp t ∧ ∀ r ∈ W, lc.getD r.i false = false → r.o.dst = some t → r.i = q.i ∨ Bef bs q.i r.i) ∨
    (VRel ρ (a.tmp t) (act.tmps.getD t Go.undef) ∧ ∀ q ∈ W, lc.getD q.i false = false → q.o.dst ≠ some t)
  reads : ∀ p ∈ W, lc.getD p.i false = false → ∀ t ∈ p.o.looksAt ops,
    (∃ q ∈ W, lc.getD q.i false = false ∧ Bef bs p.i q.i ∧ q.o.dst = some t ∧ q.v = p.a.tmp t ∧ ∀ r ∈ W, lc.getD r.i false = false → Bef bs p.i r.i → r.o.dst = some t → r.i = q.i ∨ Bef bs q.i r.i) ∨
    (VRel ρ (p.a.tmp t) (act.tmps.getD t Go.undef) ∧ ∀ q ∈ W, lc.getD q.i false = false → q.o.dst = some t → ¬ Bef bs p.i q.i)
  heap : HRel ρ h w
  marks : MarksRel ρ a.marks act.defers
  globs : Globs P ρ
  adv : Adv h₀.n ρ₀ h₀ w₀ ρ h w

theorem L_ne {l : Array Bool} {i j : Nat} (h : j ≠ i) : (l.setIfInBounds i true).getD j false = l.getD j false := getD_set_ne false (Ne.symm h)
theorem L_at {l : Array Bool} {i : Nat} (h : i < l.size) : (l.setIfInBounds i true).getD i false = true := by simp [Array.getElem?_setIfInBounds, h]
theorem L_up {l : Array Bool} {i j : Nat} (h : l.getD j false = true) : (l.setIfInBounds i true).getD j false = true := getD_set_true h
theorem L_false {l : Array Bool} {i j : Nat} (hi : i < l.size) (h : (l.setIfInBounds i true).getD j false = false) : j ≠ i ∧ l.getD j false = false := by
  have ne : j ≠ i := fun e => by subst e; rw [L_at hi] at h; cases h
  exact ⟨ne, by rwa [L_ne ne] at h⟩
theorem L_true {l : Array Bool} {i j : Nat} (h : (l.setIfInBounds i true).getD j false = true) : j = i ∨ l.getD j false = true := by
  by_cases e : j = i
  · exact .inl e
  · rw [L_ne e] at h; exact .inr h

theorem ready_bef {ops : Array Oper} {bs : List Nat} (O : Orderly ops bs) {l : Array Bool} (cl : ∀ j, l.getD j false = true → ∀ i, Bef bs j i → l.getD i false = true) {j : Nat} (hj : j ∈ Region.ready .any ops l) :
    j < l.size ∧ l.getD j false = false ∧ ∀ i, Bef bs j i → l.getD i false = true := by
  obtain ⟨h0, o, ho, hall⟩ := mem_ready.1 hj
  have hlt : j < l.size := by
    rcases Nat.lt_or_ge j l.size with h | h
    · exact h
    · simp [Array.getElem?_eq_none h] at h0
  refine ⟨hlt, by simpa [hlt] using h0, fun i hb => ?_⟩
  obtain ⟨e, he, hb', hi⟩ := (O.bef j o ho i).1 hb
  rcases hi with rfl | hi
  · exact hall e he hb'
  · exact cl e.on (hall e he hb') i hi

theorem put_size (act : Act) (dst : Option Tmp) (v : Value) : (act.put dst v).tmps.size = act.tmps.size := by cases dst <;> simp [Act.put]
theorem put_defers (act : Act) (dst : Option Tmp) (v : Value) : (act.put dst v).defers = act.defers := by cases dst <;> rfl
theorem put_getD (act : Act) {dst : Option Tmp} {v : Value} {t : Tmp} (h : dst ≠ some t) : (act.put dst v).tmps.getD t Go.undef = act.tmps.getD t Go.undef := by
  cases dst with
  | none => rfl
  | some d =>
    have : d ≠ t := fun e => h (by rw [e])
    simp [Act.put, Array.getElem?_setIfInBounds_ne this]
theorem put_getD_at (act : Act) {dst : Option Tmp} {v : Value} {t : Tmp} (h : dst = some t) (ht : t < act.tmps.size) : (act.put dst v).tmps.getD t Go.undef = v := by
  subst h
  simp [Act.put, Array.getElem?_setIfInBounds, ht]
theorem aput_tmp (a : AAct) {dst : Option Tmp} {v : Value} {t : Tmp} (h : dst ≠ some t) : (a.put dst v).tmp t = a.tmp t := by
  cases dst with
  | none => rfl
  | some d => rw [AAct.tmp_put, if_neg fun e => h (by rw [e])]
theorem aput_tmp_at (a : AAct) {dst : Option Tmp} {v : Value} {t : Tmp} (h : dst = some t) : (a.put dst v).tmp t = v := by
  subst h
  rw [AAct.tmp_put, if_pos rfl]

/-- Nothing is known of a block that is come to. -/
theorem HRel.lost {ρ : Rho} {h : AHeap} {w : World} (H : HRel ρ h w) {id : Nat} (hid : ρ id = .unborn) (hlt : id < h.n) (hg : h.get id = some .dead) : HRel (ρ.upd id .dead) h w := by
  have old : ∀ {j gj}, ρ.upd id .dead j = .live gj → j ≠ id ∧ ρ j = .live gj := fun {j gj} h' => by
    by_cases e : j = id
    · subst e; rw [ρ.upd_same] at h'; cases h'
    · rw [ρ.upd_ne _ e] at h'; exact ⟨e, h'⟩
  refine ⟨fun j hj => ?_, fun j k gj gk hj hk he => H.inj j k gj gk (old hj).2 (old hk).2 he, fun j gj hj => ?_, fun j hj o ho => ?_⟩
  · rw [ρ.upd_ne _ (by omega)]; exact H.bound j hj
  · obtain ⟨o1, o2, f1, f2, f3⟩ := H.obj j gj (old hj).2
    exact ⟨o1, o2, f1, f2, f3.mono (Rho.le_born hid)⟩
  · by_cases e : j = id
    · subst e; rw [hg] at ho; cases ho; rfl
    · rw [ρ.upd_ne _ e] at hj; exact H.dead j hj o ho
theorem Adv.lost {ρ : Rho} {h : AHeap} {w : World} {id k : Nat} (hid : ρ id = .unborn) (hk : k ≤ id) : Adv k ρ h w (ρ.upd id .dead) h w := by
  refine ⟨Rho.le_born hid, Nat.le_refl _, Nat.le_refl _, rfl, rfl, rfl, fun _ _ _ => rfl, fun b _ ⟨j, gj, hj, hbj, hr⟩ => ?_, fun j hj hu => ?_⟩
  · by_cases e : j = id
    · subst e; rw [ρ.upd_same] at hj; cases hj
    · rw [ρ.upd_ne _ e] at hj; exact ⟨j, gj, hj, hbj, hr⟩
  · rw [ρ.upd_ne _ (by omega)]; exact hu

theorem Does.mono {ops : Array Oper} {ρ ρ' : Rho} {k : Nat} {h : AHeap} {p : Pend} (d : Does P ops ρ k h p) (hs : ∀ id ob, p.new = some (id, ob) → id < h.n → ρ id = .unborn → ρ' id = .unborn) : Does P ops ρ' k h p := by
  rcases d with d | ⟨d, e | ⟨id, ob, h₁, e1, e2, e3, e4, e5⟩⟩
  · exact .inl d
  · exact .inr ⟨d, .inl e⟩
  · exact .inr ⟨d, .inr ⟨id, ob, h₁, e1, hs id ob e1 e4 e2, e3, e4, e5⟩⟩

section
variable {ops : Array Oper} {bs : List Nat} {ρ₀ ρ : Rho} {h₀ h : AHeap} {w₀ w : World} {lc la : Array Bool} {W : List Pend} {a : AAct} {act : Act}

/-- A run that is behind catches up by one operation. -/
theorem pend_step (O : Orderly ops bs) (hcf : constsOk P ops = true) (I : DInv P ops bs ρ₀ h₀ w₀ lc la W ρ a h act w) {j : Nat} (hj : j ∈ Region.ready .any ops lc) (hla : la.getD j false = true) (rd : Option Nat)
    {Q : Exit → Act → World → Prop} {K : Act → World → Prop} (k : ∀ ρ' act' w', DInv P ops bs ρ₀ h₀ w₀ (lc.setIfInBounds j true) la W ρ' a h act' w' → K act' w') : wpOpIn (fence rd) 0 P ops Q j K act w := by
  obtain ⟨hlt, hlc, hpre⟩ := ready_bef O I.clc hj
  obtain ⟨p, hp, rfl⟩ := I.pend j hla hlc
  obtain ⟨hop, heag, han, hdst, _⟩ := I.op p hp
  have hcfp : constsFlat P p.o = true := List.all_eq_true.1 hcf p.o (by
    rw [← Array.getElem?_toList] at hop; exact List.mem_of_getElem? hop)
  have L : Looks ρ ops p.o p.a act := ⟨by rw [han]; exact I.n, fun t ht => by
    rcases I.reads p hp hlc t ht with ⟨q, _, h1, h2, _⟩ | ⟨h1, _⟩
    · rw [hpre _ h2] at h1; cases h1
    · exact h1⟩
  have finish : ∀ v' ρ' w', VRel ρ' p.v v' → HRel ρ' h w' → Adv h₀.n ρ h w ρ' h w' → (∀ q ∈ W, q.i ≠ p.i → lc.getD q.i false = false → Does P ops ρ' h₀.n h q) → K (act.put p.o.dst v') w' := by
    intro v' ρ' w' hv H' A hdo
    refine k ρ' _ w' ?_
    have low : ∀ i, (lc.setIfInBounds p.i true).getD i false = false → i ≠ p.i ∧ lc.getD i false = false := fun i hi => L_false hlt hi
    refine ⟨by simpa using I.slc, I.sla, fun i hi => ?_, fun i hi x hb => ?_, I.cla, fun i h1 h2 => I.pend i h1 (low i h2).2, I.wla, I.uniq, I.op, I.new, fun q hq hl => hdo q hq (low _ hl).1 (low _ hl).2, ?_, fun t => ?_, fun p' hp' hl' t ht => ?_, H', ?_, I.globs.mono A.le, I.adv.trans A⟩
    · rcases L_true hi with rfl | e
      · exact hla
      · exact I.sub i e
    · rcases L_true hi with rfl | e
      · exact L_up (hpre x hb)
      · exact L_up (I.clc i e x hb)
    · rw [put_size]; exact I.n
    · rcases I.last t with ⟨q, hq, h1, h2, h3, h4⟩ | ⟨h1, h2⟩
      · by_cases e : q.i = p.i
        · obtain rfl := I.uniq q hq p hp e
          refine .inr ⟨?_, fun r hr hl hd => ?_⟩
          · rw [← h3, put_getD_at act h2 (by rw [← I.n]; exact hdst t h2)]
            exact hv
          · obtain ⟨ne, hl⟩ := low _ hl
            rcases h4 r hr hl hd with e | e
            · exact ne e
            · rw [hpre _ e] at hl; cases hl
        · exact .inl ⟨q, hq, by rw [L_ne e]; exact h1, h2, h3, fun r hr hl => h4 r hr (low _ hl).2⟩
      · refine .inr ⟨?_, fun q hq hl => h2 q hq (low _ hl).2⟩
        rw [put_getD act (h2 p hp hlc)]
        exact h1.mono A.le
    · obtain ⟨ne', hl'⟩ := low _ hl'
      rcases I.reads p' hp' hl' t ht with ⟨q, hq, h1, h2, h3, h4, h5⟩ | ⟨h1, h2⟩
      · by_cases e : q.i = p.i
        · obtain rfl := I.uniq q hq p hp e
          refine .inr ⟨?_, fun r hr hl hd hb => ?_⟩
          · rw [← h4, put_getD_at act h3 (by rw [← I.n]; exact hdst t h3)]
            exact hv
          · obtain ⟨ne, hl⟩ := low _ hl
            rcases h5 r hr hl hb hd with e | e
            · exact ne e
            · rw [hpre _ e] at hl; cases hl
        · exact .inl ⟨q, hq, by rw [L_ne e]; exact h1, h2, h3, h4, fun r hr hl => h5 r hr (low _ hl).2⟩
      · refine .inr ⟨?_, fun q hq hl => h2 q hq (low _ hl).2⟩
        rw [put_getD act ?_]
        · exact h1.mono A.le
        · intro hd
          rcases O.apart p'.i p.i p'.o p.o ne' (I.op p' hp').1 hop with b | b | b
          · rw [hpre _ b] at hl'; cases hl'
          · exact h2 p hp hlc hd b
          · exact (Apart_spec b.2 hd).1 ht
    · rw [put_defers]; exact I.marks.mono A.le
  unfold wpOpIn
  rw [hop]
  simp only
  rw [L.wanted]
  rcases I.does p hp hlc with ⟨hw, hv⟩ | ⟨hw, d⟩
  · rw [if_neg (by rw [hw]; simp)]
    exact ⟨fun _ _ => trivial, finish _ ρ w (by rw [hv]; exact .undef) I.heap (Adv.refl _ _ _ _) fun q hq _ hl => I.does q hq hl⟩
  · rw [if_pos hw]
    have he := L.eval I.globs hcfp
    rcases d with ⟨hn, ha⟩ | ⟨id, ob, h₁, e1, e2, e3, e4, e5, e6, e7, e8⟩
    · refine doneBy_ok (ex := ⟨fun _ _ _ _ => none, fun _ _ _ => none⟩) ⟨fun rd c a h e a' h' hh => (by cases hh), fun f args h v h' hh => by cases hh⟩ I.heap I.globs he ha rfl rd fun v' ρ' w' hv H' A => ?_
      exact finish v' ρ' w' hv H' (A.less I.adv.n) fun q hq _ hl => (I.does q hq hl).mono fun id ob _ hid hu => A.stay id hid hu
    · refine ⟨fun _ _ => trivial, ?_⟩
      rw [Oper.semAt_eq _ _ _ (aop_not_defer e8)]
      have other : ∀ q ∈ W, q.i ≠ p.i → ∀ s, lc.getD q.i false = false → Does P ops (ρ.upd id s) h₀.n h q := fun q hq ne s hl => (I.does q hq hl).mono fun id' ob' hn hid hu => by
        rw [ρ.upd_ne _ ?_]
        · exact hu
        · intro e
          subst e
          exact ne (by rw [I.new q hq p hp id' ob' ob hn e1])
      rcases maker_born he e7 e8 w with ⟨g, o', v', b1, b2, b3⟩ | ⟨rfl, v', b2, b3⟩
      · rw [b2, Oper.uponIn_value]
        obtain ⟨r1, r2⟩ := b3 (ρ.upd id (.live g)) (Rho.le_born e2) (by rw [e6]; exact ρ.upd_same _ _)
        exact finish v' _ _ r1 (I.heap.birth e2 e4 b1 e5 r2) (Adv.birth e2 e3 b1 o') fun q hq ne hl => other q hq ne _ hl
      · rw [b2, Oper.uponIn_value]
        exact finish v' _ _ (b3 (ρ.upd id .dead) (Rho.le_born e2) (by rw [e6]; exact ρ.upd_same _ _)) (I.heap.lost e2 e4 e5) (Adv.lost e2 e3) fun q hq ne hl => other q hq ne _ hl
end
end
end Go.Am
