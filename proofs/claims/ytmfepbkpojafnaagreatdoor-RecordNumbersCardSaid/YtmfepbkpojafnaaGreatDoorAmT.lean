/-
  OWN WORK. 'Am', twentieth text: the abstract run goes on; both go on.
-/
import Derived.Test.YtmfepbkpojafnaaGreatDoorAmS
namespace Go.Am
section
variable {P : Program} {ops : Array Oper} {bs : List Nat} {ρ₀ ρ : Rho} {h₀ h : AHeap} {w₀ w : World} {lc la : Array Bool} {W : List Pend} {a : AAct} {act : Act}

theorem opBy_eager {ex : Ex} {o : Oper} {v : Value} {h' : AHeap} (he : eager o = true) (ho : opBy P ex ops o a h = some (v, h')) :
    (Region.wanted o (ayielded ops a) = false ∧ v = Go.undef ∧ h' = h) ∨ (Region.wanted o (ayielded ops a) = true ∧ aop P o a.eval h = some (.val v h') ∧ (h' = h ∨ ∃ ob, h' = h.push ob)) := by
  unfold opBy at ho
  split at ho
  · split at ho
    · rename_i hw
      split at ho
      · rename_i x hx
        obtain ⟨v₁, h₁, rfl, k⟩ := eager_mild he hx
        cases ho
        exact .inr ⟨hw, hx, k⟩
      · cases ho
    · rename_i hw
      cases ho
      exact .inl ⟨hw, rfl, rfl⟩
  · cases ho

theorem eager_core (O : Orderly ops bs) (I : DInv P ops bs ρ₀ h₀ w₀ lc la W ρ a h act w) {p : Pend} {h' : AHeap} (hi : p.i ∈ Region.ready .any ops la) (ho : ops[p.i]? = some p.o) (he : eager p.o = true) (hpa : p.a = a) (hd : ∀ d, p.o.dst = some d → d < a.n)
    (hn : h.n ≤ h'.n) (hnew : ∀ id ob, p.new = some (id, ob) → id < h'.n) (hdif : ∀ q ∈ W, ∀ id o o', p.new = some (id, o) → q.new = some (id, o') → False) (D : Does P ops ρ h₀.n h' p) (DW : ∀ q ∈ W, lc.getD q.i false = false → Does P ops ρ h₀.n h' q)
    (H' : HRel ρ h' w) (A' : Adv h₀.n ρ₀ h₀ w₀ ρ h' w) : DInv P ops bs ρ₀ h₀ w₀ lc (la.setIfInBounds p.i true) (p :: W) ρ (a.put p.o.dst p.v) h' act w := by
  obtain ⟨hlt, hla, hpre⟩ := ready_bef O I.cla hi
  have hlc : lc.getD p.i false = false := by
    cases e : lc.getD p.i false with
    | false => rfl
    | true => rw [I.sub _ e] at hla; cases hla
  have wne : ∀ q ∈ W, q.i ≠ p.i := fun q hq e => by have := I.wla q hq; rw [e, hla] at this; cases this
  have irr : ¬ Bef bs p.i p.i := fun b => by rw [hpre _ b] at hla; cases hla
  have nb : ∀ q ∈ W, ¬ Bef bs q.i p.i := fun q hq b => by rw [I.cla _ (I.wla q hq) _ b] at hla; cases hla
  have ord : ∀ q ∈ W, (Apart ops q.o p.o = true → False) → Bef bs p.i q.i := fun q hq na => by
    rcases O.apart q.i p.i q.o p.o (wne q hq) (I.op q hq).1 ho with b | b | b
    · exact b
    · exact (nb q hq b).elim
    · exact (na b.1).elim
  have put : ∀ t, p.o.dst ≠ some t → (a.put p.o.dst p.v).tmp t = a.tmp t := fun t ht => aput_tmp a ht
  refine ⟨I.slc, by simpa using I.sla, fun i hi => L_up (I.sub i hi), I.clc, fun i hi x hb => ?_, fun i h1 h2 => ?_, fun q hq => ?_, fun q hq r hr e => ?_, fun q hq => ?_, fun q hq r hr id o o' e1 e2 => ?_, fun q hq hl => ?_, by simpa using I.n, fun t => ?_, fun p' hp' hl' t ht => ?_, H', by rw [AAct.put_marks]; exact I.marks, I.globs, A'⟩
  · rcases L_true hi with rfl | e
    · exact L_up (hpre x hb)
    · exact L_up (I.cla i e x hb)
  · rcases L_true h1 with rfl | e
    · exact ⟨p, by simp, rfl⟩
    · obtain ⟨q, hq, e⟩ := I.pend i e h2
      exact ⟨q, by simp [hq], e⟩
  · rcases List.mem_cons.1 hq with rfl | hq
    · exact L_at hlt
    · exact L_up (I.wla q hq)
  · rcases List.mem_cons.1 hq with k1 | k1 <;> rcases List.mem_cons.1 hr with k2 | k2
    · rw [k1, k2]
    · rw [k1] at e; exact (wne r k2 e.symm).elim
    · rw [k2] at e; exact (wne q k1 e).elim
    · exact I.uniq q k1 r k2 e
  · rcases List.mem_cons.1 hq with rfl | hq
    · exact ⟨ho, he, by rw [hpa]; simp, fun d hd' => by simpa using hd d hd', hnew⟩
    · obtain ⟨a1, a2, a3, a4, a5⟩ := I.op q hq
      exact ⟨a1, a2, by simpa using a3, fun d hd' => by simpa using a4 d hd', fun id ob e => Nat.lt_of_lt_of_le (a5 id ob e) hn⟩
  · rcases List.mem_cons.1 hq with k1 | k1 <;> rcases List.mem_cons.1 hr with k2 | k2
    · rw [k1, k2]
    · rw [k1] at e1; exact (hdif r k2 id o o' e1 e2).elim
    · rw [k2] at e2; exact (hdif q k1 id o' o e2 e1).elim
    · exact I.new q k1 r k2 id o o' e1 e2
  · rcases List.mem_cons.1 hq with rfl | hq
    · exact D
    · exact DW q hq hl
  · by_cases e : p.o.dst = some t
    · refine .inl ⟨p, by simp, hlc, e, (aput_tmp_at a e).symm, fun r hr hl hdr => ?_⟩
      rcases List.mem_cons.1 hr with rfl | hr
      · exact .inl rfl
      · exact .inr (ord r hr fun ap => (Apart_spec ap hdr).2 e)
    · rw [put t e]
      rcases I.last t with ⟨q, hq, h1, h2, h3, h4⟩ | ⟨h1, h2⟩
      · refine .inl ⟨q, by simp [hq], h1, h2, h3, fun r hr hl hdr => ?_⟩
        rcases List.mem_cons.1 hr with rfl | hr
        · exact (e hdr).elim
        · exact h4 r hr hl hdr
      · refine .inr ⟨h1, fun q hq hl => ?_⟩
        rcases List.mem_cons.1 hq with rfl | hq
        · exact e
        · exact h2 q hq hl
  · rcases List.mem_cons.1 hp' with kp | hp'
    · subst kp
      rw [hpa]
      rcases I.last t with ⟨q, hq, h1, h2, h3, h4⟩ | ⟨h1, h2⟩
      · refine .inl ⟨q, by simp [hq], h1, ord q hq fun ap => (Apart_spec ap h2).1 ht, h2, h3, fun r hr hl hb hdr => ?_⟩
        rcases List.mem_cons.1 hr with rfl | hr
        · exact (irr hb).elim
        · exact h4 r hr hl hdr
      · refine .inr ⟨h1, fun q hq hl hdq hb => ?_⟩
        rcases List.mem_cons.1 hq with rfl | hq
        · exact irr hb
        · exact h2 q hq hl hdq
    · rcases I.reads p' hp' hl' t ht with ⟨q, hq, h1, h2, h3, h4, h5⟩ | ⟨h1, h2⟩
      · refine .inl ⟨q, by simp [hq], h1, h2, h3, h4, fun r hr hl hb hdr => ?_⟩
        rcases List.mem_cons.1 hr with k1 | hr
        · rw [k1] at hb; exact (nb p' hp' hb).elim
        · exact h5 r hr hl hb hdr
      · refine .inr ⟨h1, fun q hq hl hdq hb => ?_⟩
        rcases List.mem_cons.1 hq with k1 | hq
        · rw [k1] at hb; exact nb p' hp' hb
        · exact h2 q hq hl hdq hb

/-- What is checked of an operation ahead: it will do the same in the heap as it is now. -/
theorem still_does {k : Nat} {p : Pend} {ρ' : Rho} {h' : AHeap} (D : Does P ops ρ k h p) (he : eager p.o = true) (hst : still P ops p h' = true) (hn : h.n ≤ h'.n) (hu : ∀ id, id < h.n → ρ id = .unborn → ρ' id = .unborn) : Does P ops ρ' k h' p := by
  rcases D with d | ⟨d, e⟩
  · exact .inl d
  · refine .inr ⟨d, ?_⟩
    unfold still at hst
    rw [d] at hst
    simp only at hst
    rcases e with ⟨e1, e2⟩ | ⟨id, ob, h₁, e1, e2, e3, e4, e5, e6⟩
    · rw [e1] at hst
      simp only at hst
      split at hst
      · rename_i v h₂ hv
        simp only [Bool.and_eq_true] at hst
        obtain rfl := beqD_eq hst.1
        obtain ⟨v₁, h₃, r1, r2⟩ := eager_mild he hv
        injection r1 with r1 r3
        subst r1 r3
        have hnn : h₂.n = h'.n := Nat.eq_of_beq_eq_true hst.2
        rcases r2 with rfl | ⟨ob, rfl⟩
        · exact .inl ⟨e1, hv⟩
        · simp at hnn
      · cases hst
    · rw [e1] at hst
      simp only at hst
      split at hst
      · rename_i o ho
        obtain rfl := beqO_eq hst
        exact .inr ⟨id, o, h₁, e1, hu id e4 e2, e3, Nat.lt_of_lt_of_le e4 hn, ho, e6⟩
      · cases hst

theorem eager_same (O : Orderly ops bs) {ex : Ex} (I : DInv P ops bs ρ₀ h₀ w₀ lc la W ρ a h act w) {i : Nat} {o : Oper} {v : Value} {h' : AHeap} (hi : i ∈ Region.ready .any ops la) (ho : ops[i]? = some o) (he : eager o = true) (hop : opBy P ex ops o a h = some (v, h')) (hn : h'.n = h.n) :
    DInv P ops bs ρ₀ h₀ w₀ lc (la.setIfInBounds i true) ({ i, o, a, v, new := none } :: W) ρ (a.put o.dst v) h' act w := by
  have hh : h' = h ∧ Does P ops ρ h₀.n h { i, o, a, v, new := none } := by
    rcases opBy_eager he hop with ⟨k1, k2, k3⟩ | ⟨k1, k2, k3 | ⟨ob, k3⟩⟩
    · exact ⟨k3, .inl ⟨k1, k2⟩⟩
    · subst k3; exact ⟨rfl, .inr ⟨k1, .inl ⟨rfl, k2⟩⟩⟩
    · subst k3; simp at hn
  obtain ⟨rfl, D⟩ := hh
  exact eager_core O I (p := { i, o, a, v, new := none }) hi ho he rfl (opBy_dst hop) (Nat.le_refl _) (fun id ob e => by cases e) (fun q hq id o o' e => by cases e) D I.does I.heap I.adv

theorem eager_more (O : Orderly ops bs) {ex : Ex} (I : DInv P ops bs ρ₀ h₀ w₀ lc la W ρ a h act w) {i : Nat} {o : Oper} {v : Value} {h' : AHeap} (hi : i ∈ Region.ready .any ops la) (ho : ops[i]? = some o) (he : eager o = true) (hop : opBy P ex ops o a h = some (v, h')) (hn : h'.n = h.n + 1)
    {ob : AObj} (hg : h'.get h.n = some ob) (hm : maker o ob = true) (hst : W.all (still P ops · h') = true) :
    DInv P ops bs ρ₀ h₀ w₀ lc (la.setIfInBounds i true) ({ i, o, a, v, new := some (h.n, ob) } :: W) ρ (a.put o.dst v) h' act w := by
  have hh : h' = h.push ob ∧ Does P ops ρ h₀.n (h.push ob) { i, o, a, v, new := some (h.n, ob) } := by
    rcases opBy_eager he hop with ⟨k1, k2, k3⟩ | ⟨k1, k2, k3 | ⟨ob', k3⟩⟩
    · subst k3; simp at hn
    · subst k3; simp at hn
    · subst k3
      have : ob' = ob := by simpa [AHeap.get_push] using hg
      subst this
      exact ⟨rfl, .inr ⟨k1, .inr ⟨h.n, ob', h, rfl, I.heap.bound _ (Nat.le_refl _), I.adv.n, by simp, by simp [AHeap.get_push], rfl, hm, k2⟩⟩⟩
  obtain ⟨rfl, D⟩ := hh
  refine eager_core O I (p := { i, o, a, v, new := some (h.n, ob) }) hi ho he rfl (opBy_dst hop) (by simp) (fun id ob e => by cases e; simp) (fun q hq id o o' e1 e2 => ?_) D (fun q hq hl => ?_) (I.heap.push ob) (I.adv.trans ((Adv.push I.heap ob).less I.adv.n))
  · cases e1
    have := (I.op q hq).2.2.2.2 _ _ e2
    omega
  · exact still_does (I.does q hq hl) (I.op q hq).2.1 (List.all_eq_true.1 hst q hq) (by simp) fun id _ hu => hu

/-- Both carry the same operation out. -/
theorem act_step {ex : Ex} (E : ExOk P ex) (O : Orderly ops bs) (hcf : constsOk P ops = true) (I : DInv P ops bs ρ₀ h₀ w₀ lc la W ρ a h act w) {i : Nat} {o : Oper} {v : Value} {h' : AHeap} (hi : i ∈ Region.ready .any ops lc) (hla : la.getD i false = false) (ho : ops[i]? = some o)
    (hop : opBy P ex ops o a h = some (v, h')) (hst : (W.filter fun p => !(bs.getD i 0).testBit p.i).all (still P ops · h') = true) (rd : Option Nat)
    {Q : Exit → Act → World → Prop} {K : Act → World → Prop} (k : ∀ ρ' act' w', DInv P ops bs ρ₀ h₀ w₀ (lc.setIfInBounds i true) (la.setIfInBounds i true) (W.filter fun p => !(bs.getD i 0).testBit p.i) ρ' (a.put o.dst v) h' act' w' → K act' w') :
    wpOpIn (fence rd) 0 P ops Q i K act w := by
  obtain ⟨hlt, hlc, hpre⟩ := ready_bef O I.clc hi
  have hlta : i < la.size := by rw [I.sla, ← I.slc]; exact hlt
  have hcfo : constsFlat P o = true := List.all_eq_true.1 hcf o (by
    rw [← Array.getElem?_toList] at ho; exact List.mem_of_getElem? ho)
  have wne : ∀ q ∈ W, q.i ≠ i := fun q hq e => by have := I.wla q hq; rw [e, hla] at this; cases this
  have apart : ∀ q ∈ W, lc.getD q.i false = false → Apart ops q.o o = true ∧ Apart ops o q.o = true := fun q hq hl => by
    rcases O.apart q.i i q.o o (wne q hq) (I.op q hq).1 ho with b | b | b
    · rw [hpre _ b] at hl; cases hl
    · rw [I.cla _ (I.wla q hq) _ b] at hla; cases hla
    · exact b
  have L : Looks ρ ops o a act := ⟨I.n, fun t ht => by
    rcases I.last t with ⟨q, hq, h1, h2, _⟩ | ⟨h1, _⟩
    · exact ((Apart_spec (apart q hq h1).1 h2).1 ht).elim
    · exact h1⟩
  unfold wpOpIn
  rw [ho]
  simp only
  refine opBy_looks E I.heap I.globs L hcfo hop rd fun v' ρ' w' hv H' A => k ρ' _ w' ?_
  have low : ∀ j, (lc.setIfInBounds i true).getD j false = false → j ≠ i ∧ lc.getD j false = false := fun j hj => L_false hlt hj
  have sub : ∀ q ∈ W.filter fun p => !(bs.getD i 0).testBit p.i, q ∈ W := fun q hq => (List.mem_filter.1 hq).1
  have keep : ∀ q ∈ W, lc.getD q.i false = false → q ∈ W.filter fun p => !(bs.getD i 0).testBit p.i := fun q hq hl => by
    refine List.mem_filter.2 ⟨hq, ?_⟩
    cases e : (bs.getD i 0).testBit q.i with
    | false => rfl
    | true => rw [hpre q.i e] at hl; cases hl
  refine ⟨by simpa using I.slc, by simpa using I.sla, fun j hj => ?_, fun j hj x hb => ?_, fun j hj x hb => ?_, fun j h1 h2 => ?_, fun q hq => L_up (I.wla q (sub q hq)), fun q hq r hr => I.uniq q (sub q hq) r (sub r hr), fun q hq => ?_, fun q hq r hr => I.new q (sub q hq) r (sub r hr), fun q hq hl => ?_, ?_, fun t => ?_, fun p hp hl t ht => ?_, H', ?_, I.globs.mono A.le, I.adv.trans (A.less I.adv.n)⟩
  · rcases L_true hj with rfl | e
    · exact L_at hlta
    · exact L_up (I.sub j e)
  · rcases L_true hj with rfl | e
    · exact L_up (hpre x hb)
    · exact L_up (I.clc j e x hb)
  · rcases L_true hj with rfl | e
    · exact L_up (I.sub x (hpre x hb))
    · exact L_up (I.cla j e x hb)
  · obtain ⟨ne, hl⟩ := low j h2
    rw [L_ne ne] at h1
    obtain ⟨q, hq, rfl⟩ := I.pend j h1 hl
    exact ⟨q, keep q hq hl, rfl⟩
  · obtain ⟨a1, a2, a3, a4, a5⟩ := I.op q (sub q hq)
    exact ⟨a1, a2, by simpa using a3, fun d hd => by simpa using a4 d hd, fun id ob e => Nat.lt_of_lt_of_le (a5 id ob e) A.n⟩
  · exact still_does (I.does q (sub q hq) (low _ hl).2) (I.op q (sub q hq)).2.1 (List.all_eq_true.1 hst q hq) A.n fun id hid hu => A.stay id hid hu
  · rw [put_size]; simpa using I.n
  · by_cases e : o.dst = some t
    · refine .inr ⟨?_, fun q hq hl hd => (Apart_spec (apart q (sub q hq) (low _ hl).2).1 hd).2 e⟩
      rw [aput_tmp_at a e, put_getD_at act e (by rw [← I.n]; exact opBy_dst hop t e)]
      exact hv
    · rw [aput_tmp a e, put_getD act e]
      rcases I.last t with ⟨q, hq, h1, h2, h3, h4⟩ | ⟨h1, h2⟩
      · exact .inl ⟨q, keep q hq h1, by rw [L_ne (wne q hq)]; exact h1, h2, h3, fun r hr hl => h4 r (sub r hr) (low _ hl).2⟩
      · exact .inr ⟨h1.mono A.le, fun q hq hl => h2 q (sub q hq) (low _ hl).2⟩
  · have hl := (low _ hl).2
    have e : o.dst ≠ some t := fun e => (Apart_spec (apart p (sub p hp) hl).2 e).1 ht
    rw [put_getD act e]
    rcases I.reads p (sub p hp) hl t ht with ⟨q, hq, h1, h2, h3, h4, h5⟩ | ⟨h1, h2⟩
    · exact .inl ⟨q, keep q hq h1, by rw [L_ne (wne q hq)]; exact h1, h2, h3, h4, fun r hr hl => h5 r (sub r hr) (low _ hl).2⟩
    · exact .inr ⟨h1.mono A.le, fun q hq hl => h2 q (sub q hq) (low _ hl).2⟩
  · rw [put_defers, AAct.put_marks]; exact I.marks.mono A.le
end
end Go.Am
