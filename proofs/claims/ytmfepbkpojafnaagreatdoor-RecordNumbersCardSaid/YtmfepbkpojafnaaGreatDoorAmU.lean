/-
  OWN WORK. 'Am', twenty-first text: a region that draws its order, whole.
-/
import Derived.Test.YtmfepbkpojafnaaGreatDoorAmT
namespace Go.Am
section
variable {P : Program} {ops : Array Oper} {bs : List Nat} {ρ₀ ρ : Rho} {h₀ h : AHeap} {w₀ w : World} {lc la : Array Bool} {W : List Pend} {a : AAct} {act : Act}

def cnt (l : Array Bool) : Nat := l.toList.count false
theorem cnt_set {l : Array Bool} {j : Nat} (hj : j < l.size) (hl : l.getD j false = false) : cnt (l.setIfInBounds j true) + 1 = cnt l := by
  unfold cnt
  rw [Array.toList_setIfInBounds]
  have hj' : j < l.toList.length := by simpa using hj
  have hv : l.toList[j] = false := by simpa [hj] using hl
  have hpos : 0 < l.toList.count false := List.count_pos_iff.2 (by rw [← hv]; exact List.getElem_mem hj')
  rw [List.count_set hj', hv, if_pos (by decide), if_neg (by decide)]
  omega
theorem cnt_zero {l : Array Bool} (h : cnt l = 0) {j : Nat} (hj : j < l.size) : l.getD j false = true := by
  unfold cnt at h
  rw [List.count_eq_zero] at h
  cases e : l.getD j false with
  | true => rfl
  | false =>
    have hv : l.toList[j]'(by simpa using hj) = false := by simpa [hj] using e
    exact (h (by rw [← hv]; exact List.getElem_mem _)).elim

theorem DInv.stuck (O : Orderly ops bs) (I : DInv P ops bs ρ₀ h₀ w₀ lc la W ρ a h act w) (hr : Region.ready .any ops lc = []) : ∀ j, la.getD j false = true → lc.getD j false = true := by
  intro j
  induction j using Nat.strongRecOn with
  | _ j ih =>
    intro hla
    cases hl : lc.getD j false with
    | true => rfl
    | false =>
      obtain ⟨p, hp, rfl⟩ := I.pend j hla hl
      have hop := (I.op p hp).1
      have hlt : p.i < lc.size := by rw [I.slc]; exact (Array.getElem?_eq_some_iff.1 hop).1
      have : p.i ∈ Region.ready .any ops lc := mem_ready.2 ⟨by simpa [hlt] using hl, p.o, hop, fun e he hb =>
        ih e.on (O.back p.i p.o hop e he hb) (I.cla _ hla _ ((O.bef p.i p.o hop e.on).2 ⟨e, he, hb, .inl rfl⟩))⟩
      rw [hr] at this
      cases this

theorem DInv.ready_up (I : DInv P ops bs ρ₀ h₀ w₀ lc la W ρ a h act w) {i : Nat} (hi : i ∈ Region.ready .any ops lc) (hla : la.getD i false = false) : i ∈ Region.ready .any ops la := by
  obtain ⟨h0, o, ho, hall⟩ := mem_ready.1 hi
  have hlt : i < la.size := by rw [I.sla]; exact (Array.getElem?_eq_some_iff.1 ho).1
  exact mem_ready.2 ⟨by simpa [hlt] using hla, o, ho, fun e he hb => I.sub _ (hall e he hb)⟩
theorem DInv.ready_down (I : DInv P ops bs ρ₀ h₀ w₀ lc la W ρ a h act w) (hd : ∀ j, la.getD j false = true → lc.getD j false = true) {i : Nat} (hi : i ∈ Region.ready .any ops la) : i ∈ Region.ready .any ops lc := by
  obtain ⟨h0, o, ho, hall⟩ := mem_ready.1 hi
  have hlt : i < ops.size := (Array.getElem?_eq_some_iff.1 ho).1
  have ha : la.getD i false = false := by
    have : i < la.size := by rw [I.sla]; exact hlt
    simpa [this] using h0
  refine mem_ready.2 ⟨?_, o, ho, fun e he hb => hd _ (hall e he hb)⟩
  have hl : lc.getD i false = false := by
    cases e : lc.getD i false with
    | false => rfl
    | true => rw [I.sub _ e] at ha; cases ha
  have : i < lc.size := by rw [I.slc]; exact hlt
  simpa [this] using hl

/-- A run that is behind goes on until it does what the abstract run has not done. -/
theorem catch_up (O : Orderly ops bs) (hcf : constsOk P ops = true) (rd : Option Nat) {Q : Exit → Act → World → Prop}
    (step : ∀ fuel lc ρ act w, DInv P ops bs ρ₀ h₀ w₀ lc la W ρ a h act w → cnt lc ≤ fuel + 1 → ∀ i ∈ Region.ready .any ops lc, la.getD i false = false → wpOpIn (fence rd) 0 P ops Q i (wpAnyIn (fence rd) 0 P .any ops Q fuel (lc.setIfInBounds i true)) act w)
    (fin : ∀ lc ρ act w, DInv P ops bs ρ₀ h₀ w₀ lc la W ρ a h act w → Region.ready .any ops lc = [] → Q .normal act w) :
    ∀ fuel lc ρ act w, DInv P ops bs ρ₀ h₀ w₀ lc la W ρ a h act w → cnt lc ≤ fuel → wpAnyIn (fence rd) 0 P .any ops Q fuel lc act w := by
  intro fuel
  induction fuel with
  | zero =>
    intro lc ρ act w I hc
    have hr : Region.ready .any ops lc = [] := by
      cases hr : Region.ready .any ops lc with
      | nil => rfl
      | cons i l =>
        have hi : i ∈ Region.ready .any ops lc := by rw [hr]; simp
        obtain ⟨hlt, hl, _⟩ := ready_bef O I.clc hi
        rw [cnt_zero (by omega) hlt] at hl
        cases hl
    exact ⟨hr, fin lc ρ act w I hr⟩
  | succ fuel ih =>
    intro lc ρ act w I hc
    refine ⟨fun hr => fin lc ρ act w I hr, fun i hi => ?_⟩
    cases hla : la.getD i false with
    | false => exact step fuel lc ρ act w I hc i hi hla
    | true =>
      obtain ⟨hlt, hl, _⟩ := ready_bef O I.clc hi
      refine pend_step O hcf I hi hla rd fun ρ' act' w' I' => ih _ ρ' act' w' I' ?_
      have := cnt_set hlt hl
      omega

theorem pickNext_none {ready : List Nat} (h : pickNext ops ready = some none) : ready = [] := by
  unfold pickNext at h
  split at h
  · cases h
  · split at h
    · rfl
    · cases h
    · cases h
theorem pickNext_some {ready : List Nat} {i : Nat} (h : pickNext ops ready = some (some i)) : i ∈ ready ∧ ∀ o, ops[i]? = some o → eager o = false → ready = [i] := by
  unfold pickNext at h
  split at h
  · rename_i j hj
    cases h
    refine ⟨List.mem_of_find?_eq_some hj, fun o ho he => ?_⟩
    have := List.find?_some hj
    rw [ho] at this
    simp [he] at this
  · split at h
    · cases h
    · cases h
      exact ⟨by simp, fun _ _ _ => rfl⟩
    · cases h

theorem draw_ok {ex : Ex} (E : ExOk P ex) (O : Orderly ops bs) (hcf : constsOk P ops = true) (rd : Option Nat) {Q : Exit → Act → World → Prop} {a' : AAct} {h' : AHeap} (hQ : ∀ act' w', RegPost P ρ₀ h₀ w₀ a' h' act' w' → Q .normal act' w') :
    ∀ n lc la W ρ a h act w fuel, DInv P ops bs ρ₀ h₀ w₀ lc la W ρ a h act w → runDraw P ex ops bs n la W a h = some (a', h') → cnt lc ≤ fuel → wpAnyIn (fence rd) 0 P .any ops Q fuel lc act w := by
  intro n
  induction n with
  | zero => intro lc la W ρ a h act w fuel I hr; cases hr
  | succ n ih =>
    intro lc la W ρ a h act w fuel I hr hc
    unfold runDraw at hr
    split at hr
    · cases hr
    · rename_i hp
      cases hr
      have hrdy := pickNext_none hp
      refine catch_up O hcf rd (fun fuel lc ρ act w I hc i hi hla => ?_) (fun lc ρ act w I hr => ?_) fuel lc ρ act w I hc
      · have := I.ready_up hi hla
        rw [hrdy] at this
        cases this
      · refine hQ act w ⟨ρ, ⟨I.heap, ⟨I.n, fun t => ?_⟩, I.marks, I.globs⟩, I.adv⟩
        rcases I.last t with ⟨q, hq, h1, _⟩ | ⟨h1, _⟩
        · rw [I.stuck O hr _ (I.wla q hq)] at h1; cases h1
        · exact h1
    · rename_i i hp
      obtain ⟨hi, hone⟩ := pickNext_some hp
      split at hr
      · cases hr
      · rename_i o ho
        split at hr
        · cases hr
        · rename_i v h₁ hop
          split at hr
          · rename_i he
            split at hr
            · rename_i hn
              have hn : h₁.n = h.n := by simpa using hn
              have J := eager_same O I hi ho he hop hn
              exact ih _ _ _ _ _ _ _ _ fuel J hr hc
            · rename_i hn
              split at hr
              · rename_i ob hn' hg
                split at hr
                · rename_i hst
                  rw [Bool.and_eq_true] at hst
                  exact ih _ _ _ _ _ _ _ _ fuel (eager_more O I hi ho he hop (by simpa using hn') hg hst.1 hst.2) hr hc
                · cases hr
              · cases hr
          · rename_i he
            have honly := hone o ho he
            simp only at hr
            split at hr
            · rename_i hst
              have hla : la.getD i false = false := (ready_bef O I.cla hi).2.1
              refine catch_up O hcf rd (fun fuel lc ρ act w I hc j hj hlj => ?_) (fun lc ρ act w I hr => ?_) fuel lc ρ act w I hc
              · have hji : j = i := by
                  have := I.ready_up hj hlj
                  rw [honly] at this
                  simpa using this
                subst hji
                obtain ⟨hlt, hl, _⟩ := ready_bef O I.clc hj
                refine act_step E O hcf I hj hlj ho hop hst rd fun ρ' act' w' I' => ih _ _ _ ρ' _ _ act' w' fuel I' hr ?_
                have := cnt_set hlt hl
                omega
              · have := I.ready_down (I.stuck O hr) hi
                rw [hr] at this
                cases this
            · cases hr

theorem region_draw_ok {ex : Ex} (E : ExOk P ex) (hm : P.follows .mixedOrders = true) {id : Nat} (S : SRel P ρ a h act w) (hcf : constsOk P ops = true) (ho : orderly ops = true) {a' : AAct} {h' : AHeap}
    (hr : runDraw P ex ops (befs ops.toList []) (ops.size + 1) (Array.replicate ops.size false) [] a h = some (a', h')) (rd : Option Nat) {Q : Exit → Act → World → Prop}
    (k : ∀ act' w', RegPost P ρ h w a' h' act' w' → Q .normal act' w') : (Code.region id ops true).wpIn (fence rd) 0 P Q act w := by
  refine wpIn_region_any hm ?_
  have none : ∀ i, ¬ ((Array.replicate ops.size false).getD i false = true) := fun i => by
    rw [Array.getD_eq_getD_getElem?, Array.getElem?_replicate]
    split <;> simp
  refine draw_ok E (orderly_ok ho) hcf rd k _ _ _ [] ρ a h act _ ops.size ⟨by simp, by simp, fun i hi => hi, fun j hj => (none j hj).elim, fun j hj => (none j hj).elim, fun j hj => (none j hj).elim, fun p hp => (by cases hp), fun p hp => (by cases hp), fun p hp => (by cases hp), fun p hp => (by cases hp), fun p hp => (by cases hp), S.tmps.size,
    fun t => .inr ⟨S.tmps.tmp t, fun q hq => by cases hq⟩, fun p hp => (by cases hp), S.heap.drew _, S.marks, S.globs, Adv.drew _ _ _ _ _⟩ hr ?_
  unfold cnt
  simp
end
end Go.Am
