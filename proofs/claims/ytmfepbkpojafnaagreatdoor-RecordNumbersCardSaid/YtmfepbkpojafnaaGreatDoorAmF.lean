/-
  OWN WORK. 'Am', sixth text: what the abstract operations do, the model's operations do: loads, stores, new variables, addresses.
-/
import Derived.Test.YtmfepbkpojafnaaGreatDoorAmE
namespace Go.Am

section
variable {P : Program} {ρ : Rho} {h : AHeap} {w : World}

theorem VRel.ptr_any {a : Addr} {c : Value} (k : VRel ρ (.pointer (some a)) c) : ∃ a', c = .pointer (some a') ∧ PRel ρ a a' := k.unfold
theorem VRel.mk_ptr {i o : Nat} {g : G} (hi : ρ i = .live g) : VRel ρ (.pointer (some ⟨i, o, none⟩)) (.pointer (some ⟨g.b, o + g.sh, none⟩)) :=
  .fold ⟨_, rfl, by simp [PRel, hi]⟩
theorem VRel.ptr_live (H : HRel ρ h w) {i o : Nat} {c : Value} (k : VRel ρ (.pointer (some ⟨i, o, none⟩)) c) {x : AObj} (hg : h.get i = some x) (hd : x ≠ .dead) :
    ∃ g, ρ i = .live g ∧ c = .pointer (some ⟨g.b, o + g.sh, none⟩) := by
  obtain ⟨a', rfl, hp⟩ := k.ptr_any
  obtain ⟨g, hi⟩ := H.get_live hg hd hp.born
  obtain ⟨_, rfl⟩ := hp.live hi
  exact ⟨g, hi, rfl⟩
theorem VRel.slice_any {a : Addr} {n k : Nat} {c : Value} (x : VRel ρ (.slice (some a) n k) c) : ∃ a' k', c = .slice (some a') n k' ∧ PRel ρ a a' ∧ n ≤ k ∧ k ≤ k' ∧
    ∀ g, ρ a.block = .live g → k' = k ∨ ∃ sz, g.row = sz + 1 ∧ a.off + g.sh + k' * sz ≤ g.tot := x.unfold
theorem VRel.slice_live (H : HRel ρ h w) {i o n k : Nat} {c : Value} (y : VRel ρ (.slice (some ⟨i, o, none⟩) n k) c) {x : AObj} (hg : h.get i = some x) (hd : x ≠ .dead) :
    ∃ g k', ρ i = .live g ∧ c = .slice (some ⟨g.b, o + g.sh, none⟩) n k' ∧ n ≤ k ∧ k ≤ k' ∧ (k' = k ∨ ∃ sz, g.row = sz + 1 ∧ o + g.sh + k' * sz ≤ g.tot) := by
  obtain ⟨a', k', rfl, hp, h1, h2, h3⟩ := y.slice_any
  obtain ⟨g, hi⟩ := H.get_live hg hd hp.born
  obtain ⟨_, rfl⟩ := hp.live hi
  exact ⟨g, k', hi, rfl, h1, h2, h3 g hi⟩
theorem VRel.mk_slice {i o n k k' : Nat} {g : G} (hi : ρ i = .live g) (h1 : n ≤ k) (h2 : k ≤ k') (h3 : k' = k ∨ ∃ sz, g.row = sz + 1 ∧ o + g.sh + k' * sz ≤ g.tot) :
    VRel ρ (.slice (some ⟨i, o, none⟩) n k) (.slice (some ⟨g.b, o + g.sh, none⟩) n k') :=
  .fold ⟨_, _, rfl, by simp [PRel, hi], h1, h2, fun g' hg => by rw [hi] at hg; cases hg; exact h3⟩

theorem aload_ok (H : HRel ρ h w) {t : TypeId} {v c x : Value} (hv : VRel ρ v c) (ha : aload P h t v = some x) :
    ∃ x', (Instr.loadAt t c).run P w = .ok x' w ∧ VRel ρ x x' := by
  unfold aload at ha
  split at ha
  · rename_i i o
    split at ha
    · rename_i cs e row ro hg
      obtain ⟨g, hi, rfl⟩ := hv.ptr_live H hg (by simp)
      split at ha
      · rename_i hagg
        have r1 := pureRun_sound P _ _ hagg
        split at ha
        · rename_i s hs
          have r2 := pureRun_sound P _ _ hs
          split at ha
          · rename_i hle
            cases ha
            obtain ⟨ys, hy, hrun⟩ := H.read P hi hg (Nat.le_of_ble_eq_true hle)
            exact ⟨.agg ys.toArray, by simp [Instr.loadAt, Instr.sureAddr, loadVar, r1, r2, hrun], .fold ⟨_, rfl, ARel.of_LRel hy⟩⟩
          · cases ha
        · cases ha
      · rename_i hagg
        have r1 := pureRun_sound P _ _ hagg
        obtain ⟨v', e1, e2⟩ := H.cell hi hg ha
        exact ⟨v', by simp [Instr.loadAt, Instr.sureAddr, loadVar, r1, e1], e2⟩
      · cases ha
    · cases ha
  · cases ha

theorem wcells_ok (H : HRel ρ h w) {i o : Nat} {xs ys : List Value} {h' : AHeap} {g : G} (hi : ρ i = .live g) (hxy : LRel (VRel ρ) xs ys) (ha : wcells h i o xs = some h') :
    ∃ w', (storeCells ⟨g.b, o + g.sh, none⟩ ys).run P w = .ok () w' ∧ HRel ρ h' w' ∧ Adv h.n ρ h w ρ h' w' := by
  unfold wcells at ha
  split at ha
  · rename_i c e row ro hg
    split at ha
    · rename_i hc
      simp only [Bool.and_eq_true, Bool.not_eq_true'] at hc
      obtain ⟨⟨hro, hle⟩, hone⟩ := hc
      subst hro
      cases ha
      exact H.write P hi hg (Nat.le_of_ble_eq_true hle) hone hxy
    · cases ha
  · cases ha

theorem astore_ok (H : HRel ρ h w) {t : TypeId} {v x c y : Value} {h' : AHeap} (hv : VRel ρ v c) (hx : VRel ρ x y) (ha : astore P h t v x = some h') :
    ∃ w', (Instr.storeAt t c y).run P w = .ok () w' ∧ HRel ρ h' w' ∧ Adv h.n ρ h w ρ h' w' := by
  unfold astore at ha
  split at ha
  · rename_i i o
    split at ha
    · rename_i s hs
      have r2 := pureRun_sound P _ _ hs
      split at ha
      · rename_i hsz
        have hsz := Nat.eq_of_beq_eq_true hsz
        have hg : ∃ z, h.get i = some z ∧ z ≠ .dead := by
          unfold wcells at ha
          split at ha
          · rename_i hg; exact ⟨_, hg, by simp⟩
          · cases ha
        obtain ⟨z, hg, hz⟩ := hg
        obtain ⟨g, hi, rfl⟩ := hv.ptr_live H hg hz
        obtain ⟨w', hrun, r⟩ := wcells_ok (P := P) H hi hx.cells ha
        refine ⟨w', ?_, r⟩
        have hl := hx.cells.1
        simp only [Array.length_toList] at hl
        have hne : ¬ y.cells.size ≠ s := by omega
        simp [Instr.storeAt, Instr.sureAddr, storeVar, r2, hne, hrun]
      · cases ha
    · cases ha
  · cases ha

/-- A value, and what becomes of the state. -/
def ValOk (P : Program) (ρ : Rho) (h : AHeap) (w : World) (v : Value) (h' : AHeap) (s : Sem Value) : Prop :=
  ∃ v' ρ' w', s.run P w = .ok v' w' ∧ VRel ρ' v v' ∧ HRel ρ' h' w' ∧ Adv h.n ρ h w ρ' h' w'
def OpOk (P : Program) (ρ : Rho) (h : AHeap) (w : World) (r : ANext) (s : Sem Next) : Prop :=
  match r with
  | .val v h' => ∃ nx v' ρ' w', s.run P w = .ok nx w' ∧ (nx = .value v' ∨ nx = .skip ∧ v' = Go.undef) ∧ VRel ρ' v v' ∧ HRel ρ' h' w' ∧ Adv h.n ρ h w ρ' h' w'
  | .enter f args => ∃ args', s.run P w = .ok (.enter f args') w ∧ ARel (VRel ρ) args args'
  | .round l args => ∃ l' args', s.run P w = (Instr.yield l' args').run P w ∧ BRel ρ l l' ∧ ARel (VRel ρ) args args'
def ValOkN (P : Program) (ρ : Rho) (h : AHeap) (w : World) (r : ANext) (s : Sem Value) : Prop :=
  match r with
  | .val v h' => ValOk P ρ h w v h' s
  | _ => False
theorem ValOkN.op {r : ANext} {s : Sem Value} (k : ValOkN P ρ h w r s) : OpOk P ρ h w r (do pure (.value (← s))) := by
  cases r with
  | val v h' =>
    obtain ⟨v', ρ', w', e, r⟩ := k
    exact ⟨.value v', v', ρ', w', by simp [e], .inl rfl, r⟩
  | _ => exact k.elim
theorem ValOk.same (H : HRel ρ h w) {v v' : Value} {s : Sem Value} (e : s.run P w = .ok v' w) (hv : VRel ρ v v') : ValOk P ρ h w v h s :=
  ⟨v', ρ, w, e, hv, H, Adv.refl _ _ _ _⟩

/-- New cells. -/
theorem new_cells (H : HRel ρ h w) (c : List Value) (c' : Array Value) (elem : TypeId) (row : Nat) (hc : ∀ ρ', ρ.le ρ' → LRel (VRel ρ') c (c'.toList.take c.length)) :
    HRel (ρ.upd h.n (.live ⟨w.heap.size, 0, c'.size, row⟩)) (h.push (.cells c elem row false)) (w.alloc (.cells c' elem)) ∧
    Adv h.n ρ h w (ρ.upd h.n (.live ⟨w.heap.size, 0, c'.size, row⟩)) (h.push (.cells c elem row false)) (w.alloc (.cells c' elem)) := by
  have hl := hc _ (Rho.le_born (s := .live ⟨w.heap.size, 0, c'.size, row⟩) (H.bound h.n (Nat.le_refl _)))
  refine H.new ⟨w.heap.size, 0, c'.size, row⟩ rfl _ _ ⟨c', (0, 0), rfl, ?_, rfl, rfl, fun j v hv => ?_, .inl rfl⟩
  · have := hl.1
    simp at this
    simp; omega
  · have hj : j < c.length := (List.getElem?_eq_some_iff.1 hv).1
    have hj' : j < (c'.toList.take c.length).length := by rw [← hl.1]; exact hj
    have e2 := List.getElem?_eq_getElem hj'
    refine ⟨_, ?_, hl.2 j v _ hv e2⟩
    rw [List.getElem?_take, if_pos hj, Array.getElem?_toList] at e2
    simp [e2]
theorem new_cells_exact (H : HRel ρ h w) (c : List Value) (c' : Array Value) (elem : TypeId) (row : Nat) (hc : LRel (VRel ρ) c c'.toList) :
    HRel (ρ.upd h.n (.live ⟨w.heap.size, 0, c'.size, row⟩)) (h.push (.cells c elem row false)) (w.alloc (.cells c' elem)) ∧
    Adv h.n ρ h w (ρ.upd h.n (.live ⟨w.heap.size, 0, c'.size, row⟩)) (h.push (.cells c elem row false)) (w.alloc (.cells c' elem)) := by
  have e : c'.toList.take c.length = c'.toList := by rw [hc.1]; exact List.take_length
  exact new_cells H c c' elem row (fun ρ' hle => by rw [e]; exact hc.mono fun _ _ k => k.mono hle)

theorem aalloc_ok (H : HRel ρ h w) {elem : TypeId} {old : Value} {r : ANext} (ha : aalloc P h elem = some r) : ValOkN P ρ h w r (Instr.alloc elem true old) := by
  unfold aalloc at ha
  split at ha
  · rename_i z hz
    split at ha
    · rename_i hf
      cases ha
      have r1 := pureRun_sound P _ _ hz
      have hc : LRel (VRel ρ) z.cells.toList z.cells.toList := (VRel.flat hf).cells
      obtain ⟨H', A'⟩ := new_cells_exact H z.cells.toList z.cells elem 0 hc
      refine ⟨.pointer (some ⟨w.heap.size, 0, none⟩), _, w.alloc (.cells z.cells elem), ?_, VRel.mk_ptr (g := ⟨w.heap.size, 0, z.cells.size, 0⟩) (ρ.upd_same _ _), H', A'⟩
      cases old <;> simp [Instr.alloc, r1, newVar, newRow]
    · cases ha
  · cases ha
theorem abox_ok (H : HRel ρ h w) {elem : TypeId} {x y : Value} {r : ANext} (hx : VRel ρ x y) (ha : abox h elem x = some r) : ValOkN P ρ h w r (Instr.box elem y) := by
  unfold abox at ha
  cases ha
  obtain ⟨H', A'⟩ := new_cells_exact H x.cells.toList y.cells elem 0 hx.cells
  exact ⟨.pointer (some ⟨w.heap.size, 0, none⟩), _, w.alloc (.cells y.cells elem), by simp [Instr.box, newVar, newRow], VRel.mk_ptr (g := ⟨w.heap.size, 0, y.cells.size, 0⟩) (ρ.upd_same _ _), H', A'⟩

theorem afield_ok {t : TypeId} {v c x : Value} {f : Nat} (hv : VRel ρ v c) (ha : afield P t v f = some x) :
    ∃ x', (∀ w, (Instr.fieldAt t c f).run P w = .ok x' w) ∧ VRel ρ x x' := by
  unfold afield at ha
  split at ha
  · rename_i i o
    split at ha
    · rename_i fields hu
      have r1 := pureRun_sound P _ _ hu
      split at ha
      · rename_i fd hf
        split at ha
        · rename_i s hs
          have r2 := pureRun_sound P _ _ hs
          cases ha
          obtain ⟨a', rfl, hp⟩ := hv.ptr_any
          refine ⟨.pointer (some (a'.add fd.offset)), fun w => by simp [Instr.fieldAt, r1, hf, Instr.sureAddr, fieldPlace, r2], .fold ⟨_, rfl, ?_⟩⟩
          unfold PRel at hp ⊢
          cases hs : ρ i with
          | unborn => simp [hs] at hp
          | dead => simp
          | live g =>
            simp only [hs] at hp ⊢
            obtain ⟨_, rfl⟩ := hp
            rw [add_none]
            exact ⟨trivial, by congr 1; omega⟩
        · cases ha
      · cases ha
    · cases ha
  · cases ha

theorem hasIndex {k : Int} {len : Nat} (h : ahasIndex k len = true) : 0 ≤ k ∧ k < len := by
  cases k with
  | ofNat m => simp only [ahasIndex, Nat.blt_eq] at h; exact ⟨by simp, by simp; omega⟩
  | negSucc m => simp [ahasIndex] at h
theorem PRel.add {i o k : Nat} {a' : Addr} (hp : PRel ρ ⟨i, o, none⟩ a') : PRel ρ ⟨i, o + k, none⟩ (a'.add k) := by
  unfold PRel at hp ⊢
  cases hs : ρ i with
  | unborn => simp [hs] at hp
  | dead => simp
  | live g =>
    simp only [hs] at hp ⊢
    obtain ⟨_, rfl⟩ := hp
    rw [add_none]
    exact ⟨trivial, by congr 1; omega⟩
theorem aindex_ok {t : TypeId} {v c ix iy x : Value} (hv : VRel ρ v c) (hix : VRel ρ ix iy) (ha : aindex P t v ix = some x) :
    ∃ x', (∀ w, (Instr.indexAt t c iy).run P w = .ok x' w) ∧ VRel ρ x x' := by
  unfold aindex at ha
  split at ha
  · rename_i kk k
    obtain rfl := hix.int
    split at ha
    · rename_i len elem i o hu
      have r1 := pureRun_sound P _ _ hu
      split at ha
      · rename_i s hb hs
        have r2 := pureRun_sound P _ _ hs
        cases ha
        obtain ⟨a', rfl, hp⟩ := hv.ptr_any
        obtain ⟨h1, h2⟩ := hasIndex hb
        refine ⟨.pointer (some (a'.add (k.toNat * s))), fun w => ?_, .fold ⟨_, rfl, hp.add⟩⟩
        simp [Instr.indexAt, asIntOf, r1, Instr.sureAddr, h1, h2, r2]
      · cases ha
    · rename_i elem i o len cap hu
      have r1 := pureRun_sound P _ _ hu
      split at ha
      · rename_i s hb hs
        have r2 := pureRun_sound P _ _ hs
        cases ha
        obtain ⟨a', k', rfl, hp, _⟩ := hv.slice_any
        obtain ⟨h1, h2⟩ := hasIndex hb
        refine ⟨.pointer (some (a'.add (k.toNat * s))), fun w => ?_, .fold ⟨_, rfl, hp.add⟩⟩
        simp [Instr.indexAt, asIntOf, r1, h1, h2, r2]
      · cases ha
    · cases ha
  · cases ha

theorem aextract_ok {t c x : Value} {i : Nat} (hv : VRel ρ t c) (ha : aextract t i = some x) : ∃ x', (∀ w, (Instr.extract c i).run P w = .ok x' w) ∧ VRel ρ x x' := by
  unfold aextract at ha
  split at ha
  · rename_i vs
    obtain ⟨vs', rfl, h1, h2⟩ := hv.unfold
    have hi : i < vs'.size := by rw [← h1]; exact (Array.getElem?_eq_some_iff.1 ha).1
    have e := Array.getElem?_eq_getElem hi
    exact ⟨vs'[i], fun w => by simp [Instr.extract, hi], h2 i _ _ ha e⟩
  · cases ha
end
end Go.Am
