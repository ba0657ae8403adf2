/-
  OWN WORK. 'Am', fifth text: what a read, a write, a new block do to the relation.
-/
import Derived.Test.YtmfepbkpojafnaaGreatDoorAmD
import Derived.Laws.Cells
import Derived.Laws.World
namespace Go.Am

def Rho.upd (ρ : Rho) (i : Nat) (s : St) : Rho := fun j => if j = i then s else ρ j
theorem Rho.upd_same (ρ : Rho) (i : Nat) (s : St) : ρ.upd i s i = s := by simp [Rho.upd]
theorem Rho.upd_ne (ρ : Rho) {i j : Nat} (s : St) (h : j ≠ i) : ρ.upd i s j = ρ j := by simp [Rho.upd, h]
theorem Rho.le_born {ρ : Rho} {i : Nat} {s : St} (h : ρ i = .unborn) : ρ.le (ρ.upd i s) := by
  intro j
  by_cases e : j = i
  · subst e; rw [h]; trivial
  · rw [ρ.upd_ne s e]; exact St.le_refl _
theorem Rho.le_dead {ρ : Rho} {i : Nat} : ρ.le (ρ.upd i .dead) := by
  intro j
  by_cases e : j = i
  · subst e; rw [ρ.upd_same]; cases ρ j <;> simp [St.le]
  · rw [ρ.upd_ne _ e]; exact St.le_refl _

theorem pureRun_sound {α : Type} (P : Program) (s : Sem α) : ∀ (a : α), pureRun P s = some a → ∀ w, s.run P w = .ok a w := by
  induction s with
  | pure a => intro b h w; simp only [pureRun, Option.some.injEq] at h; subst h; rfl
  | program k ih => intro b h w; exact ih P b h w
  | mark m k ih => intro b h w; exact ih b h w
  | choose q k ih =>
    intro b h w
    simp only [pureRun] at h
    cases hq : q.forced with
    | false => simp [hq] at h
    | true => simp only [hq] at h; simp only [Sem.run, hq, if_true]; exact ih 0 b h w
  | _ => intro b h w; simp [pureRun] at h
theorem run_then {α β : Type} {P : Program} {x : Sem α} {f : α → Sem β} {w w' : World} {a : α} (h : x.run P w = .ok a w') : (x >>= f).run P w = (f a).run P w' := by
  rw [Sem.run_bind, h]; rfl

def setBlock (w : World) (b : Nat) (o : Obj) : World := { w with heap := w.heap.setIfInBounds b o }
theorem setBlock_same {w : World} {b : Nat} {o : Obj} (h : w.heap[b]? = some o) : setBlock w b o = w := by
  have : w.heap.setIfInBounds b o = w.heap := by
    apply Array.ext_getElem?
    intro j
    rw [Array.getElem?_setIfInBounds]
    split
    · rename_i e; subst e
      obtain ⟨hlt, hv⟩ := Array.getElem?_eq_some_iff.1 h
      simp [hlt, hv]
    · rfl
  simp [setBlock, this]
theorem setBlock_twice (w : World) (b : Nat) (o o' : Obj) : setBlock (setBlock w b o) b o' = setBlock w b o' := by
  simp [setBlock, Array.setIfInBounds_setIfInBounds]
theorem setBlock_at {w : World} {b : Nat} {o : Obj} (h : b < w.heap.size) : (setBlock w b o).heap[b]? = some o := by
  simp [setBlock, h]
theorem setBlock_ne {w : World} {b j : Nat} {o : Obj} (h : j ≠ b) : (setBlock w b o).heap[j]? = w.heap[j]? := by
  simp only [setBlock, Array.getElem?_setIfInBounds]
  rw [if_neg (Ne.symm h)]
@[simp] theorem setBlock_size (w : World) (b : Nat) (o : Obj) : (setBlock w b o).heap.size = w.heap.size := by simp [setBlock]
theorem setCell_block {w : World} {b k : Nat} {c : Array Value} {e : TypeId} {fr : Nat × Nat} {v : Value} (h : w.heap[b]? = some (.cells c e fr)) :
    w.setCell ⟨b, k, none⟩ v = setBlock w b (.cells (c.setIfInBounds k v) e fr) := by
  have : w.heap.modify b (fun
      | .cells c elem frozen => .cells (c.setIfInBounds k v) elem frozen
      | o => o) = w.heap.setIfInBounds b (.cells (c.setIfInBounds k v) e fr) := by
    apply Array.ext_getElem?
    intro j
    rw [Array.getElem?_setIfInBounds, Array.getElem?_modify]
    by_cases e : b = j
    · subst e
      obtain ⟨hlt, hv⟩ := Array.getElem?_eq_some_iff.1 h
      simp [hlt, hv]
    · simp [e]
  simp only [World.setCell, setBlock]
  exact congrArg (fun x => ({ w with heap := x } : World)) this
theorem cell_block {w : World} {b k : Nat} {c : Array Value} {e : TypeId} {fr : Nat × Nat} (h : w.heap[b]? = some (.cells c e fr)) : w.cell? ⟨b, k, none⟩ = c[k]? := by
  simp [World.cell?, h]
theorem frozen_block {w : World} {b k : Nat} {c : Array Value} {e : TypeId} {fr : Nat × Nat} (h : w.heap[b]? = some (.cells c e fr)) : w.frozen? ⟨b, k, none⟩ = (decide (fr.1 ≤ k) && decide (k < fr.2)) := by
  obtain ⟨lo, hi⟩ := fr
  simp [World.frozen?, h]
theorem add_none (b k i : Nat) : (⟨b, k, none⟩ : Addr).add i = ⟨b, k + i, none⟩ := by
  unfold Addr.add
  split
  · rename_i h; subst h; rfl
  · rfl

def putCells (c : Array Value) (k : Nat) : List Value → Array Value
  | [] => c
  | y :: ys => putCells (c.setIfInBounds k y) (k + 1) ys
theorem putCells_size : ∀ (ys : List Value) (c : Array Value) (k : Nat), (putCells c k ys).size = c.size
  | [], _, _ => rfl
  | y :: ys, c, k => by simp [putCells, putCells_size ys]
theorem putCells_get : ∀ (ys : List Value) (c : Array Value) (k j : Nat), k + ys.length ≤ c.size →
    (putCells c k ys)[j]? = if k ≤ j ∧ j < k + ys.length then ys[j - k]? else c[j]?
  | [], c, k, j, _ => by simp only [putCells, List.length_nil]; rw [if_neg (by omega)]
  | y :: ys, c, k, j, h => by
    simp only [List.length_cons] at h
    rw [putCells, putCells_get ys _ (k + 1) j (by simp; omega)]
    simp only [List.length_cons]
    by_cases e : j = k
    · subst e
      rw [if_neg (by omega), if_pos (by omega)]
      simp only [Nat.sub_self, List.getElem?_cons_zero]
      rw [Array.getElem?_setIfInBounds]
      simp; omega
    · by_cases e1 : k + 1 ≤ j ∧ j < k + 1 + ys.length
      · rw [if_pos e1, if_pos (by omega), show j - k = (j - (k + 1)) + 1 by omega, List.getElem?_cons_succ]
      · rw [if_neg e1, if_neg (by omega), Array.getElem?_setIfInBounds, if_neg (Ne.symm e)]

theorem run_storeCells (P : Program) {b k : Nat} {e : TypeId} {fr : Nat × Nat} : ∀ (ys : List Value) (i : Nat) (w : World) (c : Array Value),
    w.heap[b]? = some (.cells c e fr) → k + i + ys.length ≤ c.size → (∀ y ∈ ys, y.oneCell' = true) → (∀ j, k + i ≤ j → j < k + i + ys.length → ¬ (fr.1 ≤ j ∧ j < fr.2)) →
    (storeCells ⟨b, k, none⟩ ys i).run P w = .ok () (setBlock w b (.cells (putCells c (k + i) ys) e fr))
  | [], i, w, c, hb, _, _, _ => by
    simp only [storeCells, putCells, setBlock_same hb]; rfl
  | y :: ys, i, w, c, hb, hk, h1, hf => by
    simp only [List.length_cons] at hk hf
    have hlt : k + i < c.size := by omega
    have hc : w.cell? ⟨b, k + i, none⟩ = some c[k + i] := by rw [cell_block hb]; simp [hlt]
    have hz : w.frozen? ⟨b, k + i, none⟩ = false := by
      rw [frozen_block hb]
      have := hf (k + i) (by omega) (by omega)
      cases hx : (decide (fr.1 ≤ k + i) && decide (k + i < fr.2)) with
      | false => rfl
      | true => simp only [Bool.and_eq_true, decide_eq_true_eq] at hx; exact absurd hx this
    simp only [storeCells]
    rw [add_none]
    have hrun : (store ⟨b, k + i, none⟩ y).run P w = .ok () (setBlock w b (.cells (c.setIfInBounds (k + i) y) e fr)) := by
      rw [run_store P w _ _ _ (h1 y (by simp)), hc]
      simp only [hz]
      rw [← setCell_block hb]
      rfl
    rw [run_then hrun]
    have hb' : b < w.heap.size := (Array.getElem?_eq_some_iff.1 hb).1
    rw [run_storeCells P ys (i + 1) _ (c.setIfInBounds (k + i) y) (setBlock_at hb') (by simp; omega) (fun z hz => h1 z (by simp [hz])) (fun j a b => hf j (by omega) (by omega)), setBlock_twice]
    rfl

/-! Lists of values. -/
def LRel (R : Value → Value → Prop) (a b : List Value) : Prop := a.length = b.length ∧ ∀ (i : Nat) x y, a[i]? = some x → b[i]? = some y → R x y
theorem LRel.of_ARel {R : Value → Value → Prop} {a b : Array Value} (h : ARel R a b) : LRel R a.toList b.toList :=
  ⟨by simpa using h.1, fun i x y hx hy => h.2 i x y (by simpa using hx) (by simpa using hy)⟩
theorem ARel.of_LRel {R : Value → Value → Prop} {a b : List Value} (h : LRel R a b) : ARel R a.toArray b.toArray :=
  ⟨by simpa using h.1, fun i x y hx hy => h.2 i x y (by simpa using hx) (by simpa using hy)⟩
theorem LRel.nil {R : Value → Value → Prop} : LRel R [] [] := ⟨rfl, fun i x y hx => by simp at hx⟩
theorem LRel.cons {R : Value → Value → Prop} {x y : Value} {a b : List Value} (h : R x y) (k : LRel R a b) : LRel R (x :: a) (y :: b) := by
  refine ⟨by simp [k.1], fun i u v hu hv => ?_⟩
  cases i with
  | zero => simp at hu hv; subst hu; subst hv; exact h
  | succ i => exact k.2 i u v (by simpa using hu) (by simpa using hv)
theorem LRel.nil_left {R : Value → Value → Prop} {b : List Value} (h : LRel R [] b) : b = [] := by simpa using h.1.symm
theorem LRel.cons_left {R : Value → Value → Prop} {x : Value} {a b : List Value} (h : LRel R (x :: a) b) : ∃ y b', b = y :: b' ∧ R x y ∧ LRel R a b' := by
  obtain ⟨h1, h2⟩ := h
  cases b with
  | nil => simp at h1
  | cons y b' => exact ⟨y, b', rfl, h2 0 x y rfl rfl, by simpa using h1, fun i u v hu hv => h2 (i + 1) u v (by simpa using hu) (by simpa using hv)⟩
theorem LRel.mono {R R' : Value → Value → Prop} (h : ∀ v c, R v c → R' v c) {a b : List Value} (k : LRel R a b) : LRel R' a b :=
  ⟨k.1, fun i x y hx hy => h _ _ (k.2 i x y hx hy)⟩
theorem LRel.append {R : Value → Value → Prop} {a b c d : List Value} (h : LRel R a b) (k : LRel R c d) : LRel R (a ++ c) (b ++ d) := by
  refine ⟨by simp [h.1, k.1], fun i x y hx hy => ?_⟩
  rw [List.getElem?_append] at hx hy
  rw [← h.1] at hy
  split at hx
  · rename_i hlt; rw [if_pos hlt] at hy; exact h.2 i x y hx hy
  · rename_i hlt; rw [if_neg hlt] at hy; exact k.2 _ x y hx hy
theorem LRel.take {R : Value → Value → Prop} {a b : List Value} (h : LRel R a b) (n : Nat) : LRel R (a.take n) (b.take n) := by
  refine ⟨by simp [h.1], fun i x y hx hy => ?_⟩
  rw [List.getElem?_take] at hx hy
  split at hx
  · rename_i hlt; rw [if_pos hlt] at hy; exact h.2 i x y hx hy
  · cases hx
theorem LRel.drop {R : Value → Value → Prop} {a b : List Value} (h : LRel R a b) (n : Nat) : LRel R (a.drop n) (b.drop n) := by
  refine ⟨by simp [h.1], fun i x y hx hy => ?_⟩
  rw [List.getElem?_drop] at hx hy
  exact h.2 _ x y hx hy
theorem LRel.refl_of {R : Value → Value → Prop} {a : List Value} (h : ∀ x ∈ a, R x x) : LRel R a a :=
  ⟨rfl, fun i x y hx hy => by rw [hx] at hy; cases hy; exact h x (List.mem_of_getElem? hx)⟩
theorem LRel.flat {ρ : Rho} {n : Nat} {a : List Value} (h : a.all (Am.flat n) = true) : LRel (VRel ρ) a a :=
  LRel.refl_of fun x hx => VRel.flat (List.all_eq_true.1 h x hx)
theorem LRel.flat_eq {ρ : Rho} {n : Nat} {a b : List Value} (h : a.all (Am.flat n) = true) (k : LRel (VRel ρ) a b) : b = a := by
  induction a generalizing b with
  | nil => exact k.nil_left
  | cons x a ih =>
    obtain ⟨y, b', rfl, h1, h2⟩ := k.cons_left
    simp only [List.all_cons, Bool.and_eq_true] at h
    rw [VRel.flat_eq h.1 h1, ih h.2 h2]
theorem VRel.oneCell {ρ : Rho} {x y : Value} (h : VRel ρ x y) : y.oneCell' = x.oneCell' := by
  have k := h.unfold
  cases x with
  | pointer a => cases a with
    | none => rw [show y = _ from k]
    | some a => obtain ⟨_, rfl, _⟩ := k; rfl
  | slice a n c => cases a with
    | none => rw [show y = _ from k]
    | some a => obtain ⟨_, _, rfl, _⟩ := k; rfl
  | map a => cases a with
    | none => rw [show y = _ from k]
    | some a => obtain ⟨_, rfl, _⟩ := k; rfl
  | chan a => cases a with
    | none => rw [show y = _ from k]
    | some a => exact k.elim
  | func fn first cap => obtain ⟨_, _, _, rfl, _⟩ := k; rfl
  | agg cs => obtain ⟨_, rfl, _⟩ := k; rfl
  | tuple cs => obtain ⟨_, rfl, _⟩ := k; rfl
  | iface t v => obtain ⟨_, rfl, _⟩ := k; rfl
  | _ => rw [show y = _ from k]
theorem LRel.oneCell {ρ : Rho} {a b : List Value} (k : LRel (VRel ρ) a b) (h : a.all Value.oneCell' = true) : ∀ y ∈ b, y.oneCell' = true := by
  intro y hy
  obtain ⟨i, hi⟩ := List.mem_iff_getElem?.1 hy
  have hlt : i < a.length := by rw [k.1]; exact (List.getElem?_eq_some_iff.1 hi).1
  have hx : a[i]? = some a[i] := List.getElem?_eq_getElem hlt
  rw [(k.2 i _ _ hx hi).oneCell]
  exact List.all_eq_true.1 h _ (List.mem_of_getElem? hx)
/-- The cells of a value. -/
theorem VRel.cells {ρ : Rho} {x y : Value} (h : VRel ρ x y) : LRel (VRel ρ) x.cells.toList y.cells.toList := by
  have h0 := h
  have k := h.unfold
  cases x with
  | agg cs => obtain ⟨cs', rfl, h1⟩ := k; exact LRel.of_ARel h1
  | pointer a => cases a with
    | none => rw [show y = _ from k] at h0 ⊢; exact LRel.cons h0 LRel.nil
    | some a => obtain ⟨_, rfl, _⟩ := k; exact LRel.cons h0 LRel.nil
  | slice a n c => cases a with
    | none => rw [show y = _ from k] at h0 ⊢; exact LRel.cons h0 LRel.nil
    | some a => obtain ⟨_, _, rfl, _⟩ := k; exact LRel.cons h0 LRel.nil
  | map a => cases a with
    | none => rw [show y = _ from k] at h0 ⊢; exact LRel.cons h0 LRel.nil
    | some a => obtain ⟨_, rfl, _⟩ := k; exact LRel.cons h0 LRel.nil
  | chan a => cases a with
    | none => rw [show y = _ from k] at h0 ⊢; exact LRel.cons h0 LRel.nil
    | some a => exact k.elim
  | func fn first cap => obtain ⟨_, _, _, rfl, _⟩ := k; exact LRel.cons h0 LRel.nil
  | tuple cs => obtain ⟨_, rfl, _⟩ := k; exact LRel.cons h0 LRel.nil
  | iface t v => obtain ⟨_, rfl, _⟩ := k; exact LRel.cons h0 LRel.nil
  | _ => rw [show y = _ from k] at h0 ⊢; exact LRel.cons h0 LRel.nil

/-! Reading. -/
theorem HRel.cells {ρ : Rho} {h : AHeap} {w : World} (H : HRel ρ h w) {i : Nat} {g : G} (hi : ρ i = .live g) {c : List Value} {e : TypeId} {row : Nat} {ro : Bool} (hg : h.get i = some (.cells c e row ro)) :
    ∃ c' fr, w.heap[g.b]? = some (.cells c' e fr) ∧ g.sh + c.length ≤ c'.size ∧ c'.size = g.tot ∧ g.row = row ∧ CellsRel ρ c c' g.sh ∧ (fr.1 = fr.2 ∨ g.tot ≤ fr.1) := by
  obtain ⟨o, o', h1, h2, h3⟩ := H.obj i g hi
  rw [hg] at h1
  cases h1
  obtain ⟨c', fr, rfl, r⟩ := h3
  exact ⟨c', fr, h2, r⟩
theorem HRel.cell {ρ : Rho} {h : AHeap} {w : World} (H : HRel ρ h w) {i : Nat} {g : G} (hi : ρ i = .live g) {c : List Value} {e : TypeId} {row : Nat} {ro : Bool} (hg : h.get i = some (.cells c e row ro))
    {o : Nat} {v : Value} (hv : c[o]? = some v) : ∃ v', w.cell? ⟨g.b, o + g.sh, none⟩ = some v' ∧ VRel ρ v v' := by
  obtain ⟨c', fr, h1, _, _, _, h5, _⟩ := H.cells hi hg
  obtain ⟨v', e1, e2⟩ := h5 o v hv
  exact ⟨v', by rw [cell_block h1, Nat.add_comm]; exact e1, e2⟩
theorem HRel.read {ρ : Rho} {h : AHeap} {w : World} (H : HRel ρ h w) (P : Program) {i : Nat} {g : G} (hi : ρ i = .live g) {c : List Value} {e : TypeId} {row : Nat} {ro : Bool} (hg : h.get i = some (.cells c e row ro))
    {o n : Nat} (hn : o + n ≤ c.length) : ∃ ys, LRel (VRel ρ) ((c.drop o).take n) ys ∧ (loadCells ⟨g.b, o + g.sh, none⟩ n).run P w = .ok ys.toArray w := by
  obtain ⟨c', fr, h1, h2, _, _, h5, _⟩ := H.cells hi hg
  have hl : ((c'.toList.drop (g.sh + o)).take n).length = n := by simp; omega
  refine ⟨(c'.toList.drop (g.sh + o)).take n, ⟨by simp; omega, fun j x y hx hy => ?_⟩, ?_⟩
  · rw [List.getElem?_take] at hx hy
    split at hx
    · rename_i hlt
      rw [if_pos hlt, List.getElem?_drop] at hy
      rw [List.getElem?_drop] at hx
      obtain ⟨v', e1, e2⟩ := h5 _ _ hx
      rw [Array.getElem?_toList, Nat.add_assoc, e1] at hy
      cases hy
      exact e2
    · cases hx
  · have := run_loadCells_list (P := P) w ⟨g.b, o + g.sh, none⟩ ((c'.toList.drop (g.sh + o)).take n) (fun j v hv => by
      rw [add_none, cell_block h1]
      rw [List.getElem?_take] at hv
      split at hv
      · rw [List.getElem?_drop, Array.getElem?_toList] at hv
        rw [show o + g.sh + j = g.sh + o + j by omega]
        exact hv
      · cases hv)
    rw [hl] at this
    exact this

/-! Writing. -/
theorem splice_get (c : List Value) (o : Nat) (xs : List Value) (h : o + xs.length ≤ c.length) (j : Nat) :
    (splice c o xs)[j]? = if o ≤ j ∧ j < o + xs.length then xs[j - o]? else c[j]? := by
  unfold splice
  have hl : (c.take o).length = o := by simp; omega
  rw [List.getElem?_append, hl]
  by_cases h1 : j < o
  · rw [if_pos h1, if_neg (by omega), List.getElem?_take, if_pos h1]
  · rw [if_neg h1, List.getElem?_append]
    by_cases h2 : j - o < xs.length
    · rw [if_pos h2, if_pos (by omega)]
    · rw [if_neg h2, if_neg (by omega), List.getElem?_drop]
      congr 1
      omega
theorem splice_length (c : List Value) (o : Nat) (xs : List Value) (h : o + xs.length ≤ c.length) : (splice c o xs).length = c.length := by
  unfold splice; simp; omega
theorem rw_set_cells {h : AHeap} {i : Nat} {c c' : List Value} {e : TypeId} {row : Nat} {ro : Bool} (hg : h.get i = some (.cells c e row ro)) (j : Nat) :
    (h.set i (.cells c' e row ro)).rw j = h.rw j := by
  unfold AHeap.rw
  rw [AHeap.get_set]
  by_cases e : j = i
  · subst e; simp [hg]
  · simp [e]
theorem HRel.write {ρ : Rho} {h : AHeap} {w : World} (H : HRel ρ h w) (P : Program) {i : Nat} {g : G} (hi : ρ i = .live g) {c : List Value} {e' : TypeId} {row : Nat} (hg : h.get i = some (.cells c e' row false))
    {o : Nat} {xs ys : List Value} (hn : o + xs.length ≤ c.length) (h1 : xs.all Value.oneCell' = true) (hxy : LRel (VRel ρ) xs ys) :
    ∃ w', (storeCells ⟨g.b, o + g.sh, none⟩ ys).run P w = .ok () w' ∧ HRel ρ (h.set i (.cells (splice c o xs) e' row false)) w' ∧
      Adv h.n ρ h w ρ (h.set i (.cells (splice c o xs) e' row false)) w' := by
  obtain ⟨c', fr, e1, e2, e3, e4, e5, e6⟩ := H.cells hi hg
  have hb : g.b < w.heap.size := H.lt hi
  have hlen := hxy.1
  have hput := putCells_get ys c' (o + g.sh)
  refine ⟨_, run_storeCells P ys 0 w c' e1 (by omega) (hxy.oneCell h1) (fun j _ hj => by omega), ?_, ?_⟩
  · refine ⟨H.bound, H.inj, fun j gj hj => ?_, fun j hj o hjo => ?_⟩
    rotate_left
    · rw [AHeap.get_set, if_neg (by intro e; subst e; rw [hi] at hj; cases hj)] at hjo
      exact H.dead j hj o hjo
    by_cases e : j = i
    · subst e
      rw [hi] at hj
      cases hj
      refine ⟨.cells (splice c o xs) e' row false, _, by rw [AHeap.get_set, if_pos rfl], setBlock_at hb, _, _, rfl, ?_, ?_, e4, ?_, e6⟩
      · rw [splice_length c o xs hn, putCells_size]; exact e2
      · rw [putCells_size]; exact e3
      · intro k v hv
        rw [splice_get c o xs hn] at hv
        rw [Nat.add_zero, hput (g.sh + k) (by omega)]
        by_cases hk : o ≤ k ∧ k < o + xs.length
        · rw [if_pos hk] at hv
          rw [if_pos (by omega), show g.sh + k - (o + g.sh) = k - o by omega]
          have hlt : k - o < ys.length := by omega
          exact ⟨ys[k - o], List.getElem?_eq_getElem hlt, hxy.2 _ _ _ hv (List.getElem?_eq_getElem hlt)⟩
        · rw [if_neg hk] at hv
          rw [if_neg (by omega)]
          exact e5 k v hv
    · obtain ⟨o1, o2, f1, f2, f3⟩ := H.obj j gj hj
      have hne : gj.b ≠ g.b := fun he => e (H.inj j i gj g hj hi he)
      exact ⟨o1, o2, by rw [AHeap.get_set, if_neg e]; exact f1, by rw [setBlock_ne hne]; exact f2, f3⟩
  · refine ⟨Rho.le_refl _, Nat.le_refl _, by simp, rfl, rfl, rfl, fun b hb' ho => ?_, fun b _ ⟨j, gj, hj, hbj, hrw⟩ => ⟨j, gj, hj, hbj, by rw [rw_set_cells hg] at hrw; exact hrw⟩, fun _ _ h => h⟩
    refine setBlock_ne fun he => ho ⟨i, g, hi, he.symm, ?_⟩
    simp [AHeap.rw, hg]

/-! New blocks. -/
theorem HRel.push {ρ : Rho} {h : AHeap} {w : World} (H : HRel ρ h w) (o : AObj) : HRel ρ (h.push o) w := by
  refine ⟨fun i hi => H.bound i (by simp at hi; omega), H.inj, fun i g hi => ?_, fun i hi o' ho => ?_⟩
  rotate_left
  · rw [AHeap.get_push, if_neg] at ho
    · exact H.dead i hi o' ho
    · intro e
      have := H.bound i (by omega)
      rw [hi] at this
      cases this
  obtain ⟨o1, o2, f1, f2, f3⟩ := H.obj i g hi
  refine ⟨o1, o2, ?_, f2, f3⟩
  rw [AHeap.get_push, if_neg]
  · exact f1
  · intro e
    have := H.bound i (by omega)
    rw [hi] at this
    cases this
theorem rw_push {h : AHeap} {o : AObj} {i : Nat} (hi : i ≠ h.n) : (h.push o).rw i = h.rw i := by
  unfold AHeap.rw
  rw [AHeap.get_push, if_neg hi]
theorem Adv.push {ρ : Rho} {h : AHeap} {w : World} (H : HRel ρ h w) (o : AObj) : Adv h.n ρ h w ρ (h.push o) w :=
  ⟨Rho.le_refl _, by simp, Nat.le_refl _, rfl, rfl, rfl, fun _ _ _ => rfl, fun b _ ⟨i, g, hi, hb, hr⟩ => ⟨i, g, hi, hb, by
    rwa [rw_push] at hr
    intro e
    have := H.bound i (by omega)
    rw [hi] at this
    cases this⟩, fun _ _ h => h⟩
/-- A block that was not yet born is laid by the world. -/
theorem HRel.birth {ρ : Rho} {h : AHeap} {w : World} (H : HRel ρ h w) {id : Nat} (hid : ρ id = .unborn) (hlt : id < h.n) {g : G} (hb : g.b = w.heap.size) {o : AObj} {o' : Obj} (hg : h.get id = some o)
    (ho : ObjRel (ρ.upd id (.live g)) g o o') : HRel (ρ.upd id (.live g)) h (w.alloc o') := by
  have hle : ρ.le (ρ.upd id (.live g)) := Rho.le_born hid
  have old : ∀ {j gj}, j ≠ id → ρ.upd id (.live g) j = .live gj → ρ j = .live gj := fun hj h => by rwa [ρ.upd_ne _ hj] at h
  refine ⟨fun i hi => ?_, fun i j gi gj hi hj he => ?_, fun i gi hi => ?_, fun i hi o ho => ?_⟩
  rotate_left 3
  · by_cases ei : i = id
    · subst ei; rw [ρ.upd_same] at hi; cases hi
    · rw [ρ.upd_ne _ ei] at hi; exact H.dead i hi o ho
  · rw [ρ.upd_ne _ (by omega)]; exact H.bound i hi
  · by_cases ei : i = id
    · by_cases ej : j = id
      · rw [ei, ej]
      · subst ei
        rw [ρ.upd_same] at hi
        cases hi
        have := H.lt (old ej hj)
        omega
    · by_cases ej : j = id
      · subst ej
        rw [ρ.upd_same] at hj
        cases hj
        have := H.lt (old ei hi)
        omega
      · exact H.inj i j gi gj (old ei hi) (old ej hj) he
  · by_cases ei : i = id
    · subst ei
      rw [ρ.upd_same] at hi
      cases hi
      exact ⟨o, o', hg, by show (w.heap.push o')[g.b]? = _; rw [Array.getElem?_push, if_pos hb], ho⟩
    · obtain ⟨o1, o2, f1, f2, f3⟩ := H.obj i gi (old ei hi)
      have := H.lt (old ei hi)
      refine ⟨o1, o2, f1, ?_, f3.mono hle⟩
      show (w.heap.push o')[gi.b]? = _
      rw [Array.getElem?_push, if_neg (by omega)]
      exact f2
theorem Adv.birth {ρ : Rho} {h : AHeap} {w : World} {id k : Nat} (hid : ρ id = .unborn) (hk : k ≤ id) {g : G} (hb : g.b = w.heap.size) (o' : Obj) : Adv k ρ h w (ρ.upd id (.live g)) h (w.alloc o') := by
  refine ⟨Rho.le_born hid, Nat.le_refl _, by simp, rfl, rfl, rfl, fun b hb' _ => ?_, fun b hb' ⟨i, gi, hi, hbi, hr⟩ => ?_, fun i hi hu => ?_⟩
  · show (w.heap.push o')[b]? = _
    rw [Array.getElem?_push, if_neg (by omega)]
  · by_cases ei : i = id
    · subst ei
      rw [ρ.upd_same] at hi
      cases hi
      omega
    · rw [ρ.upd_ne _ ei] at hi
      exact ⟨i, gi, hi, hbi, hr⟩
  · rw [ρ.upd_ne _ (by omega)]; exact hu
/-- A new block, on both sides. -/
theorem HRel.new {ρ : Rho} {h : AHeap} {w : World} (H : HRel ρ h w) (g : G) (hb : g.b = w.heap.size) (o : AObj) (o' : Obj) (ho : ObjRel (ρ.upd h.n (.live g)) g o o') :
    HRel (ρ.upd h.n (.live g)) (h.push o) (w.alloc o') ∧ Adv h.n ρ h w (ρ.upd h.n (.live g)) (h.push o) (w.alloc o') := by
  have hu := H.bound h.n (Nat.le_refl _)
  exact ⟨(H.push o).birth hu (by simp) hb (by rw [AHeap.get_push, if_pos rfl]) ho, (Adv.push H o).trans (Adv.birth hu (Nat.le_refl _) hb o')⟩
/-- A block of which nothing is known. -/
theorem HRel.nowhere {ρ : Rho} {h : AHeap} {w : World} (H : HRel ρ h w) : HRel (ρ.upd h.n .dead) (h.push .dead) w ∧ Adv h.n ρ h w (ρ.upd h.n .dead) (h.push .dead) w := by
  have hu := H.bound h.n (Nat.le_refl _)
  have P := H.push .dead
  have old : ∀ {j gj}, ρ.upd h.n .dead j = .live gj → ρ j = .live gj := fun {j gj} h' => by
    by_cases e : j = h.n
    · subst e; rw [ρ.upd_same] at h'; cases h'
    · rwa [ρ.upd_ne _ e] at h'
  have hle : ρ.le (ρ.upd h.n .dead) := Rho.le_dead
  refine ⟨⟨fun i hi => ?_, fun i j gi gj hi hj he => P.inj i j gi gj (old hi) (old hj) he, fun i g hi => ?_, fun i hi o ho => ?_⟩, hle, by simp, Nat.le_refl _, rfl, rfl, rfl, fun _ _ _ => rfl, fun b _ ⟨i, g, hi, hb, hr⟩ => ?_, fun i hi hu => ?_⟩
  · rw [ρ.upd_ne _ (by simp at hi; omega)]; exact P.bound i hi
  · obtain ⟨o1, o2, f1, f2, f3⟩ := P.obj i g (old hi)
    exact ⟨o1, o2, f1, f2, f3.mono hle⟩
  · by_cases e : i = h.n
    · subst e
      rw [AHeap.get_push, if_pos rfl] at ho
      cases ho
      rfl
    · rw [ρ.upd_ne _ e] at hi; exact P.dead i hi o ho
  · refine ⟨i, g, old hi, hb, ?_⟩
    rwa [rw_push] at hr
    intro e
    have := old hi
    rw [e, hu] at this
    cases this
  · rw [ρ.upd_ne _ (by omega)]; exact hu
end Go.Am
