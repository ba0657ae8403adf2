/-
  OWN WORK. 'Am': arguments that are slices whose elements have several cells.
-/
import Derived.Test.YtihnnmejkpddeaaGreatDoorAmBr
namespace Go.Am
section
variable {P : Program} {W : World}
theorem flat_get {α : Type} {E : α → List Value} {s : Nat} (hs : ∀ z, (E z).length = s) : ∀ {l : List α} {j : Nat} {v : Value}, (l.flatMap E)[j]? = some v → ∃ (i t : Nat) (z : α), j = i * s + t ∧ t < s ∧ l[i]? = some z ∧ (E z)[t]? = some v
 | [], j, v, h => by simp at h
 | x :: l, j, v, h => by
  rw [List.flatMap_cons] at h
  by_cases hj : j < s
  ·rw [List.getElem?_append_left (by rw [hs]; exact hj)] at h
   exact ⟨0, j, x, by omega, hj, rfl, h⟩
  ·rw [List.getElem?_append_right (by rw [hs]; omega), hs] at h
   obtain ⟨i, t, z, h1, h2, h3, h4⟩ := flat_get hs h
   exact ⟨i + 1, t, z, by rw [Nat.succ_mul]; omega, h2, h3, h4⟩
theorem flat_len {α : Type} {E : α → List Value} {s : Nat} (hs : ∀ z, (E z).length = s) : ∀ l : List α, (l.flatMap E).length = l.length * s
 | [] => by simp
 | x :: l => by rw [List.flatMap_cons, List.length_append, hs, flat_len hs l, List.length_cons, Nat.succ_mul]; omega
theorem wide_shapes {H : Type} {enc : TypeId × Value → H} {base : Nat} {sp : Nat → Bool} {held : Bool} {t e : TypeId} {fuel : Nat} {cs : List Value} {x : DataW H × List MemPlace} (ht : P.underlying t = some (.slice e)) {s : Nat} (hc : P.cellsOf e = s) (hs0 : 0 < s) {α : Type} [Inhabited α] (E : α → List Value) (hs : ∀ z, (E z).length = s)
  (he : ∀ m vs y, vs.length = s → DataW.trod enc P W base sp held m e vs = some y → ∃ z, vs = E z) (h : DataW.trod enc P W base sp held fuel t cs = some x) :
  cs = [.slice none 0 0] ∨ (∃ a k, cs = [.slice (some a) 0 k]) ∨
  ∃ (b off k : Nat) (l : List α) (c' : Array Value) (el : TypeId) (fr : Nat × Nat), cs = [.slice (some ⟨b, off, none⟩) l.length k] ∧ 0 < l.length ∧ l.length ≤ k ∧ k ≤ maxLen ∧ W.heap[b]? = some (.cells c' el fr) ∧ off + (l.flatMap E).length ≤ c'.size ∧
   ∀ (j : Nat) v, (l.flatMap E)[j]? = some v → c'[off + j]? = some v := by
 rcases Deep.open_slice ht h with h0 | ⟨a, len, cap, m, n, D, Pl, rfl, hb, hl, hm, hmm, rfl, hx⟩
 ·exact .inl h0.1
 ·rw [hc] at hx
  cases len with
  | zero => exact .inr (.inl ⟨a, cap, rfl⟩)
  | succ len =>
   have hm' : len + 1 ≤ m := by rw [hmm]; split <;> omega
   have cell : ∀ i, i < m → ∃ z, ∀ t, t < s → W.cell? ((a.add (i * s)).add t) = (E z)[t]? := fun i hi => by
    obtain ⟨cs', h1, h2⟩ := hx i hi
    obtain ⟨_, h3, h4⟩ := World.cells?_some h1
    obtain ⟨z, rfl⟩ := he _ _ _ h3 h2
    exact ⟨z, h4⟩
   obtain ⟨z0, h0⟩ := cell 0 (by omega)
   have h0 := h0 0 hs0
   obtain ⟨b, off, sp'⟩ := a
   have e00 : (((⟨b, off, sp'⟩ : Addr).add (0 * s)).add 0) = ⟨b, off, sp'⟩ := by
    rw [Nat.zero_mul]
    unfold Addr.add
    simp
   rw [e00, List.getElem?_eq_getElem (by rw [hs]; exact hs0)] at h0
   have hw : ∃ c' el fr, W.heap[b]? = some (.cells c' el fr) ∧ sp' = none := by
    unfold World.cell? at h0
    split at h0
    ·rename_i c' el fr hw
     split at h0
     ·cases h0
     ·rename_i hs
      exact ⟨c', el, fr, hw, by cases sp' with | none => rfl | some q => simp at hs⟩
    ·cases h0
   obtain ⟨c', el, fr, hw, rfl⟩ := hw
   have hcell : ∀ i, i < len + 1 → ∃ z, ∀ t, t < s → c'[off + (i * s + t)]? = (E z)[t]? := fun i hi => by
    obtain ⟨z, hz⟩ := cell i (by omega)
    refine ⟨z, fun t ht => ?_⟩
    have := hz t ht
    rw [add_none, add_none, cell_block hw] at this
    rw [← this, Nat.add_assoc]
   obtain ⟨F, hF⟩ := Deep.choose_lt (p := fun i z => ∀ t, t < s → c'[off + (i * s + t)]? = (E z)[t]?) hcell
   have hlen : ((List.range (len + 1)).map F).length = len + 1 := by simp
   refine .inr (.inr ⟨b, off, cap, (List.range (len + 1)).map F, c', el, fr, by rw [hlen], by omega, by omega, hm, hw, ?_, fun j v hv => ?_⟩)
   ·rw [flat_len hs, hlen]
    have := hF len (by omega) (s - 1) (by omega)
    rw [List.getElem?_eq_getElem (by rw [hs]; omega)] at this
    have := (Array.getElem?_eq_some_iff.1 this).1
    rw [Nat.succ_mul]
    omega
   ·obtain ⟨i, t, z, rfl, h2, h3, h4⟩ := flat_get hs hv
    rw [List.getElem?_map] at h3
    obtain ⟨q, hq, rfl⟩ := Option.map_eq_some_iff.1 h3
    obtain ⟨h5, h6⟩ := List.getElem?_eq_some_iff.1 hq
    have : q = i := by simpa using h6.symm
    subst this
    rw [hF q (by simpa using h5) t h2, h4]
end
end Go.Am
