/-
  OWN WORK. A DETERMINISTIC ABSTRACT MACHINE FOR THE MODEL ('Am'), first text: tries, abstract heaps, abstract activations.
  An abstract heap numbers its blocks in the order in which the abstract run makes them; which block of a world each of them is, is a map beside it (the second text). It says nothing of spare room, of draws, of the order in which a region was carried out.
-/
import Derived.RangeFuncLeaves
import Derived.RangeFuncCalls
import Derived.OrdersIn
namespace Go.Am
noncomputable section

/-- A map from numbers, as a tree of their digits. -/
inductive Tr (α : Type) where
  | nil
  | node (v : Option α) (l r : Tr α)

namespace Tr
variable {α : Type}
/-- (By the recursors themselves: the kernel carries these out.) -/
def get (t : Tr α) : Nat → Option α :=
  Tr.rec (motive := fun _ => Nat → Option α) (fun _ => none)
    (fun v _ _ gl gr i => Bool.rec (Bool.rec (gr (i / 2 - 1)) (gl (i / 2)) (Nat.beq (i % 2) 1)) v (Nat.beq i 0)) t
def fresh (v : α) (n : Nat) : Nat → Tr α :=
  Nat.rec (motive := fun _ => Nat → Tr α) (fun _ => .nil)
    (fun _ ih i => Bool.rec (Bool.rec (.node none .nil (ih (i / 2 - 1))) (.node none (ih (i / 2)) .nil) (Nat.beq (i % 2) 1)) (.node (some v) .nil .nil) (Nat.beq i 0)) n
def set (t : Tr α) (i : Nat) (v : α) : Tr α :=
  Tr.rec (motive := fun _ => Nat → Tr α) (fun i => fresh v (i + 1) i)
    (fun u l r sl sr i => Bool.rec (Bool.rec (.node u l (sr (i / 2 - 1))) (.node u (sl (i / 2)) r) (Nat.beq (i % 2) 1)) (.node (some v) l r) (Nat.beq i 0)) t i

theorem beq_eq (i j : Nat) : Nat.beq i j = decide (i = j) := by
  cases h : Nat.beq i j
  · have : i ≠ j := fun e => by subst e; simp at h
    simp [this]
  · have : i = j := Nat.eq_of_beq_eq_true h
    simp [this]

theorem get_nil (i : Nat) : (Tr.nil : Tr α).get i = none := rfl
theorem get_node (v : Option α) (l r : Tr α) (i : Nat) : (Tr.node v l r).get i = if i = 0 then v else if i % 2 = 1 then l.get (i / 2) else r.get (i / 2 - 1) := by
  show @Bool.rec (fun _ => Option α) (@Bool.rec (fun _ => Option α) (r.get (i / 2 - 1)) (l.get (i / 2)) (Nat.beq (i % 2) 1)) v (Nat.beq i 0) = _
  simp only [beq_eq]
  by_cases h0 : i = 0
  · simp [h0]
  · by_cases h1 : i % 2 = 1 <;> simp [h0, h1]
theorem fresh_succ (v : α) (n i : Nat) : fresh v (n + 1) i = if i = 0 then .node (some v) .nil .nil else if i % 2 = 1 then .node none (fresh v n (i / 2)) .nil else .node none .nil (fresh v n (i / 2 - 1)) := by
  show @Bool.rec (fun _ => Tr α) (@Bool.rec (fun _ => Tr α) (.node none .nil (fresh v n (i / 2 - 1))) (.node none (fresh v n (i / 2)) .nil) (Nat.beq (i % 2) 1)) (.node (some v) .nil .nil) (Nat.beq i 0) = _
  simp only [beq_eq]
  by_cases h0 : i = 0
  · simp [h0]
  · by_cases h1 : i % 2 = 1 <;> simp [h0, h1]
theorem set_nil (i : Nat) (v : α) : (Tr.nil : Tr α).set i v = fresh v (i + 1) i := rfl
theorem set_node (u : Option α) (l r : Tr α) (i : Nat) (v : α) : (Tr.node u l r).set i v = if i = 0 then .node (some v) l r else if i % 2 = 1 then .node u (l.set (i / 2) v) r else .node u l (r.set (i / 2 - 1) v) := by
  show @Bool.rec (fun _ => Tr α) (@Bool.rec (fun _ => Tr α) (.node u l (r.set (i / 2 - 1) v)) (.node u (l.set (i / 2) v) r) (Nat.beq (i % 2) 1)) (.node (some v) l r) (Nat.beq i 0) = _
  simp only [beq_eq]
  by_cases h0 : i = 0
  · simp [h0]
  · by_cases h1 : i % 2 = 1 <;> simp [h0, h1]
theorem get_fresh (v : α) : ∀ (n i : Nat), i < n → ∀ j, (fresh v n i).get j = if j = i then some v else none := by
  intro n
  induction n with
  | zero => intro i h; omega
  | succ n ih =>
    intro i h j
    rw [fresh_succ]
    by_cases h0 : i = 0
    · subst h0
      rw [if_pos rfl, get_node]
      by_cases hj : j = 0
      · simp [hj]
      · simp [hj, get_nil]
    · rw [if_neg h0]
      by_cases h1 : i % 2 = 1
      · rw [if_pos h1, get_node]
        by_cases hj : j = 0
        · subst hj; rw [if_pos rfl, if_neg (by omega)]
        · rw [if_neg hj]
          by_cases hj1 : j % 2 = 1
          · rw [if_pos hj1, ih (i / 2) (by omega) (j / 2)]
            by_cases e : j = i
            · subst e; simp
            · rw [if_neg e, if_neg (by omega)]
          · rw [if_neg hj1, get_nil, if_neg (by intro e; subst e; exact hj1 h1)]
      · rw [if_neg h1, get_node]
        by_cases hj : j = 0
        · subst hj; rw [if_pos rfl, if_neg (by omega)]
        · rw [if_neg hj]
          by_cases hj1 : j % 2 = 1
          · rw [if_pos hj1, get_nil, if_neg (by intro e; subst e; exact h1 hj1)]
          · rw [if_neg hj1, ih (i / 2 - 1) (by omega) (j / 2 - 1)]
            by_cases e : j = i
            · subst e; simp
            · rw [if_neg e, if_neg (by omega)]
theorem get_set (t : Tr α) (i : Nat) (v : α) (j : Nat) : (t.set i v).get j = if j = i then some v else t.get j := by
  induction t generalizing i j with
  | nil => rw [set_nil, get_fresh v (i + 1) i (by omega) j, get_nil]
  | node u l r ihl ihr =>
    rw [set_node]
    by_cases h0 : i = 0
    · subst h0
      rw [if_pos rfl, get_node, get_node]
      by_cases hj : j = 0
      · simp [hj]
      · simp [hj]
    · rw [if_neg h0]
      by_cases h1 : i % 2 = 1
      · rw [if_pos h1, get_node, get_node]
        by_cases hj : j = 0
        · subst hj; rw [if_pos rfl, if_neg (by omega), if_pos rfl]
        · rw [if_neg hj, if_neg hj]
          by_cases hj1 : j % 2 = 1
          · rw [if_pos hj1, if_pos hj1, ihl (i / 2) (j / 2)]
            by_cases e : j = i
            · subst e; simp
            · rw [if_neg e, if_neg (by omega)]
          · rw [if_neg hj1, if_neg hj1, if_neg (by intro e; subst e; exact hj1 h1)]
      · rw [if_neg h1, get_node, get_node]
        by_cases hj : j = 0
        · subst hj; rw [if_pos rfl, if_neg (by omega), if_pos rfl]
        · rw [if_neg hj, if_neg hj]
          by_cases hj1 : j % 2 = 1
          · rw [if_pos hj1, if_pos hj1, if_neg (by intro e; subst e; exact h1 hj1)]
          · rw [if_neg hj1, if_neg hj1, ihr (i / 2 - 1) (j / 2 - 1)]
            by_cases e : j = i
            · subst e; simp
            · rw [if_neg e, if_neg (by omega)]
theorem get_set_same (t : Tr α) (i : Nat) (v : α) : (t.set i v).get i = some v := by simp [get_set]
theorem get_set_ne (t : Tr α) {i j : Nat} (v : α) (h : j ≠ i) : (t.set i v).get j = t.get j := by simp [get_set, h]
end Tr

/-- An abstract activation: how many temporaries it has, what they hold, and the blocks of its ranges over functions. -/
structure AAct where
  n : Nat
  t : Tr Value
  marks : List Nat

/-- An abstract block. -/
inductive AObj where
  /-- Variables: what is known of their cells, from the beginning of the block on; the type of an element; one more than the number of cells of an element, if elements may follow that are not known (0: nothing follows); whether it may not be written. -/
  | cells (c : List Value) (elem : TypeId) (row : Nat) (ro : Bool)
  | map (es : List MapEntry) (clock : Nat)
  | iter (s : ByteArray) (pos : Nat)
  | loop (state : LoopState) (pending : Option Code) (a : AAct) (params : Array Tmp) (assign body : Code) (defers : Nat)
  | defd
  /-- Moved, or nothing is known of it. -/
  | dead

structure AHeap where
  n : Nat
  t : Tr AObj

namespace AHeap
def get (h : AHeap) (i : Nat) : Option AObj := h.t.get i
def push (h : AHeap) (o : AObj) : AHeap := { n := h.n + 1, t := h.t.set h.n o }
def set (h : AHeap) (i : Nat) (o : AObj) : AHeap := { n := h.n, t := h.t.set i o }
@[simp] theorem push_n (h : AHeap) (o : AObj) : (h.push o).n = h.n + 1 := rfl
@[simp] theorem set_n (h : AHeap) (i : Nat) (o : AObj) : (h.set i o).n = h.n := rfl
theorem get_push (h : AHeap) (o : AObj) (j : Nat) : (h.push o).get j = if j = h.n then some o else h.get j := Tr.get_set _ _ _ _
theorem get_set (h : AHeap) (i : Nat) (o : AObj) (j : Nat) : (h.set i o).get j = if j = i then some o else h.get j := Tr.get_set _ _ _ _
/-- Whether a block may be written: it is no read-only one. -/
def rw (h : AHeap) (i : Nat) : Bool :=
  match h.get i with
  | some (.cells _ _ _ ro) => !ro
  | _ => true
end AHeap

namespace AAct
def tmp (a : AAct) (i : Nat) : Value := (a.t.get i).getD undef
def eval (a : AAct) : Operand → Value
  | .tmp t => a.tmp t
  | .const v => v
  | .global g => .pointer (some ⟨g, 0, none⟩)
  | .func f => .func (.func f) #[] #[]
def put (a : AAct) (dst : Option Tmp) (v : Value) : AAct :=
  match dst with
  | some d => { a with t := a.t.set d v }
  | none => a
theorem tmp_put (a : AAct) (d : Nat) (v : Value) (j : Nat) : (a.put (some d) v).tmp j = if j = d then v else a.tmp j := by
  simp only [put, tmp, Tr.get_set]
  split <;> simp
@[simp] theorem put_n (a : AAct) (d : Option Tmp) (v : Value) : (a.put d v).n = a.n := by cases d <;> rfl
@[simp] theorem put_marks (a : AAct) (d : Option Tmp) (v : Value) : (a.put d v).marks = a.marks := by cases d <;> rfl
end AAct
end
end Go.Am
