/-
  OWN WORK. Stage 6, arithmetic: the longest span from a level on; the greatest integer, and the first place that has it.
-/
import Derived.Test.YtihnnmejkpddeaaGreatDoorSgCX
namespace Go.Proofs.YtihnnmejkpddeaaGreatDoor
open Go Go.Am
noncomputable def rnN (v : Int) : List Int → Nat
  | [] => 0
  | x :: l => bif ilt x v then 0 else rnN v l + 1
theorem rnN_le (v : Int) : ∀ l : List Int, rnN v l ≤ l.length
  | [] => Nat.le_refl _
  | x :: l => by
    show (bif ilt x v then 0 else rnN v l + 1) ≤ l.length + 1
    cases ilt x v with
    | true => exact Nat.zero_le _
    | false => exact Nat.succ_le_succ (rnN_le v l)
abbrev N2 := Nat × Nat
noncomputable def upN (b : N2) (i r : Nat) : N2 := bif Nat.blt (b.2 - b.1) r then (i, i + r) else b
noncomputable def lgR (v : Int) : Nat → N2 → List Int → N2
  | _, b, [] => b
  | i, b, x :: l => lgR v (i + 1) (upN b i (rnN v (x :: l))) l
noncomputable def lgP (v : Int) : Nat → N2 → List Int → N2
  | _, b, [] => b
  | i, b, x :: l => bif Nat.beq (rnN v (x :: l)) (l.length + 1) then upN b i (rnN v (x :: l)) else lgP v (i + 1) (upN b i (rnN v (x :: l))) l
theorem upN_le (b : N2) (i r : Nat) : r ≤ (upN b i r).2 - (upN b i r).1 := by
  unfold upN
  cases h : Nat.blt (b.2 - b.1) r with
  | true => show r ≤ i + r - i; omega
  | false =>
    show r ≤ b.2 - b.1
    have : ¬ b.2 - b.1 < r := fun q => by rw [show Nat.blt (b.2 - b.1) r = true by rw [Nat.blt_eq]; exact q] at h; cases h
    omega
theorem upN_stay {b : N2} {i r : Nat} (h : r ≤ b.2 - b.1) : upN b i r = b := by
  unfold upN
  rw [show Nat.blt (b.2 - b.1) r = false by
    cases q : Nat.blt (b.2 - b.1) r with
    | false => rfl
    | true => rw [Nat.blt_eq] at q; omega]
  rfl
theorem lgR_stay (v : Int) : ∀ (l : List Int) (i : Nat) (b : N2), l.length ≤ b.2 - b.1 → lgR v i b l = b
  | [], _, _, _ => rfl
  | x :: l, i, b, h => by
    have hl : (x :: l).length = l.length + 1 := rfl
    rw [hl] at h
    show lgR v (i + 1) (upN b i (rnN v (x :: l))) l = b
    rw [upN_stay (Nat.le_trans (rnN_le v (x :: l)) (by rw [hl]; exact h))]
    exact lgR_stay v l (i + 1) b (by omega)
noncomputable def mxI : Int → List Int → Int
  | m, [] => m
  | m, x :: l => mxI (if x > m then x else m) l
noncomputable def mnI : Int → List Int → Int
  | m, [] => m
  | m, x :: l => mnI (if x < m then x else m) l
noncomputable def ixI (v : Int) : List Int → Nat → Nat
  | [], i => i
  | x :: l, i => bif ieq v x then i else ixI v l (i + 1)
noncomputable def bsI : Nat → Int → Nat → List Int → Int × Nat
  | _, m, a, [] => (m, a)
  | i, m, a, x :: l => bif ilt m x then bsI (i + 1) x i l else bsI (i + 1) m a l
theorem bsI_mx : ∀ (l : List Int) (i : Nat) (m : Int) (a : Nat), (bsI i m a l).1 = mxI m l
  | [], _, _, _ => rfl
  | x :: l, i, m, a => by
    show (bif ilt m x then bsI (i + 1) x i l else bsI (i + 1) m a l).1 = mxI (if x > m then x else m) l
    rw [ilt_say]
    by_cases h : m < x
    · rw [decide_eq_true h, if_pos h]; exact bsI_mx l (i + 1) x i
    · rw [decide_eq_false h, if_neg h]; exact bsI_mx l (i + 1) m a
theorem ixI_at (v : Int) : ∀ (l : List Int) (k i : Nat), l[k]? = some v → (∀ j, j < k → ∀ y, l[j]? = some y → y ≠ v) → ixI v l i = i + k
  | [], k, i, h, _ => by simp at h
  | x :: l, 0, i, h, _ => by
    have h : x = v := by simpa using h
    show (bif ieq v x then i else _) = i + 0
    rw [h, ieq_self]; rfl
  | x :: l, k + 1, i, h, hn => by
    have hx : x ≠ v := hn 0 (by omega) x rfl
    show (bif ieq v x then i else ixI v l (i + 1)) = _
    rw [ieq_ne (fun e => hx e.symm)]
    show ixI v l (i + 1) = _
    rw [ixI_at v l k (i + 1) (by simpa using h) fun j hj y hy => hn (j + 1) (by omega) y (by simpa using hy)]
    omega
theorem bsI_ix : ∀ (l pre : List Int) (m : Int) (a : Nat), pre[a]? = some m → (∀ j, j < a → ∀ y, pre[j]? = some y → y < m) → (∀ y ∈ pre, y ≤ m) →
    (pre ++ l)[(bsI pre.length m a l).2]? = some (bsI pre.length m a l).1 ∧ ∀ j, j < (bsI pre.length m a l).2 → ∀ y, (pre ++ l)[j]? = some y → y < (bsI pre.length m a l).1
  | [], pre, m, a, ha, hb, _ => by
    rw [List.append_nil]
    exact ⟨ha, hb⟩
  | x :: l, pre, m, a, ha, hb, hm => by
    have e : pre ++ x :: l = (pre ++ [x]) ++ l := by simp
    have el : (pre ++ [x]).length = pre.length + 1 := by simp
    by_cases g : m < x
    · have q : bsI pre.length m a (x :: l) = bsI (pre ++ [x]).length x pre.length l := by
        show (bif ilt m x then bsI (pre.length + 1) x pre.length l else _) = _
        rw [ilt_say, decide_eq_true g, el]; rfl
      rw [q, e]
      refine bsI_ix l (pre ++ [x]) x pre.length (by simp) ?_ ?_
      · intro j hj y hy
        rw [List.getElem?_append_left hj] at hy
        have := hm y (List.mem_of_getElem? hy)
        omega
      · intro y hy
        rcases List.mem_append.1 hy with hy | hy
        · have := hm y hy
          omega
        · simp only [List.mem_cons, List.not_mem_nil, or_false] at hy
          omega
    · have q : bsI pre.length m a (x :: l) = bsI (pre ++ [x]).length m a l := by
        show (bif ilt m x then _ else bsI (pre.length + 1) m a l) = _
        rw [ilt_say, decide_eq_false g, el]; rfl
      have la : a < pre.length := (List.getElem?_eq_some_iff.1 ha).1
      rw [q, e]
      refine bsI_ix l (pre ++ [x]) m a (by rw [List.getElem?_append_left la]; exact ha) ?_ ?_
      · intro j hj y hy
        rw [List.getElem?_append_left (by omega)] at hy
        exact hb j hj y hy
      · intro y hy
        rcases List.mem_append.1 hy with hy | hy
        · exact hm y hy
        · simp only [List.mem_cons, List.not_mem_nil, or_false] at hy
          omega
theorem bsI_all (x : Int) (l : List Int) : (bsI 1 x 0 l).1 = mxI x l ∧ ixI (mxI x l) (x :: l) 0 = (bsI 1 x 0 l).2 := by
  have h := bsI_ix l [x] x 0 rfl (fun j hj => absurd hj (by omega)) (fun y hy => by
    simp only [List.mem_cons, List.not_mem_nil, or_false] at hy
    omega)
  have e := bsI_mx l 1 x 0
  refine ⟨e, ?_⟩
  rw [← e]
  have := ixI_at (bsI 1 x 0 l).1 (x :: l) (bsI 1 x 0 l).2 0 h.1 fun j hj y hy hyv => by
    have := h.2 j hj y hy
    rw [hyv] at this
    exact absurd this (Int.lt_irrefl _)
  rw [this]; omega
end Go.Proofs.YtihnnmejkpddeaaGreatDoor
