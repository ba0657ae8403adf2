/-
  OWN WORK. What the laws on samples share.
-/
import Derived.Test.YthgojmebbhpbbaaGreatDoorCsU
import Derived.Test.YthgojmebbhpbbaaGreatDoorAmX
namespace Go.Proofs.YthgojmebbhpbbaaGreatDoor
open Go Go.Am
theorem inI64_nat {m : Nat} (h : m < 9223372036854775808) : inI64 (Int.ofNat m) = true := by
 show Nat.blt m 9223372036854775808 = true
 rw [Nat.blt_eq]; exact h
noncomputable abbrev nilS : Value := .slice none 0 0
theorem ieq_ne {x y : Int} (h : x ≠ y) : ieq x y = false := by rw [ieq_dec]; exact decide_eq_false h
theorem csE_nil : csE [] = 0 := by kernel_rfl
noncomputable abbrev argH (es : Nat → TypeId) (c : List Value) (e : TypeId) : AHeap := (base tabs2 es Tryz.prog.globals.size).push (.cells c e 0 true)
theorem ieq_self (a : Int) : ieq a a = true := by rw [ieq_dec]; simp
theorem firstS_none : ∀ {l : List Int}, firstS l = 0 → ∀ x ∈ l, x = 0
 | [], _ => fun x hx => by cases hx
 | y :: l, h => by
  unfold firstS at h
  cases hy : ieq y 0 with
  | true =>
   rw [hy] at h
   rw [ieq_dec] at hy
   intro x hx
   rcases List.mem_cons.1 hx with rfl | hx
   ·simpa using hy
   ·exact firstS_none h x hx
  | false =>
   rw [hy] at h
   rw [ieq_dec] at hy
   exact absurd h (by simpa using hy)
theorem cs_zero {l : List Nat} (h : csE l = 0) : validL l ∧ l.length ≤ 4096 := by
 have h1 := firstS_none h
 have h2 := h1 _ (.head _)
 have h3 := h1 (smpsE l) (.tail _ (.head _))
 refine ⟨fun x hx => firstS_none (l := l.map smpE) h3 _ (List.mem_map.2 ⟨x, hx, rfl⟩), ?_⟩
 unfold whenS at h2
 rw [ilt_say] at h2
 by_cases hl : (4096 : Int) < Int.ofNat l.length
 ·rw [decide_eq_true hl] at h2; cases h2
 ·simp only [Int.ofNat_eq_natCast] at hl; omega
noncomputable def allB (l : List Nat) : Bool := l.all fun x => ieq (smpE x) 0
noncomputable abbrev twoH (c : List Value) (e row : Nat) (c' : List Value) (e' row' : Nat) : AHeap := canon Tryz.prog [(c, e, row), (c', e', row')]
noncomputable abbrev slA (n k : Nat) : Value := .slice (some ⟨Tryz.prog.globals.size, 0, none⟩) n k
noncomputable abbrev slA' (n k : Nat) : Value := .slice (some ⟨Tryz.prog.globals.size + 1, 0, none⟩) n k
theorem fwrap_mid {x : Int} (h1 : -4611686018427387904 ≤ x) (h2 : x ≤ 4611686018427387904) : fwrap .i64 x = x := by
 have h : inI64 x = true := by
  cases x with
  | ofNat m => exact inI64_nat (by simp only [Int.ofNat_eq_natCast] at h2; omega)
  | negSucc m =>
   show Nat.blt m 9223372036854775808 = true
   rw [Nat.blt_eq]; omega
 simp only [fwrap, h]
noncomputable def firstE {α : Type} (f : α → Int) : List α → Int
 | [] => 0
 | x :: l => bif ieq (f x) 0 then firstE f l else f x
theorem firstE_drop {α : Type} {f : α → Int} {l : List α} {j : Nat} (hj : j < l.length) : firstE f (l.drop j) = bif ieq (f l[j]) 0 then firstE f (l.drop (j + 1)) else f l[j] := by
 rw [List.drop_eq_getElem_cons hj]; rfl
theorem firstE_end {α : Type} {f : α → Int} {l : List α} {j : Nat} (hj : l.length ≤ j) : firstE f (l.drop j) = 0 := by
 rw [List.drop_eq_nil_of_le hj]; rfl
theorem not_ieqF {x : Int} (h : (!ieq x 0) = false) : ieq x 0 = true := by simpa using h
theorem not_ieqT {x : Int} (h : (!ieq x 0) = true) : ieq x 0 = false := by simpa using h
theorem plus_nodup (N L : Nat) : ((List.range L).map (N + ·)).Nodup := List.Pairwise.map _ (fun a b h e => h (by omega)) List.nodup_range
noncomputable abbrev roH (c : List Value) (e row : Nat) : AHeap := canonT [] (fun _ => 0) Tryz.prog.globals.size [(c, e, row, true)]
noncomputable abbrev goH (c : List Value) (e row : Nat) (d : List Value) (el rw : Nat) : AHeap := canonT [] (fun _ => 0) Tryz.prog.globals.size [(c, e, row, true), (d, el, rw, false)]
noncomputable abbrev ptN (i : Nat) : Value := .pointer (some ⟨Tryz.prog.globals.size + i, 0, none⟩)
noncomputable abbrev slP (i n k : Nat) : Value := .slice (some ⟨Tryz.prog.globals.size + i, 0, none⟩) n k
abbrev noC {α : Type} : List α → List Value → Prop := fun _ r => r = []
end Go.Proofs.YthgojmebbhpbbaaGreatDoor
