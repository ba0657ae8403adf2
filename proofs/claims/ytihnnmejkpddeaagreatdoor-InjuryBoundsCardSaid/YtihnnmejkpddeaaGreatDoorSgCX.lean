/-
  OWN WORK. Small lemmas.
-/
import Derived.Test.YtihnnmejkpddeaaGreatDoorSgAB
import Derived.Test.YtihnnmejkpddeaaGreatDoorAm20
import Derived.Test.YtihnnmejkpddeaaGreatDoorAmY
/-! (OWN WORK. Small lemmas, and pairs of numbers as cells.) -/
namespace Go.Proofs.YtihnnmejkpddeaaGreatDoor
open Go Go.Am
noncomputable abbrev nG1 : Nat := Tryz.prog.globals.size
theorem globs_pos : 0 < Tryz.prog.globals.size := of_decide_eq_true (by kernel_rfl)
theorem ilt_say (a b : Int) : ilt a b = decide (a < b) := by
 cases a with
 | ofNat m => cases b with
  | ofNat n => rw [show ilt (Int.ofNat m) (Int.ofNat n) = Nat.blt m n from rfl, Bool.eq_iff_iff, Nat.blt_eq, decide_eq_true_eq]; simp
  | negSucc n => rw [show ilt (Int.ofNat m) (Int.negSucc n) = false from rfl]; symm; exact decide_eq_false (by simp only [Int.ofNat_eq_natCast]; omega)
 | negSucc m => cases b with
  | ofNat n => rw [show ilt (Int.negSucc m) (Int.ofNat n) = true from rfl]; symm; exact decide_eq_true (by simp only [Int.ofNat_eq_natCast]; omega)
  | negSucc n => rw [show ilt (Int.negSucc m) (Int.negSucc n) = Nat.blt n m from rfl, Bool.eq_iff_iff, Nat.blt_eq, decide_eq_true_eq]; omega
theorem inI64_nat {m : Nat} (h : m < 9223372036854775808) : inI64 (Int.ofNat m) = true := by
 show Nat.blt m 9223372036854775808 = true
 rw [Nat.blt_eq]; exact h
noncomputable abbrev nilS : Value := .slice none 0 0
theorem ieq_ne {x y : Int} (h : x ≠ y) : ieq x y = false := by rw [ieq_dec]; exact decide_eq_false h
theorem ieq_self (a : Int) : ieq a a = true := by rw [ieq_dec]; simp
theorem firstS_none : ∀ {l : List Int}, firstS l = 0 → ∀ x ∈ l, x = 0
 | [], _ => fun x hx => by cases hx
 | y :: l, h => by
  unfold firstS at h
  cases hy : ieq y 0 with
  | true =>
   rw [hy] at h
   rw [ieq_dec] at hy
   intro x hx
   rcases List.mem_cons.1 hx with rfl | hx
   ·simpa using hy
   ·exact firstS_none h x hx
  | false =>
   rw [hy] at h
   rw [ieq_dec] at hy
   exact absurd h (by simpa using hy)
theorem fwrap_mid {x : Int} (h1 : -4611686018427387904 ≤ x) (h2 : x ≤ 4611686018427387904) : fwrap .i64 x = x := by
 have h : inI64 x = true := by
  cases x with
  | ofNat m => exact inI64_nat (by simp only [Int.ofNat_eq_natCast] at h2; omega)
  | negSucc m =>
   show Nat.blt m 9223372036854775808 = true
   rw [Nat.blt_eq]; omega
 simp only [fwrap, h]
noncomputable def firstE {α : Type} (f : α → Int) : List α → Int
 | [] => 0
 | x :: l => bif ieq (f x) 0 then firstE f l else f x
theorem firstE_drop {α : Type} {f : α → Int} {l : List α} {j : Nat} (hj : j < l.length) : firstE f (l.drop j) = bif ieq (f l[j]) 0 then firstE f (l.drop (j + 1)) else f l[j] := by
 rw [List.drop_eq_getElem_cons hj]; rfl
theorem firstE_end {α : Type} {f : α → Int} {l : List α} {j : Nat} (hj : l.length ≤ j) : firstE f (l.drop j) = 0 := by
 rw [List.drop_eq_nil_of_le hj]; rfl
theorem not_ieqF {x : Int} (h : (!ieq x 0) = false) : ieq x 0 = true := by simpa using h
theorem not_ieqT {x : Int} (h : (!ieq x 0) = true) : ieq x 0 = false := by simpa using h
theorem ble_noV {a b : Nat} (h : ¬ a ≤ b) : Nat.ble a b = false := by
 cases q : Nat.ble a b with
 | false => rfl
 | true => rw [Nat.ble_eq] at q; exact absurd q h
theorem plus_nodup (N L : Nat) : ((List.range L).map (N + ·)).Nodup := List.Pairwise.map _ (fun a b h e => h (by omega)) List.nodup_range
noncomputable abbrev roH (c : List Value) (e row : Nat) : AHeap := canonT [] (fun _ => 0) Tryz.prog.globals.size [(c, e, row, true)]
noncomputable abbrev goH (c : List Value) (e row : Nat) (d : List Value) (el rw : Nat) : AHeap := canonT [] (fun _ => 0) Tryz.prog.globals.size [(c, e, row, true), (d, el, rw, false)]
noncomputable abbrev ptN (i : Nat) : Value := .pointer (some ⟨Tryz.prog.globals.size + i, 0, none⟩)
noncomputable abbrev slP (i n k : Nat) : Value := .slice (some ⟨Tryz.prog.globals.size + i, 0, none⟩) n k
theorem not_f {b : Bool} (h : (!b) = true) : b = false := by simpa using h
theorem not_t {b : Bool} (h : (!b) = false) : b = true := by simpa using h
abbrev noC {α : Type} : List α → List Value → Prop := fun _ r => r = []
theorem when_none {b : Bool} {e : Int} (he : e ≠ 0) (h : whenS b e = 0) : b = false := by
 cases b with
 | false => rfl
 | true => exact absurd h he
theorem within_zero {x lo hi : Int} (h : withinS x lo hi = 0) : lo ≤ x ∧ x ≤ hi := by
 have := when_none (by decide) h
 rw [ilt_say, ilt_say, Bool.or_eq_false_iff] at this
 simp at this
 omega
abbrev P2 := Int × Int
noncomputable def cellsP : List P2 → List Value
 | [] => []
 | q :: l => [gi q.1, gi q.2] ++ cellsP l
noncomputable def decP : List Value → Option (List P2)
 | [] => some []
 | .int .i64 a :: .int .i64 b :: r => (decP r).map ((a, b) :: ·)
 | _ => none
theorem decP_cells : ∀ l : List P2, decP (cellsP l) = some l
 | [] => rfl
 | q :: l => by
  show (decP (cellsP l)).map ((q.1, q.2) :: ·) = _
  rw [decP_cells l]; rfl
theorem decP_some {c : List Value} {l : List P2} (h : decP c = some l) : c = cellsP l := by
 induction c using decP.induct generalizing l with
 | case1 => cases h; rfl
 | case2 a b r ih =>
  unfold decP at h
  obtain ⟨l', hl, rfl⟩ := Option.map_eq_some_iff.1 h
  rw [ih hl]; rfl
 | case3 c h1 h2 =>
  unfold decP at h
  split at h
  ·exact absurd rfl h1
  ·exact absurd rfl (h2 _ _ _)
  ·cases h
theorem cellsP_len : ∀ l : List P2, (cellsP l).length = l.length * 2
 | [] => rfl
 | q :: l => by
  show (gi q.1 :: gi q.2 :: cellsP l).length = (q :: l).length * 2
  rw [List.length_cons, List.length_cons, List.length_cons, cellsP_len l]
  omega
theorem cellsP_app : ∀ l m : List P2, cellsP (l ++ m) = cellsP l ++ cellsP m
 | [], m => rfl
 | q :: l, m => by
  show [gi q.1, gi q.2] ++ cellsP (l ++ m) = ([gi q.1, gi q.2] ++ cellsP l) ++ _
  rw [cellsP_app l m, List.append_assoc]
theorem cellsP_flat : ∀ l : List P2, (cellsP l).all (flat 3) = true
 | [] => rfl
 | q :: l => by
  show ([gi q.1, gi q.2] ++ cellsP l).all (flat 3) = true
  rw [List.all_append, cellsP_flat l]
  rfl
theorem cellsP_get {l : List P2} {j i : Nat} (hj : j < l.length) (hi : i < 2) : (cellsP l)[j * 2 + i]? = [gi l[j].1, gi l[j].2][i]? := by
 have h1 : cellsP l = cellsP (l.take j) ++ ([gi l[j].1, gi l[j].2] ++ cellsP (l.drop (j + 1))) := by
  rw [show [gi l[j].1, gi l[j].2] ++ cellsP (l.drop (j + 1)) = cellsP (l.drop j) by rw [List.drop_eq_getElem_cons hj]; rfl, ← cellsP_app, List.take_append_drop]
 have h2 : (cellsP (l.take j)).length = j * 2 := by rw [cellsP_len, List.length_take, Nat.min_eq_left (by omega)]
 rw [h1, List.getElem?_append_right (by omega), h2, Nat.add_sub_cancel_left, List.getElem?_append_left (by show i < 2; exact hi)]
theorem cellsP_at {l : List P2} {j : Nat} (hj : j < l.length) : ((cellsP l)[0 + j * 2]? = some (gi (intAt (cellsP l) (0 + j * 2))) ∧ (cellsP l)[0 + j * 2 + 1]? = some (gi (intAt (cellsP l) (0 + j * 2 + 1)))) ∧ intAt (cellsP l) (0 + j * 2) = l[j].1 ∧ intAt (cellsP l) (0 + j * 2 + 1) = l[j].2 := by
 have e0 : (cellsP l)[0 + j * 2]? = some (gi l[j].1) := by rw [Nat.zero_add]; exact cellsP_get (i := 0) hj (by omega)
 have e1 : (cellsP l)[0 + j * 2 + 1]? = some (gi l[j].2) := by rw [Nat.zero_add]; exact cellsP_get (i := 1) hj (by omega)
 have i0 : intAt (cellsP l) (0 + j * 2) = l[j].1 := by unfold intAt; rw [e0]
 have i1 : intAt (cellsP l) (0 + j * 2 + 1) = l[j].2 := by unfold intAt; rw [e1]
 rw [i0, i1]
 exact ⟨⟨e0, e1⟩, rfl, rfl⟩
theorem cellsP_take {l : List P2} {j : Nat} (hj : j < l.length) : cellsP (l.take (j + 1)) = cellsP (l.take j) ++ [gi l[j].1, gi l[j].2] := by
 rw [List.take_add_one, List.getElem?_eq_getElem hj, cellsP_app]
 show _ ++ ([gi l[j].1, gi l[j].2] ++ []) = _
 rw [List.append_nil]
noncomputable def tP : Tell P2 := ⟨cellsP, decP, decP_cells, decP_some, cellsP_flat⟩
end Go.Proofs.YtihnnmejkpddeaaGreatDoor
/-! (OWN WORK. Small lemmas on integers of 64 bits (for stages without rounded quotients).) -/
namespace Go.Proofs.YtihnnmejkpddeaaGreatDoor
open Go Go.Am
theorem inI64_small {x : Int} (h1 : -4611686018427387905 ≤ x) (h2 : x ≤ 4611686018427387905) : inI64 x = true := by
 cases x with
 | ofNat m => exact inI64_nat (by simp only [Int.ofNat_eq_natCast] at h2; omega)
 | negSucc m =>
  show Nat.blt m 9223372036854775808 = true
  rw [Nat.blt_eq]; omega
end Go.Proofs.YtihnnmejkpddeaaGreatDoor
