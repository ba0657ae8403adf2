/-
  OWN WORK. Stage 6, arithmetic: how ratios compare; the greatest one of some, and the first place that has it.
-/
import Derived.Test.YtihnnmejkpddeaaGreatDoorSgCX
namespace Go.Proofs.YtihnnmejkpddeaaGreatDoor
open Go Go.Am
theorem inI64_iff {x : Int} : inI64 x = true ↔ -9223372036854775808 ≤ x ∧ x < 9223372036854775808 := by
  cases x with
  | ofNat m =>
    show Nat.blt m 9223372036854775808 = true ↔ _
    rw [Nat.blt_eq]; simp only [Int.ofNat_eq_natCast]; omega
  | negSucc m =>
    show Nat.blt m 9223372036854775808 = true ↔ _
    rw [Nat.blt_eq]; omega
noncomputable def cpE (x y : Int) : Int := bif ilt x y then -1 else bif ilt y x then 1 else 0
noncomputable def cpR (x y : P2) : Int := cpE (fwrap .i64 (x.1 * y.2)) (fwrap .i64 (y.1 * x.2))
noncomputable def gtR (x y : P2) : Bool := ilt 0 (cpR x y)
def okR (x : P2) : Prop := (0 ≤ x.1 ∧ x.1 ≤ 5000000000000) ∧ 0 < x.2 ∧ x.2 ≤ 1000000
noncomputable def mxF : P2 → List P2 → P2
  | m, [] => m
  | m, x :: l => mxF (bif gtR x m then x else m) l
noncomputable def eqP (v x : P2) : Bool := ieq v.1 x.1 && (ieq v.2 x.2 && true)
noncomputable def idxB {α : Type} (f : α → Bool) : List α → Nat → Int
  | [], _ => -1
  | x :: r, i => bif f x then Int.ofNat i else idxB f r (i + 1)
theorem idxB_drop {α : Type} {f : α → Bool} {l : List α} {j : Nat} (hj : j < l.length) : idxB f (l.drop j) j = bif f l[j] then Int.ofNat j else idxB f (l.drop (j + 1)) (j + 1) := by
  rw [List.drop_eq_getElem_cons hj]; rfl
theorem idxB_end {α : Type} {f : α → Bool} {l : List α} {j : Nat} (hj : l.length ≤ j) : idxB f (l.drop j) j = -1 := by
  rw [List.drop_eq_nil_of_le hj]; rfl
noncomputable def bsF : Nat → P2 → Nat → List P2 → P2 × Nat
  | _, m, a, [] => (m, a)
  | i, m, a, x :: l => bif gtR x m then bsF (i + 1) x i l else bsF (i + 1) m a l
end Go.Proofs.YtihnnmejkpddeaaGreatDoor
