/-
  OWN WORK. Small lemmas on integers of 64 bits (for stages without rounded quotients).
-/
import Derived.Test.YtihnnmejkpddeaaGreatDoorSgC
namespace Go.Proofs.YtihnnmejkpddeaaGreatDoor
open Go Go.Am

theorem wrap_small {x : Int} (h1 : -4611686018427387904 ≤ x) (h2 : x ≤ 4611686018427387904) : IntKind.wrap .i64 x = x := by
  rw [← fwrap_eq]; exact fwrap_mid h1 h2
theorem tdiv_small {a b : Int} (h1 : -4611686018427387904 ≤ a) (h2 : a ≤ 4611686018427387904) : -4611686018427387904 ≤ a.tdiv b ∧ a.tdiv b ≤ 4611686018427387904 := by
  have := Int.natAbs_tdiv_le_natAbs a b
  omega
theorem inI64_small {x : Int} (h1 : -4611686018427387905 ≤ x) (h2 : x ≤ 4611686018427387905) : inI64 x = true := by
  cases x with
  | ofNat m => exact inI64_nat (by simp only [Int.ofNat_eq_natCast] at h2; omega)
  | negSucc m =>
    show Nat.blt m 9223372036854775808 = true
    rw [Nat.blt_eq]; omega
end Go.Proofs.YtihnnmejkpddeaaGreatDoor
