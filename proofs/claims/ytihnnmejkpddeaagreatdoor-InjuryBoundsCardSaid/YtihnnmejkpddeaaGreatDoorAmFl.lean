/-
  OWN WORK. 'Am', on doubles (AmFl): finite ones as whole numbers of the least unit; comparisons; numbers made whole.
-/
import Derived.Laws.FloatArith
namespace Go.Am
open Ieee
def mv (r : Nat) : Nat := if r < 2 ^ 52 then r else (2 ^ 52 + r % 2 ^ 52) * 2 ^ (r / 2 ^ 52 - 1)
def dv (b : Nat) : Int := if b / 2 ^ 63 % 2 = 1 then -(mv (b % 2 ^ 63) : Int) else mv (b % 2 ^ 63)
def fin64 (b : Nat) : Prop := b % 2 ^ 63 < 2047 * 2 ^ 52
def inf64 (b : Nat) : Prop := b % 2 ^ 63 = 2047 * 2 ^ 52
def gtF (x y : Nat) : Bool := double.order x y == some .gt
def ltF (x y : Nat) : Bool := double.order x y == some .lt
def neF (x y : Nat) : Bool := double.order x y != some .eq
def trF (y : Nat) : Nat := double.write ((double.read y).integral .zero)
def ofI (i : Int) : Nat := double.nearest (decide (i < 0)) i.natAbs 0
def c16 : Nat := 4670232813583204352
def m16 : Nat := 13893604850437980160
end Go.Am
