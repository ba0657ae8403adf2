/-
  OWN WORK. RecordSums on the abstract machine: it returns true, for all samples and each span.
-/
import Derived.Test.YtpdpaifagakipaaGreatDoorSuL
import Derived.Test.YtpdpaifagakipaaGreatDoorLwS
namespace Go.Proofs.YtpdpaifagakipaaGreatDoor
open Go Go.Am

noncomputable abbrev spV (f t : Int) : Value := .agg #[gi f, gi t]
theorem sums_runV (l : List Nat) (n k e : Nat) (es : Nat → TypeId) (f t : Int) (K : Value → Prop) : callC Tryz.prog (exec Tryz.prog orcPg 10) (syOf [(14, 7), (15, 1), (19, 7), (20, 7), (25, 7), (27, 7), (31, 7), (40, 31), (42, 7), (44, 1), (47, 7), (50, 7), (54, 31), (59, 31), (64, 31)]) (askPg true) (noLoops _) 20 6 #[liP n k, spV f t] (argH es (l.map gf) e) (fun v _ => K v) =
  (∃ l₁ : List Nat, l.map gf = l₁.map gf ∧ 0 < n ∧ n ≤ l₁.length ∧ n ≤ 9223372036854775807 ∧ n ≤ k ∧ ((!shortB (l₁.take n).length) = true → K (.bool true)) ∧
    ((!shortB (l₁.take n).length) = false → ∃ l₂ : List Nat, l.map gf = l₂.map gf ∧ 0 < n ∧ n ≤ l₂.length ∧ n ≤ 1000000 ∧
      ∃ l₃ : List Nat, (l₂.take n).map gf = l₃.map gf ∧ 0 < n ∧ n ≤ l₃.length ∧ n ≤ 1000000 ∧ n ≤ n ∧ ieq (csE (l₃.take n)) 0 = true ∧
      ∃ l₄ : List Nat, l.map gf = l₄.map gf ∧ 0 < n ∧ n ≤ l₄.length ∧ n ≤ 1000000 ∧ spV f t = spV f t ∧
      ∃ l₅ : List Nat, (l₄.take n).map gf = l₅.map gf ∧ 0 < n ∧ n ≤ l₅.length ∧ n ≤ 1000000 ∧ n ≤ n ∧
      ∃ l₆ : List Nat, l.map gf = l₆.map gf ∧ 0 < n ∧ n ≤ l₆.length ∧ n ≤ 1000000 ∧ n ≤ k ∧ ieq (csE (l₆.take n)) 0 = true ∧
      ∃ l₇ : List Nat, l.map gf = l₇.map gf ∧ 0 < n ∧ n ≤ l₇.length ∧ n ≤ 65535 ∧ validL (l₇.take n) ∧
      (ieq (sErr (l₆.take n) f t n) 0 = true → ∃ l₈ : List Nat, l.map gf = l₈.map gf ∧ 0 < n ∧ n ≤ l₈.length ∧ n ≤ 1000000 ∧ spC (l₈.take n) [spV f t] = true ∧ false = false ∧
        ∃ l₉ : List Int, preU (l₃.take n) = l₉.map gi ∧ preU (l₇.take n) = l₉.map gi ∧ n + 1 = l₉.length ∧ n + 1 = l₉.length ∧ l₉.length ≤ 65536 ∧
          ieq 0 (csE (l₆.take n)) = true ∧ ieq (sumE (l₅.take n) f t) (spanW (l₈.take n) f.toNat t.toNat) = true ∧ ieq (sErr (l₅.take n) f t (l₅.take n).length) (sErr (l₆.take n) f t n) = true ∧ K (.bool true)) ∧
      (ieq (sErr (l₆.take n) f t n) 0 = false → false = false ∧
        ∃ l₉ : List Int, preU (l₃.take n) = l₉.map gi ∧ preU (l₇.take n) = l₉.map gi ∧ n + 1 = l₉.length ∧ n + 1 = l₉.length ∧ l₉.length ≤ 65536 ∧
          ieq 0 (csE (l₆.take n)) = true ∧ ieq (sumE (l₅.take n) f t) 0 = true ∧ ieq (sErr (l₅.take n) f t (l₅.take n).length) (sErr (l₆.take n) f t n) = true ∧ K (.bool true)))) := by kernel_rfl
theorem sums_runI (l : List Nat) (n k e : Nat) (es : Nat → TypeId) (f t : Int) (K : Value → Prop) : callC Tryz.prog (exec Tryz.prog orcPg 10) (syOf [(14, 7), (15, 1), (19, 7), (20, 7), (25, 7), (27, 7), (31, 7), (40, 32), (44, 32), (50, 7), (54, 31), (59, 31), (64, 31)]) (askPg false) (noLoops _) 20 6 #[liP n k, spV f t] (argH es (l.map gf) e) (fun v _ => K v) =
  (∃ l₁ : List Nat, l.map gf = l₁.map gf ∧ 0 < n ∧ n ≤ l₁.length ∧ n ≤ 9223372036854775807 ∧ n ≤ k ∧ ((!shortB (l₁.take n).length) = true → K (.bool true)) ∧
    ((!shortB (l₁.take n).length) = false → ∃ l₂ : List Nat, l.map gf = l₂.map gf ∧ 0 < n ∧ n ≤ l₂.length ∧ n ≤ 1000000 ∧
      ∃ l₃ : List Nat, (l₂.take n).map gf = l₃.map gf ∧ 0 < n ∧ n ≤ l₃.length ∧ n ≤ 1000000 ∧ n ≤ n ∧ ieq (csE (l₃.take n)) 0 = false ∧
      ∃ l₄ : List Nat, l.map gf = l₄.map gf ∧ 0 < n ∧ n ≤ l₄.length ∧ n ≤ 1000000 ∧ spV f t = spV f t ∧
      ∃ l₅ : List Nat, (l₄.take n).map gf = l₅.map gf ∧ 0 < n ∧ n ≤ l₅.length ∧ n ≤ 1000000 ∧ n ≤ n ∧
      ∃ l₆ : List Nat, l.map gf = l₆.map gf ∧ 0 < n ∧ n ≤ l₆.length ∧ n ≤ 1000000 ∧ n ≤ k ∧ ieq (csE (l₆.take n)) 0 = false ∧ ieq (sErr (l₆.take n) f t n) 0 = false ∧
        ieq (csE (l₃.take n)) (csE (l₆.take n)) = true ∧ ieq (sumE (l₅.take n) f t) 0 = true ∧ ieq (sErr (l₅.take n) f t (l₅.take n).length) (sErr (l₆.take n) f t n) = true ∧ K (.bool true))) := by kernel_rfl
end Go.Proofs.YtpdpaifagakipaaGreatDoor
