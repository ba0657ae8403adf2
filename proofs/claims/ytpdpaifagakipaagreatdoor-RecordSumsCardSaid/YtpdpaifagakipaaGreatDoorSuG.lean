/-
  OWN WORK. Prefix sums, by the reference.
-/
import Derived.Test.YtpdpaifagakipaaGreatDoorSuF
namespace Go.Proofs.YtpdpaifagakipaaGreatDoor
open Go Go.Am

noncomputable abbrev icv (c : List Value) : AObj := .cells c 3 2 false
noncomputable abbrev slAt (b q : Nat) : Value := .slice (some ⟨b, 0, none⟩) q q
noncomputable abbrev nilV : Value := .slice none 0 0
noncomputable abbrev SC (c : List Value) (e row : Nat) : AHeap := canonT [] (fun _ => 0) Tryz.prog.globals.size [(c, e, row, true)]
noncomputable abbrev s0 (j : Nat) : List Value := [.agg #[gi 0, goN j]]
theorem px_first (c : List Value) (n k e row : Nat) (g : Nat → Value) (Q : Exit → List Value → AHeap → Prop) :
    execC Tryz.prog (exec Tryz.prog orcPc 10) (syOf [(8, 1), (15, 7)]) askPc (noLoops _) 40 (loopOf Tryz.prog 34 0) (stOf 19 [(0, liP n k), (3, nilV), (4, goN 0)] g) (SC c e row) (told 19 [0, 3, 4] Q) =
    ((true = true → ∃ l : List Nat, c = l.map gf ∧ 0 < n ∧ n ≤ l.length ∧ n ≤ 1000000 ∧ spC (l.take n) (s0 0) = true ∧
      Q .normal [liP n k, slAt (N1 + 2) 1, goN 1] (((SC c e row).push (icv [spR (l.take n) (s0 0)])).push (icv [spR (l.take n) (s0 0)]))) ∧
     (true = false → Q (.exit 0) [liP n k, nilV, goN 0] (SC c e row))) := by kernel_rfl
theorem px_next (c c' : List Value) (n k j e row : Nat) (g : Nat → Value) (Q : Exit → List Value → AHeap → Prop) :
    execC Tryz.prog (exec Tryz.prog orcPc 10) (syOf [(8, 1), (15, 7), (17, 10)]) askPc (noLoops _) 40 (loopOf Tryz.prog 34 0) (stOf 19 [(0, liP n k), (3, slO j j), (4, goN j)] g) (MH c e row c') (told 19 [0, 3, 4] Q) =
    (((!ilt (Int.ofNat n) (Int.ofNat j)) = true → ∃ l : List Nat, c = l.map gf ∧ 0 < n ∧ n ≤ l.length ∧ n ≤ 1000000 ∧ spC (l.take n) (s0 j) = true ∧
      Nat.ble (j + 1) j = false ∧ Nat.ble ((2 * (j + 1) + 256) * 8) 281474976710656 = true ∧ j * 1 = c'.length ∧
      Q .normal [liP n k, slAt (N1 + 3) (j + 1), .int .i64 (fwrap .i64 (Int.ofNat (j + 1)))] ((((MH c e row c').push (icv [spR (l.take n) (s0 j)])).set (N1 + 1) .dead).push (icv (c' ++ [spR (l.take n) (s0 j)])))) ∧
     ((!ilt (Int.ofNat n) (Int.ofNat j)) = false → Q (.exit 0) [liP n k, slO j j, goN j] (MH c e row c'))) := by kernel_rfl
end Go.Proofs.YtpdpaifagakipaaGreatDoor
