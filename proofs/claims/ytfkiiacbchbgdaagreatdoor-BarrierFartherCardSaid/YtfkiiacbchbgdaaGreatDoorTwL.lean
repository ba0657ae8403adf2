/-
  OWN WORK. Tows: the last stopping point, carried out for all numbers of cells.
-/
import Derived.Test.YtfkiiacbchbgdaaGreatDoorTwGJ
namespace Go.Proofs.YtfkiiacbchbgdaaGreatDoor
open Go Go.Am

abbrev vaYl (cs : List Value) (n : Nat) (t : T5) (K : Prop) : Prop := (List.all cs (flat 3) = true ∧ True) ∧ towOk cs n ∧ noR (decI cs) t [] ∧ (!(ieq (ctE (List.length (decI cs)) (decI cs) t) 0)) = false ∧ K
noncomputable def syLa : FuncId → Sy := fun f => match Nat.beq f 112 with
  | true => syOf [(9, 50), (21, 33), (23, 33), (29, 50)]
  | false => match Nat.beq f 12 with
    | true => syOf [(9, 7), (11, 32), (25, 1), (30, 1)]
    | false => syOf []
noncomputable def bnW (a c w : Int) (i : Nat) : Int := fwrap .i64 (fwrap .i64 (w - Int.ofNat i) * fwrap .i64 (c + a))
noncomputable def laY (a c w : Int) : Nat → Int → Int → List Int → (Int → Prop) → Prop
  | i, L, s, [], K => (ilt w (Int.ofNat i) = true → K L) ∧ (ilt w (Int.ofNat i) = false → ((ilt (bnW a c w i) s = true → K L) ∧ (ilt (bnW a c w i) s = false → K (Int.ofNat i))))
  | i, L, s, x :: r, K => (ilt w (Int.ofNat i) = true → K L) ∧ (ilt w (Int.ofNat i) = false → ((ilt (bnW a c w i) s = true → K L) ∧ (ilt (bnW a c w i) s = false → (inI64 (s + x) = true ∧ inI64 ((s + x) - a) = true ∧ laY a c w (i + 1) (Int.ofNat i) (mxN s x a) r K))))
section
variable (a b c d w : Int) (e row k : Nat) (g : Nat → Int) (K : Value → Prop)
abbrev LaS (n : Nat) : Prop := callN Tryz.prog orcUd syLa askUd 1200 12 #[towV n k a b c d w] (canon Tryz.prog [((lsN g 0 n).map gi, e, row)]) (fun v _ => K v) =
  vaYl ((lsN g 0 n).map gi) n (a, b, c, d, w) (laY a c w 0 0 0 (lsN g 0 n) (fun x => K (.tuple #[gi x, gi 0])))
theorem la1 : LaS a b c d w e row k g K 1 := by show _ = _; kernel_rfl
theorem la2 : LaS a b c d w e row k g K 2 := by show _ = _; kernel_rfl
theorem la3 : LaS a b c d w e row k g K 3 := by show _ = _; kernel_rfl
theorem la4 : LaS a b c d w e row k g K 4 := by show _ = _; kernel_rfl
theorem la5 : LaS a b c d w e row k g K 5 := by show _ = _; kernel_rfl
theorem la6 : LaS a b c d w e row k g K 6 := by show _ = _; kernel_rfl
theorem la7 : LaS a b c d w e row k g K 7 := by show _ = _; kernel_rfl
theorem la8 : LaS a b c d w e row k g K 8 := by show _ = _; kernel_rfl
theorem la9 : LaS a b c d w e row k g K 9 := by show _ = _; kernel_rfl
theorem la10 : LaS a b c d w e row k g K 10 := by show _ = _; kernel_rfl
theorem la11 : LaS a b c d w e row k g K 11 := by show _ = _; kernel_rfl
theorem la12 : LaS a b c d w e row k g K 12 := by show _ = _; kernel_rfl
theorem la13 : LaS a b c d w e row k g K 13 := by show _ = _; kernel_rfl
theorem la14 : LaS a b c d w e row k g K 14 := by show _ = _; kernel_rfl
theorem la15 : LaS a b c d w e row k g K 15 := by show _ = _; kernel_rfl
theorem la16 : LaS a b c d w e row k g K 16 := by show _ = _; kernel_rfl
theorem la17 : LaS a b c d w e row k g K 17 := by show _ = _; kernel_rfl
theorem la18 : LaS a b c d w e row k g K 18 := by show _ = _; kernel_rfl
theorem la19 : LaS a b c d w e row k g K 19 := by show _ = _; kernel_rfl
theorem la20 : LaS a b c d w e row k g K 20 := by show _ = _; kernel_rfl
theorem la21 : LaS a b c d w e row k g K 21 := by show _ = _; kernel_rfl
theorem la22 : LaS a b c d w e row k g K 22 := by show _ = _; kernel_rfl
theorem la23 : LaS a b c d w e row k g K 23 := by show _ = _; kernel_rfl
theorem la24 : LaS a b c d w e row k g K 24 := by show _ = _; kernel_rfl
theorem la25 : LaS a b c d w e row k g K 25 := by show _ = _; kernel_rfl
theorem la26 : LaS a b c d w e row k g K 26 := by show _ = _; kernel_rfl
theorem la27 : LaS a b c d w e row k g K 27 := by show _ = _; kernel_rfl
theorem la28 : LaS a b c d w e row k g K 28 := by show _ = _; kernel_rfl
theorem la29 : LaS a b c d w e row k g K 29 := by show _ = _; kernel_rfl
theorem la30 : LaS a b c d w e row k g K 30 := by show _ = _; kernel_rfl
theorem la31 : LaS a b c d w e row k g K 31 := by show _ = _; kernel_rfl
theorem la32 : LaS a b c d w e row k g K 32 := by show _ = _; kernel_rfl
theorem la33 : LaS a b c d w e row k g K 33 := by show _ = _; kernel_rfl
theorem la34 : LaS a b c d w e row k g K 34 := by show _ = _; kernel_rfl
theorem la35 : LaS a b c d w e row k g K 35 := by show _ = _; kernel_rfl
theorem la36 : LaS a b c d w e row k g K 36 := by show _ = _; kernel_rfl
theorem la37 : LaS a b c d w e row k g K 37 := by show _ = _; kernel_rfl
theorem la38 : LaS a b c d w e row k g K 38 := by show _ = _; kernel_rfl
theorem la39 : LaS a b c d w e row k g K 39 := by show _ = _; kernel_rfl
theorem la40 : LaS a b c d w e row k g K 40 := by show _ = _; kernel_rfl
theorem la41 : LaS a b c d w e row k g K 41 := by show _ = _; kernel_rfl
theorem la42 : LaS a b c d w e row k g K 42 := by show _ = _; kernel_rfl
theorem la43 : LaS a b c d w e row k g K 43 := by show _ = _; kernel_rfl
theorem la44 : LaS a b c d w e row k g K 44 := by show _ = _; kernel_rfl
theorem la45 : LaS a b c d w e row k g K 45 := by show _ = _; kernel_rfl
theorem la46 : LaS a b c d w e row k g K 46 := by show _ = _; kernel_rfl
theorem la47 : LaS a b c d w e row k g K 47 := by show _ = _; kernel_rfl
theorem la48 : LaS a b c d w e row k g K 48 := by show _ = _; kernel_rfl
theorem la49 : LaS a b c d w e row k g K 49 := by show _ = _; kernel_rfl
theorem la50 : LaS a b c d w e row k g K 50 := by show _ = _; kernel_rfl
theorem la51 : LaS a b c d w e row k g K 51 := by show _ = _; kernel_rfl
theorem la52 : LaS a b c d w e row k g K 52 := by show _ = _; kernel_rfl
theorem la53 : LaS a b c d w e row k g K 53 := by show _ = _; kernel_rfl
theorem la54 : LaS a b c d w e row k g K 54 := by show _ = _; kernel_rfl
theorem la55 : LaS a b c d w e row k g K 55 := by show _ = _; kernel_rfl
theorem la56 : LaS a b c d w e row k g K 56 := by show _ = _; kernel_rfl
theorem la57 : LaS a b c d w e row k g K 57 := by show _ = _; kernel_rfl
theorem la58 : LaS a b c d w e row k g K 58 := by show _ = _; kernel_rfl
theorem la59 : LaS a b c d w e row k g K 59 := by show _ = _; kernel_rfl
theorem la60 : LaS a b c d w e row k g K 60 := by show _ = _; kernel_rfl
theorem la61 : LaS a b c d w e row k g K 61 := by show _ = _; kernel_rfl
theorem la62 : LaS a b c d w e row k g K 62 := by show _ = _; kernel_rfl
theorem la63 : LaS a b c d w e row k g K 63 := by show _ = _; kernel_rfl
theorem la64 : LaS a b c d w e row k g K 64 := by show _ = _; kernel_rfl
theorem la_n : ∀ n : Nat, 1 ≤ n → n ≤ 64 → LaS a b c d w e row k g K n
  | 0, h, _ => absurd h (by decide)
  | 1, _, _ => la1 a b c d w e row k g K
  | 2, _, _ => la2 a b c d w e row k g K
  | 3, _, _ => la3 a b c d w e row k g K
  | 4, _, _ => la4 a b c d w e row k g K
  | 5, _, _ => la5 a b c d w e row k g K
  | 6, _, _ => la6 a b c d w e row k g K
  | 7, _, _ => la7 a b c d w e row k g K
  | 8, _, _ => la8 a b c d w e row k g K
  | 9, _, _ => la9 a b c d w e row k g K
  | 10, _, _ => la10 a b c d w e row k g K
  | 11, _, _ => la11 a b c d w e row k g K
  | 12, _, _ => la12 a b c d w e row k g K
  | 13, _, _ => la13 a b c d w e row k g K
  | 14, _, _ => la14 a b c d w e row k g K
  | 15, _, _ => la15 a b c d w e row k g K
  | 16, _, _ => la16 a b c d w e row k g K
  | 17, _, _ => la17 a b c d w e row k g K
  | 18, _, _ => la18 a b c d w e row k g K
  | 19, _, _ => la19 a b c d w e row k g K
  | 20, _, _ => la20 a b c d w e row k g K
  | 21, _, _ => la21 a b c d w e row k g K
  | 22, _, _ => la22 a b c d w e row k g K
  | 23, _, _ => la23 a b c d w e row k g K
  | 24, _, _ => la24 a b c d w e row k g K
  | 25, _, _ => la25 a b c d w e row k g K
  | 26, _, _ => la26 a b c d w e row k g K
  | 27, _, _ => la27 a b c d w e row k g K
  | 28, _, _ => la28 a b c d w e row k g K
  | 29, _, _ => la29 a b c d w e row k g K
  | 30, _, _ => la30 a b c d w e row k g K
  | 31, _, _ => la31 a b c d w e row k g K
  | 32, _, _ => la32 a b c d w e row k g K
  | 33, _, _ => la33 a b c d w e row k g K
  | 34, _, _ => la34 a b c d w e row k g K
  | 35, _, _ => la35 a b c d w e row k g K
  | 36, _, _ => la36 a b c d w e row k g K
  | 37, _, _ => la37 a b c d w e row k g K
  | 38, _, _ => la38 a b c d w e row k g K
  | 39, _, _ => la39 a b c d w e row k g K
  | 40, _, _ => la40 a b c d w e row k g K
  | 41, _, _ => la41 a b c d w e row k g K
  | 42, _, _ => la42 a b c d w e row k g K
  | 43, _, _ => la43 a b c d w e row k g K
  | 44, _, _ => la44 a b c d w e row k g K
  | 45, _, _ => la45 a b c d w e row k g K
  | 46, _, _ => la46 a b c d w e row k g K
  | 47, _, _ => la47 a b c d w e row k g K
  | 48, _, _ => la48 a b c d w e row k g K
  | 49, _, _ => la49 a b c d w e row k g K
  | 50, _, _ => la50 a b c d w e row k g K
  | 51, _, _ => la51 a b c d w e row k g K
  | 52, _, _ => la52 a b c d w e row k g K
  | 53, _, _ => la53 a b c d w e row k g K
  | 54, _, _ => la54 a b c d w e row k g K
  | 55, _, _ => la55 a b c d w e row k g K
  | 56, _, _ => la56 a b c d w e row k g K
  | 57, _, _ => la57 a b c d w e row k g K
  | 58, _, _ => la58 a b c d w e row k g K
  | 59, _, _ => la59 a b c d w e row k g K
  | 60, _, _ => la60 a b c d w e row k g K
  | 61, _, _ => la61 a b c d w e row k g K
  | 62, _, _ => la62 a b c d w e row k g K
  | 63, _, _ => la63 a b c d w e row k g K
  | 64, _, _ => la64 a b c d w e row k g K
  | n + 65, _, h => absurd h (by omega)
end
end Go.Proofs.YtfkiiacbchbgdaaGreatDoor
