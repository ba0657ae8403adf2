/-
  OWN WORK. Tows: the reference's run, carried out for all numbers of cells.
-/
import Derived.Test.YtfkiiacbchbgdaaGreatDoorTwBD
namespace Go.Proofs.YtfkiiacbchbgdaaGreatDoor
open Go Go.Am

noncomputable def slKr (K : Nat → Nat → Option AObj → Prop) (v : Value) (h : AHeap) : Prop := match v with
  | .slice (some ⟨i, 0, none⟩) n k => K n k (h.get i)
  | _ => False
noncomputable def mxR (s x f : Int) : Int := if (s + x) - f > 0 then (s + x) - f else 0
noncomputable def rqY (f : Int) (v : Value) : Int → List Int → Prop → Prop
  | _, [], K => K
  | s, x :: r, K => inI64 (s + x) = true ∧ inI64 ((s + x) - f) = true ∧ gi (mxR s x f) = gi (mxR s x f) ∧ some (gi x) = some (gi x) ∧ some v = some v ∧ some (gi s) = some (gi s) ∧ rqY f v (mxR s x f) r K
noncomputable def rqL (f : Int) : Int → List Int → List Int
  | s, [] => [s]
  | s, x :: r => s :: rqL f (mxR s x f) r
section
variable (a b c d w f : Int) (e row k : Nat) (K : Nat → Nat → Option AObj → Prop) (g : Nat → Int)
abbrev RqS (n : Nat) : Prop := callN Tryz.prog orcUa (fun _ => syOf [(25, 33), (27, 33)]) askUa 1200 17 #[towV n k a b c d w, gi f] (canon Tryz.prog [((lsN g 0 n).map gi, e, row)]) (slKr K) = rqY f (liP n k) 0 (lsN g 0 n) (K (n + 1) (n + 1) (some (.cells ((rqL f 0 (lsN g 0 n)).map gi) 3 2 false)))
theorem rq1 : RqS a b c d w f e row k K g 1 := by show _ = _; kernel_rfl
theorem rq2 : RqS a b c d w f e row k K g 2 := by show _ = _; kernel_rfl
theorem rq3 : RqS a b c d w f e row k K g 3 := by show _ = _; kernel_rfl
theorem rq4 : RqS a b c d w f e row k K g 4 := by show _ = _; kernel_rfl
theorem rq5 : RqS a b c d w f e row k K g 5 := by show _ = _; kernel_rfl
theorem rq6 : RqS a b c d w f e row k K g 6 := by show _ = _; kernel_rfl
theorem rq7 : RqS a b c d w f e row k K g 7 := by show _ = _; kernel_rfl
theorem rq8 : RqS a b c d w f e row k K g 8 := by show _ = _; kernel_rfl
theorem rq9 : RqS a b c d w f e row k K g 9 := by show _ = _; kernel_rfl
theorem rq10 : RqS a b c d w f e row k K g 10 := by show _ = _; kernel_rfl
theorem rq11 : RqS a b c d w f e row k K g 11 := by show _ = _; kernel_rfl
theorem rq12 : RqS a b c d w f e row k K g 12 := by show _ = _; kernel_rfl
theorem rq13 : RqS a b c d w f e row k K g 13 := by show _ = _; kernel_rfl
theorem rq14 : RqS a b c d w f e row k K g 14 := by show _ = _; kernel_rfl
theorem rq15 : RqS a b c d w f e row k K g 15 := by show _ = _; kernel_rfl
theorem rq16 : RqS a b c d w f e row k K g 16 := by show _ = _; kernel_rfl
theorem rq17 : RqS a b c d w f e row k K g 17 := by show _ = _; kernel_rfl
theorem rq18 : RqS a b c d w f e row k K g 18 := by show _ = _; kernel_rfl
theorem rq19 : RqS a b c d w f e row k K g 19 := by show _ = _; kernel_rfl
theorem rq20 : RqS a b c d w f e row k K g 20 := by show _ = _; kernel_rfl
theorem rq21 : RqS a b c d w f e row k K g 21 := by show _ = _; kernel_rfl
theorem rq22 : RqS a b c d w f e row k K g 22 := by show _ = _; kernel_rfl
theorem rq23 : RqS a b c d w f e row k K g 23 := by show _ = _; kernel_rfl
theorem rq24 : RqS a b c d w f e row k K g 24 := by show _ = _; kernel_rfl
theorem rq25 : RqS a b c d w f e row k K g 25 := by show _ = _; kernel_rfl
theorem rq26 : RqS a b c d w f e row k K g 26 := by show _ = _; kernel_rfl
theorem rq27 : RqS a b c d w f e row k K g 27 := by show _ = _; kernel_rfl
theorem rq28 : RqS a b c d w f e row k K g 28 := by show _ = _; kernel_rfl
theorem rq29 : RqS a b c d w f e row k K g 29 := by show _ = _; kernel_rfl
theorem rq30 : RqS a b c d w f e row k K g 30 := by show _ = _; kernel_rfl
theorem rq31 : RqS a b c d w f e row k K g 31 := by show _ = _; kernel_rfl
theorem rq32 : RqS a b c d w f e row k K g 32 := by show _ = _; kernel_rfl
theorem rq33 : RqS a b c d w f e row k K g 33 := by show _ = _; kernel_rfl
theorem rq34 : RqS a b c d w f e row k K g 34 := by show _ = _; kernel_rfl
theorem rq35 : RqS a b c d w f e row k K g 35 := by show _ = _; kernel_rfl
theorem rq36 : RqS a b c d w f e row k K g 36 := by show _ = _; kernel_rfl
theorem rq37 : RqS a b c d w f e row k K g 37 := by show _ = _; kernel_rfl
theorem rq38 : RqS a b c d w f e row k K g 38 := by show _ = _; kernel_rfl
theorem rq39 : RqS a b c d w f e row k K g 39 := by show _ = _; kernel_rfl
theorem rq40 : RqS a b c d w f e row k K g 40 := by show _ = _; kernel_rfl
theorem rq41 : RqS a b c d w f e row k K g 41 := by show _ = _; kernel_rfl
theorem rq42 : RqS a b c d w f e row k K g 42 := by show _ = _; kernel_rfl
theorem rq43 : RqS a b c d w f e row k K g 43 := by show _ = _; kernel_rfl
theorem rq44 : RqS a b c d w f e row k K g 44 := by show _ = _; kernel_rfl
theorem rq45 : RqS a b c d w f e row k K g 45 := by show _ = _; kernel_rfl
theorem rq46 : RqS a b c d w f e row k K g 46 := by show _ = _; kernel_rfl
theorem rq47 : RqS a b c d w f e row k K g 47 := by show _ = _; kernel_rfl
theorem rq48 : RqS a b c d w f e row k K g 48 := by show _ = _; kernel_rfl
theorem rq49 : RqS a b c d w f e row k K g 49 := by show _ = _; kernel_rfl
theorem rq50 : RqS a b c d w f e row k K g 50 := by show _ = _; kernel_rfl
theorem rq51 : RqS a b c d w f e row k K g 51 := by show _ = _; kernel_rfl
theorem rq52 : RqS a b c d w f e row k K g 52 := by show _ = _; kernel_rfl
theorem rq53 : RqS a b c d w f e row k K g 53 := by show _ = _; kernel_rfl
theorem rq54 : RqS a b c d w f e row k K g 54 := by show _ = _; kernel_rfl
theorem rq55 : RqS a b c d w f e row k K g 55 := by show _ = _; kernel_rfl
theorem rq56 : RqS a b c d w f e row k K g 56 := by show _ = _; kernel_rfl
theorem rq57 : RqS a b c d w f e row k K g 57 := by show _ = _; kernel_rfl
theorem rq58 : RqS a b c d w f e row k K g 58 := by show _ = _; kernel_rfl
theorem rq59 : RqS a b c d w f e row k K g 59 := by show _ = _; kernel_rfl
theorem rq60 : RqS a b c d w f e row k K g 60 := by show _ = _; kernel_rfl
theorem rq61 : RqS a b c d w f e row k K g 61 := by show _ = _; kernel_rfl
theorem rq62 : RqS a b c d w f e row k K g 62 := by show _ = _; kernel_rfl
theorem rq63 : RqS a b c d w f e row k K g 63 := by show _ = _; kernel_rfl
theorem rq64 : RqS a b c d w f e row k K g 64 := by show _ = _; kernel_rfl
theorem rq_n : ∀ n : Nat, 1 ≤ n → n ≤ 64 → RqS a b c d w f e row k K g n
  | 0, h, _ => absurd h (by decide)
  | 1, _, _ => rq1 a b c d w f e row k K g
  | 2, _, _ => rq2 a b c d w f e row k K g
  | 3, _, _ => rq3 a b c d w f e row k K g
  | 4, _, _ => rq4 a b c d w f e row k K g
  | 5, _, _ => rq5 a b c d w f e row k K g
  | 6, _, _ => rq6 a b c d w f e row k K g
  | 7, _, _ => rq7 a b c d w f e row k K g
  | 8, _, _ => rq8 a b c d w f e row k K g
  | 9, _, _ => rq9 a b c d w f e row k K g
  | 10, _, _ => rq10 a b c d w f e row k K g
  | 11, _, _ => rq11 a b c d w f e row k K g
  | 12, _, _ => rq12 a b c d w f e row k K g
  | 13, _, _ => rq13 a b c d w f e row k K g
  | 14, _, _ => rq14 a b c d w f e row k K g
  | 15, _, _ => rq15 a b c d w f e row k K g
  | 16, _, _ => rq16 a b c d w f e row k K g
  | 17, _, _ => rq17 a b c d w f e row k K g
  | 18, _, _ => rq18 a b c d w f e row k K g
  | 19, _, _ => rq19 a b c d w f e row k K g
  | 20, _, _ => rq20 a b c d w f e row k K g
  | 21, _, _ => rq21 a b c d w f e row k K g
  | 22, _, _ => rq22 a b c d w f e row k K g
  | 23, _, _ => rq23 a b c d w f e row k K g
  | 24, _, _ => rq24 a b c d w f e row k K g
  | 25, _, _ => rq25 a b c d w f e row k K g
  | 26, _, _ => rq26 a b c d w f e row k K g
  | 27, _, _ => rq27 a b c d w f e row k K g
  | 28, _, _ => rq28 a b c d w f e row k K g
  | 29, _, _ => rq29 a b c d w f e row k K g
  | 30, _, _ => rq30 a b c d w f e row k K g
  | 31, _, _ => rq31 a b c d w f e row k K g
  | 32, _, _ => rq32 a b c d w f e row k K g
  | 33, _, _ => rq33 a b c d w f e row k K g
  | 34, _, _ => rq34 a b c d w f e row k K g
  | 35, _, _ => rq35 a b c d w f e row k K g
  | 36, _, _ => rq36 a b c d w f e row k K g
  | 37, _, _ => rq37 a b c d w f e row k K g
  | 38, _, _ => rq38 a b c d w f e row k K g
  | 39, _, _ => rq39 a b c d w f e row k K g
  | 40, _, _ => rq40 a b c d w f e row k K g
  | 41, _, _ => rq41 a b c d w f e row k K g
  | 42, _, _ => rq42 a b c d w f e row k K g
  | 43, _, _ => rq43 a b c d w f e row k K g
  | 44, _, _ => rq44 a b c d w f e row k K g
  | 45, _, _ => rq45 a b c d w f e row k K g
  | 46, _, _ => rq46 a b c d w f e row k K g
  | 47, _, _ => rq47 a b c d w f e row k K g
  | 48, _, _ => rq48 a b c d w f e row k K g
  | 49, _, _ => rq49 a b c d w f e row k K g
  | 50, _, _ => rq50 a b c d w f e row k K g
  | 51, _, _ => rq51 a b c d w f e row k K g
  | 52, _, _ => rq52 a b c d w f e row k K g
  | 53, _, _ => rq53 a b c d w f e row k K g
  | 54, _, _ => rq54 a b c d w f e row k K g
  | 55, _, _ => rq55 a b c d w f e row k K g
  | 56, _, _ => rq56 a b c d w f e row k K g
  | 57, _, _ => rq57 a b c d w f e row k K g
  | 58, _, _ => rq58 a b c d w f e row k K g
  | 59, _, _ => rq59 a b c d w f e row k K g
  | 60, _, _ => rq60 a b c d w f e row k K g
  | 61, _, _ => rq61 a b c d w f e row k K g
  | 62, _, _ => rq62 a b c d w f e row k K g
  | 63, _, _ => rq63 a b c d w f e row k K g
  | 64, _, _ => rq64 a b c d w f e row k K g
  | n + 65, _, h => absurd h (by omega)
end
end Go.Proofs.YtfkiiacbchbgdaaGreatDoor
