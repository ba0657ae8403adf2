/-
  OWN WORK. Tows: what is reached, by the reference, carried out for all numbers of cells.
-/
import Derived.Test.YtfkiiacbchbgdaaGreatDoorTwGJ
namespace Go.Proofs.YtfkiiacbchbgdaaGreatDoor
open Go Go.Am

noncomputable def zipR : List Int → List Int → List P2
  | x :: q, y :: p => (x, y) :: zipR q p
  | _, _ => []
abbrev fnYr (cs : List Value) (n : Nat) (t : T5) (f : Int) (K : Prop) : Prop := (List.all cs (flat 3) = true ∧ True) ∧ towOk cs n ∧ ruC (decI cs) t [gi f] ∧ K
noncomputable def rrY : List Int → List Int → Prop → Prop
  | p :: P, q :: Q, K => some (gi p) = some (gi p) ∧ some (gi q) = some (gi q) ∧ rrY P Q K
  | _, _, K => K
section
variable (a b c d w : Int) (e row k : Nat) (g : Nat → Int) (K : Nat → Nat → Option AObj → Prop)
abbrev RrS (n : Nat) : Prop := callN Tryz.prog orcUd (fun _ => syOf [(11, 7), (16, 7)]) askUd 1200 20 #[towV n k a b c d w] (canon Tryz.prog [((lsN g 0 n).map gi, e, row)]) (skKY K) =
  fnYr ((lsN g 0 n).map gi) n (a, b, c, d, w) b (some (gi a) = some (gi a) ∧ towV n k a b c d w = towV n k a b c d w ∧ fnYr ((lsN g 0 n).map gi) n (a, b, c, d, w) a (rrY (rnL a 0 (lsN g 0 n)) (rnL b 0 (lsN g 0 n)) (K (n + 1) (n + 1) (some (.cells (cellsP (zipR (rnL b 0 (lsN g 0 n)) (rnL a 0 (lsN g 0 n)))) 24 3 false)))))
theorem rr1 : RrS a b c d w e row k g K 1 := by show _ = _; kernel_rfl
theorem rr2 : RrS a b c d w e row k g K 2 := by show _ = _; kernel_rfl
theorem rr3 : RrS a b c d w e row k g K 3 := by show _ = _; kernel_rfl
theorem rr4 : RrS a b c d w e row k g K 4 := by show _ = _; kernel_rfl
theorem rr5 : RrS a b c d w e row k g K 5 := by show _ = _; kernel_rfl
theorem rr6 : RrS a b c d w e row k g K 6 := by show _ = _; kernel_rfl
theorem rr7 : RrS a b c d w e row k g K 7 := by show _ = _; kernel_rfl
theorem rr8 : RrS a b c d w e row k g K 8 := by show _ = _; kernel_rfl
theorem rr9 : RrS a b c d w e row k g K 9 := by show _ = _; kernel_rfl
theorem rr10 : RrS a b c d w e row k g K 10 := by show _ = _; kernel_rfl
theorem rr11 : RrS a b c d w e row k g K 11 := by show _ = _; kernel_rfl
theorem rr12 : RrS a b c d w e row k g K 12 := by show _ = _; kernel_rfl
theorem rr13 : RrS a b c d w e row k g K 13 := by show _ = _; kernel_rfl
theorem rr14 : RrS a b c d w e row k g K 14 := by show _ = _; kernel_rfl
theorem rr15 : RrS a b c d w e row k g K 15 := by show _ = _; kernel_rfl
theorem rr16 : RrS a b c d w e row k g K 16 := by show _ = _; kernel_rfl
theorem rr17 : RrS a b c d w e row k g K 17 := by show _ = _; kernel_rfl
theorem rr18 : RrS a b c d w e row k g K 18 := by show _ = _; kernel_rfl
theorem rr19 : RrS a b c d w e row k g K 19 := by show _ = _; kernel_rfl
theorem rr20 : RrS a b c d w e row k g K 20 := by show _ = _; kernel_rfl
theorem rr21 : RrS a b c d w e row k g K 21 := by show _ = _; kernel_rfl
theorem rr22 : RrS a b c d w e row k g K 22 := by show _ = _; kernel_rfl
theorem rr23 : RrS a b c d w e row k g K 23 := by show _ = _; kernel_rfl
theorem rr24 : RrS a b c d w e row k g K 24 := by show _ = _; kernel_rfl
theorem rr25 : RrS a b c d w e row k g K 25 := by show _ = _; kernel_rfl
theorem rr26 : RrS a b c d w e row k g K 26 := by show _ = _; kernel_rfl
theorem rr27 : RrS a b c d w e row k g K 27 := by show _ = _; kernel_rfl
theorem rr28 : RrS a b c d w e row k g K 28 := by show _ = _; kernel_rfl
theorem rr29 : RrS a b c d w e row k g K 29 := by show _ = _; kernel_rfl
theorem rr30 : RrS a b c d w e row k g K 30 := by show _ = _; kernel_rfl
theorem rr31 : RrS a b c d w e row k g K 31 := by show _ = _; kernel_rfl
theorem rr32 : RrS a b c d w e row k g K 32 := by show _ = _; kernel_rfl
theorem rr33 : RrS a b c d w e row k g K 33 := by show _ = _; kernel_rfl
theorem rr34 : RrS a b c d w e row k g K 34 := by show _ = _; kernel_rfl
theorem rr35 : RrS a b c d w e row k g K 35 := by show _ = _; kernel_rfl
theorem rr36 : RrS a b c d w e row k g K 36 := by show _ = _; kernel_rfl
theorem rr37 : RrS a b c d w e row k g K 37 := by show _ = _; kernel_rfl
theorem rr38 : RrS a b c d w e row k g K 38 := by show _ = _; kernel_rfl
theorem rr39 : RrS a b c d w e row k g K 39 := by show _ = _; kernel_rfl
theorem rr40 : RrS a b c d w e row k g K 40 := by show _ = _; kernel_rfl
theorem rr41 : RrS a b c d w e row k g K 41 := by show _ = _; kernel_rfl
theorem rr42 : RrS a b c d w e row k g K 42 := by show _ = _; kernel_rfl
theorem rr43 : RrS a b c d w e row k g K 43 := by show _ = _; kernel_rfl
theorem rr44 : RrS a b c d w e row k g K 44 := by show _ = _; kernel_rfl
theorem rr45 : RrS a b c d w e row k g K 45 := by show _ = _; kernel_rfl
theorem rr46 : RrS a b c d w e row k g K 46 := by show _ = _; kernel_rfl
theorem rr47 : RrS a b c d w e row k g K 47 := by show _ = _; kernel_rfl
theorem rr48 : RrS a b c d w e row k g K 48 := by show _ = _; kernel_rfl
theorem rr49 : RrS a b c d w e row k g K 49 := by show _ = _; kernel_rfl
theorem rr50 : RrS a b c d w e row k g K 50 := by show _ = _; kernel_rfl
theorem rr51 : RrS a b c d w e row k g K 51 := by show _ = _; kernel_rfl
theorem rr52 : RrS a b c d w e row k g K 52 := by show _ = _; kernel_rfl
theorem rr53 : RrS a b c d w e row k g K 53 := by show _ = _; kernel_rfl
theorem rr54 : RrS a b c d w e row k g K 54 := by show _ = _; kernel_rfl
theorem rr55 : RrS a b c d w e row k g K 55 := by show _ = _; kernel_rfl
theorem rr56 : RrS a b c d w e row k g K 56 := by show _ = _; kernel_rfl
theorem rr57 : RrS a b c d w e row k g K 57 := by show _ = _; kernel_rfl
theorem rr58 : RrS a b c d w e row k g K 58 := by show _ = _; kernel_rfl
theorem rr59 : RrS a b c d w e row k g K 59 := by show _ = _; kernel_rfl
theorem rr60 : RrS a b c d w e row k g K 60 := by show _ = _; kernel_rfl
theorem rr61 : RrS a b c d w e row k g K 61 := by show _ = _; kernel_rfl
theorem rr62 : RrS a b c d w e row k g K 62 := by show _ = _; kernel_rfl
theorem rr63 : RrS a b c d w e row k g K 63 := by show _ = _; kernel_rfl
theorem rr64 : RrS a b c d w e row k g K 64 := by show _ = _; kernel_rfl
theorem rr_n : ∀ n : Nat, 1 ≤ n → n ≤ 64 → RrS a b c d w e row k g K n
  | 0, h, _ => absurd h (by decide)
  | 1, _, _ => rr1 a b c d w e row k g K
  | 2, _, _ => rr2 a b c d w e row k g K
  | 3, _, _ => rr3 a b c d w e row k g K
  | 4, _, _ => rr4 a b c d w e row k g K
  | 5, _, _ => rr5 a b c d w e row k g K
  | 6, _, _ => rr6 a b c d w e row k g K
  | 7, _, _ => rr7 a b c d w e row k g K
  | 8, _, _ => rr8 a b c d w e row k g K
  | 9, _, _ => rr9 a b c d w e row k g K
  | 10, _, _ => rr10 a b c d w e row k g K
  | 11, _, _ => rr11 a b c d w e row k g K
  | 12, _, _ => rr12 a b c d w e row k g K
  | 13, _, _ => rr13 a b c d w e row k g K
  | 14, _, _ => rr14 a b c d w e row k g K
  | 15, _, _ => rr15 a b c d w e row k g K
  | 16, _, _ => rr16 a b c d w e row k g K
  | 17, _, _ => rr17 a b c d w e row k g K
  | 18, _, _ => rr18 a b c d w e row k g K
  | 19, _, _ => rr19 a b c d w e row k g K
  | 20, _, _ => rr20 a b c d w e row k g K
  | 21, _, _ => rr21 a b c d w e row k g K
  | 22, _, _ => rr22 a b c d w e row k g K
  | 23, _, _ => rr23 a b c d w e row k g K
  | 24, _, _ => rr24 a b c d w e row k g K
  | 25, _, _ => rr25 a b c d w e row k g K
  | 26, _, _ => rr26 a b c d w e row k g K
  | 27, _, _ => rr27 a b c d w e row k g K
  | 28, _, _ => rr28 a b c d w e row k g K
  | 29, _, _ => rr29 a b c d w e row k g K
  | 30, _, _ => rr30 a b c d w e row k g K
  | 31, _, _ => rr31 a b c d w e row k g K
  | 32, _, _ => rr32 a b c d w e row k g K
  | 33, _, _ => rr33 a b c d w e row k g K
  | 34, _, _ => rr34 a b c d w e row k g K
  | 35, _, _ => rr35 a b c d w e row k g K
  | 36, _, _ => rr36 a b c d w e row k g K
  | 37, _, _ => rr37 a b c d w e row k g K
  | 38, _, _ => rr38 a b c d w e row k g K
  | 39, _, _ => rr39 a b c d w e row k g K
  | 40, _, _ => rr40 a b c d w e row k g K
  | 41, _, _ => rr41 a b c d w e row k g K
  | 42, _, _ => rr42 a b c d w e row k g K
  | 43, _, _ => rr43 a b c d w e row k g K
  | 44, _, _ => rr44 a b c d w e row k g K
  | 45, _, _ => rr45 a b c d w e row k g K
  | 46, _, _ => rr46 a b c d w e row k g K
  | 47, _, _ => rr47 a b c d w e row k g K
  | 48, _, _ => rr48 a b c d w e row k g K
  | 49, _, _ => rr49 a b c d w e row k g K
  | 50, _, _ => rr50 a b c d w e row k g K
  | 51, _, _ => rr51 a b c d w e row k g K
  | 52, _, _ => rr52 a b c d w e row k g K
  | 53, _, _ => rr53 a b c d w e row k g K
  | 54, _, _ => rr54 a b c d w e row k g K
  | 55, _, _ => rr55 a b c d w e row k g K
  | 56, _, _ => rr56 a b c d w e row k g K
  | 57, _, _ => rr57 a b c d w e row k g K
  | 58, _, _ => rr58 a b c d w e row k g K
  | 59, _, _ => rr59 a b c d w e row k g K
  | 60, _, _ => rr60 a b c d w e row k g K
  | 61, _, _ => rr61 a b c d w e row k g K
  | 62, _, _ => rr62 a b c d w e row k g K
  | 63, _, _ => rr63 a b c d w e row k g K
  | 64, _, _ => rr64 a b c d w e row k g K
  | n + 65, _, h => absurd h (by omega)
end
end Go.Proofs.YtfkiiacbchbgdaaGreatDoor
