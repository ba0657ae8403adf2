/-
  OWN WORK. Tows: what is reached, carried out for all numbers of cells.
-/
import Derived.Test.YtfkiiacbchbgdaaGreatDoorTwGJ
namespace Go.Proofs.YtfkiiacbchbgdaaGreatDoor
open Go Go.Am

noncomputable def zipP : List Int → List Int → List P2
  | x :: q, y :: p => (x, y) :: zipP q p
  | _, _ => []
/-- What is asked before the rounds: of a valid tow. -/
abbrev vaY (cs : List Value) (n : Nat) (t : T5) (K : Prop) : Prop := (List.all cs (flat 3) = true ∧ True) ∧ towOk cs n ∧ noR (decI cs) t [] ∧ (!(ieq (ctE (List.length (decI cs)) (decI cs) t) 0)) = false ∧ K
abbrev fnY (cs : List Value) (n : Nat) (t : T5) (f : Int) (K : Prop) : Prop := (List.all cs (flat 3) = true ∧ True) ∧ towOk cs n ∧ ruC (decI cs) t [gi f] ∧ K
noncomputable def syRc : FuncId → Sy := fun f => match Nat.beq f 112 with
  | true => syOf [(9, 50), (21, 33), (23, 33), (29, 50)]
  | false => match Nat.beq f 9 with
    | true => syOf [(10, 7), (12, 32), (18, 7)]
    | false => syOf []
noncomputable abbrev s2V (n : Nat) : Value := .slice (some ⟨nG1 + 2, 0, none⟩) (n + 1) (n + 1)
noncomputable abbrev s4V (n i : Nat) : Value := .slice (some ⟨nG1 + 4, 0, none⟩) i (n + 1)
noncomputable def reY (n : Nat) (f : Int) : Nat → Int → List Int → List Int → Prop → Prop
  | i, _, q0 :: _, [], K => some (gi q0) = some (gi q0) ∧ some (s2V n) = some (s2V n) ∧ some (s4V n i) = some (s4V n i) ∧ K
  | i, s, q0 :: q, x :: r, K => some (gi q0) = some (gi q0) ∧ some (s2V n) = some (s2V n) ∧ some (s4V n i) = some (s4V n i) ∧ inI64 (s + x) = true ∧ inI64 ((s + x) - f) = true ∧ reY n f (i + 1) (mxN s x f) q r K
  | _, _, [], _, K => K
section
variable (a b c d w : Int) (e row k : Nat) (g : Nat → Int) (K : Nat → Nat → List Value → Option AObj → Prop)
abbrev ReS (n : Nat) : Prop := callN Tryz.prog orcUd syRc askUd 1200 9 #[towV n k a b c d w] (canon Tryz.prog [((lsN g 0 n).map gi, e, row)]) (tpKY K (fun _ => False)) =
  vaY ((lsN g 0 n).map gi) n (a, b, c, d, w) (fnY ((lsN g 0 n).map gi) n (a, b, c, d, w) b (reY n a 0 0 (rnL b 0 (lsN g 0 n)) (lsN g 0 n) (K (n + 1) (n + 1) [gi 0] (some (.cells (cellsP (zipP (rnL b 0 (lsN g 0 n)) (rnL a 0 (lsN g 0 n)))) 24 3 false)))))
theorem re1 : ReS a b c d w e row k g K 1 := by show _ = _; kernel_rfl
theorem re2 : ReS a b c d w e row k g K 2 := by show _ = _; kernel_rfl
theorem re3 : ReS a b c d w e row k g K 3 := by show _ = _; kernel_rfl
theorem re4 : ReS a b c d w e row k g K 4 := by show _ = _; kernel_rfl
theorem re5 : ReS a b c d w e row k g K 5 := by show _ = _; kernel_rfl
theorem re6 : ReS a b c d w e row k g K 6 := by show _ = _; kernel_rfl
theorem re7 : ReS a b c d w e row k g K 7 := by show _ = _; kernel_rfl
theorem re8 : ReS a b c d w e row k g K 8 := by show _ = _; kernel_rfl
theorem re9 : ReS a b c d w e row k g K 9 := by show _ = _; kernel_rfl
theorem re10 : ReS a b c d w e row k g K 10 := by show _ = _; kernel_rfl
theorem re11 : ReS a b c d w e row k g K 11 := by show _ = _; kernel_rfl
theorem re12 : ReS a b c d w e row k g K 12 := by show _ = _; kernel_rfl
theorem re13 : ReS a b c d w e row k g K 13 := by show _ = _; kernel_rfl
theorem re14 : ReS a b c d w e row k g K 14 := by show _ = _; kernel_rfl
theorem re15 : ReS a b c d w e row k g K 15 := by show _ = _; kernel_rfl
theorem re16 : ReS a b c d w e row k g K 16 := by show _ = _; kernel_rfl
theorem re17 : ReS a b c d w e row k g K 17 := by show _ = _; kernel_rfl
theorem re18 : ReS a b c d w e row k g K 18 := by show _ = _; kernel_rfl
theorem re19 : ReS a b c d w e row k g K 19 := by show _ = _; kernel_rfl
theorem re20 : ReS a b c d w e row k g K 20 := by show _ = _; kernel_rfl
theorem re21 : ReS a b c d w e row k g K 21 := by show _ = _; kernel_rfl
theorem re22 : ReS a b c d w e row k g K 22 := by show _ = _; kernel_rfl
theorem re23 : ReS a b c d w e row k g K 23 := by show _ = _; kernel_rfl
theorem re24 : ReS a b c d w e row k g K 24 := by show _ = _; kernel_rfl
theorem re25 : ReS a b c d w e row k g K 25 := by show _ = _; kernel_rfl
theorem re26 : ReS a b c d w e row k g K 26 := by show _ = _; kernel_rfl
theorem re27 : ReS a b c d w e row k g K 27 := by show _ = _; kernel_rfl
theorem re28 : ReS a b c d w e row k g K 28 := by show _ = _; kernel_rfl
theorem re29 : ReS a b c d w e row k g K 29 := by show _ = _; kernel_rfl
theorem re30 : ReS a b c d w e row k g K 30 := by show _ = _; kernel_rfl
theorem re31 : ReS a b c d w e row k g K 31 := by show _ = _; kernel_rfl
theorem re32 : ReS a b c d w e row k g K 32 := by show _ = _; kernel_rfl
theorem re33 : ReS a b c d w e row k g K 33 := by show _ = _; kernel_rfl
theorem re34 : ReS a b c d w e row k g K 34 := by show _ = _; kernel_rfl
theorem re35 : ReS a b c d w e row k g K 35 := by show _ = _; kernel_rfl
theorem re36 : ReS a b c d w e row k g K 36 := by show _ = _; kernel_rfl
theorem re37 : ReS a b c d w e row k g K 37 := by show _ = _; kernel_rfl
theorem re38 : ReS a b c d w e row k g K 38 := by show _ = _; kernel_rfl
theorem re39 : ReS a b c d w e row k g K 39 := by show _ = _; kernel_rfl
theorem re40 : ReS a b c d w e row k g K 40 := by show _ = _; kernel_rfl
theorem re41 : ReS a b c d w e row k g K 41 := by show _ = _; kernel_rfl
theorem re42 : ReS a b c d w e row k g K 42 := by show _ = _; kernel_rfl
theorem re43 : ReS a b c d w e row k g K 43 := by show _ = _; kernel_rfl
theorem re44 : ReS a b c d w e row k g K 44 := by show _ = _; kernel_rfl
theorem re45 : ReS a b c d w e row k g K 45 := by show _ = _; kernel_rfl
theorem re46 : ReS a b c d w e row k g K 46 := by show _ = _; kernel_rfl
theorem re47 : ReS a b c d w e row k g K 47 := by show _ = _; kernel_rfl
theorem re48 : ReS a b c d w e row k g K 48 := by show _ = _; kernel_rfl
theorem re49 : ReS a b c d w e row k g K 49 := by show _ = _; kernel_rfl
theorem re50 : ReS a b c d w e row k g K 50 := by show _ = _; kernel_rfl
theorem re51 : ReS a b c d w e row k g K 51 := by show _ = _; kernel_rfl
theorem re52 : ReS a b c d w e row k g K 52 := by show _ = _; kernel_rfl
theorem re53 : ReS a b c d w e row k g K 53 := by show _ = _; kernel_rfl
theorem re54 : ReS a b c d w e row k g K 54 := by show _ = _; kernel_rfl
theorem re55 : ReS a b c d w e row k g K 55 := by show _ = _; kernel_rfl
theorem re56 : ReS a b c d w e row k g K 56 := by show _ = _; kernel_rfl
theorem re57 : ReS a b c d w e row k g K 57 := by show _ = _; kernel_rfl
theorem re58 : ReS a b c d w e row k g K 58 := by show _ = _; kernel_rfl
theorem re59 : ReS a b c d w e row k g K 59 := by show _ = _; kernel_rfl
theorem re60 : ReS a b c d w e row k g K 60 := by show _ = _; kernel_rfl
theorem re61 : ReS a b c d w e row k g K 61 := by show _ = _; kernel_rfl
theorem re62 : ReS a b c d w e row k g K 62 := by show _ = _; kernel_rfl
theorem re63 : ReS a b c d w e row k g K 63 := by show _ = _; kernel_rfl
theorem re64 : ReS a b c d w e row k g K 64 := by show _ = _; kernel_rfl
theorem re_n : ∀ n : Nat, 1 ≤ n → n ≤ 64 → ReS a b c d w e row k g K n
  | 0, h, _ => absurd h (by decide)
  | 1, _, _ => re1 a b c d w e row k g K
  | 2, _, _ => re2 a b c d w e row k g K
  | 3, _, _ => re3 a b c d w e row k g K
  | 4, _, _ => re4 a b c d w e row k g K
  | 5, _, _ => re5 a b c d w e row k g K
  | 6, _, _ => re6 a b c d w e row k g K
  | 7, _, _ => re7 a b c d w e row k g K
  | 8, _, _ => re8 a b c d w e row k g K
  | 9, _, _ => re9 a b c d w e row k g K
  | 10, _, _ => re10 a b c d w e row k g K
  | 11, _, _ => re11 a b c d w e row k g K
  | 12, _, _ => re12 a b c d w e row k g K
  | 13, _, _ => re13 a b c d w e row k g K
  | 14, _, _ => re14 a b c d w e row k g K
  | 15, _, _ => re15 a b c d w e row k g K
  | 16, _, _ => re16 a b c d w e row k g K
  | 17, _, _ => re17 a b c d w e row k g K
  | 18, _, _ => re18 a b c d w e row k g K
  | 19, _, _ => re19 a b c d w e row k g K
  | 20, _, _ => re20 a b c d w e row k g K
  | 21, _, _ => re21 a b c d w e row k g K
  | 22, _, _ => re22 a b c d w e row k g K
  | 23, _, _ => re23 a b c d w e row k g K
  | 24, _, _ => re24 a b c d w e row k g K
  | 25, _, _ => re25 a b c d w e row k g K
  | 26, _, _ => re26 a b c d w e row k g K
  | 27, _, _ => re27 a b c d w e row k g K
  | 28, _, _ => re28 a b c d w e row k g K
  | 29, _, _ => re29 a b c d w e row k g K
  | 30, _, _ => re30 a b c d w e row k g K
  | 31, _, _ => re31 a b c d w e row k g K
  | 32, _, _ => re32 a b c d w e row k g K
  | 33, _, _ => re33 a b c d w e row k g K
  | 34, _, _ => re34 a b c d w e row k g K
  | 35, _, _ => re35 a b c d w e row k g K
  | 36, _, _ => re36 a b c d w e row k g K
  | 37, _, _ => re37 a b c d w e row k g K
  | 38, _, _ => re38 a b c d w e row k g K
  | 39, _, _ => re39 a b c d w e row k g K
  | 40, _, _ => re40 a b c d w e row k g K
  | 41, _, _ => re41 a b c d w e row k g K
  | 42, _, _ => re42 a b c d w e row k g K
  | 43, _, _ => re43 a b c d w e row k g K
  | 44, _, _ => re44 a b c d w e row k g K
  | 45, _, _ => re45 a b c d w e row k g K
  | 46, _, _ => re46 a b c d w e row k g K
  | 47, _, _ => re47 a b c d w e row k g K
  | 48, _, _ => re48 a b c d w e row k g K
  | 49, _, _ => re49 a b c d w e row k g K
  | 50, _, _ => re50 a b c d w e row k g K
  | 51, _, _ => re51 a b c d w e row k g K
  | 52, _, _ => re52 a b c d w e row k g K
  | 53, _, _ => re53 a b c d w e row k g K
  | 54, _, _ => re54 a b c d w e row k g K
  | 55, _, _ => re55 a b c d w e row k g K
  | 56, _, _ => re56 a b c d w e row k g K
  | 57, _, _ => re57 a b c d w e row k g K
  | 58, _, _ => re58 a b c d w e row k g K
  | 59, _, _ => re59 a b c d w e row k g K
  | 60, _, _ => re60 a b c d w e row k g K
  | 61, _, _ => re61 a b c d w e row k g K
  | 62, _, _ => re62 a b c d w e row k g K
  | 63, _, _ => re63 a b c d w e row k g K
  | 64, _, _ => re64 a b c d w e row k g K
  | n + 65, _, h => absurd h (by omega)
end
end Go.Proofs.YtfkiiacbchbgdaaGreatDoor
