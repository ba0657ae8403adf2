/-
  OWN WORK. Tows: the run of a friction, carried out for all numbers of cells.
-/
import Derived.Test.YtfkiiacbchbgdaaGreatDoorTwBD
namespace Go.Proofs.YtfkiiacbchbgdaaGreatDoor
open Go Go.Am

/-- A slice, and what it names, whatever the number of the block. -/
noncomputable def slK (K : Nat → Nat → Option AObj → Prop) (v : Value) (h : AHeap) : Prop := match v with
  | .slice (some ⟨i, 0, none⟩) n k => K n k (h.get i)
  | _ => False
noncomputable def mxN (s x f : Int) : Int := if (s + x) - f > 0 then (s + x) - f else 0
noncomputable def rnY (f : Int) : Int → List Int → Prop → Prop
  | _, [], K => K
  | s, x :: r, K => inI64 (s + x) = true ∧ inI64 ((s + x) - f) = true ∧ rnY f (mxN s x f) r K
noncomputable def rnL (f : Int) : Int → List Int → List Int
  | s, [] => [s]
  | s, x :: r => s :: rnL f (mxN s x f) r
noncomputable def syRu : FuncId → Sy := fun f => match Nat.beq f 112 with
  | true => syOf [(9, 50), (21, 33), (23, 33), (29, 50)]
  | false => syOf []
section
variable (a b c d w f : Int) (e row k : Nat) (K : Nat → Nat → Option AObj → Prop) (g : Nat → Int)
abbrev RuS (n : Nat) : Prop := callN Tryz.prog orcUa syRu askUa 1200 53 #[towV n k a b c d w, gi f] (canon Tryz.prog [((lsN g 0 n).map gi, e, row)]) (slK K) = rnY f 0 (lsN g 0 n) (K (n + 1) (n + 1) (some (.cells ((rnL f 0 (lsN g 0 n)).map gi) 3 2 false)))
theorem ru1 : RuS a b c d w f e row k K g 1 := by show _ = _; kernel_rfl
theorem ru2 : RuS a b c d w f e row k K g 2 := by show _ = _; kernel_rfl
theorem ru3 : RuS a b c d w f e row k K g 3 := by show _ = _; kernel_rfl
theorem ru4 : RuS a b c d w f e row k K g 4 := by show _ = _; kernel_rfl
theorem ru5 : RuS a b c d w f e row k K g 5 := by show _ = _; kernel_rfl
theorem ru6 : RuS a b c d w f e row k K g 6 := by show _ = _; kernel_rfl
theorem ru7 : RuS a b c d w f e row k K g 7 := by show _ = _; kernel_rfl
theorem ru8 : RuS a b c d w f e row k K g 8 := by show _ = _; kernel_rfl
theorem ru9 : RuS a b c d w f e row k K g 9 := by show _ = _; kernel_rfl
theorem ru10 : RuS a b c d w f e row k K g 10 := by show _ = _; kernel_rfl
theorem ru11 : RuS a b c d w f e row k K g 11 := by show _ = _; kernel_rfl
theorem ru12 : RuS a b c d w f e row k K g 12 := by show _ = _; kernel_rfl
theorem ru13 : RuS a b c d w f e row k K g 13 := by show _ = _; kernel_rfl
theorem ru14 : RuS a b c d w f e row k K g 14 := by show _ = _; kernel_rfl
theorem ru15 : RuS a b c d w f e row k K g 15 := by show _ = _; kernel_rfl
theorem ru16 : RuS a b c d w f e row k K g 16 := by show _ = _; kernel_rfl
theorem ru17 : RuS a b c d w f e row k K g 17 := by show _ = _; kernel_rfl
theorem ru18 : RuS a b c d w f e row k K g 18 := by show _ = _; kernel_rfl
theorem ru19 : RuS a b c d w f e row k K g 19 := by show _ = _; kernel_rfl
theorem ru20 : RuS a b c d w f e row k K g 20 := by show _ = _; kernel_rfl
theorem ru21 : RuS a b c d w f e row k K g 21 := by show _ = _; kernel_rfl
theorem ru22 : RuS a b c d w f e row k K g 22 := by show _ = _; kernel_rfl
theorem ru23 : RuS a b c d w f e row k K g 23 := by show _ = _; kernel_rfl
theorem ru24 : RuS a b c d w f e row k K g 24 := by show _ = _; kernel_rfl
theorem ru25 : RuS a b c d w f e row k K g 25 := by show _ = _; kernel_rfl
theorem ru26 : RuS a b c d w f e row k K g 26 := by show _ = _; kernel_rfl
theorem ru27 : RuS a b c d w f e row k K g 27 := by show _ = _; kernel_rfl
theorem ru28 : RuS a b c d w f e row k K g 28 := by show _ = _; kernel_rfl
theorem ru29 : RuS a b c d w f e row k K g 29 := by show _ = _; kernel_rfl
theorem ru30 : RuS a b c d w f e row k K g 30 := by show _ = _; kernel_rfl
theorem ru31 : RuS a b c d w f e row k K g 31 := by show _ = _; kernel_rfl
theorem ru32 : RuS a b c d w f e row k K g 32 := by show _ = _; kernel_rfl
theorem ru33 : RuS a b c d w f e row k K g 33 := by show _ = _; kernel_rfl
theorem ru34 : RuS a b c d w f e row k K g 34 := by show _ = _; kernel_rfl
theorem ru35 : RuS a b c d w f e row k K g 35 := by show _ = _; kernel_rfl
theorem ru36 : RuS a b c d w f e row k K g 36 := by show _ = _; kernel_rfl
theorem ru37 : RuS a b c d w f e row k K g 37 := by show _ = _; kernel_rfl
theorem ru38 : RuS a b c d w f e row k K g 38 := by show _ = _; kernel_rfl
theorem ru39 : RuS a b c d w f e row k K g 39 := by show _ = _; kernel_rfl
theorem ru40 : RuS a b c d w f e row k K g 40 := by show _ = _; kernel_rfl
theorem ru41 : RuS a b c d w f e row k K g 41 := by show _ = _; kernel_rfl
theorem ru42 : RuS a b c d w f e row k K g 42 := by show _ = _; kernel_rfl
theorem ru43 : RuS a b c d w f e row k K g 43 := by show _ = _; kernel_rfl
theorem ru44 : RuS a b c d w f e row k K g 44 := by show _ = _; kernel_rfl
theorem ru45 : RuS a b c d w f e row k K g 45 := by show _ = _; kernel_rfl
theorem ru46 : RuS a b c d w f e row k K g 46 := by show _ = _; kernel_rfl
theorem ru47 : RuS a b c d w f e row k K g 47 := by show _ = _; kernel_rfl
theorem ru48 : RuS a b c d w f e row k K g 48 := by show _ = _; kernel_rfl
theorem ru49 : RuS a b c d w f e row k K g 49 := by show _ = _; kernel_rfl
theorem ru50 : RuS a b c d w f e row k K g 50 := by show _ = _; kernel_rfl
theorem ru51 : RuS a b c d w f e row k K g 51 := by show _ = _; kernel_rfl
theorem ru52 : RuS a b c d w f e row k K g 52 := by show _ = _; kernel_rfl
theorem ru53 : RuS a b c d w f e row k K g 53 := by show _ = _; kernel_rfl
theorem ru54 : RuS a b c d w f e row k K g 54 := by show _ = _; kernel_rfl
theorem ru55 : RuS a b c d w f e row k K g 55 := by show _ = _; kernel_rfl
theorem ru56 : RuS a b c d w f e row k K g 56 := by show _ = _; kernel_rfl
theorem ru57 : RuS a b c d w f e row k K g 57 := by show _ = _; kernel_rfl
theorem ru58 : RuS a b c d w f e row k K g 58 := by show _ = _; kernel_rfl
theorem ru59 : RuS a b c d w f e row k K g 59 := by show _ = _; kernel_rfl
theorem ru60 : RuS a b c d w f e row k K g 60 := by show _ = _; kernel_rfl
theorem ru61 : RuS a b c d w f e row k K g 61 := by show _ = _; kernel_rfl
theorem ru62 : RuS a b c d w f e row k K g 62 := by show _ = _; kernel_rfl
theorem ru63 : RuS a b c d w f e row k K g 63 := by show _ = _; kernel_rfl
theorem ru64 : RuS a b c d w f e row k K g 64 := by show _ = _; kernel_rfl
theorem ru_n : ∀ n : Nat, 1 ≤ n → n ≤ 64 → RuS a b c d w f e row k K g n
  | 0, h, _ => absurd h (by decide)
  | 1, _, _ => ru1 a b c d w f e row k K g
  | 2, _, _ => ru2 a b c d w f e row k K g
  | 3, _, _ => ru3 a b c d w f e row k K g
  | 4, _, _ => ru4 a b c d w f e row k K g
  | 5, _, _ => ru5 a b c d w f e row k K g
  | 6, _, _ => ru6 a b c d w f e row k K g
  | 7, _, _ => ru7 a b c d w f e row k K g
  | 8, _, _ => ru8 a b c d w f e row k K g
  | 9, _, _ => ru9 a b c d w f e row k K g
  | 10, _, _ => ru10 a b c d w f e row k K g
  | 11, _, _ => ru11 a b c d w f e row k K g
  | 12, _, _ => ru12 a b c d w f e row k K g
  | 13, _, _ => ru13 a b c d w f e row k K g
  | 14, _, _ => ru14 a b c d w f e row k K g
  | 15, _, _ => ru15 a b c d w f e row k K g
  | 16, _, _ => ru16 a b c d w f e row k K g
  | 17, _, _ => ru17 a b c d w f e row k K g
  | 18, _, _ => ru18 a b c d w f e row k K g
  | 19, _, _ => ru19 a b c d w f e row k K g
  | 20, _, _ => ru20 a b c d w f e row k K g
  | 21, _, _ => ru21 a b c d w f e row k K g
  | 22, _, _ => ru22 a b c d w f e row k K g
  | 23, _, _ => ru23 a b c d w f e row k K g
  | 24, _, _ => ru24 a b c d w f e row k K g
  | 25, _, _ => ru25 a b c d w f e row k K g
  | 26, _, _ => ru26 a b c d w f e row k K g
  | 27, _, _ => ru27 a b c d w f e row k K g
  | 28, _, _ => ru28 a b c d w f e row k K g
  | 29, _, _ => ru29 a b c d w f e row k K g
  | 30, _, _ => ru30 a b c d w f e row k K g
  | 31, _, _ => ru31 a b c d w f e row k K g
  | 32, _, _ => ru32 a b c d w f e row k K g
  | 33, _, _ => ru33 a b c d w f e row k K g
  | 34, _, _ => ru34 a b c d w f e row k K g
  | 35, _, _ => ru35 a b c d w f e row k K g
  | 36, _, _ => ru36 a b c d w f e row k K g
  | 37, _, _ => ru37 a b c d w f e row k K g
  | 38, _, _ => ru38 a b c d w f e row k K g
  | 39, _, _ => ru39 a b c d w f e row k K g
  | 40, _, _ => ru40 a b c d w f e row k K g
  | 41, _, _ => ru41 a b c d w f e row k K g
  | 42, _, _ => ru42 a b c d w f e row k K g
  | 43, _, _ => ru43 a b c d w f e row k K g
  | 44, _, _ => ru44 a b c d w f e row k K g
  | 45, _, _ => ru45 a b c d w f e row k K g
  | 46, _, _ => ru46 a b c d w f e row k K g
  | 47, _, _ => ru47 a b c d w f e row k K g
  | 48, _, _ => ru48 a b c d w f e row k K g
  | 49, _, _ => ru49 a b c d w f e row k K g
  | 50, _, _ => ru50 a b c d w f e row k K g
  | 51, _, _ => ru51 a b c d w f e row k K g
  | 52, _, _ => ru52 a b c d w f e row k K g
  | 53, _, _ => ru53 a b c d w f e row k K g
  | 54, _, _ => ru54 a b c d w f e row k K g
  | 55, _, _ => ru55 a b c d w f e row k K g
  | 56, _, _ => ru56 a b c d w f e row k K g
  | 57, _, _ => ru57 a b c d w f e row k K g
  | 58, _, _ => ru58 a b c d w f e row k K g
  | 59, _, _ => ru59 a b c d w f e row k K g
  | 60, _, _ => ru60 a b c d w f e row k K g
  | 61, _, _ => ru61 a b c d w f e row k K g
  | 62, _, _ => ru62 a b c d w f e row k K g
  | 63, _, _ => ru63 a b c d w f e row k K g
  | 64, _, _ => ru64 a b c d w f e row k K g
  | n + 65, _, h => absurd h (by omega)
end
end Go.Proofs.YtfkiiacbchbgdaaGreatDoor
