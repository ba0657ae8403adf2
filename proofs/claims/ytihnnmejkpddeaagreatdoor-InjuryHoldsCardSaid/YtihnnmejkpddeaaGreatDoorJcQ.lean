/-
  OWN WORK. Stage 6: absolute values of lists of up to 40 integers, carried out in place.
-/
import Derived.Test.YtihnnmejkpddeaaGreatDoorJcGI
namespace Go.Proofs.YtihnnmejkpddeaaGreatDoor
open Go Go.Am
section
variable (l : List Int) (h1 : 1 ≤ l.length) (h2 : l.length ≤ 40) (e row k : Nat) (K : Value → Option AObj → Prop)
include h1 h2
theorem ma_e : callR Tryz.prog orcJe (fun _ => syOf []) askJe 300 163 #[liP l.length k, clF 164] (canon Tryz.prog [(l.map gi, e, row)]) (fun v h => K v (h.get (nG1 + 1))) = K (.slice (some ⟨nG1 + 1, 0, none⟩) l.length l.length) (some (.cells ((l.map abP).map gi) 3 2 false)) := by
  match l, h1, h2 with
  | [_], _, _ => show _ = _; kernel_rfl
  | [_, _], _, _ => show _ = _; kernel_rfl
  | [_, _, _], _, _ => show _ = _; kernel_rfl
  | [_, _, _, _], _, _ => show _ = _; kernel_rfl
  | [_, _, _, _, _], _, _ => show _ = _; kernel_rfl
  | [_, _, _, _, _, _], _, _ => show _ = _; kernel_rfl
  | [_, _, _, _, _, _, _], _, _ => show _ = _; kernel_rfl
  | [_, _, _, _, _, _, _, _], _, _ => show _ = _; kernel_rfl
  | [_, _, _, _, _, _, _, _, _], _, _ => show _ = _; kernel_rfl
  | [_, _, _, _, _, _, _, _, _, _], _, _ => show _ = _; kernel_rfl
  | [_, _, _, _, _, _, _, _, _, _, _], _, _ => show _ = _; kernel_rfl
  | [_, _, _, _, _, _, _, _, _, _, _, _], _, _ => show _ = _; kernel_rfl
  | [_, _, _, _, _, _, _, _, _, _, _, _, _], _, _ => show _ = _; kernel_rfl
  | [_, _, _, _, _, _, _, _, _, _, _, _, _, _], _, _ => show _ = _; kernel_rfl
  | [_, _, _, _, _, _, _, _, _, _, _, _, _, _, _], _, _ => show _ = _; kernel_rfl
  | [_, _, _, _, _, _, _, _, _, _, _, _, _, _, _, _], _, _ => show _ = _; kernel_rfl
  | [_, _, _, _, _, _, _, _, _, _, _, _, _, _, _, _, _], _, _ => show _ = _; kernel_rfl
  | [_, _, _, _, _, _, _, _, _, _, _, _, _, _, _, _, _, _], _, _ => show _ = _; kernel_rfl
  | [_, _, _, _, _, _, _, _, _, _, _, _, _, _, _, _, _, _, _], _, _ => show _ = _; kernel_rfl
  | [_, _, _, _, _, _, _, _, _, _, _, _, _, _, _, _, _, _, _, _], _, _ => show _ = _; kernel_rfl
  | x1_ :: x2_ :: x3_ :: x4_ :: x5_ :: x6_ :: x7_ :: x8_ :: x9_ :: x10_ :: x11_ :: x12_ :: x13_ :: x14_ :: x15_ :: x16_ :: x17_ :: x18_ :: x19_ :: x20_ :: y :: r, _, h => match r, h with
    | [], _ => show _ = _; kernel_rfl
    | [_], _ => show _ = _; kernel_rfl
    | [_, _], _ => show _ = _; kernel_rfl
    | [_, _, _], _ => show _ = _; kernel_rfl
    | [_, _, _, _], _ => show _ = _; kernel_rfl
    | [_, _, _, _, _], _ => show _ = _; kernel_rfl
    | [_, _, _, _, _, _], _ => show _ = _; kernel_rfl
    | [_, _, _, _, _, _, _], _ => show _ = _; kernel_rfl
    | [_, _, _, _, _, _, _, _], _ => show _ = _; kernel_rfl
    | [_, _, _, _, _, _, _, _, _], _ => show _ = _; kernel_rfl
    | [_, _, _, _, _, _, _, _, _, _], _ => show _ = _; kernel_rfl
    | [_, _, _, _, _, _, _, _, _, _, _], _ => show _ = _; kernel_rfl
    | [_, _, _, _, _, _, _, _, _, _, _, _], _ => show _ = _; kernel_rfl
    | [_, _, _, _, _, _, _, _, _, _, _, _, _], _ => show _ = _; kernel_rfl
    | [_, _, _, _, _, _, _, _, _, _, _, _, _, _], _ => show _ = _; kernel_rfl
    | [_, _, _, _, _, _, _, _, _, _, _, _, _, _, _], _ => show _ = _; kernel_rfl
    | [_, _, _, _, _, _, _, _, _, _, _, _, _, _, _, _], _ => show _ = _; kernel_rfl
    | [_, _, _, _, _, _, _, _, _, _, _, _, _, _, _, _, _], _ => show _ = _; kernel_rfl
    | [_, _, _, _, _, _, _, _, _, _, _, _, _, _, _, _, _, _], _ => show _ = _; kernel_rfl
    | [_, _, _, _, _, _, _, _, _, _, _, _, _, _, _, _, _, _, _], _ => show _ = _; kernel_rfl
    | _ :: _ :: _ :: _ :: _ :: _ :: _ :: _ :: _ :: _ :: _ :: _ :: _ :: _ :: _ :: _ :: _ :: _ :: _ :: _ :: _, h => exact absurd h (by simp)
end
end Go.Proofs.YtihnnmejkpddeaaGreatDoor
