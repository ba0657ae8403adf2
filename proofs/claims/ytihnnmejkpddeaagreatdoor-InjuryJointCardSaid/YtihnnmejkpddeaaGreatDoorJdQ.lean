/-
  OWN WORK. Stage 6: absolute values of traces of up to 40 values, carried out in place.
-/
import Derived.Test.YtihnnmejkpddeaaGreatDoorJdAC
namespace Go.Proofs.YtihnnmejkpddeaaGreatDoor
open Go Go.Am

noncomputable abbrev cLa : Value := clF 134
noncomputable abbrev cMa : Value := clF 135
noncomputable def laF (q : V4) : Int := laX q.1 q.2.1 q.2.2.1 q.2.2.2
noncomputable def maF (q : V4) : Int := mabX q.1 q.2.1
section
variable (l : List V4) (h1 : 1 ≤ l.length) (h2 : l.length ≤ 40) (e row k : Nat) (K : Value → Option AObj → Prop)
include h1 h2
theorem mv_la : callR Tryz.prog orcKb (fun _ => syOf []) (askKb 0) 300 119 #[liP l.length k, cLa] (canon Tryz.prog [(cellsV l, e, row)]) (fun v h => K v (h.get (nG1 + 1))) = K (.slice (some ⟨nG1 + 1, 0, none⟩) l.length l.length) (some (.cells ((l.map laF).map gi) 3 2 false)) := by
  match l, h1, h2 with
  | [_], _, _ => show _ = _; kernel_rfl
  | [_, _], _, _ => show _ = _; kernel_rfl
  | [_, _, _], _, _ => show _ = _; kernel_rfl
  | [_, _, _, _], _, _ => show _ = _; kernel_rfl
  | [_, _, _, _, _], _, _ => show _ = _; kernel_rfl
  | [_, _, _, _, _, _], _, _ => show _ = _; kernel_rfl
  | [_, _, _, _, _, _, _], _, _ => show _ = _; kernel_rfl
  | [_, _, _, _, _, _, _, _], _, _ => show _ = _; kernel_rfl
  | [_, _, _, _, _, _, _, _, _], _, _ => show _ = _; kernel_rfl
  | [_, _, _, _, _, _, _, _, _, _], _, _ => show _ = _; kernel_rfl
  | [_, _, _, _, _, _, _, _, _, _, _], _, _ => show _ = _; kernel_rfl
  | [_, _, _, _, _, _, _, _, _, _, _, _], _, _ => show _ = _; kernel_rfl
  | [_, _, _, _, _, _, _, _, _, _, _, _, _], _, _ => show _ = _; kernel_rfl
  | [_, _, _, _, _, _, _, _, _, _, _, _, _, _], _, _ => show _ = _; kernel_rfl
  | [_, _, _, _, _, _, _, _, _, _, _, _, _, _, _], _, _ => show _ = _; kernel_rfl
  | [_, _, _, _, _, _, _, _, _, _, _, _, _, _, _, _], _, _ => show _ = _; kernel_rfl
  | [_, _, _, _, _, _, _, _, _, _, _, _, _, _, _, _, _], _, _ => show _ = _; kernel_rfl
  | [_, _, _, _, _, _, _, _, _, _, _, _, _, _, _, _, _, _], _, _ => show _ = _; kernel_rfl
  | [_, _, _, _, _, _, _, _, _, _, _, _, _, _, _, _, _, _, _], _, _ => show _ = _; kernel_rfl
  | [_, _, _, _, _, _, _, _, _, _, _, _, _, _, _, _, _, _, _, _], _, _ => show _ = _; kernel_rfl
  | x1_ :: x2_ :: x3_ :: x4_ :: x5_ :: x6_ :: x7_ :: x8_ :: x9_ :: x10_ :: x11_ :: x12_ :: x13_ :: x14_ :: x15_ :: x16_ :: x17_ :: x18_ :: x19_ :: x20_ :: y :: r, _, h => match r, h with
    | [], _ => show _ = _; kernel_rfl
    | [_], _ => show _ = _; kernel_rfl
    | [_, _], _ => show _ = _; kernel_rfl
    | [_, _, _], _ => show _ = _; kernel_rfl
    | [_, _, _, _], _ => show _ = _; kernel_rfl
    | [_, _, _, _, _], _ => show _ = _; kernel_rfl
    | [_, _, _, _, _, _], _ => show _ = _; kernel_rfl
    | [_, _, _, _, _, _, _], _ => show _ = _; kernel_rfl
    | [_, _, _, _, _, _, _, _], _ => show _ = _; kernel_rfl
    | [_, _, _, _, _, _, _, _, _], _ => show _ = _; kernel_rfl
    | [_, _, _, _, _, _, _, _, _, _], _ => show _ = _; kernel_rfl
    | [_, _, _, _, _, _, _, _, _, _, _], _ => show _ = _; kernel_rfl
    | [_, _, _, _, _, _, _, _, _, _, _, _], _ => show _ = _; kernel_rfl
    | [_, _, _, _, _, _, _, _, _, _, _, _, _], _ => show _ = _; kernel_rfl
    | [_, _, _, _, _, _, _, _, _, _, _, _, _, _], _ => show _ = _; kernel_rfl
    | [_, _, _, _, _, _, _, _, _, _, _, _, _, _, _], _ => show _ = _; kernel_rfl
    | [_, _, _, _, _, _, _, _, _, _, _, _, _, _, _, _], _ => show _ = _; kernel_rfl
    | [_, _, _, _, _, _, _, _, _, _, _, _, _, _, _, _, _], _ => show _ = _; kernel_rfl
    | [_, _, _, _, _, _, _, _, _, _, _, _, _, _, _, _, _, _], _ => show _ = _; kernel_rfl
    | [_, _, _, _, _, _, _, _, _, _, _, _, _, _, _, _, _, _, _], _ => show _ = _; kernel_rfl
    | _ :: _ :: _ :: _ :: _ :: _ :: _ :: _ :: _ :: _ :: _ :: _ :: _ :: _ :: _ :: _ :: _ :: _ :: _ :: _ :: _, h => exact absurd h (by simp)
theorem mv_ma : callR Tryz.prog orcKb (fun _ => syOf []) (askKb 0) 300 119 #[liP l.length k, cMa] (canon Tryz.prog [(cellsV l, e, row)]) (fun v h => K v (h.get (nG1 + 1))) = K (.slice (some ⟨nG1 + 1, 0, none⟩) l.length l.length) (some (.cells ((l.map maF).map gi) 3 2 false)) := by
  match l, h1, h2 with
  | [_], _, _ => show _ = _; kernel_rfl
  | [_, _], _, _ => show _ = _; kernel_rfl
  | [_, _, _], _, _ => show _ = _; kernel_rfl
  | [_, _, _, _], _, _ => show _ = _; kernel_rfl
  | [_, _, _, _, _], _, _ => show _ = _; kernel_rfl
  | [_, _, _, _, _, _], _, _ => show _ = _; kernel_rfl
  | [_, _, _, _, _, _, _], _, _ => show _ = _; kernel_rfl
  | [_, _, _, _, _, _, _, _], _, _ => show _ = _; kernel_rfl
  | [_, _, _, _, _, _, _, _, _], _, _ => show _ = _; kernel_rfl
  | [_, _, _, _, _, _, _, _, _, _], _, _ => show _ = _; kernel_rfl
  | [_, _, _, _, _, _, _, _, _, _, _], _, _ => show _ = _; kernel_rfl
  | [_, _, _, _, _, _, _, _, _, _, _, _], _, _ => show _ = _; kernel_rfl
  | [_, _, _, _, _, _, _, _, _, _, _, _, _], _, _ => show _ = _; kernel_rfl
  | [_, _, _, _, _, _, _, _, _, _, _, _, _, _], _, _ => show _ = _; kernel_rfl
  | [_, _, _, _, _, _, _, _, _, _, _, _, _, _, _], _, _ => show _ = _; kernel_rfl
  | [_, _, _, _, _, _, _, _, _, _, _, _, _, _, _, _], _, _ => show _ = _; kernel_rfl
  | [_, _, _, _, _, _, _, _, _, _, _, _, _, _, _, _, _], _, _ => show _ = _; kernel_rfl
  | [_, _, _, _, _, _, _, _, _, _, _, _, _, _, _, _, _, _], _, _ => show _ = _; kernel_rfl
  | [_, _, _, _, _, _, _, _, _, _, _, _, _, _, _, _, _, _, _], _, _ => show _ = _; kernel_rfl
  | [_, _, _, _, _, _, _, _, _, _, _, _, _, _, _, _, _, _, _, _], _, _ => show _ = _; kernel_rfl
  | x1_ :: x2_ :: x3_ :: x4_ :: x5_ :: x6_ :: x7_ :: x8_ :: x9_ :: x10_ :: x11_ :: x12_ :: x13_ :: x14_ :: x15_ :: x16_ :: x17_ :: x18_ :: x19_ :: x20_ :: y :: r, _, h => match r, h with
    | [], _ => show _ = _; kernel_rfl
    | [_], _ => show _ = _; kernel_rfl
    | [_, _], _ => show _ = _; kernel_rfl
    | [_, _, _], _ => show _ = _; kernel_rfl
    | [_, _, _, _], _ => show _ = _; kernel_rfl
    | [_, _, _, _, _], _ => show _ = _; kernel_rfl
    | [_, _, _, _, _, _], _ => show _ = _; kernel_rfl
    | [_, _, _, _, _, _, _], _ => show _ = _; kernel_rfl
    | [_, _, _, _, _, _, _, _], _ => show _ = _; kernel_rfl
    | [_, _, _, _, _, _, _, _, _], _ => show _ = _; kernel_rfl
    | [_, _, _, _, _, _, _, _, _, _], _ => show _ = _; kernel_rfl
    | [_, _, _, _, _, _, _, _, _, _, _], _ => show _ = _; kernel_rfl
    | [_, _, _, _, _, _, _, _, _, _, _, _], _ => show _ = _; kernel_rfl
    | [_, _, _, _, _, _, _, _, _, _, _, _, _], _ => show _ = _; kernel_rfl
    | [_, _, _, _, _, _, _, _, _, _, _, _, _, _], _ => show _ = _; kernel_rfl
    | [_, _, _, _, _, _, _, _, _, _, _, _, _, _, _], _ => show _ = _; kernel_rfl
    | [_, _, _, _, _, _, _, _, _, _, _, _, _, _, _, _], _ => show _ = _; kernel_rfl
    | [_, _, _, _, _, _, _, _, _, _, _, _, _, _, _, _, _], _ => show _ = _; kernel_rfl
    | [_, _, _, _, _, _, _, _, _, _, _, _, _, _, _, _, _, _], _ => show _ = _; kernel_rfl
    | [_, _, _, _, _, _, _, _, _, _, _, _, _, _, _, _, _, _, _], _ => show _ = _; kernel_rfl
    | _ :: _ :: _ :: _ :: _ :: _ :: _ :: _ :: _ :: _ :: _ :: _ :: _ :: _ :: _ :: _ :: _ :: _ :: _ :: _ :: _, h => exact absurd h (by simp)
end
end Go.Proofs.YtihnnmejkpddeaaGreatDoor
