/-
  OWN WORK. Stage 6: integers of traces of up to 40 values, carried out in place.
-/
import Derived.Test.YtihnnmejkpddeaaGreatDoorJdAC
/-! (OWN WORK. Stage 6: absolute values of traces of up to 40 values, carried out in place.) -/
namespace Go.Proofs.YtihnnmejkpddeaaGreatDoor
open Go Go.Am
noncomputable abbrev cLa : Value := clF 134
noncomputable abbrev cMa : Value := clF 135
noncomputable def laF (q : V4) : Int := laX q.1 q.2.1 q.2.2.1 q.2.2.2
noncomputable def maF (q : V4) : Int := mabX q.1 q.2.1
section
variable (l : List V4) (h1 : 1 ≤ l.length) (h2 : l.length ≤ 40) (e row k : Nat) (K : Value → Option AObj → Prop)
include h1 h2
end
end Go.Proofs.YtihnnmejkpddeaaGreatDoor
/-! (OWN WORK. Stage 6: least integers of traces of up to 40 values, carried out in place.) -/
namespace Go.Proofs.YtihnnmejkpddeaaGreatDoor
open Go Go.Am
noncomputable abbrev cLs : Value := clF 120
noncomputable abbrev cHi : Value := clF 121
noncomputable def lsF (q : V4) : Int := bif q.2.2.1 then -2097152 else q.1
noncomputable def hiF (q : V4) : Int := q.2.1
noncomputable def loF (q : V4) : Int := q.1
section
variable (l : List V4) (h1 : 1 ≤ l.length) (h2 : l.length ≤ 40) (e row k : Nat) (K : Value → Option AObj → Prop)
include h1 h2
theorem mv_ls : callR Tryz.prog orcKb (fun _ => syOf []) (askKb 0) 300 119 #[liP l.length k, cLs] (canon Tryz.prog [(cellsV l, e, row)]) (fun v h => K v (h.get (nG1 + 1))) = K (.slice (some ⟨nG1 + 1, 0, none⟩) l.length l.length) (some (.cells ((l.map lsF).map gi) 3 2 false)) := by
 match l, h1, h2 with
 | [_], _, _ => show _ = _; kernel_rfl
 | [_, _], _, _ => show _ = _; kernel_rfl
 | [_, _, _], _, _ => show _ = _; kernel_rfl
 | [_, _, _, _], _, _ => show _ = _; kernel_rfl
 | [_, _, _, _, _], _, _ => show _ = _; kernel_rfl
 | [_, _, _, _, _, _], _, _ => show _ = _; kernel_rfl
 | [_, _, _, _, _, _, _], _, _ => show _ = _; kernel_rfl
 | [_, _, _, _, _, _, _, _], _, _ => show _ = _; kernel_rfl
 | [_, _, _, _, _, _, _, _, _], _, _ => show _ = _; kernel_rfl
 | [_, _, _, _, _, _, _, _, _, _], _, _ => show _ = _; kernel_rfl
 | [_, _, _, _, _, _, _, _, _, _, _], _, _ => show _ = _; kernel_rfl
 | [_, _, _, _, _, _, _, _, _, _, _, _], _, _ => show _ = _; kernel_rfl
 | [_, _, _, _, _, _, _, _, _, _, _, _, _], _, _ => show _ = _; kernel_rfl
 | [_, _, _, _, _, _, _, _, _, _, _, _, _, _], _, _ => show _ = _; kernel_rfl
 | [_, _, _, _, _, _, _, _, _, _, _, _, _, _, _], _, _ => show _ = _; kernel_rfl
 | [_, _, _, _, _, _, _, _, _, _, _, _, _, _, _, _], _, _ => show _ = _; kernel_rfl
 | [_, _, _, _, _, _, _, _, _, _, _, _, _, _, _, _, _], _, _ => show _ = _; kernel_rfl
 | [_, _, _, _, _, _, _, _, _, _, _, _, _, _, _, _, _, _], _, _ => show _ = _; kernel_rfl
 | [_, _, _, _, _, _, _, _, _, _, _, _, _, _, _, _, _, _, _], _, _ => show _ = _; kernel_rfl
 | [_, _, _, _, _, _, _, _, _, _, _, _, _, _, _, _, _, _, _, _], _, _ => show _ = _; kernel_rfl
 | x1_ :: x2_ :: x3_ :: x4_ :: x5_ :: x6_ :: x7_ :: x8_ :: x9_ :: x10_ :: x11_ :: x12_ :: x13_ :: x14_ :: x15_ :: x16_ :: x17_ :: x18_ :: x19_ :: x20_ :: y :: r, _, h => match r, h with
  | [], _ => show _ = _; kernel_rfl
  | [_], _ => show _ = _; kernel_rfl
  | [_, _], _ => show _ = _; kernel_rfl
  | [_, _, _], _ => show _ = _; kernel_rfl
  | [_, _, _, _], _ => show _ = _; kernel_rfl
  | [_, _, _, _, _], _ => show _ = _; kernel_rfl
  | [_, _, _, _, _, _], _ => show _ = _; kernel_rfl
  | [_, _, _, _, _, _, _], _ => show _ = _; kernel_rfl
  | [_, _, _, _, _, _, _, _], _ => show _ = _; kernel_rfl
  | [_, _, _, _, _, _, _, _, _], _ => show _ = _; kernel_rfl
  | [_, _, _, _, _, _, _, _, _, _], _ => show _ = _; kernel_rfl
  | [_, _, _, _, _, _, _, _, _, _, _], _ => show _ = _; kernel_rfl
  | [_, _, _, _, _, _, _, _, _, _, _, _], _ => show _ = _; kernel_rfl
  | [_, _, _, _, _, _, _, _, _, _, _, _, _], _ => show _ = _; kernel_rfl
  | [_, _, _, _, _, _, _, _, _, _, _, _, _, _], _ => show _ = _; kernel_rfl
  | [_, _, _, _, _, _, _, _, _, _, _, _, _, _, _], _ => show _ = _; kernel_rfl
  | [_, _, _, _, _, _, _, _, _, _, _, _, _, _, _, _], _ => show _ = _; kernel_rfl
  | [_, _, _, _, _, _, _, _, _, _, _, _, _, _, _, _, _], _ => show _ = _; kernel_rfl
  | [_, _, _, _, _, _, _, _, _, _, _, _, _, _, _, _, _, _], _ => show _ = _; kernel_rfl
  | [_, _, _, _, _, _, _, _, _, _, _, _, _, _, _, _, _, _, _], _ => show _ = _; kernel_rfl
  | _ :: _ :: _ :: _ :: _ :: _ :: _ :: _ :: _ :: _ :: _ :: _ :: _ :: _ :: _ :: _ :: _ :: _ :: _ :: _ :: _, h => exact absurd h (by simp)
theorem mv_hi : callR Tryz.prog orcKb (fun _ => syOf []) (askKb 0) 300 119 #[liP l.length k, cHi] (canon Tryz.prog [(cellsV l, e, row)]) (fun v h => K v (h.get (nG1 + 1))) = K (.slice (some ⟨nG1 + 1, 0, none⟩) l.length l.length) (some (.cells ((l.map hiF).map gi) 3 2 false)) := by
 match l, h1, h2 with
 | [_], _, _ => show _ = _; kernel_rfl
 | [_, _], _, _ => show _ = _; kernel_rfl
 | [_, _, _], _, _ => show _ = _; kernel_rfl
 | [_, _, _, _], _, _ => show _ = _; kernel_rfl
 | [_, _, _, _, _], _, _ => show _ = _; kernel_rfl
 | [_, _, _, _, _, _], _, _ => show _ = _; kernel_rfl
 | [_, _, _, _, _, _, _], _, _ => show _ = _; kernel_rfl
 | [_, _, _, _, _, _, _, _], _, _ => show _ = _; kernel_rfl
 | [_, _, _, _, _, _, _, _, _], _, _ => show _ = _; kernel_rfl
 | [_, _, _, _, _, _, _, _, _, _], _, _ => show _ = _; kernel_rfl
 | [_, _, _, _, _, _, _, _, _, _, _], _, _ => show _ = _; kernel_rfl
 | [_, _, _, _, _, _, _, _, _, _, _, _], _, _ => show _ = _; kernel_rfl
 | [_, _, _, _, _, _, _, _, _, _, _, _, _], _, _ => show _ = _; kernel_rfl
 | [_, _, _, _, _, _, _, _, _, _, _, _, _, _], _, _ => show _ = _; kernel_rfl
 | [_, _, _, _, _, _, _, _, _, _, _, _, _, _, _], _, _ => show _ = _; kernel_rfl
 | [_, _, _, _, _, _, _, _, _, _, _, _, _, _, _, _], _, _ => show _ = _; kernel_rfl
 | [_, _, _, _, _, _, _, _, _, _, _, _, _, _, _, _, _], _, _ => show _ = _; kernel_rfl
 | [_, _, _, _, _, _, _, _, _, _, _, _, _, _, _, _, _, _], _, _ => show _ = _; kernel_rfl
 | [_, _, _, _, _, _, _, _, _, _, _, _, _, _, _, _, _, _, _], _, _ => show _ = _; kernel_rfl
 | [_, _, _, _, _, _, _, _, _, _, _, _, _, _, _, _, _, _, _, _], _, _ => show _ = _; kernel_rfl
 | x1_ :: x2_ :: x3_ :: x4_ :: x5_ :: x6_ :: x7_ :: x8_ :: x9_ :: x10_ :: x11_ :: x12_ :: x13_ :: x14_ :: x15_ :: x16_ :: x17_ :: x18_ :: x19_ :: x20_ :: y :: r, _, h => match r, h with
  | [], _ => show _ = _; kernel_rfl
  | [_], _ => show _ = _; kernel_rfl
  | [_, _], _ => show _ = _; kernel_rfl
  | [_, _, _], _ => show _ = _; kernel_rfl
  | [_, _, _, _], _ => show _ = _; kernel_rfl
  | [_, _, _, _, _], _ => show _ = _; kernel_rfl
  | [_, _, _, _, _, _], _ => show _ = _; kernel_rfl
  | [_, _, _, _, _, _, _], _ => show _ = _; kernel_rfl
  | [_, _, _, _, _, _, _, _], _ => show _ = _; kernel_rfl
  | [_, _, _, _, _, _, _, _, _], _ => show _ = _; kernel_rfl
  | [_, _, _, _, _, _, _, _, _, _], _ => show _ = _; kernel_rfl
  | [_, _, _, _, _, _, _, _, _, _, _], _ => show _ = _; kernel_rfl
  | [_, _, _, _, _, _, _, _, _, _, _, _], _ => show _ = _; kernel_rfl
  | [_, _, _, _, _, _, _, _, _, _, _, _, _], _ => show _ = _; kernel_rfl
  | [_, _, _, _, _, _, _, _, _, _, _, _, _, _], _ => show _ = _; kernel_rfl
  | [_, _, _, _, _, _, _, _, _, _, _, _, _, _, _], _ => show _ = _; kernel_rfl
  | [_, _, _, _, _, _, _, _, _, _, _, _, _, _, _, _], _ => show _ = _; kernel_rfl
  | [_, _, _, _, _, _, _, _, _, _, _, _, _, _, _, _, _], _ => show _ = _; kernel_rfl
  | [_, _, _, _, _, _, _, _, _, _, _, _, _, _, _, _, _, _], _ => show _ = _; kernel_rfl
  | [_, _, _, _, _, _, _, _, _, _, _, _, _, _, _, _, _, _, _], _ => show _ = _; kernel_rfl
  | _ :: _ :: _ :: _ :: _ :: _ :: _ :: _ :: _ :: _ :: _ :: _ :: _ :: _ :: _ :: _ :: _ :: _ :: _ :: _ :: _, h => exact absurd h (by simp)
end
end Go.Proofs.YtihnnmejkpddeaaGreatDoor
/-! (OWN WORK. Stage 6: the integers of traces of up to 40 values by the reference, carried out in place.) -/
namespace Go.Proofs.YtihnnmejkpddeaaGreatDoor
open Go Go.Am
section
variable (l : List V4) (h1 : 1 ≤ l.length) (h2 : l.length ≤ 40) (e row k : Nat) (K : Value → Option AObj → Prop)
include h1 h2
theorem rf_hi : callR Tryz.prog orcKb (fun _ => syOf []) (askKb 0) 300 125 #[liP l.length k] (canon Tryz.prog [(cellsV l, e, row)]) (fun v h => K v (h.get (nG1 + 2 * l.length))) = K (.slice (some ⟨nG1 + 2 * l.length, 0, none⟩) l.length l.length) (some (.cells ((l.map hiF).map gi) 3 2 false)) := by
 match l, h1, h2 with
 | [_], _, _ => show _ = _; kernel_rfl
 | [_, _], _, _ => show _ = _; kernel_rfl
 | [_, _, _], _, _ => show _ = _; kernel_rfl
 | [_, _, _, _], _, _ => show _ = _; kernel_rfl
 | [_, _, _, _, _], _, _ => show _ = _; kernel_rfl
 | [_, _, _, _, _, _], _, _ => show _ = _; kernel_rfl
 | [_, _, _, _, _, _, _], _, _ => show _ = _; kernel_rfl
 | [_, _, _, _, _, _, _, _], _, _ => show _ = _; kernel_rfl
 | [_, _, _, _, _, _, _, _, _], _, _ => show _ = _; kernel_rfl
 | [_, _, _, _, _, _, _, _, _, _], _, _ => show _ = _; kernel_rfl
 | [_, _, _, _, _, _, _, _, _, _, _], _, _ => show _ = _; kernel_rfl
 | [_, _, _, _, _, _, _, _, _, _, _, _], _, _ => show _ = _; kernel_rfl
 | [_, _, _, _, _, _, _, _, _, _, _, _, _], _, _ => show _ = _; kernel_rfl
 | [_, _, _, _, _, _, _, _, _, _, _, _, _, _], _, _ => show _ = _; kernel_rfl
 | [_, _, _, _, _, _, _, _, _, _, _, _, _, _, _], _, _ => show _ = _; kernel_rfl
 | [_, _, _, _, _, _, _, _, _, _, _, _, _, _, _, _], _, _ => show _ = _; kernel_rfl
 | [_, _, _, _, _, _, _, _, _, _, _, _, _, _, _, _, _], _, _ => show _ = _; kernel_rfl
 | [_, _, _, _, _, _, _, _, _, _, _, _, _, _, _, _, _, _], _, _ => show _ = _; kernel_rfl
 | [_, _, _, _, _, _, _, _, _, _, _, _, _, _, _, _, _, _, _], _, _ => show _ = _; kernel_rfl
 | [_, _, _, _, _, _, _, _, _, _, _, _, _, _, _, _, _, _, _, _], _, _ => show _ = _; kernel_rfl
 | x1_ :: x2_ :: x3_ :: x4_ :: x5_ :: x6_ :: x7_ :: x8_ :: x9_ :: x10_ :: x11_ :: x12_ :: x13_ :: x14_ :: x15_ :: x16_ :: x17_ :: x18_ :: x19_ :: x20_ :: y :: r, _, h => match r, h with
  | [], _ => show _ = _; kernel_rfl
  | [_], _ => show _ = _; kernel_rfl
  | [_, _], _ => show _ = _; kernel_rfl
  | [_, _, _], _ => show _ = _; kernel_rfl
  | [_, _, _, _], _ => show _ = _; kernel_rfl
  | [_, _, _, _, _], _ => show _ = _; kernel_rfl
  | [_, _, _, _, _, _], _ => show _ = _; kernel_rfl
  | [_, _, _, _, _, _, _], _ => show _ = _; kernel_rfl
  | [_, _, _, _, _, _, _, _], _ => show _ = _; kernel_rfl
  | [_, _, _, _, _, _, _, _, _], _ => show _ = _; kernel_rfl
  | [_, _, _, _, _, _, _, _, _, _], _ => show _ = _; kernel_rfl
  | [_, _, _, _, _, _, _, _, _, _, _], _ => show _ = _; kernel_rfl
  | [_, _, _, _, _, _, _, _, _, _, _, _], _ => show _ = _; kernel_rfl
  | [_, _, _, _, _, _, _, _, _, _, _, _, _], _ => show _ = _; kernel_rfl
  | [_, _, _, _, _, _, _, _, _, _, _, _, _, _], _ => show _ = _; kernel_rfl
  | [_, _, _, _, _, _, _, _, _, _, _, _, _, _, _], _ => show _ = _; kernel_rfl
  | [_, _, _, _, _, _, _, _, _, _, _, _, _, _, _, _], _ => show _ = _; kernel_rfl
  | [_, _, _, _, _, _, _, _, _, _, _, _, _, _, _, _, _], _ => show _ = _; kernel_rfl
  | [_, _, _, _, _, _, _, _, _, _, _, _, _, _, _, _, _, _], _ => show _ = _; kernel_rfl
  | [_, _, _, _, _, _, _, _, _, _, _, _, _, _, _, _, _, _, _], _ => show _ = _; kernel_rfl
  | _ :: _ :: _ :: _ :: _ :: _ :: _ :: _ :: _ :: _ :: _ :: _ :: _ :: _ :: _ :: _ :: _ :: _ :: _ :: _ :: _, h => exact absurd h (by simp)
theorem rf_lo : callR Tryz.prog orcKb (fun _ => syOf []) (askKb 0) 300 126 #[liP l.length k] (canon Tryz.prog [(cellsV l, e, row)]) (fun v h => K v (h.get (nG1 + 2 * l.length))) = K (.slice (some ⟨nG1 + 2 * l.length, 0, none⟩) l.length l.length) (some (.cells ((l.map loF).map gi) 3 2 false)) := by
 match l, h1, h2 with
 | [_], _, _ => show _ = _; kernel_rfl
 | [_, _], _, _ => show _ = _; kernel_rfl
 | [_, _, _], _, _ => show _ = _; kernel_rfl
 | [_, _, _, _], _, _ => show _ = _; kernel_rfl
 | [_, _, _, _, _], _, _ => show _ = _; kernel_rfl
 | [_, _, _, _, _, _], _, _ => show _ = _; kernel_rfl
 | [_, _, _, _, _, _, _], _, _ => show _ = _; kernel_rfl
 | [_, _, _, _, _, _, _, _], _, _ => show _ = _; kernel_rfl
 | [_, _, _, _, _, _, _, _, _], _, _ => show _ = _; kernel_rfl
 | [_, _, _, _, _, _, _, _, _, _], _, _ => show _ = _; kernel_rfl
 | [_, _, _, _, _, _, _, _, _, _, _], _, _ => show _ = _; kernel_rfl
 | [_, _, _, _, _, _, _, _, _, _, _, _], _, _ => show _ = _; kernel_rfl
 | [_, _, _, _, _, _, _, _, _, _, _, _, _], _, _ => show _ = _; kernel_rfl
 | [_, _, _, _, _, _, _, _, _, _, _, _, _, _], _, _ => show _ = _; kernel_rfl
 | [_, _, _, _, _, _, _, _, _, _, _, _, _, _, _], _, _ => show _ = _; kernel_rfl
 | [_, _, _, _, _, _, _, _, _, _, _, _, _, _, _, _], _, _ => show _ = _; kernel_rfl
 | [_, _, _, _, _, _, _, _, _, _, _, _, _, _, _, _, _], _, _ => show _ = _; kernel_rfl
 | [_, _, _, _, _, _, _, _, _, _, _, _, _, _, _, _, _, _], _, _ => show _ = _; kernel_rfl
 | [_, _, _, _, _, _, _, _, _, _, _, _, _, _, _, _, _, _, _], _, _ => show _ = _; kernel_rfl
 | [_, _, _, _, _, _, _, _, _, _, _, _, _, _, _, _, _, _, _, _], _, _ => show _ = _; kernel_rfl
 | x1_ :: x2_ :: x3_ :: x4_ :: x5_ :: x6_ :: x7_ :: x8_ :: x9_ :: x10_ :: x11_ :: x12_ :: x13_ :: x14_ :: x15_ :: x16_ :: x17_ :: x18_ :: x19_ :: x20_ :: y :: r, _, h => match r, h with
  | [], _ => show _ = _; kernel_rfl
  | [_], _ => show _ = _; kernel_rfl
  | [_, _], _ => show _ = _; kernel_rfl
  | [_, _, _], _ => show _ = _; kernel_rfl
  | [_, _, _, _], _ => show _ = _; kernel_rfl
  | [_, _, _, _, _], _ => show _ = _; kernel_rfl
  | [_, _, _, _, _, _], _ => show _ = _; kernel_rfl
  | [_, _, _, _, _, _, _], _ => show _ = _; kernel_rfl
  | [_, _, _, _, _, _, _, _], _ => show _ = _; kernel_rfl
  | [_, _, _, _, _, _, _, _, _], _ => show _ = _; kernel_rfl
  | [_, _, _, _, _, _, _, _, _, _], _ => show _ = _; kernel_rfl
  | [_, _, _, _, _, _, _, _, _, _, _], _ => show _ = _; kernel_rfl
  | [_, _, _, _, _, _, _, _, _, _, _, _], _ => show _ = _; kernel_rfl
  | [_, _, _, _, _, _, _, _, _, _, _, _, _], _ => show _ = _; kernel_rfl
  | [_, _, _, _, _, _, _, _, _, _, _, _, _, _], _ => show _ = _; kernel_rfl
  | [_, _, _, _, _, _, _, _, _, _, _, _, _, _, _], _ => show _ = _; kernel_rfl
  | [_, _, _, _, _, _, _, _, _, _, _, _, _, _, _, _], _ => show _ = _; kernel_rfl
  | [_, _, _, _, _, _, _, _, _, _, _, _, _, _, _, _, _], _ => show _ = _; kernel_rfl
  | [_, _, _, _, _, _, _, _, _, _, _, _, _, _, _, _, _, _], _ => show _ = _; kernel_rfl
  | [_, _, _, _, _, _, _, _, _, _, _, _, _, _, _, _, _, _, _], _ => show _ = _; kernel_rfl
  | _ :: _ :: _ :: _ :: _ :: _ :: _ :: _ :: _ :: _ :: _ :: _ :: _ :: _ :: _ :: _ :: _ :: _ :: _ :: _ :: _, h => exact absurd h (by simp)
end
end Go.Proofs.YtihnnmejkpddeaaGreatDoor
