/-
  OWN WORK. Stage 8: what of a pulse is beyond a corridor, for up to twenty ticks, carried out in place.
-/
import Derived.Test.YtkggjnjiggekeaaGreatDoorPuH
import Derived.Test.YtkggjnjiggekeaaGreatDoorAmV
namespace Go.Proofs.YtkggjnjiggekeaaGreatDoor
open Go Go.Am

abbrev T3 := Int × Int × Int
noncomputable def zc (T : List T3) : List P2 := T.map fun x => (x.1, x.2.1)
noncomputable def zp (T : List T3) : List Int := T.map fun x => x.2.2
noncomputable def mx0 (v : Int) : Int := if v > 0 then v else 0
noncomputable def beyP (x : T3) : P2 := (mx0 (x.1 - x.2.2), mx0 (x.2.2 - x.2.1))
noncomputable def mxP (x : P2) : Int := if x.2 > x.1 then x.2 else x.1
noncomputable def syBy : FuncId → Sy := fun f => match Nat.beq f 83 with
  | true => syOf [(22, 33), (30, 33)]
  | false => match Nat.beq f 85 with
    | true => syOf [(20, 55)]
    | false => syOf []
noncomputable def byY : List T3 → Prop → Prop
  | [], K => K
  | x :: r, K => inI64 (x.1 - x.2.2) = true ∧ inI64 (x.2.2 - x.2.1) = true ∧ gi (mx0 (x.2.2 - x.2.1)) = gi (mx0 (x.2.2 - x.2.1)) ∧ some (gi x.2.1) = some (gi x.2.1) ∧ some (gi x.2.2) = some (gi x.2.2) ∧ gi (mx0 (x.1 - x.2.2)) = gi (mx0 (x.1 - x.2.2)) ∧ some (gi x.2.2) = some (gi x.2.2) ∧ some (gi x.1) = some (gi x.1) ∧ byY r K
section
variable (T : List T3) (h1 : 1 ≤ T.length) (h2 : T.length ≤ 20) (e row k e' row' k' : Nat) (K : Value → Option AObj → Prop)
include h1 h2
theorem by_e : callR Tryz.prog orcPe syBy askPe 200 83 #[liP T.length k, slQ T.length k'] (cn2 (zc T) e row (zp T) e' row') (fun v h => K v (h.get (nG1 + (3 * T.length + 1)))) = byY T (K (.slice (some ⟨nG1 + (3 * T.length + 1), 0, none⟩) T.length T.length) (some (.cells (cellsP (T.map beyP)) 27 3 false))) := by
  match T, h1, h2 with
  | [_], _, _ => show _ = _; kernel_rfl
  | [_, _], _, _ => show _ = _; kernel_rfl
  | [_, _, _], _, _ => show _ = _; kernel_rfl
  | [_, _, _, _], _, _ => show _ = _; kernel_rfl
  | [_, _, _, _, _], _, _ => show _ = _; kernel_rfl
  | [_, _, _, _, _, _], _, _ => show _ = _; kernel_rfl
  | [_, _, _, _, _, _, _], _, _ => show _ = _; kernel_rfl
  | [_, _, _, _, _, _, _, _], _, _ => show _ = _; kernel_rfl
  | [_, _, _, _, _, _, _, _, _], _, _ => show _ = _; kernel_rfl
  | [_, _, _, _, _, _, _, _, _, _], _, _ => show _ = _; kernel_rfl
  | [_, _, _, _, _, _, _, _, _, _, _], _, _ => show _ = _; kernel_rfl
  | [_, _, _, _, _, _, _, _, _, _, _, _], _, _ => show _ = _; kernel_rfl
  | [_, _, _, _, _, _, _, _, _, _, _, _, _], _, _ => show _ = _; kernel_rfl
  | [_, _, _, _, _, _, _, _, _, _, _, _, _, _], _, _ => show _ = _; kernel_rfl
  | [_, _, _, _, _, _, _, _, _, _, _, _, _, _, _], _, _ => show _ = _; kernel_rfl
  | [_, _, _, _, _, _, _, _, _, _, _, _, _, _, _, _], _, _ => show _ = _; kernel_rfl
  | [_, _, _, _, _, _, _, _, _, _, _, _, _, _, _, _, _], _, _ => show _ = _; kernel_rfl
  | [_, _, _, _, _, _, _, _, _, _, _, _, _, _, _, _, _, _], _, _ => show _ = _; kernel_rfl
  | [_, _, _, _, _, _, _, _, _, _, _, _, _, _, _, _, _, _, _], _, _ => show _ = _; kernel_rfl
  | [_, _, _, _, _, _, _, _, _, _, _, _, _, _, _, _, _, _, _, _], _, _ => show _ = _; kernel_rfl
  | _ :: _ :: _ :: _ :: _ :: _ :: _ :: _ :: _ :: _ :: _ :: _ :: _ :: _ :: _ :: _ :: _ :: _ :: _ :: _ :: _ :: _, _, h => exact absurd h (by simp)
end
section
variable (l : List P2) (h1 : 1 ≤ l.length) (h2 : l.length ≤ 20) (e row k : Nat) (K : Value → Option AObj → Prop)
include h1 h2
theorem ma_e : callR Tryz.prog orcPe syBy askPe 200 85 #[liP l.length k, clF 86] (canon Tryz.prog [(cellsP l, e, row)]) (fun v h => K v (h.get (nG1 + 1))) = K (.slice (some ⟨nG1 + 1, 0, none⟩) l.length l.length) (some (.cells ((l.map mxP).map gi) 3 2 false)) := by
  match l, h1, h2 with
  | [_], _, _ => show _ = _; kernel_rfl
  | [_, _], _, _ => show _ = _; kernel_rfl
  | [_, _, _], _, _ => show _ = _; kernel_rfl
  | [_, _, _, _], _, _ => show _ = _; kernel_rfl
  | [_, _, _, _, _], _, _ => show _ = _; kernel_rfl
  | [_, _, _, _, _, _], _, _ => show _ = _; kernel_rfl
  | [_, _, _, _, _, _, _], _, _ => show _ = _; kernel_rfl
  | [_, _, _, _, _, _, _, _], _, _ => show _ = _; kernel_rfl
  | [_, _, _, _, _, _, _, _, _], _, _ => show _ = _; kernel_rfl
  | [_, _, _, _, _, _, _, _, _, _], _, _ => show _ = _; kernel_rfl
  | [_, _, _, _, _, _, _, _, _, _, _], _, _ => show _ = _; kernel_rfl
  | [_, _, _, _, _, _, _, _, _, _, _, _], _, _ => show _ = _; kernel_rfl
  | [_, _, _, _, _, _, _, _, _, _, _, _, _], _, _ => show _ = _; kernel_rfl
  | [_, _, _, _, _, _, _, _, _, _, _, _, _, _], _, _ => show _ = _; kernel_rfl
  | [_, _, _, _, _, _, _, _, _, _, _, _, _, _, _], _, _ => show _ = _; kernel_rfl
  | [_, _, _, _, _, _, _, _, _, _, _, _, _, _, _, _], _, _ => show _ = _; kernel_rfl
  | [_, _, _, _, _, _, _, _, _, _, _, _, _, _, _, _, _], _, _ => show _ = _; kernel_rfl
  | [_, _, _, _, _, _, _, _, _, _, _, _, _, _, _, _, _, _], _, _ => show _ = _; kernel_rfl
  | [_, _, _, _, _, _, _, _, _, _, _, _, _, _, _, _, _, _, _], _, _ => show _ = _; kernel_rfl
  | [_, _, _, _, _, _, _, _, _, _, _, _, _, _, _, _, _, _, _, _], _, _ => show _ = _; kernel_rfl
  | _ :: _ :: _ :: _ :: _ :: _ :: _ :: _ :: _ :: _ :: _ :: _ :: _ :: _ :: _ :: _ :: _ :: _ :: _ :: _ :: _ :: _, _, h => exact absurd h (by simp)
end
end Go.Proofs.YtkggjnjiggekeaaGreatDoor
