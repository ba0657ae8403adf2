/-
  OWN WORK. Gates: the speed common to all, and the comparison of lists of intervals, carried out for all lengths.
-/
import Derived.Test.YtclohbagdmelbaaGreatDoorGtD
namespace Go.Proofs.YtclohbagdmelbaaGreatDoor
open Go Go.Am

noncomputable def sySp (b : Bool) : FuncId → Sy := fun f => match Nat.beq f 7 with
  | true => syOf [(11, 55), (15, bif b then 32 else 31), (35, 1)]
  | false => syOf [(9, 7), (11, bif b then 32 else 31), (14, 23), (27, 7)]
noncomputable def sySr : FuncId → Sy := fun f => match Nat.beq f 13 with
  | true => syOf [(8, 55), (39, 1)]
  | false => syOf [(27, 33), (28, 33), (37, 33), (38, 7), (46, 33), (47, 7)]
noncomputable def cmF : P2 → List P2 → P2
  | c, [] => c
  | c, x :: r => cmF (cmP c x) r
noncomputable def cmC : P3 → List P3 → P2
  | _, [] => (0, 0)
  | p, q :: r => cmF (stP p q) (spF q r)
noncomputable def cmD : P3 → List P3 → P2
  | _, [] => (0, 0)
  | p, q :: r => cmF (stP p q) (stP p q :: spF q r)
noncomputable abbrev sdY (c : P2) (K : Value → Prop) : Prop := (ilt c.2 c.1 = true → K (.tuple #[.agg #[gi 0, gi 0], gi 24])) ∧ (ilt c.2 c.1 = false → K (.tuple #[.agg #[gi c.1, gi c.2], gi 0]))
noncomputable def siY : List P2 → Prop → Prop
  | [], K => K
  | p :: r, K => Value.bool (!(ieq p.1 p.1 && (ieq p.2 p.2 && true))) = Value.bool false ∧ siY r K
section
variable (p : P3) (l : List P3) (e row k : Nat) (K : Value → Prop)
theorem pd_e (h1 : 1 ≤ l.length) (h2 : l.length ≤ 7) : callR Tryz.prog orcTc (sySp true) askTc 200 7 #[liP (l.length + 1) k] (canon Tryz.prog [(cells3 (p :: l), e, row)]) (fun v _ => K v) = sgY (p :: l) (l.length + 1) false fun _ => (0 : Int) ≤ 1 ∧ (1 : Int) ≤ Int.ofNat (l.length + 1) ∧ (1 : Int) < Int.ofNat k ∧ (Nat.beq row 0 || Nat.beq row 4) = true ∧ stY p l (false = false ∧ sdY (cmD p l) K) := by
  match l, h1, h2 with
  | [_], _, _ => show _ = _; kernel_rfl
  | [_, _], _, _ => show _ = _; kernel_rfl
  | [_, _, _], _, _ => show _ = _; kernel_rfl
  | [_, _, _, _], _, _ => show _ = _; kernel_rfl
  | [_, _, _, _, _], _, _ => show _ = _; kernel_rfl
  | [_, _, _, _, _, _], _, _ => show _ = _; kernel_rfl
  | [_, _, _, _, _, _, _], _, _ => show _ = _; kernel_rfl
theorem pd_i (h2 : l.length ≤ 8) : callR Tryz.prog orcTc (sySp false) askTc 200 7 #[liP (l.length + 1) k] (canon Tryz.prog [(cells3 (p :: l), e, row)]) (fun v _ => K v) = sgY (p :: l) (l.length + 1) true fun x => (!(ieq (chkE x) 0)) = true ∧ K (.tuple #[.agg #[gi 0, gi 0], gi (chkE x)]) := by
  match l, h2 with
  | [], _ => show _ = _; kernel_rfl
  | [_], _ => show _ = _; kernel_rfl
  | [_, _], _ => show _ = _; kernel_rfl
  | [_, _, _], _ => show _ = _; kernel_rfl
  | [_, _, _, _], _ => show _ = _; kernel_rfl
  | [_, _, _, _, _], _ => show _ = _; kernel_rfl
  | [_, _, _, _, _, _], _ => show _ = _; kernel_rfl
  | [_, _, _, _, _, _, _], _ => show _ = _; kernel_rfl
  | [_, _, _, _, _, _, _, _], _ => show _ = _; kernel_rfl
theorem rd_e (h1 : 1 ≤ l.length) (h2 : l.length ≤ 7) : callR Tryz.prog orcTc sySr askTc 200 13 #[liP (l.length + 1) k] (canon Tryz.prog [(cells3 (p :: l), e, row)]) (fun v _ => K v) = srY p l (sdY (cmC p l) K) := by
  match l, h1, h2 with
  | [_], _, _ => show _ = _; kernel_rfl
  | [_, _], _, _ => show _ = _; kernel_rfl
  | [_, _, _], _, _ => show _ = _; kernel_rfl
  | [_, _, _, _], _, _ => show _ = _; kernel_rfl
  | [_, _, _, _, _], _, _ => show _ = _; kernel_rfl
  | [_, _, _, _, _, _], _, _ => show _ = _; kernel_rfl
  | [_, _, _, _, _, _, _], _, _ => show _ = _; kernel_rfl
theorem si_e (s : List P2) (h1 : 1 ≤ s.length) (h2 : s.length ≤ 7) (e' row' k' : Nat) : callR Tryz.prog orcTc (fun _ => syOf [(25, 47)]) askTc 200 16 #[liP s.length k, .slice (some ⟨Tryz.prog.globals.size + 1, 0, none⟩) s.length k'] (canon Tryz.prog [(cellsP s, e, row), (cellsP s, e', row')]) (fun v _ => K v) = siY s (K (.bool true)) := by
  match s, h1, h2 with
  | [_], _, _ => show _ = _; kernel_rfl
  | [_, _], _, _ => show _ = _; kernel_rfl
  | [_, _, _], _, _ => show _ = _; kernel_rfl
  | [_, _, _, _], _, _ => show _ = _; kernel_rfl
  | [_, _, _, _, _], _, _ => show _ = _; kernel_rfl
  | [_, _, _, _, _, _], _, _ => show _ = _; kernel_rfl
  | [_, _, _, _, _, _, _], _, _ => show _ = _; kernel_rfl
end
theorem cmP_self (c : P2) : cmP c c = c := by
  unfold cmP
  rw [if_neg (by omega), if_neg (by omega)]
theorem cmD_eq : ∀ (p : P3) (l : List P3), cmD p l = cmC p l
  | _, [] => rfl
  | p, q :: r => by
    show cmF (cmP (stP p q) (stP p q)) (spF q r) = _
    rw [cmP_self]; rfl
theorem siY_ok {K : Prop} (h : K) : ∀ s : List P2, siY s K
  | [] => h
  | p :: r => ⟨by rw [ieq_self, ieq_self]; rfl, siY_ok h r⟩
end Go.Proofs.YtclohbagdmelbaaGreatDoor
