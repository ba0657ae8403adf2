/-
  OWN WORK. Gates: their errors and copies, carried out for all lengths.
-/
import Derived.Test.YtclohbagdmelbaaGreatDoorGtA
namespace Go.Proofs.YtclohbagdmelbaaGreatDoor
open Go Go.Am

noncomputable abbrev ag3 (b : P3) : Value := .agg #[gi b.1, gi b.2.1, gi b.2.2]
noncomputable abbrev ag2 (p : P3) : Value := .agg #[gi p.2.1, gi p.2.2]
noncomputable def gE (p b : P3) : Int := firstS [withinS p.1 0 1000000, itE p.2.1 p.2.2 0 100000000, whenS (!(fwB p.1 p.2.1 p.2.2 b.1 b.2.2)) 11]
/-- The first error of gates behind one. -/
noncomputable def gpE : P3 → List P3 → Int
  | _, [] => 0
  | b, p :: r => bif ieq (gE p b) 0 then gpE p r else gE p b
noncomputable def cgY (b : P3) : List P3 → (Int → Prop) → Prop
  | [], K => K 0
  | p :: r, K => (ag3 b = ag3 b) ∧ (ag3 p = ag3 p) ∧ (ag2 p = ag2 p) ∧ (ag3 b = ag3 b) ∧ (ag3 p = ag3 p) ∧ ((!(ieq (gE p b) 0)) = true → K (gE p b)) ∧ ((!(ieq (gE p b) 0)) = false → cgY p r K)
theorem cgY_ok {K : Int → Prop} : ∀ {l : List P3} {b : P3}, K (gpE b l) → cgY b l K
  | [], _, h => h
  | p :: r, b, h => by
    have h : K (bif ieq (gE p b) 0 then gpE p r else gE p b) := h
    refine ⟨rfl, rfl, rfl, rfl, rfl, fun hz => ?_, fun hz => ?_⟩
    · rw [not_ieqT hz] at h; exact h
    · rw [not_ieqF hz] at h; exact cgY_ok h
noncomputable def syCg : FuncId → Sy := fun f => match Nat.beq f 15 with
  | true => syOf [(16, 55)]
  | false => match Nat.beq f 55 with
    | true => syOf [(16, 55), (18, 1)]
    | false => syOf []
noncomputable abbrev pfE (n : Nat) (e : Int) : Int := firstS [whenS (ilt (Int.ofNat n) 2) 16, whenS (ilt 8 (Int.ofNat n)) 5, e]
section
variable (l : List P3) (h1 : 1 ≤ l.length) (h2 : l.length ≤ 9) (e row k : Nat)
include h1 h2
theorem cg_e (K : Value → Prop) : callR Tryz.prog orcTb syCg askTb 200 15 #[liP l.length k] (canon Tryz.prog [(cells3 l, e, row)]) (fun v _ => K v) = cgY (-1, -1, -1) l fun x => K (gi (pfE l.length x)) := by
  match l, h1, h2 with
  | [_], _, _ => show _ = _; kernel_rfl
  | [_, _], _, _ => show _ = _; kernel_rfl
  | [_, _, _], _, _ => show _ = _; kernel_rfl
  | [_, _, _, _], _, _ => show _ = _; kernel_rfl
  | [_, _, _, _, _], _, _ => show _ = _; kernel_rfl
  | [_, _, _, _, _, _], _, _ => show _ = _; kernel_rfl
  | [_, _, _, _, _, _, _], _, _ => show _ = _; kernel_rfl
  | [_, _, _, _, _, _, _, _], _, _ => show _ = _; kernel_rfl
  | [_, _, _, _, _, _, _, _, _], _, _ => show _ = _; kernel_rfl
theorem ga_e (K : Value → Option AObj → Prop) : callR Tryz.prog orcTb (fun _ => syOf []) askTb 200 6 #[liP l.length k] (canon Tryz.prog [(cells3 l, e, row)]) (fun v h => K v (h.get (nG1 + 3 * l.length))) = K (.slice (some ⟨nG1 + 3 * l.length, 0, none⟩) l.length l.length) (some (.cells (cells3 l) 54 4 false)) := by
  match l, h1, h2 with
  | [_], _, _ => show _ = _; kernel_rfl
  | [_, _], _, _ => show _ = _; kernel_rfl
  | [_, _, _], _, _ => show _ = _; kernel_rfl
  | [_, _, _, _], _, _ => show _ = _; kernel_rfl
  | [_, _, _, _, _], _, _ => show _ = _; kernel_rfl
  | [_, _, _, _, _, _], _, _ => show _ = _; kernel_rfl
  | [_, _, _, _, _, _, _], _, _ => show _ = _; kernel_rfl
  | [_, _, _, _, _, _, _, _], _, _ => show _ = _; kernel_rfl
  | [_, _, _, _, _, _, _, _, _], _, _ => show _ = _; kernel_rfl
end
/-! The reference. -/
noncomputable abbrev rE (p : P3) (x : Int) : Int := firstS [withinS p.1 0 1000000, itE p.2.1 p.2.2 0 100000000, x]
noncomputable def rgY (b : P3) : List P3 → (Int → Prop) → Prop
  | [], K => K 0
  | p :: r, K => (ag2 p = ag2 p) ∧ ((!(ilt b.1 p.1)) = true → ((!(ieq (rE p 11) 0)) = true → K (rE p 11)) ∧ ((!(ieq (rE p 11) 0)) = false → rgY p r K)) ∧
      ((!(ilt b.1 p.1)) = false → ((!(ieq (rE p (whenS (!(ilt b.2.2 p.2.1)) 11)) 0)) = true → K (rE p (whenS (!(ilt b.2.2 p.2.1)) 11))) ∧ ((!(ieq (rE p (whenS (!(ilt b.2.2 p.2.1)) 11)) 0)) = false → rgY p r K))
noncomputable def rgY0 : List P3 → (Int → Prop) → Prop
  | [], K => K 0
  | p :: r, K => (ag2 p = ag2 p) ∧ ((!(ieq (rE p 0) 0)) = true → K (rE p 0)) ∧ ((!(ieq (rE p 0) 0)) = false → rgY p r K)
noncomputable abbrev pf2 (n : Nat) : Int := firstS [whenS (ilt (Int.ofNat n) 2) 16, whenS (ilt 8 (Int.ofNat n)) 5]
theorem rg_1 (p : P3) (e row k : Nat) (K : Value → Prop) : callR Tryz.prog orcTb (fun _ => syOf [(18, 31)]) askTb 200 9 #[liP 1 k] (canon Tryz.prog [(cells3 [p], e, row)]) (fun v _ => K v) = (true = true ∧ K (gi 16)) := by kernel_rfl
theorem rg_9 (l : List P3) (hl : l.length = 9) (e row k : Nat) (K : Value → Prop) : callR Tryz.prog orcTb (fun _ => syOf [(18, 31)]) askTb 200 9 #[liP 9 k] (canon Tryz.prog [(cells3 l, e, row)]) (fun v _ => K v) = (true = true ∧ K (gi 5)) := by
  match l, hl with
  | [_, _, _, _, _, _, _, _, _], _ => show _ = _; kernel_rfl
theorem rg_e (l : List P3) (h1 : 2 ≤ l.length) (h2 : l.length ≤ 8) (e row k : Nat) (K : Value → Prop) : callR Tryz.prog orcTb (fun _ => syOf [(18, 32), (54, 1), (72, 1)]) askTb 200 9 #[liP l.length k] (canon Tryz.prog [(cells3 l, e, row)]) (fun v _ => K v) = (false = false ∧ rgY0 l fun x => K (gi x)) := by
  match l, h1, h2 with
  | [_, _], _, _ => show _ = _; kernel_rfl
  | [_, _, _], _, _ => show _ = _; kernel_rfl
  | [_, _, _, _], _, _ => show _ = _; kernel_rfl
  | [_, _, _, _, _], _, _ => show _ = _; kernel_rfl
  | [_, _, _, _, _, _], _, _ => show _ = _; kernel_rfl
  | [_, _, _, _, _, _, _], _, _ => show _ = _; kernel_rfl
  | [_, _, _, _, _, _, _, _], _, _ => show _ = _; kernel_rfl
end Go.Proofs.YtclohbagdmelbaaGreatDoor
