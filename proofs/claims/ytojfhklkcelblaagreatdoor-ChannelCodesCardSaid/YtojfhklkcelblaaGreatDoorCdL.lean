/-
  OWN WORK. Codes: read from their strings, by the program.
-/
import Derived.Test.YtojfhklkcelblaaGreatDoorCdK
namespace Go.Proofs.YtojfhklkcelblaaGreatDoor
open Go Go.Am

noncomputable def cutI (s : ByteArray) : Int := fwrap .i64 (Int.ofNat s.size - 4)
noncomputable def tlB (s : ByteArray) : ByteArray := s.extract (cutI s).toNat s.size
noncomputable def hdB (s : ByteArray) : ByteArray := s.extract 0 (cutI s).toNat
noncomputable abbrev dcC (s : ByteArray) : List Value := [.string (hdB s), gi (rdA (tlB s)), gi (rdB (tlB s))]
noncomputable def dcE (s : ByteArray) : Int := firstS [whenS (!(enO (tlB s))) 25, whenS (!(nameS (hdB s))) 8, whenS (!(s.toList == (textB (hdB s) (rdA (tlB s)) (rdB (tlB s))).toList)) 27]
theorem dec_run (es : Nat → TypeId) (s : ByteArray) (K : Value → Prop) : callC Tryz.prog (exec Tryz.prog orcK 10) (syOf [(10, 1), (14, 1), (22, 42), (23, 7), (28, 42), (40, 7), (46, 1)]) askK (noLoops _) 60 7 #[.string s] (bT es) (fun v _ => K v) =
  ((ilt 28 (Int.ofNat s.size) = true → K (.tuple #[.agg ⟨z0⟩, gi 26])) ∧ (ilt 28 (Int.ofNat s.size) = false → ((ilt (Int.ofNat s.size) 5 = true → K (.tuple #[.agg ⟨z0⟩, gi 25])) ∧ (ilt (Int.ofNat s.size) 5 = false →
    (0 ≤ cutI s ∧ cutI s ≤ Int.ofNat s.size ∧ (tlB s).size = 4 ∧ (0 : Int) ≤ 0 ∧ 0 ≤ cutI s ∧ cutI s ≤ Int.ofNat s.size ∧ Value.agg ⟨dcC s⟩ = .agg ⟨dcC s⟩ ∧ (dcC s)[0]? = some (.string (hdB s)) ∧ Value.agg ⟨dcC s⟩ = .agg ⟨dcC s⟩ ∧ Value.agg ⟨dcC s⟩ = .agg ⟨dcC s⟩ ∧ (hdB s).size ≤ 1000 ∧
      (rdA (tlB s) = 0 ∨ (rdA (tlB s) = 1 ∨ rdA (tlB s) = 2)) ∧ (rdB (tlB s) = 1 ∨ (rdB (tlB s) = (-1) ∨ rdB (tlB s) = 0)) ∧
      ((!(ieq (dcE s) 0)) = true → K (.tuple #[.agg ⟨z0⟩, gi (dcE s)])) ∧ ((!(ieq (dcE s) 0)) = false → K (.tuple #[.agg ⟨dcC s⟩, gi 0]))))))) := by kernel_rfl
end Go.Proofs.YtojfhklkcelblaaGreatDoor
