/-
  OWN WORK. Codes: the law on the abstract machine.
-/
import Derived.Test.YtojfhklkcelblaaGreatDoorCdO
import Derived.Test.YtojfhklkcelblaaGreatDoorAhZ
namespace Go.Proofs.YtojfhklkcelblaaGreatDoor
open Go Go.Am

theorem awake2_call (es : Nat → TypeId) : CallJ Tryz.prog 5 #[] (base tabs2 es Tryz.prog.globals.size) (fun v _ => v = .bool true) :=
  CallJ.pieces (fn := Tryz.f5) (v := .bool true) (by kernel_rfl) (by kernel_rfl) (fun g => atAh_0 es g)
def wakeS : List Value → Option Value
  | [] => some (.bool true)
  | _ => none
noncomputable def orcP : Orc := orElse 5 (tabSpec tabs2 wakeS) orcO
theorem orcP_ok : OrcOk Tryz.prog orcP := by
  refine tabSpec_ok tabs2_flat (fun l v h => ?_) orcO_ok
  unfold wakeS at h
  split at h
  · cases h
    exact ⟨rfl, rfl, fun es => awake2_call es⟩
  · cases h
noncomputable def askP : Asks := skipA 5 askO
theorem askP_ok : AsksOk orcP askP := skipA_ok askO_ok
theorem law_run (es : Nat → TypeId) (p s : ByteArray) (x g : Int) (K : Value → Prop) : callC Tryz.prog (exec Tryz.prog orcP 10) (syOf [(16, 1), (20, 1), (36, 1), (38, 7), (47, 31), (51, 31), (56, 31), (61, 34), (66, 31)]) askP (noLoops _) 60 3 #[.agg #[.string p, gi x, gi g], .string s] (bT es) (fun v _ => K v) = (((ilt 40 (Int.ofNat (ByteArray.size p)) = true → K (Value.bool true)) ∧ (ilt 40 (Int.ofNat (ByteArray.size p)) = false → ((ilt 40 (Int.ofNat (ByteArray.size s)) = true → K (Value.bool true)) ∧ (ilt 40 (Int.ofNat (ByteArray.size s)) = false → ((ieq (codeE p x g) 0 = true → (((ByteArray.size p : Nat) ≤ 1000 ∧ (x = 0 ∨ (x = 1 ∨ x = 2)) ∧ (g = 1 ∨ g = (-1))) ∧ ieq (codeE p x g) (codeE p x g) = true ∧ BEq.beq (ByteArray.toList (cdT p x g)) (ByteArray.toList (textB p x g)) = true ∧ ieq (codeE p x g) (codeE p x g) = true ∧ Value.bool (BEq.beq (dS s) (dS s) && (ieq (dA s) (dA s) && (ieq (dB s) (dB s) && true))) = Value.bool true ∧ ieq (dX s) (dX s) = true ∧ K (Value.bool true))) ∧ (ieq (codeE p x g) 0 = false → (ieq (codeE p x g) (codeE p x g) = true ∧ BEq.beq (ByteArray.toList (cdT p x g)) (ByteArray.toList (ByteArray.mk #[])) = true ∧ ieq (codeE p x g) (codeE p x g) = true ∧ Value.bool (BEq.beq (dS s) (dS s) && (ieq (dA s) (dA s) && (ieq (dB s) (dB s) && true))) = Value.bool true ∧ ieq (dX s) (dX s) = true ∧ K (Value.bool true))))))))) := by kernel_rfl
set_option maxRecDepth 100000 in
/-- The law: true for every code and string. -/
theorem codes_call (es : Nat → TypeId) (p s : ByteArray) (x g : Int) : CallJ Tryz.prog 3 #[.agg #[.string p, gi x, gi g], .string s] (base tabs2 es Tryz.prog.globals.size) (fun v _ => v = .bool true) := by
  have r : ∀ a : Int, ieq a a = true := fun a => by rw [ieq_dec]; exact decide_eq_true rfl
  have t : Value.bool (dS s == dS s && (ieq (dA s) (dA s) && (ieq (dB s) (dB s) && true))) = .bool true := by
    rw [beq_toListBytes, strEq, decide_eq_true rfl, r, r]; rfl
  refine callC_ok mixed orcP_ok askP_ok (Eq.mpr (law_run es p s x g _) ⟨fun _ => rfl, fun _ => ⟨fun _ => rfl, fun _ => ⟨fun hz => ?_, fun hz => ?_⟩⟩⟩)
  · obtain ⟨_, h1, h2, h3⟩ := codeE_zero (ieq_true hz)
    refine ⟨⟨by omega, h2, h3⟩, r _, ?_, r _, t, r _, rfl⟩
    rw [strEq]
    refine decide_eq_true ?_
    unfold cdT
    rw [hz]; rfl
  · refine ⟨r _, ?_, r _, t, r _, rfl⟩
    rw [strEq]
    refine decide_eq_true ?_
    unfold cdT
    rw [hz]; rfl
end Go.Proofs.YtojfhklkcelblaaGreatDoor
