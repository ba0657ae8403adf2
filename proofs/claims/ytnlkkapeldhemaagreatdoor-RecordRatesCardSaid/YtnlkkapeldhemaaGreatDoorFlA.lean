/-
  OWN WORK. Small functions on doubles: what they return.
-/
import Derived.Test.YtnlkkapeldhemaaGreatDoorRcA
import Derived.Test.YtnlkkapeldhemaaGreatDoorAmFm
namespace Go.Proofs.YtnlkkapeldhemaaGreatDoor
open Go Go.Am

noncomputable def absE (b : Nat) : Nat := (IntKind.wrap .u64 ((BitVec.ofInt 64 (b : Int) &&& ~~~BitVec.ofInt 64 9223372036854775808).toNat : Int)).toNat
theorem absE_eq {b : Nat} (hb : b < 2 ^ 64) : absE b = b % 2 ^ 63 := by
  have e : (BitVec.ofInt 64 (b : Int) &&& ~~~BitVec.ofInt 64 9223372036854775808).toNat = b % 2 ^ 63 := by
    rw [BitVec.toNat_and]
    rw [show (~~~BitVec.ofInt 64 9223372036854775808).toNat = 2 ^ 63 - 1 by decide +kernel, Nat.and_two_pow_sub_one_eq_mod]
    rw [show (BitVec.ofInt 64 (b : Int)).toNat = b by rw [BitVec.ofInt_natCast, BitVec.toNat_ofNat]; exact Nat.mod_eq_of_lt hb]
  unfold absE
  rw [e]
  simp [IntKind.wrap, IntKind.signed, IntKind.bits]
  omega
theorem isNaN_run (b : Nat) (K : Value → AHeap → Prop) : callC Tryz.prog (exec Tryz.prog orcR 10) (syOf []) noAsks (noLoops _) 20 162 #[.float .f64 b] (emp Tryz.prog) K = K (.bool (neF b b)) (emp Tryz.prog) := by kernel_rfl
theorem abs_run (b : Nat) (K : Value → AHeap → Prop) : callC Tryz.prog (exec Tryz.prog orcR 10) (syOf []) noAsks (noLoops _) 20 164 #[.float .f64 b] (emp Tryz.prog) K = K (.float .f64 (absE b)) (emp Tryz.prog) := by kernel_rfl
def maxF : Nat := 9218868437227405311
noncomputable def nanL : List Value → Option Value
  | [.float .f64 b] => some (.bool (neF b b))
  | _ => none
noncomputable def absL : List Value → Option Value
  | [.float .f64 b] => some (.float .f64 (absE b))
  | _ => none
noncomputable def orcFa : Orc := orElse 164 (flatSpec absL) (orElse 162 (flatSpec nanL) orcR)
set_option maxRecDepth 100000 in
theorem orcFa_ok : OrcOk Tryz.prog orcFa := by
  refine flatSpec_ok (fun l v h => ?_) (flatSpec_ok (fun l v h => ?_) orcR_ok)
  · unfold absL at h
    split at h
    · cases h
      exact ⟨rfl, rfl, callC_ok mixed orcR_ok (noAsks_ok _) (Eq.mpr (abs_run _ _) rfl)⟩
    · cases h
  · unfold nanL at h
    split at h
    · cases h
      exact ⟨rfl, rfl, callC_ok mixed orcR_ok (noAsks_ok _) (Eq.mpr (isNaN_run _ _) rfl)⟩
    · cases h
theorem isInf_run (b : Nat) (K : Value → AHeap → Prop) : callC Tryz.prog (exec Tryz.prog orcFa 10) (syOf []) noAsks (noLoops _) 20 163 #[.float .f64 b, .int .i64 0] (emp Tryz.prog) K = K (.bool (gtF (absE b) maxF)) (emp Tryz.prog) := by kernel_rfl
theorem trunc_run (b : Nat) (K : Value → AHeap → Prop) : callC Tryz.prog (exec Tryz.prog orcFa 10) (syOf [(4, 14)]) noAsks (noLoops _) 20 165 #[.float .f64 b] (emp Tryz.prog) K =
  (pureRun Tryz.prog (callFunc 172 #[.float .f64 b]) = some (.value (.float .f64 (trF b))) ∧ K (.float .f64 (trF b)) (emp Tryz.prog)) := by kernel_rfl
theorem archTrunc_run (b : Nat) : pureRun Tryz.prog (callFunc 172 #[.float .f64 b]) = pureRun Tryz.prog (do pure (.value (← Extern.MathFloor.toIntegral "math.archTrunc" .zero #[.float .f64 b]))) := by kernel_rfl
theorem toIntegral_eq (b : Nat) : Extern.MathFloor.toIntegral "math.archTrunc" .zero #[.float .f64 b] = (match FloatKind.f64.decode b with
    | .nan s t => if FloatKind.f64.format.quiet t = t then pure (.float .f64 b) else do
      let kept ← choose (.extern "math.Floor,Ceil,Trunc,RoundToEven.signallingNaN kept" 2)
      pure (.float .f64 (if kept == 1 then b else FloatKind.f64.encode (.nan s (FloatKind.f64.format.quiet t))))
    | d => pure (.float .f64 (FloatKind.f64.encode (d.integral .zero))) : Sem Value) := by kernel_rfl
theorem trunc_some {b : Nat} (hb : (FloatKind.f64.decode b).isNaN = false) : pureRun Tryz.prog (callFunc 172 #[.float .f64 b]) = some (.value (.float .f64 (trF b))) := by
  have e : pureRun Tryz.prog (Extern.MathFloor.toIntegral "math.archTrunc" .zero #[.float .f64 b]) = some (.float .f64 (trF b)) := by
    rw [toIntegral_eq]
    have e1 : trF b = FloatKind.f64.encode ((FloatKind.f64.decode b).integral .zero) := rfl
    rw [e1]
    cases hd : FloatKind.f64.decode b with
    | nan s t => rw [hd] at hb; cases hb
    | number s m e => rfl
    | infinity s => rfl
  rw [archTrunc_run, pureRun_bind, e]
  rfl
theorem trunc_nan (b : Nat) (hb : (FloatKind.f64.decode b).isNaN = true) (w : World) : ∃ r n, (callFunc 172 #[.float .f64 b]).run Tryz.prog w = .ok (.value (.float .f64 r)) { w with drawn := n } := by
  have e0 : (callFunc 172 #[.float .f64 b]).run Tryz.prog w = (do pure (.value (← Extern.MathFloor.toIntegral "math.archTrunc" .zero #[.float .f64 b])) : Sem Next).run Tryz.prog w := by kernel_rfl
  rw [e0, toIntegral_eq]
  cases hd : FloatKind.f64.decode b with
  | number s m e => rw [hd] at hb; cases hb
  | infinity s => rw [hd] at hb; cases hb
  | nan s t =>
    by_cases hq : FloatKind.f64.format.quiet t = t
    · exact ⟨b, w.drawn, by simp only [hq, if_true]; rfl⟩
    · refine ⟨if (Question.cut (.extern "math.Floor,Ceil,Trunc,RoundToEven.signallingNaN kept" 2) (w.tape w.drawn (.extern "math.Floor,Ceil,Trunc,RoundToEven.signallingNaN kept" 2))) == 1 then b else FloatKind.f64.encode (.nan s (FloatKind.f64.format.quiet t)), w.drawn + 1, ?_⟩
      simp only [hq, if_false]
      rfl
theorem truncN_run (b : Nat) (K : Value → AHeap → Prop) : callC Tryz.prog (exec Tryz.prog orcFa 10) (syOf [(4, 20)]) noAsks (noLoops _) 20 165 #[.float .f64 b] (emp Tryz.prog) K =
  ((∀ w : World, ∃ r n, (callFunc 172 #[.float .f64 b]).run Tryz.prog w = .ok (.value (.float .f64 r)) { w with drawn := n }) ∧ ∀ r, K (.float .f64 r) (emp Tryz.prog)) := by kernel_rfl
set_option maxRecDepth 100000 in
theorem trunc_rel {b : Nat} (hb : (FloatKind.f64.decode b).isNaN = true) : RelF Tryz.prog 165 #[.float .f64 b] :=
  RelF.of_call rfl (callC_ok mixed orcFa_ok (noAsks_ok _) (Eq.mpr (truncN_run b _) ⟨trunc_nan b hb, fun r => ⟨r, rfl⟩⟩))
end Go.Proofs.YtnlkkapeldhemaaGreatDoor
