/-
  OWN WORK. What is asked of one sample: its error, by the program and by the reference.
-/
import Derived.Test.YtnlkkapeldhemaaGreatDoorFlB
namespace Go.Proofs.YtnlkkapeldhemaaGreatDoor
open Go Go.Am Ieee

theorem absE_mod (b : Nat) : absE b = b % 2 ^ 63 := by
  have e : (BitVec.ofInt 64 (b : Int) &&& ~~~BitVec.ofInt 64 9223372036854775808).toNat = b % 2 ^ 63 := by
    rw [BitVec.toNat_and]
    rw [show (~~~BitVec.ofInt 64 9223372036854775808).toNat = 2 ^ 63 - 1 by decide +kernel, Nat.and_two_pow_sub_one_eq_mod]
    rw [show (BitVec.ofInt 64 (b : Int)).toNat = b % 2 ^ 64 by rw [BitVec.ofInt_natCast, BitVec.toNat_ofNat]]
    omega
  unfold absE
  rw [e]
  simp [IntKind.wrap, IntKind.signed, IntKind.bits]
  omega
/-- Sixteen times a sample. -/
noncomputable def sclE (x : Nat) : Nat := (floatBits .mul .f64 d16 (cvt x)).getD 0
noncomputable def badE (x : Nat) : Bool := gtF (absE (sclE x)) c16 || neF (sclE x) (trF (sclE x))
noncomputable def truncL : List Value → Option Value
  | [.float .f64 b] => match (FloatKind.f64.decode b).isNaN with
    | false => some (.float .f64 (trF b))
    | true => none
  | _ => none
noncomputable def orcT : Orc := orElse 165 (flatSpec truncL) orcFb
set_option maxRecDepth 100000 in
theorem orcT_ok : OrcOk Tryz.prog orcT := by
  refine flatSpec_ok (fun l v h => ?_) orcFb_ok
  unfold truncL at h
  split at h
  · split at h
    · rename_i b hb
      cases h
      exact ⟨rfl, rfl, callC_ok mixed orcFa_ok (noAsks_ok _) (Eq.mpr (trunc_run _ _) ⟨trunc_some hb, rfl⟩)⟩
    · cases h
  · cases h
noncomputable def askT : Asks := fun f args h k => match Nat.beq f 165 with
  | true => match args.toList with
    | [.float .f64 b] => (FloatKind.f64.decode b).isNaN = false ∧ k (.float .f64 (trF b)) h
    | _ => False
  | false => False
theorem askT_ok : AsksOk orcT askT := by
  intro f args h k hk
  unfold askT at hk
  split at hk
  · rename_i hf
    split at hk
    · rename_i b ha
      refine ⟨_, h, ?_, hk.2⟩
      have hf : Nat.beq 165 f = true := by rw [Nat.eq_of_beq_eq_true hf]; simp
      simp only [orcT, orElse, hf, flatSpec, ha, truncL, hk.1, Option.map_some]
    · exact hk.elim
  · exact hk.elim
theorem six_run (x : Nat) (K : Value → AHeap → Prop) : callC Tryz.prog (exec Tryz.prog orcT 10) (syOf [(7, 11), (8, 12), (12, 1), (16, 7), (17, 1)]) askT (noLoops _) 20 144 #[.float .f32 x, .float .f64 c16] (emp Tryz.prog) K =
  ((floatToFloatBits .f32 x .f64).isSome = true ∧ (floatBits .mul .f64 d16 (cvt x)).isSome = true ∧ (gtF (absE (sclE x)) c16 = true → K (gi 3) (emp Tryz.prog)) ∧
    (gtF (absE (sclE x)) c16 = false → (FloatKind.f64.decode (sclE x)).isNaN = false ∧ (neF (sclE x) (trF (sclE x)) = true → K (gi 3) (emp Tryz.prog)) ∧ (neF (sclE x) (trF (sclE x)) = false → K (gi 0) (emp Tryz.prog)))) := by kernel_rfl
theorem six_nan (x : Nat) (K : Value → AHeap → Prop) : callC Tryz.prog (exec Tryz.prog orcFb 10) (syOf [(7, 20), (8, 20), (12, 1), (16, 22), (17, 31)]) noAsks (noLoops _) 20 144 #[.float .f32 x, .float .f64 c16] (emp Tryz.prog) K =
  ((FloatKind.f32.decode x).isNaN = true ∧ ∀ r, nanOf .f64 r → floatBits .mul .f64 d16 r = none ∧ ∀ q, nanOf .f64 q → (gtF (absE q) c16 = true → K (gi 3) (emp Tryz.prog)) ∧
    (gtF (absE q) c16 = false → RelF Tryz.prog 165 #[.float .f64 q] ∧ ∀ t, neF q t = true ∧ K (gi 3) (emp Tryz.prog))) := by kernel_rfl
theorem part_run (x : Nat) (K : Value → AHeap → Prop) : callC Tryz.prog (exec Tryz.prog orcFb 10) (syOf [(8, 12), (9, 32), (11, 11), (12, 12), (17, 1), (22, 1), (26, 13), (29, 1)]) noAsks (noLoops _) 20 135 #[.float .f32 x, gi 16384] (emp Tryz.prog) K =
  ((floatBits .sub .f32 x x).isSome = true ∧ (single.order ((floatBits .sub .f32 x x).getD 0) 0 != some .eq) = false ∧ (floatToFloatBits .f32 x .f64).isSome = true ∧ (floatBits .mul .f64 d16 (cvt x)).isSome = true ∧
    (ltF (sclE x) m16 = true → K (gi 3) (emp Tryz.prog)) ∧ (ltF (sclE x) m16 = false → (gtF (sclE x) c16 = true → K (gi 3) (emp Tryz.prog)) ∧ (gtF (sclE x) c16 = false →
      (floatToIntVal .f64 (sclE x) .i64).isSome = true ∧ (neF (ofI ((floatToIntVal .f64 (sclE x) .i64).getD 0)) (sclE x) = true → K (gi 3) (emp Tryz.prog)) ∧ (neF (ofI ((floatToIntVal .f64 (sclE x) .i64).getD 0)) (sclE x) = false → K (gi 0) (emp Tryz.prog))))) := by kernel_rfl
theorem part_nan (x : Nat) (K : Value → AHeap → Prop) : callC Tryz.prog (exec Tryz.prog orcFb 10) (syOf [(8, 20), (9, 31)]) noAsks (noLoops _) 20 135 #[.float .f32 x, gi 16384] (emp Tryz.prog) K =
  (floatBits .sub .f32 x x = none ∧ ∀ r, nanOf .f32 r → (single.order r 0 != some .eq) = true ∧ K (gi 1) (emp Tryz.prog)) := by kernel_rfl
end Go.Proofs.YtnlkkapeldhemaaGreatDoor
