/-
  OWN WORK. One sample: its errors; samples: the first error of them; copies of them.
-/
import Derived.Test.YthgojmebbhpbbaaGreatDoorCdB
import Derived.Test.YthgojmebbhpbbaaGreatDoorAmFm
import Derived.Test.YthgojmebbhpbbaaGreatDoorAmX
namespace Go.Proofs.YthgojmebbhpbbaaGreatDoor
open Go Go.Am
noncomputable def absE (b : Nat) : Nat := (IntKind.wrap .u64 ((BitVec.ofInt 64 (b : Int) &&& ~~~BitVec.ofInt 64 9223372036854775808).toNat : Int)).toNat
theorem isNaN_run (b : Nat) (K : Value → AHeap → Prop) : callC Tryz.prog (exec Tryz.prog orcCm 10) (syOf []) noAsks (noLoops _) 20 152 #[.float .f64 b] (emp Tryz.prog) K = K (.bool (neF b b)) (emp Tryz.prog) := by kernel_rfl
theorem abs_run (b : Nat) (K : Value → AHeap → Prop) : callC Tryz.prog (exec Tryz.prog orcCm 10) (syOf []) noAsks (noLoops _) 20 154 #[.float .f64 b] (emp Tryz.prog) K = K (.float .f64 (absE b)) (emp Tryz.prog) := by kernel_rfl
def maxF : Nat := 9218868437227405311
noncomputable def nanL : List Value → Option Value
 | [.float .f64 b] => some (.bool (neF b b))
 | _ => none
noncomputable def absL : List Value → Option Value
 | [.float .f64 b] => some (.float .f64 (absE b))
 | _ => none
noncomputable def orcFa : Orc := orElse 154 (flatSpec absL) (orElse 152 (flatSpec nanL) orcCm)
set_option maxRecDepth 100000 in
theorem orcFa_ok : OrcOk Tryz.prog orcFa := by
 refine flatSpec_ok (fun l v h => ?_) (flatSpec_ok (fun l v h => ?_) orcCm_ok)
 ·unfold absL at h
  split at h
  ·cases h
   exact ⟨rfl, rfl, callC_ok mixed orcCm_ok (noAsks_ok _) (Eq.mpr (abs_run _ _) rfl)⟩
  ·cases h
 ·unfold nanL at h
  split at h
  ·cases h
   exact ⟨rfl, rfl, callC_ok mixed orcCm_ok (noAsks_ok _) (Eq.mpr (isNaN_run _ _) rfl)⟩
  ·cases h
theorem isInf_run (b : Nat) (K : Value → AHeap → Prop) : callC Tryz.prog (exec Tryz.prog orcFa 10) (syOf []) noAsks (noLoops _) 20 153 #[.float .f64 b, .int .i64 0] (emp Tryz.prog) K = K (.bool (gtF (absE b) maxF)) (emp Tryz.prog) := by kernel_rfl
theorem trunc_run (b : Nat) (K : Value → AHeap → Prop) : callC Tryz.prog (exec Tryz.prog orcFa 10) (syOf [(4, 14)]) noAsks (noLoops _) 20 155 #[.float .f64 b] (emp Tryz.prog) K =
 (pureRun Tryz.prog (callFunc 165 #[.float .f64 b]) = some (.value (.float .f64 (trF b))) ∧ K (.float .f64 (trF b)) (emp Tryz.prog)) := by kernel_rfl
theorem archTrunc_run (b : Nat) : pureRun Tryz.prog (callFunc 165 #[.float .f64 b]) = pureRun Tryz.prog (do pure (.value (← Extern.MathFloor.toIntegral "math.archTrunc" .zero #[.float .f64 b]))) := by kernel_rfl
theorem toIntegral_eq (b : Nat) : Extern.MathFloor.toIntegral "math.archTrunc" .zero #[.float .f64 b] = (match FloatKind.f64.decode b with
  | .nan s t => if FloatKind.f64.format.quiet t = t then pure (.float .f64 b) else do
   let kept ← choose (.extern "math.Floor,Ceil,Trunc,RoundToEven.signallingNaN kept" 2)
   pure (.float .f64 (if kept == 1 then b else FloatKind.f64.encode (.nan s (FloatKind.f64.format.quiet t))))
  | d => pure (.float .f64 (FloatKind.f64.encode (d.integral .zero))) : Sem Value) := by kernel_rfl
theorem trunc_some {b : Nat} (hb : (FloatKind.f64.decode b).isNaN = false) : pureRun Tryz.prog (callFunc 165 #[.float .f64 b]) = some (.value (.float .f64 (trF b))) := by
 have e : pureRun Tryz.prog (Extern.MathFloor.toIntegral "math.archTrunc" .zero #[.float .f64 b]) = some (.float .f64 (trF b)) := by
  rw [toIntegral_eq]
  have e1 : trF b = FloatKind.f64.encode ((FloatKind.f64.decode b).integral .zero) := rfl
  rw [e1]
  cases hd : FloatKind.f64.decode b with
  | nan s t => rw [hd] at hb; cases hb
  | number s m e => rfl
  | infinity s => rfl
 rw [archTrunc_run, pureRun_bind, e]
 rfl
theorem trunc_nan (b : Nat) (hb : (FloatKind.f64.decode b).isNaN = true) (w : World) : ∃ r n, (callFunc 165 #[.float .f64 b]).run Tryz.prog w = .ok (.value (.float .f64 r)) { w with drawn := n } := by
 have e0 : (callFunc 165 #[.float .f64 b]).run Tryz.prog w = (do pure (.value (← Extern.MathFloor.toIntegral "math.archTrunc" .zero #[.float .f64 b])) : Sem Next).run Tryz.prog w := by kernel_rfl
 rw [e0, toIntegral_eq]
 cases hd : FloatKind.f64.decode b with
 | number s m e => rw [hd] at hb; cases hb
 | infinity s => rw [hd] at hb; cases hb
 | nan s t =>
  by_cases hq : FloatKind.f64.format.quiet t = t
  ·exact ⟨b, w.drawn, by simp only [hq, if_true]; rfl⟩
  ·refine ⟨if (Question.cut (.extern "math.Floor,Ceil,Trunc,RoundToEven.signallingNaN kept" 2) (w.tape w.drawn (.extern "math.Floor,Ceil,Trunc,RoundToEven.signallingNaN kept" 2))) == 1 then b else FloatKind.f64.encode (.nan s (FloatKind.f64.format.quiet t)), w.drawn + 1, ?_⟩
   simp only [hq, if_false]
   rfl
theorem truncN_run (b : Nat) (K : Value → AHeap → Prop) : callC Tryz.prog (exec Tryz.prog orcFa 10) (syOf [(4, 20)]) noAsks (noLoops _) 20 155 #[.float .f64 b] (emp Tryz.prog) K =
 ((∀ w : World, ∃ r n, (callFunc 165 #[.float .f64 b]).run Tryz.prog w = .ok (.value (.float .f64 r)) { w with drawn := n }) ∧ ∀ r, K (.float .f64 r) (emp Tryz.prog)) := by kernel_rfl
set_option maxRecDepth 100000 in
theorem trunc_rel {b : Nat} (hb : (FloatKind.f64.decode b).isNaN = true) : RelF Tryz.prog 155 #[.float .f64 b] :=
 RelF.of_call rfl (callC_ok mixed orcFa_ok (noAsks_ok _) (Eq.mpr (truncN_run b _) ⟨trunc_nan b hb, fun r => ⟨r, rfl⟩⟩))
end Go.Proofs.YthgojmebbhpbbaaGreatDoor
namespace Go.Proofs.YthgojmebbhpbbaaGreatDoor
open Go Go.Am
noncomputable def infL : List Value → Option Value
 | [.float .f64 b, .int .i64 z] => match ieq z 0 with
  | true => some (.bool (gtF (absE b) maxF))
  | false => none
 | _ => none
noncomputable def orcFb : Orc := orElse 153 (flatSpec infL) orcFa
set_option maxRecDepth 100000 in
theorem orcFb_ok : OrcOk Tryz.prog orcFb := by
 refine flatSpec_ok (fun l v h => ?_) orcFa_ok
 unfold infL at h
 split at h
 ·rename_i b z
  split at h
  ·rename_i hz
   rw [ieq_dec] at hz
   obtain rfl : z = 0 := by simpa using hz
   cases h
   exact ⟨rfl, rfl, callC_ok mixed orcFa_ok (noAsks_ok _) (Eq.mpr (isInf_run _ _) rfl)⟩
  ·cases h
 ·cases h
noncomputable def cvt (x : Nat) : Nat := (floatToFloatBits .f32 x .f64).getD 0
theorem finite_run (x : Nat) (K : Value → AHeap → Prop) : callC Tryz.prog (exec Tryz.prog orcFb 10) (syOf [(5, 11), (7, 1), (10, 1)]) noAsks (noLoops _) 20 145 #[.float .f32 x] (emp Tryz.prog) K =
 ((floatToFloatBits .f32 x .f64).isSome = true ∧ (neF (cvt x) (cvt x) = true → K (gi 1) (emp Tryz.prog)) ∧ (neF (cvt x) (cvt x) = false → (gtF (absE (cvt x)) maxF = true → K (gi 1) (emp Tryz.prog)) ∧ (gtF (absE (cvt x)) maxF = false → K (gi 0) (emp Tryz.prog)))) := by kernel_rfl
theorem finite_nan (x : Nat) (K : Value → AHeap → Prop) : callC Tryz.prog (exec Tryz.prog orcFb 10) (syOf [(5, 20), (7, 1), (10, 1)]) noAsks (noLoops _) 20 145 #[.float .f32 x] (emp Tryz.prog) K =
 ((FloatKind.f32.decode x).isNaN = true ∧ ∀ r, nanOf .f64 r → (neF r r = true → K (gi 1) (emp Tryz.prog)) ∧ (neF r r = false → (gtF (absE r) maxF = true → K (gi 1) (emp Tryz.prog)) ∧ (gtF (absE r) maxF = false → K (gi 0) (emp Tryz.prog)))) := by kernel_rfl
end Go.Proofs.YthgojmebbhpbbaaGreatDoor
namespace Go.Proofs.YthgojmebbhpbbaaGreatDoor
open Go Go.Am Ieee
theorem absE_mod (b : Nat) : absE b = b % 2 ^ 63 := by
 have e : (BitVec.ofInt 64 (b : Int) &&& ~~~BitVec.ofInt 64 9223372036854775808).toNat = b % 2 ^ 63 := by
  rw [BitVec.toNat_and]
  rw [show (~~~BitVec.ofInt 64 9223372036854775808).toNat = 2 ^ 63 - 1 by decide +kernel, Nat.and_two_pow_sub_one_eq_mod]
  rw [show (BitVec.ofInt 64 (b : Int)).toNat = b % 2 ^ 64 by rw [BitVec.ofInt_natCast, BitVec.toNat_ofNat]]
  omega
 unfold absE
 rw [e]
 simp [IntKind.wrap, IntKind.signed, IntKind.bits]
 omega
noncomputable def sclE (x : Nat) : Nat := (floatBits .mul .f64 d16 (cvt x)).getD 0
noncomputable def badE (x : Nat) : Bool := gtF (absE (sclE x)) c16 || neF (sclE x) (trF (sclE x))
noncomputable def truncL : List Value → Option Value
 | [.float .f64 b] => match (FloatKind.f64.decode b).isNaN with
  | false => some (.float .f64 (trF b))
  | true => none
 | _ => none
noncomputable def orcT : Orc := orElse 155 (flatSpec truncL) orcFb
set_option maxRecDepth 100000 in
theorem orcT_ok : OrcOk Tryz.prog orcT := by
 refine flatSpec_ok (fun l v h => ?_) orcFb_ok
 unfold truncL at h
 split at h
 ·split at h
  ·rename_i b hb
   cases h
   exact ⟨rfl, rfl, callC_ok mixed orcFa_ok (noAsks_ok _) (Eq.mpr (trunc_run _ _) ⟨trunc_some hb, rfl⟩)⟩
  ·cases h
 ·cases h
noncomputable def askT : Asks := fun f args h k => match Nat.beq f 155 with
 | true => match args.toList with
  | [.float .f64 b] => (FloatKind.f64.decode b).isNaN = false ∧ k (.float .f64 (trF b)) h
  | _ => False
 | false => False
theorem askT_ok : AsksOk orcT askT := by
 intro f args h k hk
 unfold askT at hk
 split at hk
 ·rename_i hf
  split at hk
  ·rename_i b ha
   refine ⟨_, h, ?_, hk.2⟩
   have hf : Nat.beq 155 f = true := by rw [Nat.eq_of_beq_eq_true hf]; simp
   simp only [orcT, orElse, hf, flatSpec, ha, truncL, hk.1, Option.map_some]
  ·exact hk.elim
 ·exact hk.elim
theorem six_run (x : Nat) (K : Value → AHeap → Prop) : callC Tryz.prog (exec Tryz.prog orcT 10) (syOf [(7, 11), (8, 12), (12, 1), (16, 7), (17, 1)]) askT (noLoops _) 20 146 #[.float .f32 x, .float .f64 c16] (emp Tryz.prog) K =
 ((floatToFloatBits .f32 x .f64).isSome = true ∧ (floatBits .mul .f64 d16 (cvt x)).isSome = true ∧ (gtF (absE (sclE x)) c16 = true → K (gi 3) (emp Tryz.prog)) ∧
  (gtF (absE (sclE x)) c16 = false → (FloatKind.f64.decode (sclE x)).isNaN = false ∧ (neF (sclE x) (trF (sclE x)) = true → K (gi 3) (emp Tryz.prog)) ∧ (neF (sclE x) (trF (sclE x)) = false → K (gi 0) (emp Tryz.prog)))) := by kernel_rfl
theorem six_nan (x : Nat) (K : Value → AHeap → Prop) : callC Tryz.prog (exec Tryz.prog orcFb 10) (syOf [(7, 20), (8, 20), (12, 1), (16, 22), (17, 31)]) noAsks (noLoops _) 20 146 #[.float .f32 x, .float .f64 c16] (emp Tryz.prog) K =
 ((FloatKind.f32.decode x).isNaN = true ∧ ∀ r, nanOf .f64 r → floatBits .mul .f64 d16 r = none ∧ ∀ q, nanOf .f64 q → (gtF (absE q) c16 = true → K (gi 3) (emp Tryz.prog)) ∧
  (gtF (absE q) c16 = false → RelF Tryz.prog 155 #[.float .f64 q] ∧ ∀ t, neF q t = true ∧ K (gi 3) (emp Tryz.prog))) := by kernel_rfl
theorem part_run (x : Nat) (K : Value → AHeap → Prop) : callC Tryz.prog (exec Tryz.prog orcFb 10) (syOf [(8, 12), (9, 32), (11, 11), (12, 12), (17, 1), (22, 1), (26, 13), (29, 1)]) noAsks (noLoops _) 20 137 #[.float .f32 x, gi 16384] (emp Tryz.prog) K =
 ((floatBits .sub .f32 x x).isSome = true ∧ (single.order ((floatBits .sub .f32 x x).getD 0) 0 != some .eq) = false ∧ (floatToFloatBits .f32 x .f64).isSome = true ∧ (floatBits .mul .f64 d16 (cvt x)).isSome = true ∧
  (ltF (sclE x) m16 = true → K (gi 3) (emp Tryz.prog)) ∧ (ltF (sclE x) m16 = false → (gtF (sclE x) c16 = true → K (gi 3) (emp Tryz.prog)) ∧ (gtF (sclE x) c16 = false →
   (floatToIntVal .f64 (sclE x) .i64).isSome = true ∧ (neF (ofI ((floatToIntVal .f64 (sclE x) .i64).getD 0)) (sclE x) = true → K (gi 3) (emp Tryz.prog)) ∧ (neF (ofI ((floatToIntVal .f64 (sclE x) .i64).getD 0)) (sclE x) = false → K (gi 0) (emp Tryz.prog))))) := by kernel_rfl
theorem part_nan (x : Nat) (K : Value → AHeap → Prop) : callC Tryz.prog (exec Tryz.prog orcFb 10) (syOf [(8, 20), (9, 31)]) noAsks (noLoops _) 20 137 #[.float .f32 x, gi 16384] (emp Tryz.prog) K =
 (floatBits .sub .f32 x x = none ∧ ∀ r, nanOf .f32 r → (single.order r 0 != some .eq) = true ∧ K (gi 1) (emp Tryz.prog)) := by kernel_rfl
end Go.Proofs.YthgojmebbhpbbaaGreatDoor
namespace Go.Proofs.YthgojmebbhpbbaaGreatDoor
open Go Go.Am Ieee
noncomputable def finB (x : Nat) : Bool := Nat.blt (x % 2147483648) 2139095040
theorem finB_iff {x : Nat} : finB x = true ↔ fin32 x := by
 unfold finB fin32
 rw [Nat.blt_eq]
noncomputable def finE (x : Nat) : Int := bif finB x then 0 else 1
noncomputable def sixE (x : Nat) : Int := bif (single.read x).isNaN then 3 else whenS (badE x) 3
noncomputable def smpE (x : Nat) : Int := bif finB x then whenS (badE x) 3 else 1
theorem le_mul_pow {r a K : Nat} (h : r ≤ a) : r ≤ a * 2 ^ K := Nat.le_trans (by rw [Nat.mul_one]; exact h) (Nat.mul_le_mul_left a (Nat.two_pow_pos K))
theorem mv_max {r : Nat} (h : r < 2047 * 2 ^ 52) : mv r ≤ mv maxF := by
 obtain ⟨A, K, e, hA, hK⟩ : ∃ A K : Nat, mv maxF = A * 2 ^ K ∧ A = 9007199254740991 ∧ K = 2045 := ⟨9007199254740991, 2045, by decide +kernel, rfl, rfl⟩
 rw [e]
 unfold mv
 split
 ·rename_i hr
  exact le_mul_pow (by omega)
 ·rename_i hr
  exact Nat.mul_le_mul (by omega) (Nat.pow_le_pow_right (by decide) (by omega))
theorem gt_max_fin {c : Nat} (h : fin64 c) : gtF (c % 2 ^ 63) maxF = false := by
 obtain ⟨a1, a2⟩ := abs_fin h
 have hm : fin64 maxF := show maxF % 2 ^ 63 < 2047 * 2 ^ 52 by decide +kernel
 have hd : dv maxF = (mv maxF : Int) := by
  have h2 : maxF / 2 ^ 63 % 2 ≠ 1 := by decide +kernel
  have h3 : maxF % 2 ^ 63 = maxF := by decide +kernel
  unfold dv
  rw [if_neg h2, h3]
 rw [gtF_fin a1 hm, a2, hd]
 have := mv_max h
 exact decide_eq_false (by omega)
theorem gt_max_inf {c : Nat} (h : inf64 c) : gtF (c % 2 ^ 63) maxF = true := by
 have hm : fin64 maxF := show maxF % 2 ^ 63 < 2047 * 2 ^ 52 by decide +kernel
 have h1 : inf64 (c % 2 ^ 63) := by unfold inf64 at h ⊢; rw [Nat.mod_mod]; exact h
 have h2 : c % 2 ^ 63 / 2 ^ 63 % 2 = 0 := by
  rw [Nat.div_eq_of_lt (Nat.mod_lt _ (Nat.two_pow_pos _))]
 unfold gtF
 rw [order_inf_fin h1 hm, h2]
 rfl
theorem cvt_eq {x c : Nat} (h : floatToFloatBits .f32 x .f64 = some c) : cvt x = c := by unfold cvt; rw [h]; rfl
theorem not_nan_fin {y : Nat} (h : fin64 y) : (FloatKind.f64.decode y).isNaN = false := by
 obtain ⟨m, a, e, _⟩ := read_fin h
 rw [show FloatKind.f64.decode y = double.read y from rfl, e]
 rfl
theorem not_nan_inf {y : Nat} (h : inf64 y) : (FloatKind.f64.decode y).isNaN = false := by
 rw [show FloatKind.f64.decode y = double.read y from rfl, read_inf h]
 rfl
theorem nan32_fin {x : Nat} (h : fin32 x) : (single.read x).isNaN = false := by
 obtain ⟨m, a, e, _⟩ := sread_fin h
 rw [e]
 rfl
theorem nan32_inf {x : Nat} (h : inf32 x) : (single.read x).isNaN = false := by
 rw [sread_inf h]
 rfl
theorem not_fin_inf {x : Nat} (h : inf32 x) : finB x = false := by
 cases hb : finB x with
 | false => rfl
 | true =>
  have := finB_iff.1 hb
  unfold fin32 at this
  unfold inf32 at h
  omega
theorem not_fin_nan {x : Nat} (h : ¬ fin32 x) : finB x = false := by
 cases hb : finB x with
 | false => rfl
 | true => exact absurd (finB_iff.1 hb) h
theorem first_smp (x : Nat) : firstS [finE x, sixE x] = smpE x := by
 unfold finE smpE sixE
 cases hb : finB x with
 | false => rfl
 | true =>
  rw [nan32_fin (finB_iff.1 hb)]
  simp only [cond_true, cond_false, firstS, show ieq 0 0 = true from rfl]
  cases badE x <;> rfl
set_option maxRecDepth 100000 in
theorem finite_call (x : Nat) : CallJ Tryz.prog 145 #[.float .f32 x] (emp Tryz.prog) (fun u _ => u = gi (finE x)) := by
 by_cases h : fin32 x
 ·obtain ⟨c, m, a, h1, h2, _⟩ := cvt_fin h
  refine callC_ok mixed orcFb_ok (noAsks_ok _) (Eq.mpr (finite_run x _) ?_)
  rw [cvt_eq h1, absE_mod, gt_max_fin h2, neF_fin h2 h2, h1]
  unfold finE
  rw [finB_iff.2 h]
  exact ⟨rfl, fun e => by simp at e, fun _ => ⟨fun e => by simp at e, fun _ => rfl⟩⟩
 ·by_cases h' : inf32 x
  ·obtain ⟨c, h1, h2⟩ := cvt_inf h'
   refine callC_ok mixed orcFb_ok (noAsks_ok _) (Eq.mpr (finite_run x _) ?_)
   rw [cvt_eq h1, absE_mod, gt_max_inf h2, h1]
   unfold finE
   rw [not_fin_inf h']
   exact ⟨rfl, fun _ => rfl, fun _ => ⟨fun _ => rfl, fun e => by simp at e⟩⟩
  ·refine callC_ok mixed orcFb_ok (noAsks_ok _) (Eq.mpr (finite_nan x _) ⟨nan32_iff h h', fun r hr => ⟨fun _ => ?_, fun e => ?_⟩⟩)
   ·unfold finE
    rw [not_fin_nan h]
    rfl
   ·rw [neF_nan hr] at e
    cases e
set_option maxRecDepth 100000 in
theorem six_call (x : Nat) : CallJ Tryz.prog 146 #[.float .f32 x, .float .f64 c16] (emp Tryz.prog) (fun u _ => u = gi (sixE x)) := by
 have key : ∀ y, (FloatKind.f64.decode y).isNaN = false → floatToFloatBits .f32 x .f64 = some (cvt x) → double.mul d16 (cvt x) = some y → (single.read x).isNaN = false →
   CallJ Tryz.prog 146 #[.float .f32 x, .float .f64 c16] (emp Tryz.prog) (fun u _ => u = gi (sixE x)) := by
  intro y hy h1 h2 h3
  have hm : floatBits .mul .f64 d16 (cvt x) = some y := h2
  have hs : sclE x = y := by unfold sclE; rw [hm]; rfl
  refine callC_ok mixed orcT_ok askT_ok (Eq.mpr (six_run x _) ?_)
  rw [h1, hm, hs]
  unfold sixE badE
  rw [h3, hs]
  cases gtF (absE y) c16 <;> cases neF y (trF y) <;> simp [hy, whenS]
 by_cases h : fin32 x
 ·obtain ⟨c, y, h1, _, h3, h4, _⟩ := scaled_fin h
  exact key y (not_nan_fin h4) (by rw [cvt_eq h1]; exact h1) (by rw [cvt_eq h1]; exact h3) (nan32_fin h)
 ·by_cases h' : inf32 x
  ·obtain ⟨c, y, h1, _, h3, h4⟩ := scaled_inf h'
   exact key y (not_nan_inf h4) (by rw [cvt_eq h1]; exact h1) (by rw [cvt_eq h1]; exact h3) (nan32_inf h')
  ·have hn := nan32_iff h h'
   refine callC_ok mixed orcFb_ok (noAsks_ok _) (Eq.mpr (six_nan x _) ⟨hn, fun r hr => ⟨mul_nan hr, fun q hq => ?_⟩⟩)
   have he : gi 3 = gi (sixE x) := by unfold sixE; rw [hn]; rfl
   exact ⟨fun _ => he, fun _ => ⟨trunc_rel hq, fun t => ⟨neF_nan hq, he⟩⟩⟩
theorem order_nan32 {r y : Nat} (h : (single.read r).isNaN = true) : (single.order r y != some .eq) = true := by
 unfold Format.order
 cases hx : single.read r with
 | nan s t => rfl
 | _ => rw [hx] at h; cases h
theorem abs_le_of {y : Nat} (h : fin64 y) (e1 : ltF y m16 = false) (e2 : gtF y c16 = false) : gtF (y % 2 ^ 63) c16 = false := by
 obtain ⟨a1, a2⟩ := abs_fin h
 have c2 := c16_ok.2
 have m2 := m16_ok.2
 generalize ((2 ^ 1074 : Nat) : Int) = U at c2 m2
 rw [ltF_fin h m16_ok.1, m2] at e1
 rw [gtF_fin h c16_ok.1, c2] at e2
 rw [gtF_fin a1 c16_ok.1, a2, c2]
 have e1 := of_decide_eq_false e1
 have e2 := of_decide_eq_false e2
 have hd := dv_abs y
 exact decide_eq_false (by rcases hd with e | e <;> omega)
set_option maxRecDepth 100000 in
theorem part_call (x : Nat) : CallJ Tryz.prog 137 #[.float .f32 x, gi 16384] (emp Tryz.prog) (fun u _ => u = gi (smpE x)) := by
 by_cases h : fin32 x
 ·obtain ⟨c, y, h1, _, h3, h4, _⟩ := scaled_fin h
  have hm : floatBits .mul .f64 d16 (cvt x) = some y := by rw [cvt_eq h1]; exact h3
  have hs : sclE x = y := by unfold sclE; rw [hm]; rfl
  have hsub : floatBits .sub .f32 x x = some 0 := sub_self h
  obtain ⟨i, p1, p2, p3⟩ := part_same h4
  refine callC_ok mixed orcFb_ok (noAsks_ok _) (Eq.mpr (part_run x _) ?_)
  have hsm : smpE x = whenS (ltF y m16 || (gtF y c16 || neF (ofI i) y)) 3 := by
   unfold smpE badE
   rw [finB_iff.2 h, hs, absE_mod, p3]
   rfl
  rw [h1, hm, hs, hsub, hsm]
  refine ⟨rfl, by decide +kernel, rfl, rfl, fun e => by rw [e]; rfl, fun e1 => ⟨fun e2 => by rw [e1, e2]; rfl, fun e2 => ?_⟩⟩
  have hi : i.natAbs ≤ 16384 := p2 (abs_le_of h4 e1 e2)
  have hv : floatToIntVal .f64 y .i64 = some i := by
   unfold floatToIntVal
   rw [show FloatKind.decode .f64 y = double.read y from rfl, p1]
   simp only
   rw [if_pos]
   rw [show IntKind.i64.min = -9223372036854775808 by decide, show IntKind.i64.max = 9223372036854775807 by decide]
   omega
  rw [hv]
  refine ⟨rfl, fun e3 => ?_, fun e3 => ?_⟩
  ·rw [show (some i).getD 0 = i from rfl] at e3
   rw [e1, e2, e3]; rfl
  ·rw [show (some i).getD 0 = i from rfl] at e3
   rw [e1, e2, e3]; rfl
 ·have key : floatBits .sub .f32 x x = none → CallJ Tryz.prog 137 #[.float .f32 x, gi 16384] (emp Tryz.prog) (fun u _ => u = gi (smpE x)) := fun hs =>
   callC_ok mixed orcFb_ok (noAsks_ok _) (Eq.mpr (part_nan x _) ⟨hs, fun r hr => ⟨order_nan32 hr, by unfold smpE; rw [not_fin_nan h]; rfl⟩⟩)
  by_cases h' : inf32 x
  ·exact key (sub_inf h')
  ·exact key (sub_nan (nan32_iff h h'))
end Go.Proofs.YthgojmebbhpbbaaGreatDoor
namespace Go.Proofs.YthgojmebbhpbbaaGreatDoor
open Go Go.Am
noncomputable def finL : List Value → Option Value
 | [.float .f32 x] => some (gi (finE x))
 | _ => none
noncomputable def sixL : List Value → Option Value
 | [.float .f32 x, .float .f64 m] => match Nat.beq m 4670232813583204352 with
  | true => some (gi (sixE x))
  | false => none
 | _ => none
noncomputable def partL : List Value → Option Value
 | [.float .f32 x, .int .i64 m] => match ieq m 16384 with
  | true => some (gi (smpE x))
  | false => none
 | _ => none
noncomputable def smpL : List Value → Option Value
 | [.float .f32 x] => some (gi (smpE x))
 | _ => none
noncomputable def orcU : Orc := orElse 137 (flatSpec partL) (orElse 146 (flatSpec sixL) (orElse 145 (flatSpec finL) orcCm))
set_option maxRecDepth 100000 in
theorem orcU_ok : OrcOk Tryz.prog orcU := by
 refine flatSpec_ok (fun l v h => ?_) (flatSpec_ok (fun l v h => ?_) (flatSpec_ok (fun l v h => ?_) orcCm_ok))
 ·unfold partL at h
  split at h
  ·split at h
   ·rename_i x m _ hm
    rw [ieq_dec] at hm
    obtain rfl : m = 16384 := by simpa using hm
    cases h
    exact ⟨rfl, rfl, part_call x⟩
   ·cases h
  ·cases h
 ·unfold sixL at h
  split at h
  ·split at h
   ·rename_i x m _ hm
    obtain rfl : m = c16 := Nat.eq_of_beq_eq_true hm
    cases h
    exact ⟨rfl, rfl, six_call x⟩
   ·cases h
  ·cases h
 ·unfold finL at h
  split at h
  ·cases h
   exact ⟨rfl, rfl, finite_call _⟩
  ·cases h
theorem smp_run (x : Nat) (K : Value → Prop) : callC Tryz.prog (exec Tryz.prog orcU 10) (syOf []) noAsks (noLoops _) 20 122 #[.float .f32 x] (emp Tryz.prog) (fun v _ => K v) = K (gi (firstS [finE x, sixE x])) := by kernel_rfl
theorem Smp_run (x : Nat) (K : Value → Prop) : callC Tryz.prog (exec Tryz.prog orcU 10) (syOf []) noAsks (noLoops _) 20 104 #[.float .f32 x] (emp Tryz.prog) (fun v _ => K v) = K (gi (smpE x)) := by kernel_rfl
noncomputable def orcV : Orc := orElse 104 (flatSpec smpL) (orElse 122 (flatSpec smpL) orcU)
set_option maxRecDepth 100000 in
theorem orcV_ok : OrcOk Tryz.prog orcV := by
 refine flatSpec_ok (fun l v h => ?_) (flatSpec_ok (fun l v h => ?_) orcU_ok)
 ·unfold smpL at h
  split at h
  ·cases h
   exact ⟨rfl, rfl, callC_ok mixed orcU_ok (noAsks_ok _) (Eq.mpr (Smp_run _ _) rfl)⟩
  ·cases h
 ·unfold smpL at h
  split at h
  ·cases h
   exact ⟨rfl, rfl, callC_ok mixed orcU_ok (noAsks_ok _) (Eq.mpr (smp_run _ _) (congrArg gi (first_smp _)))⟩
  ·cases h
noncomputable abbrev gf (x : Nat) : Value := .float .f32 x
noncomputable def dF : Value → Option Nat
 | .float .f32 x => some x
 | _ => none
theorem dF_some (v : Value) (x : Nat) (h : dF v = some x) : v = gf x := by
 unfold dF at h
 split at h
 ·cases h; rfl
 ·cases h
noncomputable def smpsE (l : List Nat) : Int := firstS (l.map smpE)
theorem float_at {l : List Nat} {j : Nat} (hj : j < l.length) : (l.map gf)[0 + j * 1]? = some (.float .f32 (floatAt (l.map gf) (0 + j * 1))) ∧ floatAt (l.map gf) (0 + j * 1) = l[j] := by
 have e : (l.map gf)[0 + j * 1]? = some (gf l[j]) := by
  rw [Nat.zero_add, Nat.mul_one, List.getElem?_map, List.getElem?_eq_getElem hj]
  rfl
 constructor
 ·unfold floatAt; rw [e]
 ·unfold floatAt; rw [e]
noncomputable abbrev flS : Value := .func (.func 122) #[] #[]
end Go.Proofs.YthgojmebbhpbbaaGreatDoor
namespace Go.Proofs.YthgojmebbhpbbaaGreatDoor
open Go Go.Am
theorem fe_body (c : List Value) (e row n k j : Nat) (g : Nat → Value) (Q : Exit → List Value → AHeap → Prop) :
  execC Tryz.prog (exec Tryz.prog orcV 10) (syOf [(11, 1), (12, 2), (13, 3), (18, 1)]) noAsks (noLoops _) 40 (loopOf Tryz.prog 121 0) (stOf 21 [(1, flS), (4, gi 0), (8, liP n k), (9, goN n), (10, goN j)] g) (liH c e row) (told 21 [1, 4, 8, 9, 10] Q) =
  ((Nat.blt j n = true → Nat.blt j n = true ∧ c[0 + j * 1]? = some (.float .f32 (floatAt c (0 + j * 1))) ∧
   ((!ieq (smpE (floatAt c (0 + j * 1))) 0) = true → Q .ret [flS, gi (smpE (floatAt c (0 + j * 1))), liP n k, goN n, goN j] (liH c e row)) ∧
   ((!ieq (smpE (floatAt c (0 + j * 1))) 0) = false → Q .normal [flS, gi 0, liP n k, goN n, .int .i64 (fwrap .i64 (Int.ofNat (j + 1)))] (liH c e row))) ∧
   (Nat.blt j n = false → Q (.exit 0) [flS, gi 0, liP n k, goN n, goN j] (liH c e row))) := by kernel_rfl
theorem ca_body (c : List Value) (e row n k j : Nat) (g : Nat → Value) (Q : Exit → List Value → AHeap → Prop) :
  execC Tryz.prog (exec Tryz.prog orcV 10) (syOf [(8, 1), (13, 2), (14, 3), (17, 1)]) noAsks (noLoops _) 40 (loopOf Tryz.prog 54 0) (stOf 19 [(0, liP n k), (2, gi 0), (3, goN j)] g) (liH c e row) (told 19 [0, 2, 3] Q) =
  ((Nat.blt j n = true → Nat.blt j n = true ∧ c[0 + j * 1]? = some (.float .f32 (floatAt c (0 + j * 1))) ∧
   ((!ieq (smpE (floatAt c (0 + j * 1))) 0) = true → Q .ret [liP n k, gi (smpE (floatAt c (0 + j * 1))), goN j] (liH c e row)) ∧
   ((!ieq (smpE (floatAt c (0 + j * 1))) 0) = false → Q .normal [liP n k, gi 0, .int .i64 (fwrap .i64 (Int.ofNat (j + 1)))] (liH c e row))) ∧
   (Nat.blt j n = false → Q (.exit 0) [liP n k, gi 0, goN j] (liH c e row))) := by kernel_rfl
theorem smps_step {l : List Nat} {n j : Nat} (hn : n ≤ l.length) (hj : j < n) (hf : smpsE (l.take n) = firstS (((l.take n).map smpE).drop j)) :
  smpsE (l.take n) = bif ieq (smpE l[j]) 0 then firstS (((l.take n).map smpE).drop (j + 1)) else smpE l[j] := by
 have hlen : j < ((l.take n).map smpE).length := by simp; omega
 rw [hf, firstS_drop hlen]
 simp
theorem smps_end {l : List Nat} {n j : Nat} (hj : n ≤ j) : firstS (((l.take n).map smpE).drop j) = 0 := firstS_end (by simp; omega)
set_option maxRecDepth 100000 in
theorem fe_loop (l : List Nat) (n e row k : Nat) (hn : n ≤ l.length) (hl : n ≤ 1000000) : ∀ a : AAct, a.n = 21 → a.marks = [] → [1, 4, 8, 9, 10].map a.tmp = [flS, gi 0, liP n k, goN n, goN 0] →
  J Tryz.prog (.loop (loopOf Tryz.prog 121 0)) a (liH (l.map gf) e row) (told 21 [1, 4, 8, 9, 10] fun ex vs h => h = liH (l.map gf) e row ∧ ((ex = .exit 0 ∧ smpsE (l.take n) = 0) ∨ (ex = .ret ∧ ∃ j, vs = [flS, gi (smpsE (l.take n)), liP n k, goN n, goN j]))) := by
 intro a ha hm hv
 refine loop_rule (fun m vs h => ∃ j, j ≤ n ∧ m = n - j ∧ vs = [flS, gi 0, liP n k, goN n, goN j] ∧ h = liH (l.map gf) e row ∧ smpsE (l.take n) = firstS (((l.take n).map smpE).drop j)) _ ?_ n _ _ a ⟨0, Nat.zero_le _, rfl, rfl, rfl, rfl⟩ ha hm hv
 rintro m vs h g ⟨j, hj, rfl, rfl, rfl, hf⟩
 refine execC_ok mixed orcV_ok (noAsks_ok _) (noLoops _) (Eq.mpr (fe_body _ e row _ k j g _) ?_)
 refine ⟨fun hlt => ?_, fun hge => ?_⟩
 ·have hj' := blt_true hlt
  obtain ⟨h1, h2⟩ := float_at (l := l) (j := j) (by omega)
  have hs := smps_step hn hj' hf
  rw [h2]
  refine ⟨hlt, h2 ▸ h1, fun h3 => ⟨rfl, .inr ⟨rfl, j, ?_⟩⟩, fun h3 => ?_⟩
  ·rw [hs, show ieq (smpE l[j]) 0 = false by simpa using h3]
   rfl
  ·rw [fwrap_nat (by omega)]
   refine ⟨n - (j + 1), by omega, j + 1, hj', rfl, rfl, rfl, ?_⟩
   rw [hs, show ieq (smpE l[j]) 0 = true by simpa using h3]
   rfl
 ·exact ⟨rfl, .inl ⟨rfl, by rw [hf, smps_end (blt_false hge)]⟩⟩
set_option maxRecDepth 100000 in
theorem ca_loop (l : List Nat) (n e row k : Nat) (hn : n ≤ l.length) (hl : n ≤ 1000000) : ∀ a : AAct, a.n = 19 → a.marks = [] → [0, 2, 3].map a.tmp = [liP n k, gi 0, goN 0] →
  J Tryz.prog (.loop (loopOf Tryz.prog 54 0)) a (liH (l.map gf) e row) (told 19 [0, 2, 3] fun ex vs h => h = liH (l.map gf) e row ∧ ((ex = .exit 0 ∧ smpsE (l.take n) = 0) ∨ (ex = .ret ∧ ∃ j, vs = [liP n k, gi (smpsE (l.take n)), goN j]))) := by
 intro a ha hm hv
 refine loop_rule (fun m vs h => ∃ j, j ≤ n ∧ m = n - j ∧ vs = [liP n k, gi 0, goN j] ∧ h = liH (l.map gf) e row ∧ smpsE (l.take n) = firstS (((l.take n).map smpE).drop j)) _ ?_ n _ _ a ⟨0, Nat.zero_le _, rfl, rfl, rfl, rfl⟩ ha hm hv
 rintro m vs h g ⟨j, hj, rfl, rfl, rfl, hf⟩
 refine execC_ok mixed orcV_ok (noAsks_ok _) (noLoops _) (Eq.mpr (ca_body _ e row _ k j g _) ?_)
 refine ⟨fun hlt => ?_, fun hge => ?_⟩
 ·have hj' := blt_true hlt
  obtain ⟨h1, h2⟩ := float_at (l := l) (j := j) (by omega)
  have hs := smps_step hn hj' hf
  rw [h2]
  refine ⟨hlt, h2 ▸ h1, fun h3 => ⟨rfl, .inr ⟨rfl, j, ?_⟩⟩, fun h3 => ?_⟩
  ·rw [hs, show ieq (smpE l[j]) 0 = false by simpa using h3]
   rfl
  ·rw [fwrap_nat (by omega)]
   refine ⟨n - (j + 1), by omega, j + 1, hj', rfl, rfl, rfl, ?_⟩
   rw [hs, show ieq (smpE l[j]) 0 = true by simpa using h3]
   rfl
 ·exact ⟨rfl, .inl ⟨rfl, by rw [hf, smps_end (blt_false hge)]⟩⟩
noncomputable def feLoops (l : List Nat) (n e row k : Nat) : Loops Tryz.prog where
 body := fun _ => loopOf Tryz.prog 121 0
 spec := fun _ a h c => entry a 21 [(1, flS), (4, gi 0), (8, liP n k), (9, goN n), (10, goN 0)] (h = liH (l.map gf) e row ∧ n ≤ l.length ∧ n ≤ 1000000 ∧ (smpsE (l.take n) = 0 → ∀ g, c (.exit 0) (stOf 21 [] g) (liH (l.map gf) e row)) ∧ ∀ g, c .ret (stOf 21 [(4, gi (smpsE (l.take n)))] g) (liH (l.map gf) e row))
 ok := fun i a h c q => by
  obtain ⟨h1, h2, h3, rfl, hs, hs2, h4, h5⟩ := entry_facts q
  refine J.of_told (fe_loop l n e row k hs hs2 a h1 h2 ?_) ?_
  ·simp only [List.map_cons, List.map_nil]
   rw [h3 (1, flS) (by simp), h3 (4, gi 0) (by simp), h3 (8, liP n k) (by simp), h3 (9, goN n) (by simp), h3 (10, goN 0) (by simp)]
  ·rintro ex vs h' g ⟨rfl, ⟨rfl, ha⟩ | ⟨rfl, j, rfl⟩⟩
   ·exact h4 ha (ov ([1, 4, 8, 9, 10].zip vs) g)
   ·exact h5 (ov [(1, flS), (8, liP n k), (9, goN n), (10, goN j)] g)
noncomputable def caLoops (l : List Nat) (n e row k : Nat) : Loops Tryz.prog where
 body := fun _ => loopOf Tryz.prog 54 0
 spec := fun _ a h c => entry a 19 [(0, liP n k), (2, gi 0), (3, goN 0)] (h = liH (l.map gf) e row ∧ n ≤ l.length ∧ n ≤ 1000000 ∧ (smpsE (l.take n) = 0 → ∀ g, c (.exit 0) (stOf 19 [] g) (liH (l.map gf) e row)) ∧ ∀ g j, c .ret (stOf 19 [(0, liP n k), (2, gi (smpsE (l.take n))), (3, goN j)] g) (liH (l.map gf) e row))
 ok := fun i a h c q => by
  obtain ⟨h1, h2, h3, rfl, hs, hs2, h4, h5⟩ := entry_facts q
  refine J.of_told (ca_loop l n e row k hs hs2 a h1 h2 ?_) ?_
  ·simp only [List.map_cons, List.map_nil]
   rw [h3 (0, liP n k) (by simp), h3 (2, gi 0) (by simp), h3 (3, goN 0) (by simp)]
  ·rintro ex vs h' g ⟨rfl, ⟨rfl, ha⟩ | ⟨rfl, j, rfl⟩⟩
   ·exact h4 ha (ov ([0, 2, 3].zip vs) g)
   ·exact h5 g j
theorem fe_run (l : List Nat) (n e row k : Nat) (K : Value → AHeap → Prop) : callC Tryz.prog (exec Tryz.prog orcV 10) (syOf []) noAsks (feLoops l n e row k) 40 121 #[liP n k, flS] (liH (l.map gf) e row) K =
 (loopOf Tryz.prog 121 0 = loopOf Tryz.prog 121 0 ∧ flS = flS ∧ gi 0 = gi 0 ∧ liP n k = liP n k ∧ goN n = goN n ∧ goN 0 = goN 0 ∧ liH (l.map gf) e row = liH (l.map gf) e row ∧ n ≤ l.length ∧ n ≤ 1000000 ∧
  (smpsE (l.take n) = 0 → ∀ _ : Nat → Value, K (gi 0) (liH (l.map gf) e row)) ∧ ∀ _ : Nat → Value, K (gi (smpsE (l.take n))) (liH (l.map gf) e row)) := by kernel_rfl
theorem ca_run (l : List Nat) (n e row k : Nat) (K : Value → AHeap → Prop) : callC Tryz.prog (exec Tryz.prog orcV 10) (syOf []) noAsks (caLoops l n e row k) 40 54 #[liP n k] (liH (l.map gf) e row) K =
 (loopOf Tryz.prog 54 0 = loopOf Tryz.prog 54 0 ∧ liP n k = liP n k ∧ gi 0 = gi 0 ∧ goN 0 = goN 0 ∧ liH (l.map gf) e row = liH (l.map gf) e row ∧ n ≤ l.length ∧ n ≤ 1000000 ∧
  (smpsE (l.take n) = 0 → ∀ _ : Nat → Value, K (gi 0) (liH (l.map gf) e row)) ∧ ∀ (_ : Nat → Value) (_ : Nat), K (gi (smpsE (l.take n))) (liH (l.map gf) e row)) := by kernel_rfl
theorem fe_nil : (call Tryz.prog orcV 40 121 #[.slice none 0 0, flS] (emp Tryz.prog)).map (·.1) = some (gi 0) := by kernel_rfl
theorem fe_emp (k : Nat) : (call Tryz.prog orcV 40 121 #[.slice (some ⟨0, 0, none⟩) 0 k, flS] (emp Tryz.prog)).map (·.1) = some (gi 0) := by kernel_rfl
theorem ca_nil : (call Tryz.prog orcV 40 54 #[.slice none 0 0] (emp Tryz.prog)).map (·.1) = some (gi 0) := by kernel_rfl
theorem ca_emp (k : Nat) : (call Tryz.prog orcV 40 54 #[.slice (some ⟨0, 0, none⟩) 0 k] (emp Tryz.prog)).map (·.1) = some (gi 0) := by kernel_rfl
noncomputable def feT : List Value → Bool
 | [.func (.func f) a b] => Nat.beq f 122 && a.isEmpty && b.isEmpty
 | _ => false
def noT : List Value → Bool
 | [] => true
 | _ => false
noncomputable def smpsR : List Nat → List Value → Value := fun l _ => gi (smpsE l)
theorem feT_some {r : List Value} (h : feT r = true) : r = [flS] := by
 unfold feT at h
 split at h
 ·simp only [Bool.and_eq_true, Nat.beq_eq, Array.isEmpty_iff] at h
  obtain ⟨⟨rfl, rfl⟩, rfl⟩ := h
  rfl
 ·cases h
theorem noT_some {r : List Value} (h : noT r = true) : r = [] := by
 unfold noT at h
 split at h
 ·rfl
 ·cases h
theorem globs_pos : 0 < Tryz.prog.globals.size := of_decide_eq_true (by kernel_rfl)
noncomputable def orcWa : Orc := orElse 121 (sliceO dF 1000000 feT smpsR) orcV
set_option maxRecDepth 100000 in
theorem orcWa_ok : OrcOk Tryz.prog orcWa := by
 refine sliceO_ok dF_some (fun _ => rfl) globs_pos orcV_ok (fun _ _ _ => rfl) ?_ ?_ ?_
 ·intro r h; obtain rfl := feT_some h; exact CallJ.of_call mixed orcV_ok fe_nil fun _ => rfl
 ·intro r k h; obtain rfl := feT_some h; exact CallJ.of_call mixed orcV_ok (fe_emp k) fun _ => rfl
 ·intro l n r el row k h0 h1 h2 _ h
  obtain rfl := feT_some h
  exact callC_ok mixed orcV_ok (noAsks_ok _) (Eq.mpr (fe_run l n el row k _) ⟨rfl, rfl, rfl, rfl, rfl, rfl, rfl, h1, h2, fun h _ => by unfold smpsR; rw [h], fun _ => rfl⟩)
noncomputable def orcW : Orc := orElse 54 (sliceO dF 1000000 noT smpsR) orcWa
set_option maxRecDepth 100000 in
theorem orcW_ok : OrcOk Tryz.prog orcW := by
 refine sliceO_ok dF_some (fun _ => rfl) globs_pos orcWa_ok (fun _ _ _ => rfl) ?_ ?_ ?_
 ·intro r h; obtain rfl := noT_some h; exact CallJ.of_call mixed orcV_ok ca_nil fun _ => rfl
 ·intro r k h; obtain rfl := noT_some h; exact CallJ.of_call mixed orcV_ok (ca_emp k) fun _ => rfl
 ·intro l n r el row k h0 h1 h2 _ h
  obtain rfl := noT_some h
  exact callC_ok mixed orcV_ok (noAsks_ok _) (Eq.mpr (ca_run l n el row k _) ⟨rfl, rfl, rfl, rfl, rfl, h1, h2, fun h _ => by unfold smpsR; rw [h], fun _ _ => rfl⟩)
noncomputable def askWa : Asks := asksO 121 gf 1000000 feT smpsR noAsks
theorem askWa_ok : AsksOk orcWa askWa := asksO_ok (d := dF) (e := gf) (fun _ => rfl) (noAsks_ok _)
noncomputable def askW : Asks := asksO 54 gf 1000000 noT smpsR askWa
theorem askW_ok : AsksOk orcW askW := asksO_ok (d := dF) (e := gf) (fun _ => rfl) askWa_ok
end Go.Proofs.YthgojmebbhpbbaaGreatDoor
namespace Go.Proofs.YthgojmebbhpbbaaGreatDoor
open Go Go.Am
noncomputable def minI (n : Nat) : Int := if (4096 : Int) < (n : Int) then 4096 else (n : Int)
theorem cs_run (l : List Nat) (n e row k : Nat) (K : Value → Prop) : callC Tryz.prog (exec Tryz.prog orcW 10) (syOf [(8, 7)]) askW (noLoops _) 20 87 #[liP n k] (liH (l.map gf) e row) (fun v _ => K v) =
 (∃ l' : List Nat, l.map gf = l'.map gf ∧ 0 < n ∧ n ≤ l'.length ∧ n ≤ 1000000 ∧ n ≤ k ∧ K (gi (firstS [whenS (ilt 4096 (Int.ofNat n)) 5, smpsE (l'.take n)]))) := by kernel_rfl
theorem CS_run (l : List Nat) (n e row k : Nat) (K : Value → Prop) : callC Tryz.prog (exec Tryz.prog orcW 10) (syOf [(14, 19), (15, 7)]) askW (noLoops _) 20 15 #[liP n k] (liH (l.map gf) e row) (fun v _ => K v) =
 (0 ≤ minI n ∧ minI n ≤ (k : Int) ∧ 0 < k ∧ n ≤ k ∧ gi (minI n) = gi (minI n) ∧ goN n = goN n ∧ goN n = goN n ∧ ∃ l' : List Nat, l.map gf = l'.map gf ∧ 0 < (minI n).toNat ∧ (minI n).toNat ≤ l'.length ∧ (minI n).toNat ≤ 1000000 ∧ (minI n).toNat ≤ k ∧ goN n = goN n ∧
  K (gi (firstS [whenS (ilt 4096 (Int.ofNat n)) 5, whenS (!ilt 4096 (Int.ofNat n)) (smpsE (l'.take (minI n).toNat))]))) := by kernel_rfl
theorem cs_nil : (call Tryz.prog orcW 40 87 #[.slice none 0 0] (emp Tryz.prog)).map (·.1) = some (gi 0) := by kernel_rfl
theorem cs_emp (k : Nat) : (call Tryz.prog orcW 40 87 #[.slice (some ⟨0, 0, none⟩) 0 k] (emp Tryz.prog)).map (·.1) = some (gi 0) := by kernel_rfl
theorem CS_nil : (call Tryz.prog orcW 40 15 #[.slice none 0 0] (emp Tryz.prog)).map (·.1) = some (gi 0) := by kernel_rfl
theorem CS_emp0 : (call Tryz.prog orcW 40 15 #[.slice (some ⟨0, 0, none⟩) 0 0] (emp Tryz.prog)).map (·.1) = some (gi 0) := by kernel_rfl
theorem CS_empC (k : Nat) (K : Value → Prop) : callC Tryz.prog (exec Tryz.prog orcW 10) (syOf [(14, 19)]) askW (noLoops _) 20 15 #[.slice (some ⟨0, 0, none⟩) 0 k] (emp Tryz.prog) (fun v _ => K v) =
 ((0 : Int) ≤ 0 ∧ (0 : Int) ≤ (k : Int) ∧ 0 < k ∧ 0 ≤ k ∧ gi 0 = gi 0 ∧ gi 0 = gi 0 ∧ gi 0 = gi 0 ∧ gi 0 = gi 0 ∧ K (gi 0)) := by kernel_rfl
theorem floats_run (c : List Value) (e row m k : Nat) (K : Value → AHeap → Prop) : callC Tryz.prog (exec Tryz.prog orcW 10) (syOf [(5, 16)]) noAsks (noLoops _) 20 9 #[liP (m + 1) k] (liH c e row) K =
 (Nat.ble (0 + (m + 1)) c.length = true ∧ Nat.ble ((2 * (m + 1) + 256) * 4) 281474976710656 = true ∧ ((c.drop 0).take (m + 1)).all Value.oneCell' = true ∧
  K (.slice (some ⟨((liH c e row).push (.cells [] 50 2 false)).n, 0, none⟩) (m + 1) (m + 1)) (newCells (((liH c e row).push (.cells [] 50 2 false)).set (liH c e row).n .dead) ((c.drop 0).take (m + 1)) 50 2)) := by kernel_rfl
theorem short_run (n k : Nat) (e row : Nat) (c : List Value) (K : Value → AHeap → Prop) : callC Tryz.prog (exec Tryz.prog orcW 10) (syOf [(5, 1), (9, 1)]) noAsks (noLoops _) 20 5 #[liP n k] (liH c e row) K =
 (((!ilt 40 (Int.ofNat n)) = true → K (.bool true) (liH c e row)) ∧ ((!ilt 40 (Int.ofNat n)) = false → (ieq (Int.ofNat n) 4097 = true → K (.bool true) (liH c e row)) ∧ (ieq (Int.ofNat n) 4097 = false → K (.bool false) (liH c e row)))) := by kernel_rfl
theorem short_nil : (call Tryz.prog orcW 40 5 #[.slice none 0 0] (emp Tryz.prog)).map (·.1) = some (.bool true) := by kernel_rfl
theorem short_emp (k : Nat) : (call Tryz.prog orcW 40 5 #[.slice (some ⟨0, 0, none⟩) 0 k] (emp Tryz.prog)).map (·.1) = some (.bool true) := by kernel_rfl
end Go.Proofs.YthgojmebbhpbbaaGreatDoor
namespace Go.Proofs.YthgojmebbhpbbaaGreatDoor
open Go Go.Am
noncomputable def csE (l : List Nat) : Int := firstS [whenS (ilt 4096 (Int.ofNat l.length)) 5, smpsE l]
noncomputable def csR : List Nat → List Value → Value := fun l _ => gi (csE l)
noncomputable def shortB (n : Nat) : Bool := !ilt 40 (Int.ofNat n) || ieq (Int.ofNat n) 4097
noncomputable def shortR : List Nat → List Value → Value := fun l _ => .bool (shortB l.length)
theorem ilt_say (a b : Int) : ilt a b = decide (a < b) := by
 cases a with
 | ofNat m => cases b with
  | ofNat n => rw [show ilt (Int.ofNat m) (Int.ofNat n) = Nat.blt m n from rfl, Bool.eq_iff_iff, Nat.blt_eq, decide_eq_true_eq]; simp
  | negSucc n => rw [show ilt (Int.ofNat m) (Int.negSucc n) = false from rfl]; symm; exact decide_eq_false (by simp only [Int.ofNat_eq_natCast]; omega)
 | negSucc m => cases b with
  | ofNat n => rw [show ilt (Int.negSucc m) (Int.ofNat n) = true from rfl]; symm; exact decide_eq_true (by simp only [Int.ofNat_eq_natCast]; omega)
  | negSucc n => rw [show ilt (Int.negSucc m) (Int.negSucc n) = Nat.blt n m from rfl, Bool.eq_iff_iff, Nat.blt_eq, decide_eq_true_eq]; omega
theorem minI_le {n : Nat} (h : n ≤ 4096) : minI n = (n : Int) := by unfold minI; rw [if_neg (by omega)]
theorem cs_same {l : List Nat} {n : Nat} (hn : n ≤ l.length) : firstS [whenS (ilt 4096 (Int.ofNat n)) 5, whenS (!ilt 4096 (Int.ofNat n)) (smpsE (l.take (minI n).toNat))] = csE (l.take n) := by
 have hlen : (l.take n).length = n := by rw [List.length_take]; omega
 unfold csE
 rw [hlen]
 by_cases h : n ≤ 4096
 ·rw [minI_le h, show ((n : Nat) : Int).toNat = n by simp, show ilt 4096 (Int.ofNat n) = false by rw [ilt_say]; exact decide_eq_false (by simp only [Int.ofNat_eq_natCast]; omega)]
  rfl
 ·rw [show ilt 4096 (Int.ofNat n) = true by rw [ilt_say]; exact decide_eq_true (by simp only [Int.ofNat_eq_natCast]; omega)]
  rfl
set_option maxRecDepth 100000 in
theorem cs_call (l : List Nat) (n e row k : Nat) (h0 : 0 < n) (h1 : n ≤ l.length) (h2 : n ≤ 1000000) (hk : n ≤ k) : CallJ Tryz.prog 87 #[liP n k] (liH (l.map gf) e row) (fun v _ => v = gi (csE (l.take n))) :=
 callC_ok mixed orcW_ok askW_ok (Eq.mpr (cs_run l n e row k _) ⟨l, rfl, h0, h1, h2, hk, by unfold csE; rw [show (l.take n).length = n by rw [List.length_take]; omega]⟩)
set_option maxRecDepth 100000 in
theorem CS_call (l : List Nat) (n e row k : Nat) (h0 : 0 < n) (h1 : n ≤ l.length) (h2 : n ≤ 1000000) (hk : n ≤ k) : CallJ Tryz.prog 15 #[liP n k] (liH (l.map gf) e row) (fun v _ => v = gi (csE (l.take n))) := by
 have hm : 0 < minI n ∧ minI n ≤ n := by
  unfold minI
  split <;> omega
 refine callC_ok mixed orcW_ok askW_ok (Eq.mpr (CS_run l n e row k _) ⟨by omega, by omega, by omega, hk, rfl, rfl, rfl, l, rfl, by omega, by omega, by omega, by omega, rfl, ?_⟩)
 rw [cs_same h1]
set_option maxRecDepth 100000 in
theorem short_call (l : List Nat) (n e row k : Nat) (h1 : n ≤ l.length) : CallJ Tryz.prog 5 #[liP n k] (liH (l.map gf) e row) (fun v _ => v = .bool (shortB (l.take n).length)) := by
 refine callC_ok mixed orcW_ok (noAsks_ok _) (Eq.mpr (short_run n k e row _ _) ?_)
 rw [show (l.take n).length = n by rw [List.length_take]; omega]
 unfold shortB
 cases (!ilt 40 (Int.ofNat n)) <;> cases ieq (Int.ofNat n) 4097 <;> simp
noncomputable def orcXa : Orc := orElse 5 (sliceO dF 9223372036854775807 noT shortR) orcW
set_option maxRecDepth 100000 in
theorem orcXa_ok : OrcOk Tryz.prog orcXa := by
 refine sliceO_ok dF_some (fun _ => rfl) globs_pos orcW_ok (fun _ _ _ => rfl) ?_ ?_ ?_
 ·intro r h; obtain rfl := noT_some h; exact CallJ.of_call mixed orcW_ok short_nil fun _ => rfl
 ·intro r k h; obtain rfl := noT_some h; exact CallJ.of_call mixed orcW_ok (short_emp k) fun _ => rfl
 ·intro l n r el row k h0 h1 h2 h3 h
  obtain rfl := noT_some h
  exact short_call l n el row k h1
noncomputable def orcXb : Orc := orElse 87 (sliceO dF 1000000 noT csR) orcXa
set_option maxRecDepth 100000 in
theorem orcXb_ok : OrcOk Tryz.prog orcXb := by
 refine sliceO_ok dF_some (fun _ => rfl) globs_pos orcXa_ok (fun _ _ _ => rfl) ?_ ?_ ?_
 ·intro r h; obtain rfl := noT_some h; exact CallJ.of_call mixed orcW_ok cs_nil fun _ => rfl
 ·intro r k h; obtain rfl := noT_some h; exact CallJ.of_call mixed orcW_ok (cs_emp k) fun _ => rfl
 ·intro l n r el row k h0 h1 h2 h3 h
  obtain rfl := noT_some h
  exact cs_call l n el row k h0 h1 h2 h3
noncomputable def orcXc : Orc := orElse 15 (sliceO dF 1000000 noT csR) orcXb
set_option maxRecDepth 100000 in
theorem orcXc_ok : OrcOk Tryz.prog orcXc := by
 refine sliceO_ok dF_some (fun _ => rfl) globs_pos orcXb_ok (fun _ _ _ => rfl) ?_ ?_ ?_
 ·intro r h; obtain rfl := noT_some h; exact CallJ.of_call mixed orcW_ok CS_nil fun _ => rfl
 ·intro r k h
  obtain rfl := noT_some h
  cases k with
  | zero => exact CallJ.of_call mixed orcW_ok CS_emp0 fun _ => rfl
  | succ k => exact callC_ok mixed orcW_ok askW_ok (Eq.mpr (CS_empC (k + 1) _) ⟨by omega, by omega, by omega, by omega, rfl, rfl, rfl, rfl, rfl⟩)
 ·intro l n r el row k h0 h1 h2 h3 h
  obtain rfl := noT_some h
  exact CS_call l n el row k h0 h1 h2 h3
noncomputable def orcX : Orc := orElse 9 (cloneO dF gf 50) orcXc
set_option maxRecDepth 100000 in
theorem orcX_ok : OrcOk Tryz.prog orcX := by
 refine cloneO_ok dF_some (fun _ => rfl) orcXc_ok fun l n el row k h0 h1 h2 => ?_
 obtain ⟨m, rfl⟩ : ∃ m, n = m + 1 := ⟨n - 1, by omega⟩
 have hc : (((l.map gf).drop 0).take (m + 1)) = (l.take (m + 1)).map gf := by rw [List.drop_zero, ← List.map_take]
 refine callC_ok mixed orcW_ok (noAsks_ok _) (Eq.mpr (floats_run (l.map gf) el row m k _) ⟨?_, ?_, ?_, ?_⟩)
 ·rw [Nat.ble_eq]; simp; exact h1
 ·rw [Nat.ble_eq]; omega
 ·rw [hc, List.all_eq_true]
  intro x hx
  obtain ⟨y, _, rfl⟩ := List.mem_map.1 hx
  rfl
 ·refine ⟨_, rfl, ?_⟩
  rw [hc]
  unfold newCells
  rw [AHeap.get_push, if_pos (AHeap.set_n _ _ _).symm]
noncomputable def askX : Asks := asksC 9 gf 50 (asksO 15 gf 1000000 noT csR (asksO 87 gf 1000000 noT csR (asksO 5 gf 9223372036854775807 noT shortR noAsks)))
theorem askX_ok : AsksOk orcX askX := asksC_ok (d := dF) (fun _ => rfl) (asksO_ok (d := dF) (e := gf) (fun _ => rfl) (asksO_ok (d := dF) (e := gf) (fun _ => rfl) (asksO_ok (d := dF) (e := gf) (fun _ => rfl) (noAsks_ok _))))
end Go.Proofs.YthgojmebbhpbbaaGreatDoor
