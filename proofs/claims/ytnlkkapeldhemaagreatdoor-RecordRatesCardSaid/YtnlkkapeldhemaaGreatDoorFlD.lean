/-
  OWN WORK. The error of one sample: both check it alike.
-/
import Derived.Test.YtnlkkapeldhemaaGreatDoorFlC
namespace Go.Proofs.YtnlkkapeldhemaaGreatDoor
open Go Go.Am Ieee

noncomputable def finB (x : Nat) : Bool := Nat.blt (x % 2147483648) 2139095040
theorem finB_iff {x : Nat} : finB x = true ↔ fin32 x := by
  unfold finB fin32
  rw [Nat.blt_eq]
noncomputable def finE (x : Nat) : Int := bif finB x then 0 else 1
noncomputable def sixE (x : Nat) : Int := bif (single.read x).isNaN then 3 else whenS (badE x) 3
noncomputable def smpE (x : Nat) : Int := bif finB x then whenS (badE x) 3 else 1
theorem le_mul_pow {r a K : Nat} (h : r ≤ a) : r ≤ a * 2 ^ K := Nat.le_trans (by rw [Nat.mul_one]; exact h) (Nat.mul_le_mul_left a (Nat.two_pow_pos K))
theorem mv_max {r : Nat} (h : r < 2047 * 2 ^ 52) : mv r ≤ mv maxF := by
  obtain ⟨A, K, e, hA, hK⟩ : ∃ A K : Nat, mv maxF = A * 2 ^ K ∧ A = 9007199254740991 ∧ K = 2045 := ⟨9007199254740991, 2045, by decide +kernel, rfl, rfl⟩
  rw [e]
  unfold mv
  split
  · rename_i hr
    exact le_mul_pow (by omega)
  · rename_i hr
    exact Nat.mul_le_mul (by omega) (Nat.pow_le_pow_right (by decide) (by omega))
theorem gt_max_fin {c : Nat} (h : fin64 c) : gtF (c % 2 ^ 63) maxF = false := by
  obtain ⟨a1, a2⟩ := abs_fin h
  have hm : fin64 maxF := show maxF % 2 ^ 63 < 2047 * 2 ^ 52 by decide +kernel
  have hd : dv maxF = (mv maxF : Int) := by
    have h2 : maxF / 2 ^ 63 % 2 ≠ 1 := by decide +kernel
    have h3 : maxF % 2 ^ 63 = maxF := by decide +kernel
    unfold dv
    rw [if_neg h2, h3]
  rw [gtF_fin a1 hm, a2, hd]
  have := mv_max h
  exact decide_eq_false (by omega)
theorem gt_max_inf {c : Nat} (h : inf64 c) : gtF (c % 2 ^ 63) maxF = true := by
  have hm : fin64 maxF := show maxF % 2 ^ 63 < 2047 * 2 ^ 52 by decide +kernel
  have h1 : inf64 (c % 2 ^ 63) := by unfold inf64 at h ⊢; rw [Nat.mod_mod]; exact h
  have h2 : c % 2 ^ 63 / 2 ^ 63 % 2 = 0 := by
    rw [Nat.div_eq_of_lt (Nat.mod_lt _ (Nat.two_pow_pos _))]
  unfold gtF
  rw [order_inf_fin h1 hm, h2]
  rfl
theorem cvt_eq {x c : Nat} (h : floatToFloatBits .f32 x .f64 = some c) : cvt x = c := by unfold cvt; rw [h]; rfl
theorem not_nan_fin {y : Nat} (h : fin64 y) : (FloatKind.f64.decode y).isNaN = false := by
  obtain ⟨m, a, e, _⟩ := read_fin h
  rw [show FloatKind.f64.decode y = double.read y from rfl, e]
  rfl
theorem not_nan_inf {y : Nat} (h : inf64 y) : (FloatKind.f64.decode y).isNaN = false := by
  rw [show FloatKind.f64.decode y = double.read y from rfl, read_inf h]
  rfl
theorem nan32_fin {x : Nat} (h : fin32 x) : (single.read x).isNaN = false := by
  obtain ⟨m, a, e, _⟩ := sread_fin h
  rw [e]
  rfl
theorem nan32_inf {x : Nat} (h : inf32 x) : (single.read x).isNaN = false := by
  rw [sread_inf h]
  rfl
theorem not_fin_inf {x : Nat} (h : inf32 x) : finB x = false := by
  cases hb : finB x with
  | false => rfl
  | true =>
    have := finB_iff.1 hb
    unfold fin32 at this
    unfold inf32 at h
    omega
theorem not_fin_nan {x : Nat} (h : ¬ fin32 x) : finB x = false := by
  cases hb : finB x with
  | false => rfl
  | true => exact absurd (finB_iff.1 hb) h
theorem first_smp (x : Nat) : firstS [finE x, sixE x] = smpE x := by
  unfold finE smpE sixE
  cases hb : finB x with
  | false => rfl
  | true =>
    rw [nan32_fin (finB_iff.1 hb)]
    simp only [cond_true, cond_false, firstS, show ieq 0 0 = true from rfl]
    cases badE x <;> rfl
set_option maxRecDepth 100000 in
theorem finite_call (x : Nat) : CallJ Tryz.prog 143 #[.float .f32 x] (emp Tryz.prog) (fun u _ => u = gi (finE x)) := by
  by_cases h : fin32 x
  · obtain ⟨c, m, a, h1, h2, _⟩ := cvt_fin h
    refine callC_ok mixed orcFb_ok (noAsks_ok _) (Eq.mpr (finite_run x _) ?_)
    rw [cvt_eq h1, absE_mod, gt_max_fin h2, neF_fin h2 h2, h1]
    unfold finE
    rw [finB_iff.2 h]
    exact ⟨rfl, fun e => by simp at e, fun _ => ⟨fun e => by simp at e, fun _ => rfl⟩⟩
  · by_cases h' : inf32 x
    · obtain ⟨c, h1, h2⟩ := cvt_inf h'
      refine callC_ok mixed orcFb_ok (noAsks_ok _) (Eq.mpr (finite_run x _) ?_)
      rw [cvt_eq h1, absE_mod, gt_max_inf h2, h1]
      unfold finE
      rw [not_fin_inf h']
      exact ⟨rfl, fun _ => rfl, fun _ => ⟨fun _ => rfl, fun e => by simp at e⟩⟩
    · refine callC_ok mixed orcFb_ok (noAsks_ok _) (Eq.mpr (finite_nan x _) ⟨nan32_iff h h', fun r hr => ⟨fun _ => ?_, fun e => ?_⟩⟩)
      · unfold finE
        rw [not_fin_nan h]
        rfl
      · rw [neF_nan hr] at e
        cases e
set_option maxRecDepth 100000 in
theorem six_call (x : Nat) : CallJ Tryz.prog 144 #[.float .f32 x, .float .f64 c16] (emp Tryz.prog) (fun u _ => u = gi (sixE x)) := by
  have key : ∀ y, (FloatKind.f64.decode y).isNaN = false → floatToFloatBits .f32 x .f64 = some (cvt x) → double.mul d16 (cvt x) = some y → (single.read x).isNaN = false →
      CallJ Tryz.prog 144 #[.float .f32 x, .float .f64 c16] (emp Tryz.prog) (fun u _ => u = gi (sixE x)) := by
    intro y hy h1 h2 h3
    have hm : floatBits .mul .f64 d16 (cvt x) = some y := h2
    have hs : sclE x = y := by unfold sclE; rw [hm]; rfl
    refine callC_ok mixed orcT_ok askT_ok (Eq.mpr (six_run x _) ?_)
    rw [h1, hm, hs]
    unfold sixE badE
    rw [h3, hs]
    cases gtF (absE y) c16 <;> cases neF y (trF y) <;> simp [hy, whenS]
  by_cases h : fin32 x
  · obtain ⟨c, y, h1, _, h3, h4, _⟩ := scaled_fin h
    exact key y (not_nan_fin h4) (by rw [cvt_eq h1]; exact h1) (by rw [cvt_eq h1]; exact h3) (nan32_fin h)
  · by_cases h' : inf32 x
    · obtain ⟨c, y, h1, _, h3, h4⟩ := scaled_inf h'
      exact key y (not_nan_inf h4) (by rw [cvt_eq h1]; exact h1) (by rw [cvt_eq h1]; exact h3) (nan32_inf h')
    · have hn := nan32_iff h h'
      refine callC_ok mixed orcFb_ok (noAsks_ok _) (Eq.mpr (six_nan x _) ⟨hn, fun r hr => ⟨mul_nan hr, fun q hq => ?_⟩⟩)
      have he : gi 3 = gi (sixE x) := by unfold sixE; rw [hn]; rfl
      exact ⟨fun _ => he, fun _ => ⟨trunc_rel hq, fun t => ⟨neF_nan hq, he⟩⟩⟩
theorem order_nan32 {r y : Nat} (h : (single.read r).isNaN = true) : (single.order r y != some .eq) = true := by
  unfold Format.order
  cases hx : single.read r with
  | nan s t => rfl
  | _ => rw [hx] at h; cases h
theorem abs_le_of {y : Nat} (h : fin64 y) (e1 : ltF y m16 = false) (e2 : gtF y c16 = false) : gtF (y % 2 ^ 63) c16 = false := by
  obtain ⟨a1, a2⟩ := abs_fin h
  have c2 := c16_ok.2
  have m2 := m16_ok.2
  generalize ((2 ^ 1074 : Nat) : Int) = U at c2 m2
  rw [ltF_fin h m16_ok.1, m2] at e1
  rw [gtF_fin h c16_ok.1, c2] at e2
  rw [gtF_fin a1 c16_ok.1, a2, c2]
  have e1 := of_decide_eq_false e1
  have e2 := of_decide_eq_false e2
  have hd := dv_abs y
  exact decide_eq_false (by rcases hd with e | e <;> omega)
set_option maxRecDepth 100000 in
theorem part_call (x : Nat) : CallJ Tryz.prog 135 #[.float .f32 x, gi 16384] (emp Tryz.prog) (fun u _ => u = gi (smpE x)) := by
  by_cases h : fin32 x
  · obtain ⟨c, y, h1, _, h3, h4, _⟩ := scaled_fin h
    have hm : floatBits .mul .f64 d16 (cvt x) = some y := by rw [cvt_eq h1]; exact h3
    have hs : sclE x = y := by unfold sclE; rw [hm]; rfl
    have hsub : floatBits .sub .f32 x x = some 0 := sub_self h
    obtain ⟨i, p1, p2, p3⟩ := part_same h4
    refine callC_ok mixed orcFb_ok (noAsks_ok _) (Eq.mpr (part_run x _) ?_)
    have hsm : smpE x = whenS (ltF y m16 || (gtF y c16 || neF (ofI i) y)) 3 := by
      unfold smpE badE
      rw [finB_iff.2 h, hs, absE_mod, p3]
      rfl
    rw [h1, hm, hs, hsub, hsm]
    refine ⟨rfl, by decide +kernel, rfl, rfl, fun e => by rw [e]; rfl, fun e1 => ⟨fun e2 => by rw [e1, e2]; rfl, fun e2 => ?_⟩⟩
    have hi : i.natAbs ≤ 16384 := p2 (abs_le_of h4 e1 e2)
    have hv : floatToIntVal .f64 y .i64 = some i := by
      unfold floatToIntVal
      rw [show FloatKind.decode .f64 y = double.read y from rfl, p1]
      simp only
      rw [if_pos]
      rw [show IntKind.i64.min = -9223372036854775808 by decide, show IntKind.i64.max = 9223372036854775807 by decide]
      omega
    rw [hv]
    refine ⟨rfl, fun e3 => ?_, fun e3 => ?_⟩
    · rw [show (some i).getD 0 = i from rfl] at e3
      rw [e1, e2, e3]; rfl
    · rw [show (some i).getD 0 = i from rfl] at e3
      rw [e1, e2, e3]; rfl
  · have key : floatBits .sub .f32 x x = none → CallJ Tryz.prog 135 #[.float .f32 x, gi 16384] (emp Tryz.prog) (fun u _ => u = gi (smpE x)) := fun hs =>
      callC_ok mixed orcFb_ok (noAsks_ok _) (Eq.mpr (part_nan x _) ⟨hs, fun r hr => ⟨order_nan32 hr, by unfold smpE; rw [not_fin_nan h]; rfl⟩⟩)
    by_cases h' : inf32 x
    · exact key (sub_inf h')
    · exact key (sub_nan (nan32_iff h h'))
end Go.Proofs.YtnlkkapeldhemaaGreatDoor
