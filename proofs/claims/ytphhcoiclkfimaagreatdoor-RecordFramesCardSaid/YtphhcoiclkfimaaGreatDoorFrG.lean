/-
  OWN WORK. RecordFrames on the abstract machine: it returns true, for all keys, frames and bytes.
-/
import Derived.Test.YtphhcoiclkfimaaGreatDoorFrF
namespace Go.Proofs.YtphhcoiclkfimaaGreatDoor
open Go Go.Am

theorem ieq_z9 {x : Int} (h : x = 0) : ieq x 0 = true := by rw [h]; rfl
theorem deC_smp {b1 b2 b3 b4 b5 b6 b7 b8 b9 b10 b11 b12 b13 b14 b15 b16 b17 b18 b19 b20 b21 : Int} (h : deC b1 b2 b3 b4 b5 b6 b7 b8 b9 b10 b11 b12 b13 b14 b15 b16 b17 b18 b19 b20 b21 = 0) : smpE (sampleE (dec16 b6 b7)) = 0 ∧ smpE (sampleE (dec16 b8 b9)) = 0 ∧ smpE (sampleE (dec16 b10 b11)) = 0 ∧ smpE (sampleE (dec16 b12 b13)) = 0 ∧ smpE (sampleE (dec16 b14 b15)) = 0 ∧ smpE (sampleE (dec16 b16 b17)) = 0 ∧ smpE (sampleE (dec16 b18 b19)) = 0 ∧ smpE (sampleE (dec16 b20 b21)) = 0 := by
  obtain ⟨_, _, _, _, _, _, s0, s1, s2, s3, s4, s5, s6, s7⟩ := ck_ok h
  exact ⟨s0, s1, s2, s3, s4, s5, s6, s7⟩
theorem deE_zero {k0 k1 k2 k3 k4 k5 k6 k7 b0 b1 b2 b3 b4 b5 b6 b7 b8 b9 b10 b11 b12 b13 b14 b15 b16 b17 b18 b19 b20 b21 b22 b23 b24 b25 b26 b27 b28 b29 : Int} (h : deE k0 k1 k2 k3 k4 k5 k6 k7 b0 b1 b2 b3 b4 b5 b6 b7 b8 b9 b10 b11 b12 b13 b14 b15 b16 b17 b18 b19 b20 b21 b22 b23 b24 b25 b26 b27 b28 b29 = 0) : deC b1 b2 b3 b4 b5 b6 b7 b8 b9 b10 b11 b12 b13 b14 b15 b16 b17 b18 b19 b20 b21 = 0 := by
  unfold deE at h
  cases h1 : ieq b0 211 with
  | false => rw [h1] at h; cases h
  | true =>
    rw [h1] at h
    cases h2 : slBK k0 k1 k2 k3 k4 k5 k6 k7 b0 b1 b2 b3 b4 b5 b6 b7 b8 b9 b10 b11 b12 b13 b14 b15 b16 b17 b18 b19 b20 b21 b22 b23 b24 b25 b26 b27 b28 b29 with
    | false => rw [h2] at h; cases h
    | true => rw [h2] at h; exact h
set_option maxRecDepth 100000 in
theorem fr_call (es : Nat → TypeId) (k0 k1 k2 k3 k4 k5 k6 k7 b0 b1 b2 b3 b4 b5 b6 b7 b8 b9 b10 b11 b12 b13 b14 b15 b16 b17 b18 b19 b20 b21 b22 b23 b24 b25 b26 b27 b28 b29 d c n : Int) (a0 a1 a2 a3 a4 a5 a6 a7 : Nat) (hk : in8 k0 k1 k2 k3 k4 k5 k6 k7) (hb : ∀ x ∈ [b0, b1, b2, b3, b4, b5, b6, b7, b8, b9, b10, b11, b12, b13, b14, b15, b16, b17, b18, b19, b20, b21, b22, b23, b24, b25, b26, b27, b28, b29], inB x) : CallJ Tryz.prog 4 #[ke k0 k1 k2 k3 k4 k5 k6 k7, frV d c n a0 a1 a2 a3 a4 a5 a6 a7, ar30 b0 b1 b2 b3 b4 b5 b6 b7 b8 b9 b10 b11 b12 b13 b14 b15 b16 b17 b18 b19 b20 b21 b22 b23 b24 b25 b26 b27 b28 b29] (base tabs es Tryz.prog.globals.size) (fun v _ => v = .bool true) := by
  have hB : ∀ y : Int, List.Mem y [b0, b1, b2, b3, b4, b5, b6, b7, b8, b9, b10, b11, b12, b13, b14, b15, b16, b17, b18, b19, b20, b21, b22, b23, b24, b25, b26, b27, b28, b29] → inB y := hb
  have hB2 : ∀ y : Int, List.Mem y (List.take 30 [b0, b1, b2, b3, b4, b5, b6, b7, b8, b9, b10, b11, b12, b13, b14, b15, b16, b17, b18, b19, b20, b21, b22, b23, b24, b25, b26, b27, b28, b29]) → inB y := hb
  have hs : ieq (deE k0 k1 k2 k3 k4 k5 k6 k7 b0 b1 b2 b3 b4 b5 b6 b7 b8 b9 b10 b11 b12 b13 b14 b15 b16 b17 b18 b19 b20 b21 b22 b23 b24 b25 b26 b27 b28 b29) (deE k0 k1 k2 k3 k4 k5 k6 k7 b0 b1 b2 b3 b4 b5 b6 b7 b8 b9 b10 b11 b12 b13 b14 b15 b16 b17 b18 b19 b20 b21 b22 b23 b24 b25 b26 b27 b28 b29) = true := ieq_same _
  have hcc : ieq (ckF d c n a0 a1 a2 a3 a4 a5 a6 a7) (cfF d c n a0 a1 a2 a3 a4 a5 a6 a7) = true := by rw [ck_cf]; exact ieq_same _
  by_cases hd : deE k0 k1 k2 k3 k4 k5 k6 k7 b0 b1 b2 b3 b4 b5 b6 b7 b8 b9 b10 b11 b12 b13 b14 b15 b16 b17 b18 b19 b20 b21 b22 b23 b24 b25 b26 b27 b28 b29 = 0
  · have hd1 := ieq_z9 hd
    obtain ⟨s0, s1, s2, s3, s4, s5, s6, s7⟩ := deC_smp (deE_zero hd)
    have e0 := eq_self32 s0
    have e1 := eq_self32 s1
    have e2 := eq_self32 s2
    have e3 := eq_self32 s3
    have e4 := eq_self32 s4
    have e5 := eq_self32 s5
    have e6 := eq_self32 s6
    have e7 := eq_self32 s7
    by_cases hc : ckF d c n a0 a1 a2 a3 a4 a5 a6 a7 = 0
    · have hc1 := ieq_z9 hc
      have hf := ck_ok hc
      have hcf : cfF d c n a0 a1 a2 a3 a4 a5 a6 a7 = 0 := by rw [← ck_cf]; exact hc
      have hcf1 := ieq_z9 hcf
      have hcf2 : ieq 0 (cfF d c n a0 a1 a2 a3 a4 a5 a6 a7) = true := by rw [hcf]; rfl
      refine CallJ.ofE mixed orcHd_ok (askHd_ok true true) (Eq.mpr (fr_11 es k0 k1 k2 k3 k4 k5 k6 k7 b0 b1 b2 b3 b4 b5 b6 b7 b8 b9 b10 b11 b12 b13 b14 b15 b16 b17 b18 b19 b20 b21 b22 b23 b24 b25 b26 b27 b28 b29 d c n a0 a1 a2 a3 a4 a5 a6 a7 _) ?_)
      refine ⟨hc1, fun y0 y1 y2 y3 y4 y5 y6 y7 y8 y9 y10 y11 y12 y13 y14 y15 y16 y17 y18 y19 y20 y21 y22 y23 y24 y25 y26 y27 y28 y29 hy => ⟨hk, hB, hd1, rfl, rfl, rfl, [b0, b1, b2, b3, b4, b5, b6, b7, b8, b9, b10, b11, b12, b13, b14, b15, b16, b17, b18, b19, b20, b21, b22, b23, b24, b25, b26, b27, b28, b29], rfl, by omega, Nat.le_refl _, by omega, Nat.le_refl _, fun z0 z1 z2 z3 z4 z5 z6 z7 hz => ⟨rfl, hcf1, hf, hk, fun w0 w1 w2 w3 w4 w5 w6 w7 w8 w9 w10 w11 w12 w13 w14 w15 w16 w17 w18 w19 w20 w21 w22 w23 w24 w25 w26 w27 w28 w29 hw => ?_⟩⟩⟩
      have e := hy.trans hw.symm
      simp only [List.cons.injEq, and_true] at e
      obtain ⟨rfl, rfl, rfl, rfl, rfl, rfl, rfl, rfl, rfl, rfl, rfl, rfl, rfl, rfl, rfl, rfl, rfl, rfl, rfl, rfl, rfl, rfl, rfl, rfl, rfl, rfl, rfl, rfl, rfl, rfl⟩ := e
      refine ⟨hk, hB, hd1, by simp only [ieq_same, Bool.and_self, Bool.and_true], hcf2, by simp only [ieq_same, e0, e1, e2, e3, e4, e5, e6, e7, Bool.and_self, Bool.and_true], rfl, [b0, b1, b2, b3, b4, b5, b6, b7, b8, b9, b10, b11, b12, b13, b14, b15, b16, b17, b18, b19, b20, b21, b22, b23, b24, b25, b26, b27, b28, b29], rfl, by omega, Nat.le_refl _, by omega, Nat.le_refl _, hk, hB2, fun v0 v1 v2 v3 v4 v5 v6 v7 hv => ?_⟩
      have e := hz.trans hv.symm
      simp only [List.cons.injEq, and_true] at e
      obtain ⟨rfl, rfl, rfl, rfl, rfl, rfl, rfl, rfl⟩ := e
      exact ⟨rfl, by simp only [ieq_same, Bool.and_self, Bool.and_true], rfl⟩
    · have hc1 : ieq (ckF d c n a0 a1 a2 a3 a4 a5 a6 a7) 0 = false := ieq_ne' hc
      have hcf1 : ieq (cfF d c n a0 a1 a2 a3 a4 a5 a6 a7) 0 = false := by rw [← ck_cf]; exact hc1
      refine CallJ.ofE mixed orcHd_ok (askHd_ok false true) (Eq.mpr (fr_01 es k0 k1 k2 k3 k4 k5 k6 k7 b0 b1 b2 b3 b4 b5 b6 b7 b8 b9 b10 b11 b12 b13 b14 b15 b16 b17 b18 b19 b20 b21 b22 b23 b24 b25 b26 b27 b28 b29 d c n a0 a1 a2 a3 a4 a5 a6 a7 _) ?_)
      refine ⟨hc1, hk, hB, hd1, rfl, rfl, rfl, [b0, b1, b2, b3, b4, b5, b6, b7, b8, b9, b10, b11, b12, b13, b14, b15, b16, b17, b18, b19, b20, b21, b22, b23, b24, b25, b26, b27, b28, b29], rfl, by omega, Nat.le_refl _, by omega, Nat.le_refl _, fun z0 z1 z2 z3 z4 z5 z6 z7 hz => ⟨rfl, hcf1, hk, hB, hd1, rfl, hcc, by simp only [ieq_same, e0, e1, e2, e3, e4, e5, e6, e7, Bool.and_self, Bool.and_true], rfl, [b0, b1, b2, b3, b4, b5, b6, b7, b8, b9, b10, b11, b12, b13, b14, b15, b16, b17, b18, b19, b20, b21, b22, b23, b24, b25, b26, b27, b28, b29], rfl, by omega, Nat.le_refl _, by omega, Nat.le_refl _, hk, hB2, fun v0 v1 v2 v3 v4 v5 v6 v7 hv => ?_⟩⟩
      have e := hz.trans hv.symm
      simp only [List.cons.injEq, and_true] at e
      obtain ⟨rfl, rfl, rfl, rfl, rfl, rfl, rfl, rfl⟩ := e
      exact ⟨rfl, by simp only [ieq_same, Bool.and_self, Bool.and_true], rfl⟩
  · have hd1 : ieq (deE k0 k1 k2 k3 k4 k5 k6 k7 b0 b1 b2 b3 b4 b5 b6 b7 b8 b9 b10 b11 b12 b13 b14 b15 b16 b17 b18 b19 b20 b21 b22 b23 b24 b25 b26 b27 b28 b29) 0 = false := ieq_ne' hd
    by_cases hc : ckF d c n a0 a1 a2 a3 a4 a5 a6 a7 = 0
    · have hc1 := ieq_z9 hc
      have hf := ck_ok hc
      have hcf : cfF d c n a0 a1 a2 a3 a4 a5 a6 a7 = 0 := by rw [← ck_cf]; exact hc
      have hcf1 := ieq_z9 hcf
      have hcf2 : ieq 0 (cfF d c n a0 a1 a2 a3 a4 a5 a6 a7) = true := by rw [hcf]; rfl
      refine CallJ.ofE mixed orcHd_ok (askHd_ok true false) (Eq.mpr (fr_10 es k0 k1 k2 k3 k4 k5 k6 k7 b0 b1 b2 b3 b4 b5 b6 b7 b8 b9 b10 b11 b12 b13 b14 b15 b16 b17 b18 b19 b20 b21 b22 b23 b24 b25 b26 b27 b28 b29 d c n a0 a1 a2 a3 a4 a5 a6 a7 _) ?_)
      refine ⟨hc1, fun y0 y1 y2 y3 y4 y5 y6 y7 y8 y9 y10 y11 y12 y13 y14 y15 y16 y17 y18 y19 y20 y21 y22 y23 y24 y25 y26 y27 y28 y29 hy => ⟨hk, hB, hd1, rfl, rfl, rfl, [b0, b1, b2, b3, b4, b5, b6, b7, b8, b9, b10, b11, b12, b13, b14, b15, b16, b17, b18, b19, b20, b21, b22, b23, b24, b25, b26, b27, b28, b29], rfl, by omega, Nat.le_refl _, by omega, Nat.le_refl _, fun z0 z1 z2 z3 z4 z5 z6 z7 hz => ⟨rfl, hcf1, hf, hk, fun w0 w1 w2 w3 w4 w5 w6 w7 w8 w9 w10 w11 w12 w13 w14 w15 w16 w17 w18 w19 w20 w21 w22 w23 w24 w25 w26 w27 w28 w29 hw => ?_⟩⟩⟩
      have e := hy.trans hw.symm
      simp only [List.cons.injEq, and_true] at e
      obtain ⟨rfl, rfl, rfl, rfl, rfl, rfl, rfl, rfl, rfl, rfl, rfl, rfl, rfl, rfl, rfl, rfl, rfl, rfl, rfl, rfl, rfl, rfl, rfl, rfl, rfl, rfl, rfl, rfl, rfl, rfl⟩ := e
      refine ⟨hk, hB, hd1, by simp only [ieq_same, Bool.and_self, Bool.and_true], hcf2, rfl, hs, [b0, b1, b2, b3, b4, b5, b6, b7, b8, b9, b10, b11, b12, b13, b14, b15, b16, b17, b18, b19, b20, b21, b22, b23, b24, b25, b26, b27, b28, b29], rfl, by omega, Nat.le_refl _, by omega, Nat.le_refl _, hk, hB2, fun v0 v1 v2 v3 v4 v5 v6 v7 hv => ?_⟩
      have e := hz.trans hv.symm
      simp only [List.cons.injEq, and_true] at e
      obtain ⟨rfl, rfl, rfl, rfl, rfl, rfl, rfl, rfl⟩ := e
      exact ⟨rfl, by simp only [ieq_same, Bool.and_self, Bool.and_true], rfl⟩
    · have hc1 : ieq (ckF d c n a0 a1 a2 a3 a4 a5 a6 a7) 0 = false := ieq_ne' hc
      have hcf1 : ieq (cfF d c n a0 a1 a2 a3 a4 a5 a6 a7) 0 = false := by rw [← ck_cf]; exact hc1
      refine CallJ.ofE mixed orcHd_ok (askHd_ok false false) (Eq.mpr (fr_00 es k0 k1 k2 k3 k4 k5 k6 k7 b0 b1 b2 b3 b4 b5 b6 b7 b8 b9 b10 b11 b12 b13 b14 b15 b16 b17 b18 b19 b20 b21 b22 b23 b24 b25 b26 b27 b28 b29 d c n a0 a1 a2 a3 a4 a5 a6 a7 _) ?_)
      refine ⟨hc1, hk, hB, hd1, rfl, rfl, rfl, [b0, b1, b2, b3, b4, b5, b6, b7, b8, b9, b10, b11, b12, b13, b14, b15, b16, b17, b18, b19, b20, b21, b22, b23, b24, b25, b26, b27, b28, b29], rfl, by omega, Nat.le_refl _, by omega, Nat.le_refl _, fun z0 z1 z2 z3 z4 z5 z6 z7 hz => ⟨rfl, hcf1, hk, hB, hd1, rfl, hcc, rfl, hs, [b0, b1, b2, b3, b4, b5, b6, b7, b8, b9, b10, b11, b12, b13, b14, b15, b16, b17, b18, b19, b20, b21, b22, b23, b24, b25, b26, b27, b28, b29], rfl, by omega, Nat.le_refl _, by omega, Nat.le_refl _, hk, hB2, fun v0 v1 v2 v3 v4 v5 v6 v7 hv => ?_⟩⟩
      have e := hz.trans hv.symm
      simp only [List.cons.injEq, and_true] at e
      obtain ⟨rfl, rfl, rfl, rfl, rfl, rfl, rfl, rfl⟩ := e
      exact ⟨rfl, by simp only [ieq_same, Bool.and_self, Bool.and_true], rfl⟩
end Go.Proofs.YtphhcoiclkfimaaGreatDoor
