/-
  OWN WORK. Frames: the errors of both checks are the same; what Decode returns, by the program and by the reference.
-/
import Derived.Test.YtphhcoiclkfimaaGreatDoorFrD
namespace Go.Proofs.YtphhcoiclkfimaaGreatDoor
open Go Go.Am

theorem eq_self32 {x : Nat} (h : smpE x = 0) : BEq.beq (Ieee.Format.order (FloatKind.format FloatKind.f32) x x) (Option.some Ordering.eq) = true := by
  have := ne32_self (smp_valid h).1
  unfold ne32 bne at this
  cases hb : BEq.beq (Ieee.Format.order (FloatKind.format FloatKind.f32) x x) (Option.some Ordering.eq) with
  | true => rfl
  | false =>
    have h2 : BEq.beq (Ieee.single.order x x) (Option.some Ordering.eq) = false := hb
    rw [h2] at this
    cases this
theorem tr_tl (n i : Int) {x : Nat} (h : smpE x = 0) : BEq.beq (Ieee.Format.order (FloatKind.format FloatKind.f32) x (trX n i x)) (Option.some Ordering.eq) = !tlX n i x := by
  unfold trX tlX
  cases ilt i n with
  | true => exact eq_self32 h
  | false =>
    show BEq.beq (Ieee.Format.order (FloatKind.format FloatKind.f32) x 0) (Option.some Ordering.eq) = !(bne (Ieee.Format.order (FloatKind.format FloatKind.f32) x 0) (Option.some Ordering.eq))
    unfold bne
    rw [Bool.not_not]
theorem tail_whenS : ∀ t0 t1 t2 t3 t4 t5 t6 t7 : Bool, whenS (!(true && (true && (true && ((!t0 && (!t1 && (!t2 && (!t3 && (!t4 && (!t5 && (!t6 && (!t7 && true)))))))) && true))))) 1 = (bif t0 then 1 else (bif t1 then 1 else (bif t2 then 1 else (bif t3 then 1 else (bif t4 then 1 else (bif t5 then 1 else (bif t6 then 1 else (bif t7 then 1 else 0))))))) : Int)
  | true, _, _, _, _, _, _, _ => rfl
  | false, true, _, _, _, _, _, _ => rfl
  | false, false, true, _, _, _, _, _ => rfl
  | false, false, false, true, _, _, _, _ => rfl
  | false, false, false, false, true, _, _, _ => rfl
  | false, false, false, false, false, true, _, _ => rfl
  | false, false, false, false, false, false, true, _ => rfl
  | false, false, false, false, false, false, false, true => rfl
  | false, false, false, false, false, false, false, false => rfl
theorem first5 (w : Int) : firstS [0, 0, 0, 0, w] = w := by
  show (bif ieq w 0 then firstS [] else w) = w
  cases h : ieq w 0 with
  | false => rfl
  | true =>
    rw [ieq_dec] at h
    exact (of_decide_eq_true h).symm
theorem ieq_same (x : Int) : ieq x x = true := by rw [ieq_dec]; exact decide_eq_true rfl
theorem ck_cf (d c n : Int) (a0 a1 a2 a3 a4 a5 a6 a7 : Nat) : ckF d c n a0 a1 a2 a3 a4 a5 a6 a7 = cfF d c n a0 a1 a2 a3 a4 a5 a6 a7 := by
  unfold cfF
  cases hz : ieq (cfB d c n a0 a1 a2 a3 a4 a5 a6 a7) 0 with
  | true =>
    rw [ieq_dec] at hz
    obtain ⟨h1, h2, h3, h4⟩ := cfB_zero (of_decide_eq_true hz)
    obtain ⟨s0, s1, s2, s3, s4, s5, s6, s7⟩ := smps_zero8 h4
    show ckF d c n a0 a1 a2 a3 a4 a5 a6 a7 = tlF n a0 a1 a2 a3 a4 a5 a6 a7
    unfold ckF trB tlF
    rw [h1, h2, h3, h4, ieq_same, ieq_same, ieq_same, tr_tl n 0 s0, tr_tl n 1 s1, tr_tl n 2 s2, tr_tl n 3 s3, tr_tl n 4 s4, tr_tl n 5 s5, tr_tl n 6 s6, tr_tl n 7 s7]
    exact (first5 _).trans (tail_whenS _ _ _ _ _ _ _ _)
  | false =>
    show ckF d c n a0 a1 a2 a3 a4 a5 a6 a7 = cfB d c n a0 a1 a2 a3 a4 a5 a6 a7
    unfold cfB at hz ⊢
    unfold ckF
    simp only [firstS_at] at hz ⊢
    cases h1 : ieq (withinS d 0 255) 0 with
    | false => rw [h1] at hz; rfl
    | true =>
      rw [h1] at hz
      cases h2 : ieq (withinS c 0 16777215) 0 with
      | false => rw [h2] at hz; rfl
      | true =>
        rw [h2] at hz
        cases h3 : ieq (withinS n 0 8) 0 with
        | false => rw [h3] at hz; rfl
        | true =>
          rw [h3] at hz
          cases h4 : ieq (smpsE [a0, a1, a2, a3, a4, a5, a6, a7]) 0 with
          | false => rw [h4] at hz; rfl
          | true =>
            rw [h4] at hz
            cases hz
noncomputable def cntC (b c d : Int) : Int := 65536 * b + 256 * c + d
noncomputable def cntP (b c d : Int) : Int := IntKind.wrap .i64 (Int.ofNat (HOr.hOr (Int.toNat (IntKind.wrap .i64 (Int.ofNat (HOr.hOr (Int.toNat (IntKind.wrap .i64 (fwrap IntKind.i64 b * 65536) % 18446744073709551616)) (Int.toNat (IntKind.wrap .i64 (fwrap IntKind.i64 c * 256) % 18446744073709551616)))) % 18446744073709551616)) (Int.toNat (fwrap IntKind.i64 d % 18446744073709551616))))
theorem cntP_eq {b c d : Int} (hb : inB b) (hc : inB c) (hd : inB d) : cntP b c d = cntC b c d := by
  obtain ⟨x, rfl⟩ := Int.eq_ofNat_of_zero_le hb.1
  obtain ⟨y, rfl⟩ := Int.eq_ofNat_of_zero_le hc.1
  obtain ⟨z, rfl⟩ := Int.eq_ofNat_of_zero_le hd.1
  unfold inB at hb hc hd
  unfold cntP cntC
  rw [fwrap_small (x := (x : Int)) (by omega) (by omega), fwrap_small (x := (y : Int)) (by omega) (by omega), fwrap_small (x := (z : Int)) (by omega) (by omega), wrap_small (x := (x : Int) * 65536) (by omega) (by omega), wrap_small (x := (y : Int) * 256) (by omega) (by omega)]
  rw [show ((x : Int) * 65536 % 18446744073709551616).toNat = x * 65536 by omega, show ((y : Int) * 256 % 18446744073709551616).toNat = y * 256 by omega, show ((z : Int) % 18446744073709551616).toNat = z by omega]
  have e1 : x * 65536 ||| y * 256 = x * 65536 + y * 256 := by
    have := Nat.two_pow_add_eq_or_of_lt (i := 16) (b := y * 256) (by omega) x
    rw [show 2 ^ 16 * x = x * 65536 by omega] at this
    exact this.symm
  rw [show Int.ofNat (HOr.hOr (x * 65536) (y * 256)) = ((x * 65536 + y * 256 : Nat) : Int) by rw [e1]; rfl, wrap_small (x := ((x * 65536 + y * 256 : Nat) : Int)) (by omega) (by omega), show (((x * 65536 + y * 256 : Nat) : Int) % 18446744073709551616).toNat = x * 65536 + y * 256 by omega]
  have e2 : x * 65536 + y * 256 ||| z = x * 65536 + y * 256 + z := by
    have := Nat.two_pow_add_eq_or_of_lt (i := 8) (b := z) (by omega) (x * 256 + y)
    rw [show 2 ^ 8 * (x * 256 + y) = x * 65536 + y * 256 by omega] at this
    exact this.symm
  rw [show Int.ofNat (HOr.hOr (x * 65536 + y * 256) z) = ((x * 65536 + y * 256 + z : Nat) : Int) by rw [e2]; rfl, wrap_small (x := ((x * 65536 + y * 256 + z : Nat) : Int)) (by omega) (by omega)]
  omega
noncomputable abbrev zFr : Value := .agg #[gi 0, gi 0, gi 0, gf 0, gf 0, gf 0, gf 0, gf 0, gf 0, gf 0, gf 0]
noncomputable def slBK (k0 k1 k2 k3 k4 k5 k6 k7 b0 b1 b2 b3 b4 b5 b6 b7 b8 b9 b10 b11 b12 b13 b14 b15 b16 b17 b18 b19 b20 b21 b22 b23 b24 b25 b26 b27 b28 b29 : Int) : Bool := decide ([b22, b23, b24, b25, b26, b27, b28, b29] = slK [b0, b1, b2, b3, b4, b5, b6, b7, b8, b9, b10, b11, b12, b13, b14, b15, b16, b17, b18, b19, b20, b21] k0 k1 k2 k3 k4 k5 k6 k7)
noncomputable def deC (b1 b2 b3 b4 b5 b6 b7 b8 b9 b10 b11 b12 b13 b14 b15 b16 b17 b18 b19 b20 b21 : Int) : Int := ckF b1 (cntC b2 b3 b4) b5 (sampleE (dec16 b6 b7)) (sampleE (dec16 b8 b9)) (sampleE (dec16 b10 b11)) (sampleE (dec16 b12 b13)) (sampleE (dec16 b14 b15)) (sampleE (dec16 b16 b17)) (sampleE (dec16 b18 b19)) (sampleE (dec16 b20 b21))
noncomputable def deE (k0 k1 k2 k3 k4 k5 k6 k7 b0 b1 b2 b3 b4 b5 b6 b7 b8 b9 b10 b11 b12 b13 b14 b15 b16 b17 b18 b19 b20 b21 b22 b23 b24 b25 b26 b27 b28 b29 : Int) : Int := bif ieq b0 211 then (bif slBK k0 k1 k2 k3 k4 k5 k6 k7 b0 b1 b2 b3 b4 b5 b6 b7 b8 b9 b10 b11 b12 b13 b14 b15 b16 b17 b18 b19 b20 b21 b22 b23 b24 b25 b26 b27 b28 b29 then deC b1 b2 b3 b4 b5 b6 b7 b8 b9 b10 b11 b12 b13 b14 b15 b16 b17 b18 b19 b20 b21 else 27) else 1
noncomputable def deV (b1 b2 b3 b4 b5 b6 b7 b8 b9 b10 b11 b12 b13 b14 b15 b16 b17 b18 b19 b20 b21 : Int) : Value := frV b1 (cntC b2 b3 b4) b5 (sampleE (dec16 b6 b7)) (sampleE (dec16 b8 b9)) (sampleE (dec16 b10 b11)) (sampleE (dec16 b12 b13)) (sampleE (dec16 b14 b15)) (sampleE (dec16 b16 b17)) (sampleE (dec16 b18 b19)) (sampleE (dec16 b20 b21))
noncomputable def deOut (k0 k1 k2 k3 k4 k5 k6 k7 b0 b1 b2 b3 b4 b5 b6 b7 b8 b9 b10 b11 b12 b13 b14 b15 b16 b17 b18 b19 b20 b21 b22 b23 b24 b25 b26 b27 b28 b29 : Int) : Value := bif ieq (deE k0 k1 k2 k3 k4 k5 k6 k7 b0 b1 b2 b3 b4 b5 b6 b7 b8 b9 b10 b11 b12 b13 b14 b15 b16 b17 b18 b19 b20 b21 b22 b23 b24 b25 b26 b27 b28 b29) 0 then .tuple #[deV b1 b2 b3 b4 b5 b6 b7 b8 b9 b10 b11 b12 b13 b14 b15 b16 b17 b18 b19 b20 b21, gi 0] else .tuple #[zFr, gi (deE k0 k1 k2 k3 k4 k5 k6 k7 b0 b1 b2 b3 b4 b5 b6 b7 b8 b9 b10 b11 b12 b13 b14 b15 b16 b17 b18 b19 b20 b21 b22 b23 b24 b25 b26 b27 b28 b29)]
theorem in_take {l : List Int} {n : Nat} (h : ∀ x ∈ l, inB x) : ∀ x : Int, List.Mem x (l.take n) → inB x := fun x hx => h x (List.mem_of_mem_take hx)
theorem seal_same {A B : List Int} : decide (A = B) = true ↔ A = B := decide_eq_true_iff
set_option maxRecDepth 100000 in
theorem de_call (k0 k1 k2 k3 k4 k5 k6 k7 b0 b1 b2 b3 b4 b5 b6 b7 b8 b9 b10 b11 b12 b13 b14 b15 b16 b17 b18 b19 b20 b21 b22 b23 b24 b25 b26 b27 b28 b29 : Int) (hb : ∀ x ∈ [b0, b1, b2, b3, b4, b5, b6, b7, b8, b9, b10, b11, b12, b13, b14, b15, b16, b17, b18, b19, b20, b21, b22, b23, b24, b25, b26, b27, b28, b29], inB x) : CallJ Tryz.prog 23 #[ke k0 k1 k2 k3 k4 k5 k6 k7, ar30 b0 b1 b2 b3 b4 b5 b6 b7 b8 b9 b10 b11 b12 b13 b14 b15 b16 b17 b18 b19 b20 b21 b22 b23 b24 b25 b26 b27 b28 b29] (emp Tryz.prog) (fun u _ => u = deOut k0 k1 k2 k3 k4 k5 k6 k7 b0 b1 b2 b3 b4 b5 b6 b7 b8 b9 b10 b11 b12 b13 b14 b15 b16 b17 b18 b19 b20 b21 b22 b23 b24 b25 b26 b27 b28 b29) := by
  have i : ∀ j : Nat, inB ([b0, b1, b2, b3, b4, b5, b6, b7, b8, b9, b10, b11, b12, b13, b14, b15, b16, b17, b18, b19, b20, b21, b22, b23, b24, b25, b26, b27, b28, b29].getD j 0) := fun j => getD_in hb j
  have i0 : inB b0 := i 0
  have i1 : inB b1 := i 1
  have i2 : inB b2 := i 2
  have i3 : inB b3 := i 3
  have i4 : inB b4 := i 4
  have i5 : inB b5 := i 5
  have hC := cntP_eq i2 i3 i4
  have hD : fwrap IntKind.i64 b1 = b1 := by unfold inB at i1; exact fwrap_small (by omega) (by omega)
  have hN : fwrap IntKind.i64 b5 = b5 := by unfold inB at i5; exact fwrap_small (by omega) (by omega)
  refine CallJ.ofE mixed orcDb_ok (askDb_ok (noAsks_ok _)) (Eq.mpr (de_run k0 k1 k2 k3 k4 k5 k6 k7 b0 b1 b2 b3 b4 b5 b6 b7 b8 b9 b10 b11 b12 b13 b14 b15 b16 b17 b18 b19 b20 b21 b22 b23 b24 b25 b26 b27 b28 b29 _) ⟨fun h => ?_, fun h => ⟨[b0, b1, b2, b3, b4, b5, b6, b7, b8, b9, b10, b11, b12, b13, b14, b15, b16, b17, b18, b19, b20, b21, b22, b23, b24, b25, b26, b27, b28, b29], rfl, by omega, by show 22 ≤ 30; omega, by omega, by omega, fun y0 y1 y2 y3 y4 y5 y6 y7 hy => ⟨rfl, fun h2 => ?_, fun h2 => ⟨rfl, [b0, b1, b2, b3, b4, b5, b6, b7, b8, b9, b10, b11, b12, b13, b14, b15, b16, b17, b18, b19, b20, b21, b22, b23, b24, b25, b26, b27, b28, b29], rfl, rfl, by show 22 ≤ 30; omega, by omega, fun x hx => hb x (List.mem_of_mem_drop (List.mem_of_mem_take hx)), fun a0 a1 a2 a3 a4 a5 a6 a7 ha => ?_⟩⟩⟩⟩)
  · have e : deE k0 k1 k2 k3 k4 k5 k6 k7 b0 b1 b2 b3 b4 b5 b6 b7 b8 b9 b10 b11 b12 b13 b14 b15 b16 b17 b18 b19 b20 b21 b22 b23 b24 b25 b26 b27 b28 b29 = 1 := by unfold deE; rw [not_t h]; rfl
    unfold deOut; rw [e]; rfl
  · rw [same8, hy] at h2
    have hs : slBK k0 k1 k2 k3 k4 k5 k6 k7 b0 b1 b2 b3 b4 b5 b6 b7 b8 b9 b10 b11 b12 b13 b14 b15 b16 b17 b18 b19 b20 b21 b22 b23 b24 b25 b26 b27 b28 b29 = false := not_t h2
    have e : deE k0 k1 k2 k3 k4 k5 k6 k7 b0 b1 b2 b3 b4 b5 b6 b7 b8 b9 b10 b11 b12 b13 b14 b15 b16 b17 b18 b19 b20 b21 b22 b23 b24 b25 b26 b27 b28 b29 = 27 := by unfold deE; rw [not_f h, hs]; rfl
    unfold deOut; rw [e]; rfl
  · rw [same8, hy] at h2
    have hs : slBK k0 k1 k2 k3 k4 k5 k6 k7 b0 b1 b2 b3 b4 b5 b6 b7 b8 b9 b10 b11 b12 b13 b14 b15 b16 b17 b18 b19 b20 b21 b22 b23 b24 b25 b26 b27 b28 b29 = true := not_f h2
    have e : deE k0 k1 k2 k3 k4 k5 k6 k7 b0 b1 b2 b3 b4 b5 b6 b7 b8 b9 b10 b11 b12 b13 b14 b15 b16 b17 b18 b19 b20 b21 b22 b23 b24 b25 b26 b27 b28 b29 = deC b1 b2 b3 b4 b5 b6 b7 b8 b9 b10 b11 b12 b13 b14 b15 b16 b17 b18 b19 b20 b21 := by unfold deE; rw [not_f h, hs]; rfl
    have ha : [a0, a1, a2, a3, a4, a5, a6, a7] = [sampleE (dec16 b6 b7), sampleE (dec16 b8 b9), sampleE (dec16 b10 b11), sampleE (dec16 b12 b13), sampleE (dec16 b14 b15), sampleE (dec16 b16 b17), sampleE (dec16 b18 b19), sampleE (dec16 b20 b21)] := ha
    simp only [List.cons.injEq, and_true] at ha
    obtain ⟨rfl, rfl, rfl, rfl, rfl, rfl, rfl, rfl⟩ := ha
    unfold cntP at hC
    rw [hD, hN, hC]
    refine ⟨fun h3 => ?_, fun h3 => ?_⟩
    · have h3 : (!(ieq (deC b1 b2 b3 b4 b5 b6 b7 b8 b9 b10 b11 b12 b13 b14 b15 b16 b17 b18 b19 b20 b21) 0)) = true := h3
      unfold deOut; rw [e, not_t h3]; rfl
    · have h3 : (!(ieq (deC b1 b2 b3 b4 b5 b6 b7 b8 b9 b10 b11 b12 b13 b14 b15 b16 b17 b18 b19 b20 b21) 0)) = false := h3
      unfold deOut; rw [e, not_f h3]
      rfl
theorem within_03 {x a b : Int} (h : ieq (withinS x a b) 0 = false) : withinS x a b = 3 := by
  unfold withinS whenS at h ⊢
  cases hc : (ilt x a || ilt b x) with
  | true => rfl
  | false => rw [hc] at h; cases h
theorem smp_dec {u : Int} (h1 : -65536 ≤ u) (h2 : u ≤ 65536) : smpE (sampleE u) = withinS u (-16384) 16384 := by
  rw [smp_sample h1 h2]
  by_cases h : -16384 ≤ u ∧ u ≤ 16384
  · rw [if_pos h, within_ok h]
  · rw [if_neg h, within_bad h]
noncomputable def deW (b5 b6 b7 b8 b9 b10 b11 b12 b13 b14 b15 b16 b17 b18 b19 b20 b21 : Int) : Int := firstS [withinS b5 0 8, firstS [withinS (dec16 b6 b7) (-16384) 16384, withinS (dec16 b8 b9) (-16384) 16384, withinS (dec16 b10 b11) (-16384) 16384, withinS (dec16 b12 b13) (-16384) 16384, withinS (dec16 b14 b15) (-16384) 16384, withinS (dec16 b16 b17) (-16384) 16384, withinS (dec16 b18 b19) (-16384) 16384, withinS (dec16 b20 b21) (-16384) 16384]]
theorem dec_bound {a b : Int} (ha : inB a) (hb : inB b) : -65536 ≤ dec16 a b ∧ dec16 a b ≤ 65536 := by
  have := dec16_le ha hb
  omega
theorem deC_eq {b1 b2 b3 b4 b5 b6 b7 b8 b9 b10 b11 b12 b13 b14 b15 b16 b17 b18 b19 b20 b21 : Int} (h1 : inB b1) (h2 : inB b2) (h3 : inB b3) (h4 : inB b4) (h6 : inB b6) (h7 : inB b7) (h8 : inB b8) (h9 : inB b9) (h10 : inB b10) (h11 : inB b11) (h12 : inB b12) (h13 : inB b13) (h14 : inB b14) (h15 : inB b15) (h16 : inB b16) (h17 : inB b17) (h18 : inB b18) (h19 : inB b19) (h20 : inB b20) (h21 : inB b21) : deC b1 b2 b3 b4 b5 b6 b7 b8 b9 b10 b11 b12 b13 b14 b15 b16 b17 b18 b19 b20 b21 = bif ieq (deW b5 b6 b7 b8 b9 b10 b11 b12 b13 b14 b15 b16 b17 b18 b19 b20 b21) 0 then tlF b5 (sampleE (dec16 b6 b7)) (sampleE (dec16 b8 b9)) (sampleE (dec16 b10 b11)) (sampleE (dec16 b12 b13)) (sampleE (dec16 b14 b15)) (sampleE (dec16 b16 b17)) (sampleE (dec16 b18 b19)) (sampleE (dec16 b20 b21)) else deW b5 b6 b7 b8 b9 b10 b11 b12 b13 b14 b15 b16 b17 b18 b19 b20 b21 := by
  unfold deC
  rw [ck_cf]
  unfold cfF
  have e : cfB b1 (cntC b2 b3 b4) b5 (sampleE (dec16 b6 b7)) (sampleE (dec16 b8 b9)) (sampleE (dec16 b10 b11)) (sampleE (dec16 b12 b13)) (sampleE (dec16 b14 b15)) (sampleE (dec16 b16 b17)) (sampleE (dec16 b18 b19)) (sampleE (dec16 b20 b21)) = deW b5 b6 b7 b8 b9 b10 b11 b12 b13 b14 b15 b16 b17 b18 b19 b20 b21 := by
    unfold cfB deW smpsE
    simp only [List.map]
    rw [smp_dec (dec_bound h6 h7).1 (dec_bound h6 h7).2, smp_dec (dec_bound h8 h9).1 (dec_bound h8 h9).2, smp_dec (dec_bound h10 h11).1 (dec_bound h10 h11).2, smp_dec (dec_bound h12 h13).1 (dec_bound h12 h13).2, smp_dec (dec_bound h14 h15).1 (dec_bound h14 h15).2, smp_dec (dec_bound h16 h17).1 (dec_bound h16 h17).2, smp_dec (dec_bound h18 h19).1 (dec_bound h18 h19).2, smp_dec (dec_bound h20 h21).1 (dec_bound h20 h21).2]
    have h1 : withinS b1 0 255 = 0 := by
      unfold inB at h1
      unfold withinS whenS
      rw [ilt_dec, ilt_dec, decide_eq_false (by omega), decide_eq_false (by omega)]; rfl
    have h2 : withinS (cntC b2 b3 b4) 0 16777215 = 0 := by
      unfold inB at h2 h3 h4
      unfold withinS whenS cntC
      rw [ilt_dec, ilt_dec, decide_eq_false (by omega), decide_eq_false (by omega)]; rfl
    rw [h1, h2]
    simp only [firstS_at]
    rfl
  rw [e]
theorem cntR_eq3 {b c d : Int} (hb : inB b) (hc : inB c) (hd : inB d) : fwrap IntKind.i64 (fwrap IntKind.i64 (fwrap IntKind.i64 (65536 * fwrap IntKind.i64 b) + fwrap IntKind.i64 (256 * fwrap IntKind.i64 c)) + fwrap IntKind.i64 d) = cntC b c d := by
  unfold inB at hb hc hd
  unfold cntC
  rw [fwrap_small (x := b) (by omega) (by omega), fwrap_small (x := c) (by omega) (by omega), fwrap_small (x := d) (by omega) (by omega), fwrap_small (x := 65536 * b) (by omega) (by omega), fwrap_small (x := 256 * c) (by omega) (by omega), fwrap_small (x := 65536 * b + 256 * c) (by omega) (by omega), fwrap_small (by omega) (by omega)]
theorem slKi {l : List Int} {k0 k1 k2 k3 k4 k5 k6 k7 : Int} (hk : in8 k0 k1 k2 k3 k4 k5 k6 k7) (_ : ∀ x : Int, List.Mem x l → inB x) : ∀ x ∈ slK l k0 k1 k2 k3 k4 k5 k6 k7, inB x := by
  obtain ⟨g0, g1, g2, g3, g4, g5, g6, g7⟩ := hk
  intro x hx
  unfold slK at hx
  simp only [List.mem_cons, List.not_mem_nil, or_false] at hx
  rcases hx with rfl | rfl | rfl | rfl | rfl | rfl | rfl | rfl <;> apply slF_in <;> assumption
theorem eight_of (y0 y1 y2 y3 y4 y5 y6 y7 b22 b23 b24 b25 b26 b27 b28 b29 : Int) (T : List Int) (hy : [y0, y1, y2, y3, y4, y5, y6, y7] = T) (h1 : ∀ x ∈ [y0, y1, y2, y3, y4, y5, y6, y7], inB x) (h2 : ∀ x ∈ [b22, b23, b24, b25, b26, b27, b28, b29], inB x) :
    BEq.beq (ByteArray.toList (strB [y0, y1, y2, y3, y4, y5, y6, y7])) (ByteArray.toList (strB [b22, b23, b24, b25, b26, b27, b28, b29])) = decide ([b22, b23, b24, b25, b26, b27, b28, b29] = T) := by
  rw [str_same h1 h2, ← hy]
  exact decide_eq_decide.2 eq_comm
set_option maxRecDepth 100000 in
theorem De_call (k0 k1 k2 k3 k4 k5 k6 k7 b0 b1 b2 b3 b4 b5 b6 b7 b8 b9 b10 b11 b12 b13 b14 b15 b16 b17 b18 b19 b20 b21 b22 b23 b24 b25 b26 b27 b28 b29 : Int) (hb : ∀ x ∈ [b0, b1, b2, b3, b4, b5, b6, b7, b8, b9, b10, b11, b12, b13, b14, b15, b16, b17, b18, b19, b20, b21, b22, b23, b24, b25, b26, b27, b28, b29], inB x) (hk : in8 k0 k1 k2 k3 k4 k5 k6 k7) : CallJ Tryz.prog 28 #[ke k0 k1 k2 k3 k4 k5 k6 k7, ar30 b0 b1 b2 b3 b4 b5 b6 b7 b8 b9 b10 b11 b12 b13 b14 b15 b16 b17 b18 b19 b20 b21 b22 b23 b24 b25 b26 b27 b28 b29] (emp Tryz.prog) (fun u _ => u = deOut k0 k1 k2 k3 k4 k5 k6 k7 b0 b1 b2 b3 b4 b5 b6 b7 b8 b9 b10 b11 b12 b13 b14 b15 b16 b17 b18 b19 b20 b21 b22 b23 b24 b25 b26 b27 b28 b29) := by
  have i : ∀ j : Nat, inB ([b0, b1, b2, b3, b4, b5, b6, b7, b8, b9, b10, b11, b12, b13, b14, b15, b16, b17, b18, b19, b20, b21, b22, b23, b24, b25, b26, b27, b28, b29].getD j 0) := fun j => getD_in hb j
  have i0 : inB b0 := i 0
  have i1 : inB b1 := i 1
  have i2 : inB b2 := i 2
  have i3 : inB b3 := i 3
  have i4 : inB b4 := i 4
  have i5 : inB b5 := i 5
  have i6 : inB b6 := i 6
  have i7 : inB b7 := i 7
  have i8 : inB b8 := i 8
  have i9 : inB b9 := i 9
  have i10 : inB b10 := i 10
  have i11 : inB b11 := i 11
  have i12 : inB b12 := i 12
  have i13 : inB b13 := i 13
  have i14 : inB b14 := i 14
  have i15 : inB b15 := i 15
  have i16 : inB b16 := i 16
  have i17 : inB b17 := i 17
  have i18 : inB b18 := i 18
  have i19 : inB b19 := i 19
  have i20 : inB b20 := i 20
  have i21 : inB b21 := i 21
  have hC := cntR_eq3 i2 i3 i4
  have hD : fwrap IntKind.i64 b1 = b1 := by unfold inB at i1; exact fwrap_small (by omega) (by omega)
  have hN : fwrap IntKind.i64 b5 = b5 := by unfold inB at i5; exact fwrap_small (by omega) (by omega)
  have hW := deC_eq (b5 := b5) i1 i2 i3 i4 i6 i7 i8 i9 i10 i11 i12 i13 i14 i15 i16 i17 i18 i19 i20 i21
  have b8h : ∀ x ∈ [b22, b23, b24, b25, b26, b27, b28, b29], inB x := fun x hx => hb x (List.mem_of_mem_drop (i := 22) hx)
  have fac : ∀ {a b : Int}, inB a → inB b → (((!(ilt a 0)) && (!(ilt 255 a))) && ((!(ilt b 0)) && (!(ilt 255 b)))) = true := fun ha hb => inB_b ha hb
  have fad : ∀ {a b : Int}, inB a → inB b → (((!(ilt (dec16 a b) (-65536))) && (!(ilt 65536 (dec16 a b)))) = true) := fun ha hb => by
    have := dec_bound ha hb
    rw [ilt_dec, ilt_dec, decide_eq_false (by omega), decide_eq_false (by omega)]; rfl
  refine CallJ.ofE mixed orcDc_ok (askDc_ok (noAsks_ok _)) (Eq.mpr (De_run k0 k1 k2 k3 k4 k5 k6 k7 b0 b1 b2 b3 b4 b5 b6 b7 b8 b9 b10 b11 b12 b13 b14 b15 b16 b17 b18 b19 b20 b21 b22 b23 b24 b25 b26 b27 b28 b29 _) ⟨fun h => ?_, fun h => ⟨rfl, [b0, b1, b2, b3, b4, b5, b6, b7, b8, b9, b10, b11, b12, b13, b14, b15, b16, b17, b18, b19, b20, b21, b22, b23, b24, b25, b26, b27, b28, b29], rfl, by omega, by show 22 ≤ 30; omega, by omega, by omega, hk, in_take hb, fun y0 y1 y2 y3 y4 y5 y6 y7 hy => ⟨rfl, [y0, y1, y2, y3, y4, y5, y6, y7], rfl, by omega, by show 8 ≤ 8; omega, [b0, b1, b2, b3, b4, b5, b6, b7, b8, b9, b10, b11, b12, b13, b14, b15, b16, b17, b18, b19, b20, b21, b22, b23, b24, b25, b26, b27, b28, b29], rfl, by omega, by show 30 ≤ 30; omega, ?_⟩⟩⟩)
  · have e : deE k0 k1 k2 k3 k4 k5 k6 k7 b0 b1 b2 b3 b4 b5 b6 b7 b8 b9 b10 b11 b12 b13 b14 b15 b16 b17 b18 b19 b20 b21 b22 b23 b24 b25 b26 b27 b28 b29 = 1 := by unfold deE; rw [not_t h]; rfl
    unfold deOut; rw [e]; rfl
  · have hy8 : ∀ x ∈ [y0, y1, y2, y3, y4, y5, y6, y7], inB x := by rw [hy]; exact slKi hk (in_take hb)
    rw [show List.take 8 (List.drop 0 [y0, y1, y2, y3, y4, y5, y6, y7]) = [y0, y1, y2, y3, y4, y5, y6, y7] from rfl, show List.take 8 (List.drop 22 [b0, b1, b2, b3, b4, b5, b6, b7, b8, b9, b10, b11, b12, b13, b14, b15, b16, b17, b18, b19, b20, b21, b22, b23, b24, b25, b26, b27, b28, b29]) = [b22, b23, b24, b25, b26, b27, b28, b29] from rfl, eight_of y0 y1 y2 y3 y4 y5 y6 y7 b22 b23 b24 b25 b26 b27 b28 b29 _ hy hy8 b8h]
    refine ⟨fun h2 => ?_, fun h2 => ?_⟩
    · have hs : slBK k0 k1 k2 k3 k4 k5 k6 k7 b0 b1 b2 b3 b4 b5 b6 b7 b8 b9 b10 b11 b12 b13 b14 b15 b16 b17 b18 b19 b20 b21 b22 b23 b24 b25 b26 b27 b28 b29 = false := not_t h2
      have e : deE k0 k1 k2 k3 k4 k5 k6 k7 b0 b1 b2 b3 b4 b5 b6 b7 b8 b9 b10 b11 b12 b13 b14 b15 b16 b17 b18 b19 b20 b21 b22 b23 b24 b25 b26 b27 b28 b29 = 27 := by unfold deE; rw [not_f h, hs]; rfl
      unfold deOut; rw [e]; rfl
    · have hs : slBK k0 k1 k2 k3 k4 k5 k6 k7 b0 b1 b2 b3 b4 b5 b6 b7 b8 b9 b10 b11 b12 b13 b14 b15 b16 b17 b18 b19 b20 b21 b22 b23 b24 b25 b26 b27 b28 b29 = true := not_f h2
      have e : deE k0 k1 k2 k3 k4 k5 k6 k7 b0 b1 b2 b3 b4 b5 b6 b7 b8 b9 b10 b11 b12 b13 b14 b15 b16 b17 b18 b19 b20 b21 b22 b23 b24 b25 b26 b27 b28 b29 = deC b1 b2 b3 b4 b5 b6 b7 b8 b9 b10 b11 b12 b13 b14 b15 b16 b17 b18 b19 b20 b21 := by unfold deE; rw [not_f h, hs]; rfl
      rw [hD, hN, hC]
      have bad : deW b5 b6 b7 b8 b9 b10 b11 b12 b13 b14 b15 b16 b17 b18 b19 b20 b21 = 3 → deOut k0 k1 k2 k3 k4 k5 k6 k7 b0 b1 b2 b3 b4 b5 b6 b7 b8 b9 b10 b11 b12 b13 b14 b15 b16 b17 b18 b19 b20 b21 b22 b23 b24 b25 b26 b27 b28 b29 = .tuple #[zFr, gi 3] := fun hw => by
        have : deE k0 k1 k2 k3 k4 k5 k6 k7 b0 b1 b2 b3 b4 b5 b6 b7 b8 b9 b10 b11 b12 b13 b14 b15 b16 b17 b18 b19 b20 b21 b22 b23 b24 b25 b26 b27 b28 b29 = 3 := by rw [e, hW, hw]; rfl
        unfold deOut; rw [this]; rfl
      refine ⟨fun g => (bad ?_).symm, fun g => ?_⟩
      · have : withinS b5 0 8 = 3 := by unfold withinS; rw [g, Bool.or_true]; rfl
        unfold deW
        rw [this]; rfl
      have hn : withinS b5 0 8 = 0 := by
        rw [ilt_dec] at g
        have g := of_decide_eq_false g
        have := i5
        unfold inB at this
        unfold withinS whenS
        rw [ilt_dec, ilt_dec, decide_eq_false (by omega), decide_eq_false (by omega)]; rfl
      refine ⟨fac i6 i7, fun c0 => (bad ?_).symm, fun c0 => ⟨fad i6 i7, ⟨fac i8 i9, fun c1 => (bad ?_).symm, fun c1 => ⟨fad i8 i9, ⟨fac i10 i11, fun c2 => (bad ?_).symm, fun c2 => ⟨fad i10 i11, ⟨fac i12 i13, fun c3 => (bad ?_).symm, fun c3 => ⟨fad i12 i13, ⟨fac i14 i15, fun c4 => (bad ?_).symm, fun c4 => ⟨fad i14 i15, ⟨fac i16 i17, fun c5 => (bad ?_).symm, fun c5 => ⟨fad i16 i17, ⟨fac i18 i19, fun c6 => (bad ?_).symm, fun c6 => ⟨fad i18 i19, ⟨fac i20 i21, fun c7 => (bad ?_).symm, fun c7 => ⟨fad i20 i21, ?_⟩⟩⟩⟩⟩⟩⟩⟩⟩⟩⟩⟩⟩⟩⟩⟩
      · have hi := within_03 (not_t c0)
        unfold deW
        simp only [firstS_at, hn, not_t c0, cond_true, cond_false, hi]
        rfl
      · have hi := within_03 (not_t c1)
        unfold deW
        simp only [firstS_at, hn, not_f c0, not_t c1, cond_true, cond_false, hi]
        rfl
      · have hi := within_03 (not_t c2)
        unfold deW
        simp only [firstS_at, hn, not_f c0, not_f c1, not_t c2, cond_true, cond_false, hi]
        rfl
      · have hi := within_03 (not_t c3)
        unfold deW
        simp only [firstS_at, hn, not_f c0, not_f c1, not_f c2, not_t c3, cond_true, cond_false, hi]
        rfl
      · have hi := within_03 (not_t c4)
        unfold deW
        simp only [firstS_at, hn, not_f c0, not_f c1, not_f c2, not_f c3, not_t c4, cond_true, cond_false, hi]
        rfl
      · have hi := within_03 (not_t c5)
        unfold deW
        simp only [firstS_at, hn, not_f c0, not_f c1, not_f c2, not_f c3, not_f c4, not_t c5, cond_true, cond_false, hi]
        rfl
      · have hi := within_03 (not_t c6)
        unfold deW
        simp only [firstS_at, hn, not_f c0, not_f c1, not_f c2, not_f c3, not_f c4, not_f c5, not_t c6, cond_true, cond_false, hi]
        rfl
      · have hi := within_03 (not_t c7)
        unfold deW
        simp only [firstS_at, hn, not_f c0, not_f c1, not_f c2, not_f c3, not_f c4, not_f c5, not_f c6, not_t c7, cond_true, cond_false, hi]
        rfl
      · have hw : deW b5 b6 b7 b8 b9 b10 b11 b12 b13 b14 b15 b16 b17 b18 b19 b20 b21 = 0 := by
          unfold deW
          simp only [firstS_at, hn, not_f c0, not_f c1, not_f c2, not_f c3, not_f c4, not_f c5, not_f c6, not_f c7, cond_true]
          rfl
        have et : deC b1 b2 b3 b4 b5 b6 b7 b8 b9 b10 b11 b12 b13 b14 b15 b16 b17 b18 b19 b20 b21 = tlF b5 (sampleE (dec16 b6 b7)) (sampleE (dec16 b8 b9)) (sampleE (dec16 b10 b11)) (sampleE (dec16 b12 b13)) (sampleE (dec16 b14 b15)) (sampleE (dec16 b16 b17)) (sampleE (dec16 b18 b19)) (sampleE (dec16 b20 b21)) := by rw [hW, hw]; rfl
        refine ⟨by have := i5; unfold inB at this; rw [ilt_dec, decide_eq_false (by omega)]; rfl, fun h3 => ?_, fun h3 => ?_⟩
        · unfold deOut; rw [e, et, not_t h3]; rfl
        · unfold deOut; rw [e, et, not_f h3]; rfl
end Go.Proofs.YtphhcoiclkfimaaGreatDoor
