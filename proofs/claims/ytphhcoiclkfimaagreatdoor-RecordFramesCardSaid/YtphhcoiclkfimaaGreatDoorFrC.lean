/-
  OWN WORK. Frames are encoded: by the program and by the reference.
-/
import Derived.Test.YtphhcoiclkfimaaGreatDoorFrB
import Derived.Test.YtphhcoiclkfimaaGreatDoorStD
namespace Go.Proofs.YtphhcoiclkfimaaGreatDoor
open Go Go.Am

noncomputable def orcEa : Orc := liftO 120 orcY orcFg
theorem orcEa_ok : OrcOk Tryz.prog orcEa := liftO_ok orcY_ok orcFg_ok
noncomputable def askEa (A : Asks) : Asks := liftA 120 askY A
theorem askEa_ok {A : Asks} (h : AsksOk orcFg A) : AsksOk orcEa (askEa A) := liftA_ok askY_ok h
noncomputable def orcEb : Orc := inlO Tryz.prog 119 60 orcEa
theorem orcEb_ok : OrcOk Tryz.prog orcEb := inlO_ok mixed orcEa_ok
noncomputable def askEb (A : Asks) : Asks := asksI Tryz.prog 119 60 orcEa (syOf [(20, 7)]) (askEa noAsks) (askEa A)
theorem askEb_ok {A : Asks} (h : AsksOk orcFg A) : AsksOk orcEb (askEb A) := asksI_ok (askEa_ok (noAsks_ok _)) (askEa_ok h)
noncomputable def orcEc : Orc := inlO Tryz.prog 82 60 orcEb
theorem orcEc_ok : OrcOk Tryz.prog orcEc := inlO_ok mixed orcEb_ok
noncomputable def askEc (A : Asks) : Asks := asksI Tryz.prog 82 60 orcEb (syOf [(4, 7)]) (askEb noAsks) (askEb A)
theorem askEc_ok {A : Asks} (h : AsksOk orcFg A) : AsksOk orcEc (askEc A) := asksI_ok (askEb_ok (noAsks_ok _)) (askEb_ok h)
noncomputable def orcEd : Orc := inlO Tryz.prog 68 60 orcEc
theorem orcEd_ok : OrcOk Tryz.prog orcEd := inlO_ok mixed orcEc_ok
noncomputable def askEd (A : Asks) : Asks := asksI Tryz.prog 68 60 orcEc (syOf [(9, 7)]) (askEc noAsks) (askEc A)
theorem askEd_ok {A : Asks} (h : AsksOk orcFg A) : AsksOk orcEd (askEd A) := asksI_ok (askEc_ok (noAsks_ok _)) (askEc_ok h)
noncomputable def orcEe : Orc := liftO 69 orcSb (liftO 29 orcSb orcEd)
theorem orcEe_ok : OrcOk Tryz.prog orcEe := liftO_ok orcSb_ok (liftO_ok orcSb_ok orcEd_ok)
noncomputable def askEe (A : Asks) : Asks := liftA 69 (askSb askSm) (liftA 29 (askSb askSm) (askEd A))
theorem askEe_ok {A : Asks} (h : AsksOk orcFg A) : AsksOk orcEe (askEe A) := liftA_ok (askSb_ok askSm_ok) (liftA_ok (askSb_ok askSm_ok) (askEd_ok h))
noncomputable def hiP (u : Int) : Int := fwrap IntKind.u8 (Int.fdiv (fwrap IntKind.u16 u) (2 ^ min (Int.toNat 8) IntKind.u16.bits))
noncomputable def loP (u : Int) : Int := fwrap IntKind.u8 (fwrap IntKind.u16 u)
noncomputable def bodyP (d c n : Int) (a0 a1 a2 a3 a4 a5 a6 a7 : Nat) : List Int := [211, fwrap IntKind.u8 d, fwrap IntKind.u8 (Int.fdiv c (2 ^ min (Int.toNat 16) IntKind.i64.bits)), fwrap IntKind.u8 (Int.fdiv c (2 ^ min (Int.toNat 8) IntKind.i64.bits)), fwrap IntKind.u8 c, fwrap IntKind.u8 n, hiP (unitE a0), loP (unitE a0), hiP (unitE a1), loP (unitE a1), hiP (unitE a2), loP (unitE a2), hiP (unitE a3), loP (unitE a3), hiP (unitE a4), loP (unitE a4), hiP (unitE a5), loP (unitE a5), hiP (unitE a6), loP (unitE a6), hiP (unitE a7), loP (unitE a7)]
noncomputable def bodyR (d c n : Int) (a0 a1 a2 a3 a4 a5 a6 a7 : Nat) : List Int := [211, fwrap IntKind.u8 d, fwrap IntKind.u8 (IntKind.wrap .i64 (Int.tdiv c 65536)), fwrap IntKind.u8 (Int.tmod (IntKind.wrap .i64 (Int.tdiv c 256)) 256), fwrap IntKind.u8 (Int.tmod c 256), fwrap IntKind.u8 n, hiE (unitE a0), loE (unitE a0), hiE (unitE a1), loE (unitE a1), hiE (unitE a2), loE (unitE a2), hiE (unitE a3), loE (unitE a3), hiE (unitE a4), loE (unitE a4), hiE (unitE a5), loE (unitE a5), hiE (unitE a6), loE (unitE a6), hiE (unitE a7), loE (unitE a7)]
noncomputable def bodyE (d c n : Int) (a0 a1 a2 a3 a4 a5 a6 a7 : Nat) : List Int := [211, d, c / 65536, c / 256 % 256, c % 256, n, hiB (unitE a0), loB (unitE a0), hiB (unitE a1), loB (unitE a1), hiB (unitE a2), loB (unitE a2), hiB (unitE a3), loB (unitE a3), hiB (unitE a4), loB (unitE a4), hiB (unitE a5), loB (unitE a5), hiB (unitE a6), loB (unitE a6), hiB (unitE a7), loB (unitE a7)]
noncomputable def arV (l : List Int) : Value := .agg ⟨l.map gb⟩
noncomputable def z30 : Value := .agg #[gb 0, gb 0, gb 0, gb 0, gb 0, gb 0, gb 0, gb 0, gb 0, gb 0, gb 0, gb 0, gb 0, gb 0, gb 0, gb 0, gb 0, gb 0, gb 0, gb 0, gb 0, gb 0, gb 0, gb 0, gb 0, gb 0, gb 0, gb 0, gb 0, gb 0]
theorem en_run (d c n : Int) (a0 a1 a2 a3 a4 a5 a6 a7 : Nat) (k0 k1 k2 k3 k4 k5 k6 k7 : Int) (K : Value → Prop) : callE Tryz.prog orcEe (syOf [(13, 1), (37, 7), (40, 7)]) (askEe noAsks) 60 22 #[ke k0 k1 k2 k3 k4 k5 k6 k7, frV d c n a0 a1 a2 a3 a4 a5 a6 a7] (emp Tryz.prog) (fun v _ => K v) =
  (((!(ieq (ckF d c n a0 a1 a2 a3 a4 a5 a6 a7) 0)) = true → K (.tuple #[z30, gi (ckF d c n a0 a1 a2 a3 a4 a5 a6 a7)])) ∧ ((!(ieq (ckF d c n a0 a1 a2 a3 a4 a5 a6 a7) 0)) = false → (ieq (smpE a0) 0 = true ∧ ieq (smpE a1) 0 = true ∧ ieq (smpE a2) 0 = true ∧ ieq (smpE a3) 0 = true ∧ ieq (smpE a4) 0 = true ∧ ieq (smpE a5) 0 = true ∧ ieq (smpE a6) 0 = true ∧ ieq (smpE a7) 0 = true ∧ (∃ L : List Int, ((bodyP d c n a0 a1 a2 a3 a4 a5 a6 a7).map gb = L.map gb ∧ (0 : Nat) < 22 ∧ (22 : Nat) ≤ L.length ∧ (22 : Nat) ≤ 1000000 ∧ (22 : Nat) ≤ 22 ∧
    ∀ y0 y1 y2 y3 y4 y5 y6 y7 : Int, [y0, y1, y2, y3, y4, y5, y6, y7] = slK (L.take 22) k0 k1 k2 k3 k4 k5 k6 k7 → K (.tuple #[arV (bodyP d c n a0 a1 a2 a3 a4 a5 a6 a7 ++ [y0, y1, y2, y3, y4, y5, y6, y7]), gi 0])))))) := by kernel_rfl
noncomputable def orcEf : Orc := inlO Tryz.prog 74 60 (liftO 75 orcYa orcEe)
theorem orcEf_ok : OrcOk Tryz.prog orcEf := inlO_ok mixed (liftO_ok orcYa_ok orcEe_ok)
noncomputable def askEf (A : Asks) : Asks := asksI Tryz.prog 74 60 (liftO 75 orcYa orcEe) (syOf [(5, 6), (7, 35), (10, 6)]) noAsks (liftA 75 askYa (askEe A))
theorem askEf_ok {A : Asks} (h : AsksOk orcFg A) : AsksOk orcEf (askEf A) := asksI_ok (noAsks_ok _) (liftA_ok askYa_ok (askEe_ok h))
theorem En_run (d c n : Int) (a0 a1 a2 a3 a4 a5 a6 a7 : Nat) (k0 k1 k2 k3 k4 k5 k6 k7 : Int) (K : Value → Prop) : callE Tryz.prog orcEf (syOf [(14, 35), (18, 35), (19, 6), (23, 6), (38, 7), (39, 7), (43, 7)]) (askEf noAsks) 60 27 #[ke k0 k1 k2 k3 k4 k5 k6 k7, frV d c n a0 a1 a2 a3 a4 a5 a6 a7] (emp Tryz.prog) (fun v _ => K v) =
  (((65536 : Int) = 0 → False) ∧ ((256 : Int) = 0 → False) ∧ ((256 : Int) = 0 → False) ∧ ((256 : Int) = 0 → False) ∧ ieq (smpE a0) 0 = true ∧ ((65536 : Int) = 0 → False) ∧ ((256 : Int) = 0 → False) ∧ ((256 : Int) = 0 → False) ∧ ieq (smpE a1) 0 = true ∧ ((65536 : Int) = 0 → False) ∧ ((256 : Int) = 0 → False) ∧ ((256 : Int) = 0 → False) ∧ ieq (smpE a2) 0 = true ∧ ((65536 : Int) = 0 → False) ∧ ((256 : Int) = 0 → False) ∧ ((256 : Int) = 0 → False) ∧ ieq (smpE a3) 0 = true ∧ ((65536 : Int) = 0 → False) ∧ ((256 : Int) = 0 → False) ∧ ((256 : Int) = 0 → False) ∧ ieq (smpE a4) 0 = true ∧ ((65536 : Int) = 0 → False) ∧ ((256 : Int) = 0 → False) ∧ ((256 : Int) = 0 → False) ∧ ieq (smpE a5) 0 = true ∧ ((65536 : Int) = 0 → False) ∧ ((256 : Int) = 0 → False) ∧ ((256 : Int) = 0 → False) ∧ ieq (smpE a6) 0 = true ∧ ((65536 : Int) = 0 → False) ∧ ((256 : Int) = 0 → False) ∧ ((256 : Int) = 0 → False) ∧ ieq (smpE a7) 0 = true ∧ ((65536 : Int) = 0 → False) ∧ ((256 : Int) = 0 → False) ∧ ((256 : Int) = 0 → False) ∧
    (∃ L : List Int, ((bodyR d c n a0 a1 a2 a3 a4 a5 a6 a7).map gb = L.map gb ∧ (0 : Nat) < 22 ∧ (22 : Nat) ≤ L.length ∧ (22 : Nat) ≤ 1000000 ∧ (22 : Nat) ≤ 22 ∧ in8 k0 k1 k2 k3 k4 k5 k6 k7 ∧ (∀ y : Int, List.Mem y (L.take 22) → inB y) ∧
    ∀ y0 y1 y2 y3 y4 y5 y6 y7 : Int, [y0, y1, y2, y3, y4, y5, y6, y7] = slK (L.take 22) k0 k1 k2 k3 k4 k5 k6 k7 → K (arV (bodyR d c n a0 a1 a2 a3 a4 a5 a6 a7 ++ [y0, y1, y2, y3, y4, y5, y6, y7]))))) := by kernel_rfl
/-- A frame without an error. -/
structure FrOk (d c n : Int) (a0 a1 a2 a3 a4 a5 a6 a7 : Nat) : Prop where
  d0 : 0 ≤ d
  d1 : d ≤ 255
  c0 : 0 ≤ c
  c1 : c ≤ 16777215
  n0 : 0 ≤ n
  n1 : n ≤ 8
  s0 : smpE a0 = 0
  s1 : smpE a1 = 0
  s2 : smpE a2 = 0
  s3 : smpE a3 = 0
  s4 : smpE a4 = 0
  s5 : smpE a5 = 0
  s6 : smpE a6 = 0
  s7 : smpE a7 = 0
theorem smps_zero8 {a0 a1 a2 a3 a4 a5 a6 a7 : Nat} (h : smpsE [a0, a1, a2, a3, a4, a5, a6, a7] = 0) : smpE a0 = 0 ∧ smpE a1 = 0 ∧ smpE a2 = 0 ∧ smpE a3 = 0 ∧ smpE a4 = 0 ∧ smpE a5 = 0 ∧ smpE a6 = 0 ∧ smpE a7 = 0 := by
  have h' := firstS_zero h
  refine ⟨h' _ ?_, h' _ ?_, h' _ ?_, h' _ ?_, h' _ ?_, h' _ ?_, h' _ ?_, h' _ ?_⟩ <;> simp
theorem ck_ok {d c n : Int} {a0 a1 a2 a3 a4 a5 a6 a7 : Nat} (h : ckF d c n a0 a1 a2 a3 a4 a5 a6 a7 = 0) : FrOk d c n a0 a1 a2 a3 a4 a5 a6 a7 := by
  have h' := firstS_zero h
  obtain ⟨d0, d1⟩ := within_in (h' _ (.head _))
  obtain ⟨c0, c1⟩ := within_in (h' _ (.tail _ (.head _)))
  obtain ⟨n0, n1⟩ := within_in (h' _ (.tail _ (.tail _ (.head _))))
  obtain ⟨s0, s1, s2, s3, s4, s5, s6, s7⟩ := smps_zero8 (h' _ (.tail _ (.tail _ (.tail _ (.head _)))))
  exact ⟨d0, d1, c0, c1, n0, n1, s0, s1, s2, s3, s4, s5, s6, s7⟩
theorem cf_ok {d c n : Int} {a0 a1 a2 a3 a4 a5 a6 a7 : Nat} (h : cfB d c n a0 a1 a2 a3 a4 a5 a6 a7 = 0) : FrOk d c n a0 a1 a2 a3 a4 a5 a6 a7 := by
  obtain ⟨h1, h2, h3, h4⟩ := cfB_zero h
  obtain ⟨d0, d1⟩ := within_in h1
  obtain ⟨c0, c1⟩ := within_in h2
  obtain ⟨n0, n1⟩ := within_in h3
  obtain ⟨s0, s1, s2, s3, s4, s5, s6, s7⟩ := smps_zero8 h4
  exact ⟨d0, d1, c0, c1, n0, n1, s0, s1, s2, s3, s4, s5, s6, s7⟩
theorem fd16 (c : Int) : Int.fdiv c (2 ^ min (Int.toNat 16) IntKind.i64.bits) = c / 65536 := by
  have : (2 ^ min (Int.toNat 16) IntKind.i64.bits : Int) = 65536 := by decide
  rw [this, Int.fdiv_eq_ediv_of_nonneg _ (by omega)]
theorem fd8 (c : Int) : Int.fdiv c (2 ^ min (Int.toNat 8) IntKind.i64.bits) = c / 256 := by
  have : (2 ^ min (Int.toNat 8) IntKind.i64.bits : Int) = 256 := by decide
  rw [this, Int.fdiv_eq_ediv_of_nonneg _ (by omega)]
theorem hiP_eq (u : Int) : hiP u = hiB u := pHi u
theorem loP_eq (u : Int) : loP u = loB u := pLo u
theorem bodyP_eq {d c n : Int} {a0 a1 a2 a3 a4 a5 a6 a7 : Nat} (h : FrOk d c n a0 a1 a2 a3 a4 a5 a6 a7) : bodyP d c n a0 a1 a2 a3 a4 a5 a6 a7 = bodyE d c n a0 a1 a2 a3 a4 a5 a6 a7 := by
  obtain ⟨d0, d1, c0, c1, n0, n1, _⟩ := h
  unfold bodyP bodyE
  simp only [hiP_eq, loP_eq, fd16, fd8, u8_mod]
  rw [show d % 256 = d by omega, show n % 256 = n by omega, show c / 65536 % 256 = c / 65536 by omega]
theorem bodyR_eq {d c n : Int} {a0 a1 a2 a3 a4 a5 a6 a7 : Nat} (h : FrOk d c n a0 a1 a2 a3 a4 a5 a6 a7) : bodyR d c n a0 a1 a2 a3 a4 a5 a6 a7 = bodyE d c n a0 a1 a2 a3 a4 a5 a6 a7 := by
  obtain ⟨d0, d1, c0, c1, n0, n1, s0, s1, s2, s3, s4, s5, s6, s7⟩ := h
  obtain ⟨_, _, p0, q0⟩ := unit_ok s0
  obtain ⟨_, _, p1, q1⟩ := unit_ok s1
  obtain ⟨_, _, p2, q2⟩ := unit_ok s2
  obtain ⟨_, _, p3, q3⟩ := unit_ok s3
  obtain ⟨_, _, p4, q4⟩ := unit_ok s4
  obtain ⟨_, _, p5, q5⟩ := unit_ok s5
  obtain ⟨_, _, p6, q6⟩ := unit_ok s6
  obtain ⟨_, _, p7, q7⟩ := unit_ok s7
  unfold bodyR bodyE
  rw [hiE_eq p0 q0, loE_eq p0 q0, hiE_eq p1 q1, loE_eq p1 q1, hiE_eq p2 q2, loE_eq p2 q2, hiE_eq p3 q3, loE_eq p3 q3, hiE_eq p4 q4, loE_eq p4 q4, hiE_eq p5 q5, loE_eq p5 q5, hiE_eq p6 q6, loE_eq p6 q6, hiE_eq p7 q7, loE_eq p7 q7]
  simp only [u8_mod]
  rw [Int.tdiv_eq_ediv_of_nonneg c0, Int.tdiv_eq_ediv_of_nonneg c0, Int.tmod_eq_emod_of_nonneg c0, wrap_small (x := c / 65536) (by omega) (by omega), wrap_small (x := c / 256) (by omega) (by omega), Int.tmod_eq_emod_of_nonneg (by omega)]
  rw [show d % 256 = d by omega, show n % 256 = n by omega, show c / 65536 % 256 = c / 65536 by omega, show c / 256 % 256 % 256 = c / 256 % 256 by omega, show c % 256 % 256 = c % 256 by omega]
theorem bodyE_in {d c n : Int} {a0 a1 a2 a3 a4 a5 a6 a7 : Nat} (h : FrOk d c n a0 a1 a2 a3 a4 a5 a6 a7) : ∀ x ∈ bodyE d c n a0 a1 a2 a3 a4 a5 a6 a7, inB x := by
  obtain ⟨d0, d1, c0, c1, n0, n1, _⟩ := h
  intro x hx
  unfold bodyE at hx
  have hh := hiB_in
  have hl := loB_in
  simp only [List.mem_cons, List.not_mem_nil, or_false] at hx
  rcases hx with rfl | rfl | rfl | rfl | rfl | rfl | rfl | rfl | rfl | rfl | rfl | rfl | rfl | rfl | rfl | rfl | rfl | rfl | rfl | rfl | rfl | rfl
  · unfold inB; omega
  · unfold inB; omega
  · unfold inB; omega
  · unfold inB; omega
  · unfold inB; omega
  · unfold inB; omega
  all_goals first | exact hh _ | exact hl _
/-- A key and a frame, of their cells. -/
noncomputable def kfL {α : Type} (F : Int → Int → Int → Int → Int → Int → Int → Int → Int → Int → Int → Nat → Nat → Nat → Nat → Nat → Nat → Nat → Nat → α) : List Value → Option α := fun l => match l with
  | [.agg ks, .agg a] => match ks.toList, a.toList with
    | [.int .u8 k0, .int .u8 k1, .int .u8 k2, .int .u8 k3, .int .u8 k4, .int .u8 k5, .int .u8 k6, .int .u8 k7], [.int .i64 d, .int .i64 c, .int .i64 n, .float .f32 a0, .float .f32 a1, .float .f32 a2, .float .f32 a3, .float .f32 a4, .float .f32 a5, .float .f32 a6, .float .f32 a7] => some (F k0 k1 k2 k3 k4 k5 k6 k7 d c n a0 a1 a2 a3 a4 a5 a6 a7)
    | _, _ => none
  | _ => none
theorem kfL_some {α : Type} {F : Int → Int → Int → Int → Int → Int → Int → Int → Int → Int → Int → Nat → Nat → Nat → Nat → Nat → Nat → Nat → Nat → α} {l : List Value} {y : α} (h : kfL F l = some y) : ∃ k0 k1 k2 k3 k4 k5 k6 k7 d c n a0 a1 a2 a3 a4 a5 a6 a7, l = [ke k0 k1 k2 k3 k4 k5 k6 k7, frV d c n a0 a1 a2 a3 a4 a5 a6 a7] ∧ y = F k0 k1 k2 k3 k4 k5 k6 k7 d c n a0 a1 a2 a3 a4 a5 a6 a7 := by
  unfold kfL at h
  split at h
  · rename_i ks a
    split at h
    · rename_i k0 k1 k2 k3 k4 k5 k6 k7 d c n a0 a1 a2 a3 a4 a5 a6 a7 hk ha
      cases h
      refine ⟨k0, k1, k2, k3, k4, k5, k6, k7, d, c, n, a0, a1, a2, a3, a4, a5, a6, a7, ?_, rfl⟩
      rw [show ks = #[gb k0, gb k1, gb k2, gb k3, gb k4, gb k5, gb k6, gb k7] by rw [← Array.toArray_toList (xs := ks), hk], show a = #[gi d, gi c, gi n, gf a0, gf a1, gf a2, gf a3, gf a4, gf a5, gf a6, gf a7] by rw [← Array.toArray_toList (xs := a), ha]]
    · cases h
  · cases h
noncomputable def encE (d c n : Int) (a0 a1 a2 a3 a4 a5 a6 a7 : Nat) (k0 k1 k2 k3 k4 k5 k6 k7 : Int) : List Int := bodyE d c n a0 a1 a2 a3 a4 a5 a6 a7 ++ slK (bodyE d c n a0 a1 a2 a3 a4 a5 a6 a7) k0 k1 k2 k3 k4 k5 k6 k7
noncomputable def enOut (k0 k1 k2 k3 k4 k5 k6 k7 d c n : Int) (a0 a1 a2 a3 a4 a5 a6 a7 : Nat) : Value := bif ieq (ckF d c n a0 a1 a2 a3 a4 a5 a6 a7) 0 then .tuple #[arV (encE d c n a0 a1 a2 a3 a4 a5 a6 a7 k0 k1 k2 k3 k4 k5 k6 k7), gi 0] else .tuple #[z30, gi (ckF d c n a0 a1 a2 a3 a4 a5 a6 a7)]
theorem take22 {d c n : Int} {a0 a1 a2 a3 a4 a5 a6 a7 : Nat} : (bodyE d c n a0 a1 a2 a3 a4 a5 a6 a7).take 22 = bodyE d c n a0 a1 a2 a3 a4 a5 a6 a7 := rfl
set_option maxRecDepth 100000 in
theorem en_call (k0 k1 k2 k3 k4 k5 k6 k7 d c n : Int) (a0 a1 a2 a3 a4 a5 a6 a7 : Nat) : CallJ Tryz.prog 22 #[ke k0 k1 k2 k3 k4 k5 k6 k7, frV d c n a0 a1 a2 a3 a4 a5 a6 a7] (emp Tryz.prog) (fun u _ => u = enOut k0 k1 k2 k3 k4 k5 k6 k7 d c n a0 a1 a2 a3 a4 a5 a6 a7) := by
  refine CallJ.ofE mixed orcEe_ok (askEe_ok (noAsks_ok _)) (Eq.mpr (en_run d c n a0 a1 a2 a3 a4 a5 a6 a7 k0 k1 k2 k3 k4 k5 k6 k7 _) ⟨fun h => ?_, fun h => ?_⟩)
  · unfold enOut; rw [not_t h]; rfl
  · have hz := not_f h
    have e : enOut k0 k1 k2 k3 k4 k5 k6 k7 d c n a0 a1 a2 a3 a4 a5 a6 a7 = .tuple #[arV (encE d c n a0 a1 a2 a3 a4 a5 a6 a7 k0 k1 k2 k3 k4 k5 k6 k7), gi 0] := by unfold enOut; rw [hz]; rfl
    rw [ieq_dec] at hz
    have hf := ck_ok (of_decide_eq_true hz)
    have hb := bodyP_eq hf
    obtain ⟨_, _, _, _, _, _, s0, s1, s2, s3, s4, s5, s6, s7⟩ := hf
    rw [e]
    refine ⟨by rw [s0]; rfl, by rw [s1]; rfl, by rw [s2]; rfl, by rw [s3]; rfl, by rw [s4]; rfl, by rw [s5]; rfl, by rw [s6]; rfl, by rw [s7]; rfl, bodyP d c n a0 a1 a2 a3 a4 a5 a6 a7, rfl, by omega, Nat.le_refl _, by omega, Nat.le_refl _, fun y0 y1 y2 y3 y4 y5 y6 y7 hy => ?_⟩
    rw [hb] at hy ⊢
    rw [take22] at hy
    unfold encE
    rw [hy]
set_option maxRecDepth 100000 in
theorem En_call (k0 k1 k2 k3 k4 k5 k6 k7 d c n : Int) (a0 a1 a2 a3 a4 a5 a6 a7 : Nat) (hf : FrOk d c n a0 a1 a2 a3 a4 a5 a6 a7) (hk : in8 k0 k1 k2 k3 k4 k5 k6 k7) : CallJ Tryz.prog 27 #[ke k0 k1 k2 k3 k4 k5 k6 k7, frV d c n a0 a1 a2 a3 a4 a5 a6 a7] (emp Tryz.prog) (fun u _ => u = arV (encE d c n a0 a1 a2 a3 a4 a5 a6 a7 k0 k1 k2 k3 k4 k5 k6 k7)) := by
  have hb := bodyR_eq hf
  have hi := bodyE_in hf
  obtain ⟨_, _, _, _, _, _, s0, s1, s2, s3, s4, s5, s6, s7⟩ := hf
  refine CallJ.ofE mixed orcEf_ok (askEf_ok (noAsks_ok _)) (Eq.mpr (En_run d c n a0 a1 a2 a3 a4 a5 a6 a7 k0 k1 k2 k3 k4 k5 k6 k7 _) ⟨by decide, by decide, by decide, by decide, by rw [s0]; rfl, by decide, by decide, by decide, by rw [s1]; rfl, by decide, by decide, by decide, by rw [s2]; rfl, by decide, by decide, by decide, by rw [s3]; rfl, by decide, by decide, by decide, by rw [s4]; rfl, by decide, by decide, by decide, by rw [s5]; rfl, by decide, by decide, by decide, by rw [s6]; rfl, by decide, by decide, by decide, by rw [s7]; rfl, by decide, by decide, by decide, bodyR d c n a0 a1 a2 a3 a4 a5 a6 a7, rfl, by omega, Nat.le_refl _, by omega, Nat.le_refl _, hk, fun y hy => ?_, fun y0 y1 y2 y3 y4 y5 y6 y7 hy => ?_⟩)
  · rw [hb] at hy
    exact hi y hy
  · rw [hb] at hy ⊢
    rw [take22] at hy
    unfold encE
    rw [hy]
noncomputable def orcEg : Orc := orElse 22 (flatSpec (kfL enOut)) orcFg
theorem flat_ar (l : List Int) : flat 2 (arV l) = true := by
  show (l.map gb).all (flat 1) = true
  rw [List.all_eq_true]
  intro x hx
  obtain ⟨y, _, rfl⟩ := List.mem_map.1 hx
  rfl
set_option maxRecDepth 100000 in
theorem orcEg_ok : OrcOk Tryz.prog orcEg := by
  refine flatSpec_ok (fun l v h => ?_) orcFg_ok
  obtain ⟨k0, k1, k2, k3, k4, k5, k6, k7, d, c, n, a0, a1, a2, a3, a4, a5, a6, a7, rfl, rfl⟩ := kfL_some h
  refine ⟨rfl, ?_, en_call k0 k1 k2 k3 k4 k5 k6 k7 d c n a0 a1 a2 a3 a4 a5 a6 a7⟩
  unfold enOut
  cases ieq (ckF d c n a0 a1 a2 a3 a4 a5 a6 a7) 0 <;> rfl
/-- What is asked of Encode: bytes (b), or an error. -/
noncomputable def enY (b : Bool) : List Value → (Value → Prop) → Prop := fun l K => Option.rec False id (kfL (fun k0 k1 k2 k3 k4 k5 k6 k7 d c n a0 a1 a2 a3 a4 a5 a6 a7 => ieq (ckF d c n a0 a1 a2 a3 a4 a5 a6 a7) 0 = b ∧ Bool.rec (motive := fun _ => Prop) (K (.tuple #[z30, gi (ckF d c n a0 a1 a2 a3 a4 a5 a6 a7)])) (∀ b0 b1 b2 b3 b4 b5 b6 b7 b8 b9 b10 b11 b12 b13 b14 b15 b16 b17 b18 b19 b20 b21 b22 b23 b24 b25 b26 b27 b28 b29 : Int, [b0, b1, b2, b3, b4, b5, b6, b7, b8, b9, b10, b11, b12, b13, b14, b15, b16, b17, b18, b19, b20, b21, b22, b23, b24, b25, b26, b27, b28, b29] = encE d c n a0 a1 a2 a3 a4 a5 a6 a7 k0 k1 k2 k3 k4 k5 k6 k7 → K (.tuple #[.agg #[gb b0, gb b1, gb b2, gb b3, gb b4, gb b5, gb b6, gb b7, gb b8, gb b9, gb b10, gb b11, gb b12, gb b13, gb b14, gb b15, gb b16, gb b17, gb b18, gb b19, gb b20, gb b21, gb b22, gb b23, gb b24, gb b25, gb b26, gb b27, gb b28, gb b29], gi 0])) b) l)
theorem list30 {l : List Int} (h : l.length = 30) : ∃ b0 b1 b2 b3 b4 b5 b6 b7 b8 b9 b10 b11 b12 b13 b14 b15 b16 b17 b18 b19 b20 b21 b22 b23 b24 b25 b26 b27 b28 b29, l = [b0, b1, b2, b3, b4, b5, b6, b7, b8, b9, b10, b11, b12, b13, b14, b15, b16, b17, b18, b19, b20, b21, b22, b23, b24, b25, b26, b27, b28, b29] := by
  match l, h with
  | [b0, b1, b2, b3, b4, b5, b6, b7, b8, b9, b10, b11, b12, b13, b14, b15, b16, b17, b18, b19, b20, b21, b22, b23, b24, b25, b26, b27, b28, b29], _ => exact ⟨b0, b1, b2, b3, b4, b5, b6, b7, b8, b9, b10, b11, b12, b13, b14, b15, b16, b17, b18, b19, b20, b21, b22, b23, b24, b25, b26, b27, b28, b29, rfl⟩
theorem enc_len (d c n : Int) (a0 a1 a2 a3 a4 a5 a6 a7 : Nat) (k0 k1 k2 k3 k4 k5 k6 k7 : Int) : (encE d c n a0 a1 a2 a3 a4 a5 a6 a7 k0 k1 k2 k3 k4 k5 k6 k7).length = 30 := rfl
set_option maxRecDepth 100000 in
theorem enY_ok (b : Bool) (args : Array Value) (h : AHeap) (K : Value → Prop) (hk : enY b args.toList K) : ∃ v, flatSpec (kfL enOut) args h = some (v, h) ∧ K v := by
  unfold enY at hk
  generalize hG : (fun (k0 k1 k2 k3 k4 k5 k6 k7 d c n : Int) (a0 a1 a2 a3 a4 a5 a6 a7 : Nat) => ieq (ckF d c n a0 a1 a2 a3 a4 a5 a6 a7) 0 = b ∧ Bool.rec (motive := fun _ => Prop) (K (.tuple #[z30, gi (ckF d c n a0 a1 a2 a3 a4 a5 a6 a7)])) (∀ b0 b1 b2 b3 b4 b5 b6 b7 b8 b9 b10 b11 b12 b13 b14 b15 b16 b17 b18 b19 b20 b21 b22 b23 b24 b25 b26 b27 b28 b29 : Int, [b0, b1, b2, b3, b4, b5, b6, b7, b8, b9, b10, b11, b12, b13, b14, b15, b16, b17, b18, b19, b20, b21, b22, b23, b24, b25, b26, b27, b28, b29] = encE d c n a0 a1 a2 a3 a4 a5 a6 a7 k0 k1 k2 k3 k4 k5 k6 k7 → K (.tuple #[.agg #[gb b0, gb b1, gb b2, gb b3, gb b4, gb b5, gb b6, gb b7, gb b8, gb b9, gb b10, gb b11, gb b12, gb b13, gb b14, gb b15, gb b16, gb b17, gb b18, gb b19, gb b20, gb b21, gb b22, gb b23, gb b24, gb b25, gb b26, gb b27, gb b28, gb b29], gi 0])) b) = G at hk
  cases he : kfL G args.toList with
  | none => rw [he] at hk; exact hk.elim
  | some y =>
    rw [he] at hk
    obtain ⟨k0, k1, k2, k3, k4, k5, k6, k7, d, c, n, a0, a1, a2, a3, a4, a5, a6, a7, e, rfl⟩ := kfL_some he
    have hk : G k0 k1 k2 k3 k4 k5 k6 k7 d c n a0 a1 a2 a3 a4 a5 a6 a7 := hk
    rw [← hG] at hk
    obtain ⟨h1, h2⟩ := hk
    refine ⟨enOut k0 k1 k2 k3 k4 k5 k6 k7 d c n a0 a1 a2 a3 a4 a5 a6 a7, by unfold flatSpec; rw [e]; rfl, ?_⟩
    unfold enOut
    rw [h1]
    cases b with
    | false => exact h2
    | true =>
      obtain ⟨b0, b1, b2, b3, b4, b5, b6, b7, b8, b9, b10, b11, b12, b13, b14, b15, b16, b17, b18, b19, b20, b21, b22, b23, b24, b25, b26, b27, b28, b29, e⟩ := list30 (enc_len d c n a0 a1 a2 a3 a4 a5 a6 a7 k0 k1 k2 k3 k4 k5 k6 k7)
      show K (.tuple #[arV (encE d c n a0 a1 a2 a3 a4 a5 a6 a7 k0 k1 k2 k3 k4 k5 k6 k7), gi 0])
      rw [e]
      exact h2 b0 b1 b2 b3 b4 b5 b6 b7 b8 b9 b10 b11 b12 b13 b14 b15 b16 b17 b18 b19 b20 b21 b22 b23 b24 b25 b26 b27 b28 b29 e.symm
end Go.Proofs.YtphhcoiclkfimaaGreatDoor
