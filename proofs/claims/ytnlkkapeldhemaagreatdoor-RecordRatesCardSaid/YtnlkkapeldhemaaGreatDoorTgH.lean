/-
  OWN WORK. The extremes of samples: known for all samples.
-/
import Derived.Test.YtnlkkapeldhemaaGreatDoorTgG
namespace Go.Proofs.YtnlkkapeldhemaaGreatDoor
open Go Go.Am

theorem float_at0 {l : List Nat} (h0 : 0 < l.length) : (l.map gf)[0]? = some (gf (floatAt (l.map gf) 0)) ∧ floatAt (l.map gf) 0 = l.headD 0 := by
  obtain ⟨h1, h2⟩ := float_at (l := l) (j := 0) h0
  rw [head_at h0] at h2
  exact ⟨h1, h2⟩
theorem int_at0 {l : List Int} {x : Int} (h : l[0]? = some x) : (l.map gi)[0]? = some (gi (intAt (l.map gi) 0)) ∧ intAt (l.map gi) 0 = x := int_at h
theorem x4_back (s : X4) : (List.take 4 (List.drop 0 (splice zero4 0 (List.take 4 (List.drop 0 s.cells))))) = [gi s.lo, gi s.hi, gi s.la, gi s.ha] := rfl
set_option maxRecDepth 100000 in
theorem ex_call (l : List Nat) (n el row k : Nat) (h0 : 0 < n) (h1 : n ≤ l.length) (h2 : n ≤ 1000000) (h3 : n ≤ k) : CallJ Tryz.prog 30 #[liP n k] (liH (l.map gf) el row) (exO (exA (l.take n)) (exE (l.take n))).Got := by
  have hlen : (l.take n).length = n := by rw [List.length_take]; omega
  have he : firstS [csE (l.take n), whenS (ieq (Int.ofNat n) 0) 12] = exE (l.take n) := by unfold exE; rw [hlen]
  refine callC_ok mixed orcTc_ok (askTc_ok true true) (Eq.mpr (ex_run l n k el row (unitE (l.headD 0)) _) ⟨l, rfl, h0, h1, h2, h3, fun hp => ?_, fun hp => ?_⟩)
  · rw [he] at hp ⊢
    rw [exA_bad (not_ieq hp)]
    rfl
  · rw [he] at hp
    have hp := not_ieq' hp
    have hc : csE (l.take n) = 0 := firstS_zero (by unfold exE at hp; exact hp) _ (.head _)
    obtain ⟨hva, hle⟩ := cs_zero hc
    rw [hlen] at hle
    have hu : ((l.take n).map unitE)[0]? = some (unitE (l.headD 0)) := by
      rw [List.getElem?_map, List.getElem?_take, if_pos h0, List.getElem?_eq_getElem (show 0 < l.length by omega), head_at (by omega)]
      rfl
    obtain ⟨u1, u2⟩ := int_at0 hu
    have hi : ahasIndex 0 n = true := by show Nat.blt 0 n = true; rw [Nat.blt_eq]; exact h0
    have ht : ((l.take n).map unitE).take n = (l.take n).map unitE := List.take_of_length_le (by rw [List.length_map]; omega)
    have u2' : intAt (unitsL (l.take n)) 0 = unitE (l.headD 0) := u2
    refine ⟨l, rfl, h0, h1, by omega, hva, hi, u1, hi, u1, u1, u1, rfl, rfl, rfl, rfl, rfl, rfl, ?_, ?_, ?_, ⟨by rw [List.length_map]; omega, by omega⟩, fun _ y hy => ?_⟩
    · rw [AHeap.get_set_neB (by kernel_rfl), AHeap.get_push_ne (by kernel_rfl), AHeap.get_push_eq (by kernel_rfl)]
      rfl
    · rw [AHeap.get_set_eqB (by kernel_rfl), u2']
      rfl
    · rw [AHeap.get_set_neB (by kernel_rfl), AHeap.get_push_ne (by kernel_rfl), AHeap.get_push_ne (by kernel_rfl), AHeap.get_push_ne (by kernel_rfl), AHeap.get_push_eq (by kernel_rfl)]
      rfl
    · rw [ht, show x0 (unitE (l.headD 0)) = x0 (unitE ((l.take n).headD 0)) by rw [head_take h0], ← exA_good (by omega) hc] at hy
      subst hy
      rw [exE_zero (by omega) hc]
      rfl
set_option maxRecDepth 100000 in
theorem Ex_call (l : List Nat) (n el row k : Nat) (h0 : 0 < n) (h1 : n ≤ l.length) (hc : csE (l.take n) = 0) : CallJ Tryz.prog 33 #[liP n k] (liH (l.map gf) el row) (exO (exA (l.take n)) (exE (l.take n))).Got := by
  have hlen : (l.take n).length = n := by rw [List.length_take]; omega
  obtain ⟨hva, hle⟩ := cs_zero hc
  rw [hlen] at hle
  have hi : ahasIndex 0 n = true := by show Nat.blt 0 n = true; rw [Nat.blt_eq]; exact h0
  obtain ⟨f1, f2⟩ := float_at0 (l := l) (by omega)
  have hv0 : ieq (smpE (floatAt (l.map gf) 0)) 0 = true := by
    rw [f2, ← head_at (show 0 < l.length by omega), hva _ (List.mem_of_getElem? (i := 0) (by rw [List.getElem?_take, if_pos h0, List.getElem?_eq_getElem (show 0 < l.length by omega)]))]
    rfl
  refine callC_ok mixed orcTc_ok (askTc_ok true true) (Eq.mpr (Ex_run l n k el row (unitE (l.headD 0)) _) ⟨fun hp => ?_, fun _ => ?_⟩)
  · rw [ieq_ne (by simp only [Int.ofNat_eq_natCast]; omega)] at hp
    cases hp
  · refine ⟨hi, f1, hi, f1, f1, f1, hv0, rfl, f1, hv0, rfl, rfl, rfl, rfl, rfl, rfl, ?_, ?_, ?_, ⟨h1, by omega, h0, hva⟩, fun _ y hy => ?_⟩
    · rw [AHeap.get_set_neB (by kernel_rfl), AHeap.get_push_ne (by kernel_rfl), AHeap.get_push_ne (by kernel_rfl)]
      rw [canon_get, if_pos (Nat.le_refl _), Nat.sub_self]; rfl
    · rw [AHeap.get_set_eqB (by kernel_rfl), f2]
      rfl
    · rw [AHeap.get_set_neB (by kernel_rfl), AHeap.get_push_ne (by kernel_rfl), AHeap.get_push_eq (by kernel_rfl)]
      rfl
    · rw [show x0 (unitE (l.headD 0)) = x0 (unitE ((l.take n).headD 0)) by rw [head_take h0], exF_head (by omega), ← exA_good (by omega) hc] at hy
      subst hy
      rw [exE_zero (by omega) hc]
      rfl
theorem exO_nil : exO (exA []) (exE []) = .plain (.tuple #[.agg #[gi 0, gi 0, gi 0, gi 0], gi 12]) := by
  have : exE [] = 12 := by unfold exE; rw [csE_nil]; rfl
  rw [exA_bad (by rw [this]; decide), this]
  rfl
set_option maxRecDepth 100000 in
theorem orcTd_ok : OrcOk Tryz.prog orcTd := by
  refine genO_ok dF_some (fun _ => rfl) globs_pos (genO_ok dF_some (fun _ => rfl) globs_pos orcTc_ok ?_ ?_ ?_ ?_) ?_ ?_ ?_ ?_
  · intro l r o h; obtain ⟨rfl, rfl⟩ := exX_some h; rfl
  · intro r o h; obtain ⟨rfl, rfl⟩ := exX_some h; rw [exO_nil]; exact CallJ.of_call mixed orcTc_ok ex_nil fun _ => rfl
  · intro r k o h; obtain ⟨rfl, rfl⟩ := exX_some h; rw [exO_nil]; exact CallJ.of_call mixed orcTc_ok (ex_emp k) fun _ => rfl
  · intro l off n r el row k o ho hw h0 h1 h2 h3 h
    obtain rfl := ho rfl
    obtain ⟨rfl, rfl⟩ := exX_some h
    rw [List.drop_zero]
    exact ex_call l n el row k h0 (by omega) h2 h3
  · intro l r o h; obtain ⟨rfl, rfl, _⟩ := ExX_some h; rfl
  · intro r o h; obtain ⟨rfl, rfl, _⟩ := ExX_some h; rw [exO_nil]; exact CallJ.of_call mixed orcTc_ok Ex_nil fun _ => rfl
  · intro r k o h; obtain ⟨rfl, rfl, _⟩ := ExX_some h; rw [exO_nil]; exact CallJ.of_call mixed orcTc_ok (Ex_emp k) fun _ => rfl
  · intro l off n r el row k o ho hw h0 h1 h2 h3 h
    obtain rfl := ho rfl
    rw [List.drop_zero] at h
    obtain ⟨rfl, rfl, hc⟩ := ExX_some h
    exact Ex_call l n el row k h0 (by omega) hc
noncomputable def askTd (b1 b2 : Bool) : Asks := asksG 33 gf 65536 ExY (asksG 30 gf 1000000 exY (askTc b1 b2))
theorem askTd_ok (b1 b2 : Bool) : AsksOk orcTd (askTd b1 b2) := asksG_ok (d := dF) (e := gf) (fun _ => rfl) ExY_ok (asksG_ok (d := dF) (e := gf) (fun _ => rfl) exY_ok (askTc_ok b1 b2))
/-! Lists of samples that are the same. -/
noncomputable def ne32 (x y : Nat) : Bool := Ieee.single.order x y != some .eq
theorem ss_body (c c' : List Value) (e row e' row' n k m k' j : Nat) (g : Nat → Value) (Q : Exit → List Value → AHeap → Prop) : execC Tryz.prog (exec Tryz.prog orcTd 10) (syOf [(14, 1), (19, 2), (20, 3), (23, 2), (24, 3), (25, 1)]) (askTd true true) (noLoops _) 40 (loopOf Tryz.prog 28 0) (stOf 26 [(0, slA n k), (1, slA' m k'), (5, goN j)] g) (twoH c e row c' e' row') (told 26 [0, 1, 5] Q) = (((Nat.blt j n = true → (Nat.blt j n = true ∧ c[(0 + (j * 1))]? = Option.some (gf (floatAt c (0 + (j * 1)))) ∧ Nat.blt j m = true ∧ c'[(0 + (j * 1))]? = Option.some (gf (floatAt c' (0 + (j * 1)))) ∧ (bne (Ieee.Format.order (FloatKind.format FloatKind.f32) (floatAt c (0 + (j * 1))) (floatAt c' (0 + (j * 1)))) (Option.some Ordering.eq) = true → Q .ret [slA n k, slA' m k', goN j] (twoH c e row c' e' row')) ∧ (bne (Ieee.Format.order (FloatKind.format FloatKind.f32) (floatAt c (0 + (j * 1))) (floatAt c' (0 + (j * 1)))) (Option.some Ordering.eq) = false → Q .normal [slA n k, slA' m k', gi (fwrap IntKind.i64 (Int.ofNat (j + 1)))] (twoH c e row c' e' row')))) ∧ (Nat.blt j n = false → Q (.exit 0) [slA n k, slA' m k', goN j] (twoH c e row c' e' row')))) := by kernel_rfl
end Go.Proofs.YtnlkkapeldhemaaGreatDoor
