/-
  OWN WORK. Codes: read from their strings: the calls.
-/
import Derived.Test.YtojfhklkcelblaaGreatDoorCdN
namespace Go.Proofs.YtojfhklkcelblaaGreatDoor
open Go Go.Am

theorem axR_range (y : Int) : axR y = -1 ∨ axR y = 0 ∨ axR y = 1 ∨ axR y = 2 := by
  unfold axR
  cases ieq y 122 <;> cases ieq y 121 <;> cases ieq y 120 <;> simp
theorem rdA_range {s : ByteArray} (h5 : 5 ≤ s.size) (h28 : s.size ≤ 28) : rdA (tlB s) = 0 ∨ (rdA (tlB s) = 1 ∨ rdA (tlB s) = 2) := by
  cases ho : enO (tlB s) with
  | false => left; unfold rdA; rw [ho]; rfl
  | true =>
    rw [(rd_eq h5 h28 ho).1]
    rw [enO_eq h5 h28] at ho
    simp only [Bool.and_eq_true] at ho
    rcases axR_range (byteAt s (s.size - 4 + 1)) with h | h | h | h
    · rw [h] at ho
      exact absurd ho.2.1 (by decide)
    · exact .inl h
    · exact .inr (.inl h)
    · exact .inr (.inr h)
theorem rdB_range {s : ByteArray} (h5 : 5 ≤ s.size) (h28 : s.size ≤ 28) : rdB (tlB s) = 1 ∨ (rdB (tlB s) = -1 ∨ rdB (tlB s) = 0) := by
  cases ho : enO (tlB s) with
  | false => right; right; unfold rdB; rw [ho]; rfl
  | true =>
    rw [(rd_eq h5 h28 ho).2]
    cases ieq (byteAt s (s.size - 4 + 2)) 43
    · exact .inr (.inl rfl)
    · exact .inl rfl
theorem size_lo {n : Nat} (h : ilt (Int.ofNat n) 5 = false) : 5 ≤ n := by
  rw [ilt_dec] at h
  have := of_decide_eq_false h
  simp only [Int.ofNat_eq_natCast] at this
  omega
theorem size_hi {n : Nat} (h : ilt 28 (Int.ofNat n) = false) : n ≤ 28 := by
  rw [ilt_dec] at h
  have := of_decide_eq_false h
  simp only [Int.ofNat_eq_natCast] at this
  omega
theorem has_at {i n : Nat} (h : i < n) : ahasIndex (Int.ofNat i) n = true := by
  show Nat.blt i n = true
  rw [Nat.blt_eq]; exact h
theorem dec_long {s : ByteArray} (h : ilt 28 (Int.ofNat s.size) = true) : Value.tuple #[.agg ⟨z0⟩, gi 26] = decV s := by
  have e : dX s = 26 := by unfold dX; rw [h]; rfl
  rw [decV_no (by rw [e]; rfl), e]
theorem dec_short {s : ByteArray} (h0 : ilt 28 (Int.ofNat s.size) = false) (h : ilt (Int.ofNat s.size) 5 = true) : Value.tuple #[.agg ⟨z0⟩, gi 25] = decV s := by
  have e : dX s = 25 := by unfold dX; rw [h0, h]; rfl
  rw [decV_no (by rw [e]; rfl), e]
set_option maxRecDepth 100000 in
theorem dec_call (es : Nat → TypeId) (s : ByteArray) : CallJ Tryz.prog 7 #[.string s] (bT es) (fun v _ => v = decV s) := by
  refine callC_ok mixed orcK_ok askK_ok (Eq.mpr (dec_run es s _) ⟨fun h => dec_long h, fun h => ⟨fun h' => dec_short h h', fun h' => ?_⟩⟩)
  have h5 := size_lo h'
  have h28 := size_hi h
  have hc := cutI_eq h5 h28
  have hh : (hdB s).size ≤ 1000 := by rw [hdB_eq h5 h28, ByteArray.size_extract]; omega
  have hd : dX s = dcE s := dX_eq h5 h28
  refine ⟨by rw [hc]; simp only [Int.ofNat_eq_natCast]; omega, by rw [hc]; simp only [Int.ofNat_eq_natCast]; omega, tl_size h5 h28, Int.le_refl _, by rw [hc]; simp only [Int.ofNat_eq_natCast]; omega, by rw [hc]; simp only [Int.ofNat_eq_natCast]; omega, rfl, rfl, rfl, rfl, hh, rdA_range h5 h28, rdB_range h5 h28, fun hz => ?_, fun hz => ?_⟩
  · have hz : ieq (dcE s) 0 = false := by simpa using hz
    rw [decV_no (by rw [hd]; exact hz), hd]
  · have hz : ieq (dcE s) 0 = true := by simpa using hz
    unfold decV dS dA dB
    rw [hd, hz, ieq_true hz]
    rfl
theorem rcT_ok {s : ByteArray} (h5 : 5 ≤ s.size) (h28 : s.size ≤ 28) {b : Int} (hb : b = bif ieq (byteAt s (s.size - 4 + 2)) 43 then 1 else -1) (hs : (ieq (byteAt s (s.size - 4 + 2)) 43 || ieq (byteAt s (s.size - 4 + 2)) 45) = true) : rcT s b (fun v => v = decV s) := by
  have hc := cutI_eq h5 h28
  have hc3 := cut3_eq h5 h28
  have e0 : yB s (cutI s) = byteAt s (s.size - 4) := by unfold yB; rw [hc]; rfl
  have e1 : yA s (cutI s) 1 = byteAt s (s.size - 4 + 1) := by unfold yA; rw [show fwrap .i64 (cutI s + 1) = Int.ofNat (s.size - 4 + 1) from cut_add h5 h28 1 (by omega)]; rfl
  have e3 : yB s (cut3 s) = byteAt s (s.size - 4 + 3) := by unfold yB; rw [hc3]; rfl
  have ho := enO_eq h5 h28
  unfold rcT has3
  rw [e0, e1, e3]
  have k3 : ahasIndex (cut3 s) s.size = true := by rw [hc3]; exact has_at (by omega)
  refine ⟨by rw [hc]; exact has_at (by omega), fun q0 => ?_, fun q0 => ⟨fun q1 => ?_, fun q1 => ⟨k3, fun q2 => ?_, fun q2 => ⟨k3, fun q3 => ?_, fun q3 => ?_⟩⟩⟩⟩
  · refine (dec_bad h5 h28 ?_).symm
    rw [ho, show ieq (byteAt s (s.size - 4)) 45 = false by simpa using q0]; rfl
  · refine (dec_bad h5 h28 ?_).symm
    rw [ho, q1]; simp
  · refine (dec_bad h5 h28 ?_).symm
    rw [ho, q2]; simp
  · refine (dec_bad h5 h28 ?_).symm
    rw [ho, q3]; simp
  · have ht : enO (tlB s) = true := by
      rw [ho, show ieq (byteAt s (s.size - 4)) 45 = true by simpa using q0, q1, q2, q3, hs]; rfl
    have hx : (s.extract 0 (cut3 s).toNat).size ≤ 1000000 := by rw [ByteArray.size_extract]; omega
    refine ⟨Int.le_refl _, by rw [hc3]; simp only [Int.ofNat_eq_natCast]; omega, by rw [hc3]; simp only [Int.ofNat_eq_natCast]; omega, by rw [hc3]; simp only [Int.ofNat_eq_natCast]; omega, by rw [hc3]; simp only [Int.ofNat_eq_natCast]; omega, hx, fun q => dec_err h5 h28 ht q, fun q => dec_good h5 h28 ht q hb⟩
theorem rcZ_ok {s : ByteArray} (h5 : 5 ≤ s.size) (h28 : s.size ≤ 28) (hs : (ieq (byteAt s (s.size - 4 + 2)) 43 || ieq (byteAt s (s.size - 4 + 2)) 45) = false) : rcZ s (fun v => v = decV s) := by
  have hc := cutI_eq h5 h28
  have hv : V25 = decV s := by
    refine (dec_bad h5 h28 ?_).symm
    rw [enO_eq h5 h28, hs]; simp
  exact ⟨by rw [hc]; exact has_at (by omega), fun _ => hv, fun _ => ⟨fun _ => hv, fun _ => hv⟩⟩
set_option maxRecDepth 100000 in
theorem Dec_call (s : ByteArray) : CallJ Tryz.prog 10 #[.string s] (emp Tryz.prog) (fun v _ => v = decV s) := by
  refine callC_ok mixed orcK_ok askK_ok (Eq.mpr (Dec_run s _) ⟨fun h => dec_long h, fun h => ⟨fun h' => dec_short h h', fun h' => ?_⟩⟩)
  have h5 := size_lo h'
  have h28 := size_hi h
  have hc := cutI_eq h5 h28
  have a1 : fwrap .i64 (cutI s + 1) = Int.ofNat (s.size - 4 + 1) := cut_add h5 h28 1 (by omega)
  have a2 : fwrap .i64 (cutI s + 2) = Int.ofNat (s.size - 4 + 2) := cut_add h5 h28 2 (by omega)
  have e2 : yA s (cutI s) 2 = byteAt s (s.size - 4 + 2) := by unfold yA; rw [a2]; rfl
  have k2 : has2 s := by unfold has2; rw [a2]; exact has_at (by omega)
  refine ⟨Int.le_refl _, by rw [hc]; simp only [Int.ofNat_eq_natCast]; omega, by rw [hc]; simp only [Int.ofNat_eq_natCast]; omega, rfl, rfl, rfl, rfl, rfl, rfl, rfl, rfl, by rw [a1]; exact has_at (by omega), fun _ => ⟨k2, fun q1 => ⟨k2, fun q2 => ?_, fun q2 => ?_⟩, fun q1 => ⟨k2, fun q2 => ?_, fun q2 => ?_⟩⟩⟩
  · rw [e2] at q1 q2
    have := ieq_true q1
    have := ieq_true q2
    omega
  · rw [e2] at q1 q2
    exact rcT_ok h5 h28 (by rw [q1]; rfl) (by rw [q1]; rfl)
  · rw [e2] at q1 q2
    exact rcT_ok h5 h28 (by rw [q1]; rfl) (by rw [q1, q2]; rfl)
  · rw [e2] at q1 q2
    exact rcZ_ok h5 h28 (by rw [q1, q2]; rfl)
noncomputable def decS : List Value → Option Value
  | [.string s] => some (decV s)
  | _ => none
noncomputable def orcO : Orc := orElse 10 (flatSpec decS) (orElse 7 (tabSpec tabs2 decS) orcK)
theorem orcO_ok : OrcOk Tryz.prog orcO := by
  refine flatSpec_ok (fun l v h => ?_) (tabSpec_ok tabs2_flat (fun l v h => ?_) orcK_ok)
  · unfold decS at h
    split at h
    · rename_i s
      cases h
      exact ⟨rfl, rfl, Dec_call s⟩
    · cases h
  · unfold decS at h
    split at h
    · rename_i s
      cases h
      exact ⟨rfl, rfl, fun es => dec_call es s⟩
    · cases h
noncomputable def askO : Asks := skipA 10 (skipA 7 askK)
theorem askO_ok : AsksOk orcO askO := skipA_ok (skipA_ok askK_ok)
end Go.Proofs.YtojfhklkcelblaaGreatDoor
