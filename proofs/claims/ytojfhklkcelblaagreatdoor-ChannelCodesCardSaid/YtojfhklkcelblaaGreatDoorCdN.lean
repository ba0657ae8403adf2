/-
  OWN WORK. Codes: read from their strings, the program and the reference say the same.
-/
import Derived.Test.YtojfhklkcelblaaGreatDoorCdM
namespace Go.Proofs.YtojfhklkcelblaaGreatDoor
open Go Go.Am

/-- What is read from a string: the error, the place, the axis, the sign. -/
noncomputable def dX (s : ByteArray) : Int := bif ilt 28 (Int.ofNat s.size) then 26 else bif ilt (Int.ofNat s.size) 5 then 25 else dcE s
noncomputable def dS (s : ByteArray) : ByteArray := bif ieq (dX s) 0 then hdB s else ⟨#[]⟩
noncomputable def dA (s : ByteArray) : Int := bif ieq (dX s) 0 then rdA (tlB s) else 0
noncomputable def dB (s : ByteArray) : Int := bif ieq (dX s) 0 then rdB (tlB s) else 0
noncomputable abbrev decV (s : ByteArray) : Value := .tuple #[.agg #[.string (dS s), gi (dA s), gi (dB s)], gi (dX s)]
theorem decV_no {s : ByteArray} (h : ieq (dX s) 0 = false) : decV s = .tuple #[.agg ⟨z0⟩, gi (dX s)] := by
  unfold decV dS dA dB
  rw [h]; rfl
theorem strEq (a b : ByteArray) : (a.toList == b.toList) = decide (a = b) := by
  rw [Bool.eq_iff_iff, beq_iff_eq, decide_eq_true_eq]
  constructor
  · intro h
    rw [ByteArray.toList_eq, ByteArray.toList_eq] at h
    exact ByteArray.ext (Array.toList_inj.1 h)
  · intro h
    rw [h]
theorem all_bytes : ((List.range 256).all fun k => ieq (ixC mD (Int.ofNat k)) (bif ieq (Int.ofNat k) 45 then 0 else -1) && (ieq (ixC mX (Int.ofNat k)) (axR (Int.ofNat k)) && (ieq (ixC mS (Int.ofNat k)) (bif ieq (Int.ofNat k) 43 then 0 else bif ieq (Int.ofNat k) 45 then 1 else -1) && (ilt (ixC mL (Int.ofNat k)) 0 == (ilt (Int.ofNat k) 65 || ilt 90 (Int.ofNat k)))))) = true := by kernel_rfl
theorem ieq_true {a b : Int} (h : ieq a b = true) : a = b := by rw [ieq_dec] at h; exact of_decide_eq_true h
theorem byte_ix (y : Int) (h0 : 0 ≤ y) (h1 : y ≤ 255) : ixC mD y = (bif ieq y 45 then 0 else -1) ∧ ixC mX y = axR y ∧ ixC mS y = (bif ieq y 43 then 0 else bif ieq y 45 then 1 else -1) ∧ ilt (ixC mL y) 0 = (ilt y 65 || ilt 90 y) := by
  obtain ⟨k, rfl⟩ : ∃ k : Nat, y = Int.ofNat k := ⟨y.toNat, by simp only [Int.ofNat_eq_natCast]; omega⟩
  have hk : k < 256 := by simp only [Int.ofNat_eq_natCast] at h1; omega
  have := List.all_eq_true.1 all_bytes k (by simpa using hk)
  simp only [Bool.and_eq_true] at this
  exact ⟨ieq_true this.1, ieq_true this.2.1, ieq_true this.2.2.1, eq_of_beq this.2.2.2⟩
theorem byte_lit {s : ByteArray} {i : Nat} (hi : i < s.size) {k : Nat} (hk : k < 256) (h : ieq (byteAt s i) (Int.ofNat k) = true) : s[i] = UInt8.ofNat k := by
  have h := ieq_true h
  rw [byteAt_eq hi] at h
  have h : s[i].toNat = k := Int.ofNat.inj h
  rw [← h, UInt8.ofNat_toNat]
section
variable {s : ByteArray} (h5 : 5 ≤ s.size) (h28 : s.size ≤ 28)
include h5 h28
theorem cutI_eq : cutI s = Int.ofNat (s.size - 4) := by
  unfold cutI
  rw [fwrap_small (by simp only [Int.ofNat_eq_natCast]; omega) (by simp only [Int.ofNat_eq_natCast]; omega)]
  simp only [Int.ofNat_eq_natCast]; omega
theorem cut_add (k : Nat) (hk : k < 4) : fwrap .i64 (cutI s + (k : Int)) = Int.ofNat (s.size - 4 + k) := by
  rw [cutI_eq h5 h28, fwrap_small (by simp only [Int.ofNat_eq_natCast]; omega) (by simp only [Int.ofNat_eq_natCast]; omega)]
  simp only [Int.ofNat_eq_natCast]; omega
theorem tlB_eq : tlB s = s.extract (s.size - 4) s.size := by unfold tlB; rw [cutI_eq h5 h28]; rfl
theorem hdB_eq : hdB s = s.extract 0 (s.size - 4) := by unfold hdB; rw [cutI_eq h5 h28]; rfl
theorem tl_size : (tlB s).size = 4 := by
  rw [tlB_eq h5 h28, ByteArray.size_extract]; omega
theorem tl_byte (i : Nat) (hi : i < 4) : byteAt (tlB s) i = byteAt s (s.size - 4 + i) := by
  have h1 : i < (tlB s).size := by rw [tl_size h5 h28]; exact hi
  rw [byteAt_eq h1, byteAt_eq (show s.size - 4 + i < s.size by omega)]
  have h2 := tlB_eq h5 h28
  have : ∀ (t : ByteArray) (e : t = s.extract (s.size - 4) s.size) (hh : i < t.size), t[i] = s[s.size - 4 + i]'(by omega) := fun t e hh => by
    subst e
    exact ByteArray.getElem_extract hh
  rw [this _ h2 h1]
theorem enO_eq : enO (tlB s) = (ieq (byteAt s (s.size - 4)) 45 && (!ilt (axR (byteAt s (s.size - 4 + 1))) 0 && ((ieq (byteAt s (s.size - 4 + 2)) 43 || ieq (byteAt s (s.size - 4 + 2)) 45) && (!ilt (byteAt s (s.size - 4 + 3)) 65 && !ilt 90 (byteAt s (s.size - 4 + 3)))))) := by
  unfold enO enD enX enS enL
  rw [tl_byte h5 h28 0 (by omega), tl_byte h5 h28 1 (by omega), tl_byte h5 h28 2 (by omega), tl_byte h5 h28 3 (by omega)]
  obtain ⟨a1, _, _, _⟩ := byte_ix _ (byteAt_range s (s.size - 4 + 0)).1 (byteAt_range s (s.size - 4 + 0)).2
  obtain ⟨_, a2, _, _⟩ := byte_ix _ (byteAt_range s (s.size - 4 + 1)).1 (byteAt_range s (s.size - 4 + 1)).2
  obtain ⟨_, _, a3, _⟩ := byte_ix _ (byteAt_range s (s.size - 4 + 2)).1 (byteAt_range s (s.size - 4 + 2)).2
  obtain ⟨_, _, _, a4⟩ := byte_ix _ (byteAt_range s (s.size - 4 + 3)).1 (byteAt_range s (s.size - 4 + 3)).2
  rw [a1, a2, a3, a4, Nat.add_zero]
  generalize ieq (byteAt s (s.size - 4)) 45 = b1
  generalize ilt (axR (byteAt s (s.size - 4 + 1))) 0 = b2
  generalize ieq (byteAt s (s.size - 4 + 2)) 43 = b3
  generalize ieq (byteAt s (s.size - 4 + 2)) 45 = b4
  generalize ilt (byteAt s (s.size - 4 + 3)) 65 = b5
  generalize ilt 90 (byteAt s (s.size - 4 + 3)) = b6
  cases b1 <;> cases b2 <;> cases b3 <;> cases b4 <;> cases b5 <;> cases b6 <;> rfl
theorem dX_eq : dX s = dcE s := by
  unfold dX
  rw [ilt_dec, ilt_dec, decide_eq_false (by simp only [Int.ofNat_eq_natCast]; omega), decide_eq_false (by simp only [Int.ofNat_eq_natCast]; omega)]
  rfl
theorem dec_bad (ho : enO (tlB s) = false) : decV s = V25 := by
  have e : dX s = 25 := by
    rw [dX_eq h5 h28]
    unfold dcE
    rw [ho]
    rfl
  rw [decV_no (by rw [e]; rfl), e]
theorem rd_eq (ho : enO (tlB s) = true) : rdA (tlB s) = axR (byteAt s (s.size - 4 + 1)) ∧ rdB (tlB s) = (bif ieq (byteAt s (s.size - 4 + 2)) 43 then 1 else -1) := by
  obtain ⟨_, a2, _, _⟩ := byte_ix _ (byteAt_range s (s.size - 4 + 1)).1 (byteAt_range s (s.size - 4 + 1)).2
  obtain ⟨_, _, a3, _⟩ := byte_ix _ (byteAt_range s (s.size - 4 + 2)).1 (byteAt_range s (s.size - 4 + 2)).2
  have hs : (ieq (byteAt s (s.size - 4 + 2)) 43 || ieq (byteAt s (s.size - 4 + 2)) 45) = true := by
    rw [enO_eq h5 h28] at ho
    simp only [Bool.and_eq_true] at ho
    exact ho.2.2.1
  unfold rdA rdB
  rw [ho]
  unfold enX enS
  rw [tl_byte h5 h28 1 (by omega), tl_byte h5 h28 2 (by omega), a2, a3]
  refine ⟨rfl, ?_⟩
  generalize ieq (byteAt s (s.size - 4 + 2)) 43 = b3 at hs ⊢
  generalize ieq (byteAt s (s.size - 4 + 2)) 45 = b4 at hs ⊢
  cases b3 <;> cases b4 <;> first | rfl | cases hs
theorem body_eq (ho : enO (tlB s) = true) : cdS (hdB s) (rdA (tlB s)) (rdB (tlB s)) = s.extract 0 (s.size - 4 + 3) := by
  obtain ⟨e1, e2⟩ := rd_eq h5 h28 ho
  rw [enO_eq h5 h28] at ho
  simp only [Bool.and_eq_true] at ho
  obtain ⟨c0, c1, c2, _⟩ := ho
  rw [e1, e2, hdB_eq h5 h28, ByteArray.extract_eq_extract_append_extract (a := s) (i := 0) (k := s.size - 4 + 3) (s.size - 4) (Nat.zero_le _) (by omega), ByteArray.extract_add_three (by omega)]
  unfold cdS
  rw [ByteArray.append_assoc, ByteArray.append_assoc, ByteArray.append_right_inj]
  rw [byte_lit (i := s.size - 4) (by omega) (k := 45) (by omega) c0]
  have hx : ieq (byteAt s (s.size - 4 + 1)) 120 = true ∨ ieq (byteAt s (s.size - 4 + 1)) 121 = true ∨ ieq (byteAt s (s.size - 4 + 1)) 122 = true := by
    unfold axR at c1
    cases h1 : ieq (byteAt s (s.size - 4 + 1)) 122 with
    | true => exact .inr (.inr rfl)
    | false =>
      cases h2 : ieq (byteAt s (s.size - 4 + 1)) 121 with
      | true => exact .inr (.inl rfl)
      | false =>
        cases h3 : ieq (byteAt s (s.size - 4 + 1)) 120 with
        | true => exact .inl rfl
        | false => rw [h1, h2, h3] at c1; cases c1
  have hy : ieq (byteAt s (s.size - 4 + 2)) 43 = true ∨ (ieq (byteAt s (s.size - 4 + 2)) 43 = false ∧ ieq (byteAt s (s.size - 4 + 2)) 45 = true) := by
    cases h1 : ieq (byteAt s (s.size - 4 + 2)) 43 with
    | true => exact .inl rfl
    | false => rw [h1] at c2; exact .inr ⟨rfl, by simpa using c2⟩
  have b1 : ∀ k : Nat, k < 256 → ieq (byteAt s (s.size - 4 + 1)) (Int.ofNat k) = true → s[s.size - 4 + 1]'(by omega) = UInt8.ofNat k := fun k hk h => byte_lit (by omega) hk h
  have b2 : ∀ k : Nat, k < 256 → ieq (byteAt s (s.size - 4 + 2)) (Int.ofNat k) = true → s[s.size - 4 + 2]'(by omega) = UInt8.ofNat k := fun k hk h => byte_lit (by omega) hk h
  have v1 : ∀ k : Nat, ieq (byteAt s (s.size - 4 + 1)) (Int.ofNat k) = true → axR (byteAt s (s.size - 4 + 1)) = axR (Int.ofNat k) := fun k h => by rw [ieq_true h]
  rcases hy with hy | ⟨hy0, hy⟩
  · rw [hy, b2 43 (by omega) hy]
    rcases hx with hx | hx | hx
    · rw [v1 120 hx, b1 120 (by omega) hx]; rfl
    · rw [v1 121 hx, b1 121 (by omega) hx]; rfl
    · rw [v1 122 hx, b1 122 (by omega) hx]; rfl
  · rw [hy0, b2 45 (by omega) hy]
    rcases hx with hx | hx | hx
    · rw [v1 120 hx, b1 120 (by omega) hx]; rfl
    · rw [v1 121 hx, b1 121 (by omega) hx]; rfl
    · rw [v1 122 hx, b1 122 (by omega) hx]; rfl
theorem cut3_eq : cut3 s = Int.ofNat (s.size - 4 + 3) := cut_add h5 h28 3 (by omega)
theorem dcE_eq (ho : enO (tlB s) = true) : dcE s = lfE s := by
  have key : (s.toList == (textB (hdB s) (rdA (tlB s)) (rdB (tlB s))).toList) = ((sub1 mL (letN (s.extract 0 (cut3 s).toNat))).toList == (s.extract (cut3 s).toNat s.size).toList) := by
    rw [strEq, strEq, cut3_eq h5 h28]
    unfold textB
    rw [body_eq h5 h28 ho]
    show decide (s = s.extract 0 (s.size - 4 + 3) ++ sub1 mL (letN (s.extract 0 (s.size - 4 + 3)))) = decide (sub1 mL (letN (s.extract 0 (s.size - 4 + 3))) = s.extract (s.size - 4 + 3) s.size)
    have hsplit : s = s.extract 0 (s.size - 4 + 3) ++ s.extract (s.size - 4 + 3) s.size := by
      rw [← ByteArray.extract_eq_extract_append_extract (s.size - 4 + 3) (Nat.zero_le _) (by omega), ByteArray.extract_zero_size]
    generalize sub1 mL (letN (s.extract 0 (s.size - 4 + 3))) = L
    rw [decide_eq_decide]
    constructor
    · intro h
      have := hsplit.symm.trans h
      exact ((ByteArray.append_right_inj _).1 this).symm
    · intro h
      rw [h]
      exact hsplit
  unfold dcE lfE
  rw [key, ho]
  rfl
theorem dec_err (ho : enO (tlB s) = true) (h : (!(ieq (lfE s) 0)) = true) : Value.tuple #[.agg ⟨z0⟩, gi (lfE s)] = decV s := by
  have e : dX s = lfE s := by rw [dX_eq h5 h28, dcE_eq h5 h28 ho]
  have h : ieq (lfE s) 0 = false := by simpa using h
  rw [decV_no (by rw [e]; exact h), e]
theorem dec_good (ho : enO (tlB s) = true) (h : (!(ieq (lfE s) 0)) = false) {b : Int} (hb : b = bif ieq (byteAt s (s.size - 4 + 2)) 43 then 1 else -1) : Value.tuple #[.agg #[.string (hdB s), gi (axR (byteAt s (s.size - 4 + 1))), gi b], gi 0] = decV s := by
  have e : dX s = lfE s := by rw [dX_eq h5 h28, dcE_eq h5 h28 ho]
  have h : ieq (lfE s) 0 = true := by simpa using h
  obtain ⟨e1, e2⟩ := rd_eq h5 h28 ho
  unfold decV dS dA dB
  rw [e, h, e1, e2, hb, ieq_true h]
  rfl
end
end Go.Proofs.YtojfhklkcelblaaGreatDoor
