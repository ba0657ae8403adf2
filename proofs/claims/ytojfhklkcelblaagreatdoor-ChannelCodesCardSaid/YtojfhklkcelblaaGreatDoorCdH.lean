/-
  OWN WORK. The index of a letter in the marks of codes.
-/
import Derived.Test.YtojfhklkcelblaaGreatDoorCdG
namespace Go.Proofs.YtojfhklkcelblaaGreatDoor
open Go Go.Am

/-- The index of a byte in a list of bytes, or -1. -/
def ixL : List UInt8 → Nat → Nat → Int
  | [], _, _ => -1
  | b :: r, i, n => bif Nat.beq b.toNat n then Int.ofNat i else ixL r (i + 1) n
def ixC (s : ByteArray) (c : Int) : Int := bif (!ilt c 0) && ilt c 128 then ixL s.data.toList 0 c.toNat else -1
/-- Whether a string is one of the marks. -/
def isMark (s : ByteArray) : Bool := s.data.toList == mD.data.toList || s.data.toList == mX.data.toList || s.data.toList == mS.data.toList || s.data.toList == mL.data.toList
noncomputable def ixS : List Value → Option Value
  | [.string s, .int .i32 c] => match isMark s with
    | true => some (gi (ixC s c))
    | false => none
  | _ => none
def ixAll (o : Option (Value × AHeap)) (x : Int) : Bool := match o with
  | some (.int .i64 y, _) => ieq y x
  | _ => false
set_option maxRecDepth 100000 in
theorem ix_ascii : ([mD, mX, mS, mL].all fun s => (List.range 128).all fun n => ixAll (call Tryz.prog orcGb 60 100 #[.string s, .int .i32 (Int.ofNat n)] (emp Tryz.prog)) (ixL s.data.toList 0 n)) = true := by kernel_rfl
set_option maxRecDepth 100000 in
theorem ix_bad : ([mD, mX, mS, mL].all fun s => ixAll (call Tryz.prog orcGb 60 100 #[.string s, .int .i32 65533] (emp Tryz.prog)) (-1)) = true := by kernel_rfl
theorem isMark_mem {s : ByteArray} (h : isMark s = true) : s ∈ [mD, mX, mS, mL] := by
  have ext : ∀ m : ByteArray, (s.data.toList == m.data.toList) = true → s = m := fun m hm => by
    have := eq_of_beq hm
    cases s; cases m
    simp only [ByteArray.mk.injEq]
    exact Array.toList_inj.1 this
  unfold isMark at h
  simp only [Bool.or_eq_true] at h
  rcases h with ((h | h) | h) | h
  · rw [ext _ h]; simp
  · rw [ext _ h]; simp
  · rw [ext _ h]; simp
  · rw [ext _ h]; simp
theorem ixAll_some {o : Option (Value × AHeap)} {x : Int} (h : ixAll o x = true) : o.map (·.1) = some (gi x) := by
  unfold ixAll at h
  split at h
  · rename_i y h'
    rw [ieq_dec] at h
    rw [of_decide_eq_true h]
    rfl
  · cases h
/-- All bytes of the marks are below 128. -/
theorem mark_low {s : ByteArray} (h : isMark s = true) : (s.data.toList.all fun x => Nat.blt x.toNat 128) = true := by
  have h := isMark_mem h
  simp only [List.mem_cons, List.not_mem_nil, or_false] at h
  rcases h with rfl | rfl | rfl | rfl <;> rfl
theorem ilt_dec (a b : Int) : ilt a b = decide (a < b) := by
  cases a with
  | ofNat m => cases b with
    | ofNat n => rw [show ilt (Int.ofNat m) (Int.ofNat n) = Nat.blt m n from rfl, Bool.eq_iff_iff, Nat.blt_eq, decide_eq_true_eq]; simp
    | negSucc n => rw [show ilt (Int.ofNat m) (Int.negSucc n) = false from rfl]; symm; exact decide_eq_false (by simp only [Int.ofNat_eq_natCast]; omega)
  | negSucc m => cases b with
    | ofNat n => rw [show ilt (Int.negSucc m) (Int.ofNat n) = true from rfl]; symm; exact decide_eq_true (by simp only [Int.ofNat_eq_natCast]; omega)
    | negSucc n => rw [show ilt (Int.negSucc m) (Int.negSucc n) = Nat.blt n m from rfl, Bool.eq_iff_iff, Nat.blt_eq, decide_eq_true_eq]; omega
theorem vrB_valid {c : Int} (h : vrB c = true) : Utf8.valid c = true := by
  unfold vrB at h
  unfold Utf8.valid
  simp only [ilt_dec, Bool.or_eq_true, Bool.and_eq_true, Bool.not_eq_true', decide_eq_true_eq, decide_eq_false_iff_not] at h ⊢
  omega
theorem enc_high {c : Int} (hv : vrB c = true) (h0 : 128 ≤ c) : 2 ≤ (Utf8.encode c).size ∧ (Utf8.encode c).size ≤ 4 ∧ ∀ i, i < (Utf8.encode c).size → 128 ≤ byteAt (Utf8.encode c) i := by
  have hval := vrB_valid hv
  obtain ⟨k, rfl⟩ : ∃ k : Nat, c = Int.ofNat k := ⟨c.toNat, by simp only [Int.ofNat_eq_natCast]; omega⟩
  have hk : 128 ≤ k := by simp only [Int.ofNat_eq_natCast] at h0; omega
  have hm : k ≤ 1114111 := by
    unfold Utf8.valid at hval
    simp only [Bool.or_eq_true, Bool.and_eq_true, decide_eq_true_eq, Int.ofNat_eq_natCast] at hval
    omega
  have hb : ∀ n : Nat, 128 ≤ n → n < 256 → (128 : Int) ≤ ((UInt8.ofNat n).toNat : Int) := fun n h1 h2 => by
    rw [UInt8.toNat_ofNat']
    omega
  have e : Utf8.encode (Int.ofNat k) = if k < 0x80 then ⟨#[UInt8.ofNat k]⟩
      else if k < 0x800 then ⟨#[UInt8.ofNat (0xC0 + k / 64), UInt8.ofNat (0x80 + k % 64)]⟩
      else if k < 0x10000 then ⟨#[UInt8.ofNat (0xE0 + k / 4096), UInt8.ofNat (0x80 + k / 64 % 64), UInt8.ofNat (0x80 + k % 64)]⟩
      else ⟨#[UInt8.ofNat (0xF0 + k / 262144), UInt8.ofNat (0x80 + k / 4096 % 64), UInt8.ofNat (0x80 + k / 64 % 64), UInt8.ofNat (0x80 + k % 64)]⟩ := by
    unfold Utf8.encode
    rw [if_pos hval]
    rfl
  rw [e, if_neg (by omega)]
  by_cases h1 : k < 0x800
  · rw [if_pos h1]
    refine ⟨Nat.le_refl 2, by show 2 ≤ 4; omega, fun i hi => ?_⟩
    have hi : i < 2 := hi
    match i, hi with
    | 0, _ => exact hb _ (by omega) (by omega)
    | 1, _ => exact hb _ (by omega) (by omega)
  · rw [if_neg h1]
    by_cases h2 : k < 0x10000
    · rw [if_pos h2]
      refine ⟨by show 2 ≤ 3; omega, by show 3 ≤ 4; omega, fun i hi => ?_⟩
      have hi : i < 3 := hi
      match i, hi with
      | 0, _ => exact hb _ (by omega) (by omega)
      | 1, _ => exact hb _ (by omega) (by omega)
      | 2, _ => exact hb _ (by omega) (by omega)
    · rw [if_neg h2]
      refine ⟨by show 2 ≤ 4; omega, Nat.le_refl 4, fun i hi => ?_⟩
      have hi : i < 4 := hi
      match i, hi with
      | 0, _ => exact hb _ (by omega) (by omega)
      | 1, _ => exact hb _ (by omega) (by omega)
      | 2, _ => exact hb _ (by omega) (by omega)
      | 3, _ => exact hb _ (by omega) (by omega)
theorem byteAt_low {s : ByteArray} (h : (s.data.toList.all fun x => Nat.blt x.toNat 128) = true) (i : Nat) : byteAt s i < 128 := by
  unfold byteAt
  split
  · rename_i b hb
    have hm : b ∈ s.data.toList := by
      have : s.data[i]? = some b := hb
      rw [← Array.getElem?_toList] at this
      exact List.mem_of_getElem? this
    have := List.all_eq_true.1 h b hm
    rw [Nat.blt_eq] at this
    omega
  · omega
theorem noB_part {s : ByteArray} (h : (s.data.toList.all fun x => Nat.blt x.toNat 128) = true) {b : Int} (h0 : 128 ≤ b) (h1 : b ≤ 255) (i j : Nat) : noB (s.extract i j) b = true := by
  unfold noB
  rw [List.all_eq_true]
  intro x hx
  have hm : x ∈ s.data.toList := by
    rw [ByteArray.data_extract, Array.toList_extract] at hx
    exact List.mem_of_mem_drop (List.mem_of_mem_take hx)
  have := List.all_eq_true.1 h x hm
  rw [Nat.blt_eq] at this
  rw [Bool.not_eq_true', beq_eq_false_iff_ne]
  intro e
  rw [e, UInt8.toNat_ofNat'] at this
  omega
set_option maxRecDepth 100000 in
theorem ix_call {s : ByteArray} (hs : isMark s = true) (c : Int) : CallJ Tryz.prog 100 #[.string s, .int .i32 c] (emp Tryz.prog) (fun v _ => v = gi (ixC s c)) := by
  by_cases h0 : 0 ≤ c ∧ c < 128
  · obtain ⟨n, rfl⟩ : ∃ n : Nat, c = Int.ofNat n := ⟨c.toNat, by simp only [Int.ofNat_eq_natCast]; omega⟩
    have hn : n < 128 := by have := h0.2; simp only [Int.ofNat_eq_natCast] at this; omega
    have e : ixC s (Int.ofNat n) = ixL s.data.toList 0 n := by
      unfold ixC
      rw [ilt_dec, ilt_dec, decide_eq_false (by omega), decide_eq_true h0.2]
      rfl
    rw [e]
    have h1 := List.all_eq_true.1 ix_ascii s (isMark_mem hs)
    have h2 := List.all_eq_true.1 h1 n (by simpa using hn)
    exact CallJ.of_call mixed orcGb_ok (ixAll_some h2) fun _ => rfl
  · have e : ixC s c = -1 := by
      unfold ixC
      rw [ilt_dec, ilt_dec]
      by_cases h : c < 0
      · rw [decide_eq_true h]; rfl
      · rw [decide_eq_false h, decide_eq_false (by omega)]; rfl
    rw [e]
    by_cases hb : c = 65533
    · subst hb
      exact CallJ.of_call mixed orcGb_ok (ixAll_some (List.all_eq_true.1 ix_bad s (isMark_mem hs))) fun _ => rfl
    · have h3 : ieq c 65533 = false := by rw [ieq_dec]; exact decide_eq_false hb
      cases hv : vrB c with
      | false =>
        refine CallJ.ofE mixed orcGb_ok askGb_ok (Eq.mpr (ixr_no s c _) ⟨fun h4 => ⟨?_, h3, by rw [hv]; rfl, rfl⟩, fun _ => ⟨h3, by rw [hv]; rfl, rfl⟩⟩)
        rw [ilt_dec] at h4 ⊢
        simp only [Bool.not_eq_true', decide_eq_false_iff_not] at h4 ⊢
        omega
      | true =>
        have hc : 128 ≤ c := by
          apply Int.not_lt.1
          intro hl
          have : c < 0 := by omega
          have := vrB_valid hv
          unfold Utf8.valid at this
          simp only [Bool.or_eq_true, Bool.and_eq_true, decide_eq_true_eq] at this
          omega
        obtain ⟨e1, e2, e3⟩ := enc_high hv hc
        have hl := mark_low hs
        refine CallJ.ofE mixed orcGb_ok askGb_ok (Eq.mpr (ixr_run s c _) ?_)
        generalize Utf8.encode c = u at e1 e2 e3 ⊢
        have hf : fwrap IntKind.i64 (Int.ofNat u.size - 1) = Int.ofNat (u.size - 1) := by
          rw [fwrap_small (by simp only [Int.ofNat_eq_natCast]; omega) (by simp only [Int.ofNat_eq_natCast]; omega)]
          simp only [Int.ofNat_eq_natCast]; omega
        rw [hf]
        have hf2 : fwrap IntKind.i64 (Int.ofNat (u.size - 1) + 1) = Int.ofNat u.size := by
          rw [fwrap_small (by simp only [Int.ofNat_eq_natCast]; omega) (by simp only [Int.ofNat_eq_natCast]; omega)]
          simp only [Int.ofNat_eq_natCast]; omega
        rw [hf2]
        have hi : ∀ m : Nat, u.size - 1 < m → ahasIndex (Int.ofNat (u.size - 1)) m = true := fun m hm => by
          show Nat.blt (u.size - 1) m = true
          rw [Nat.blt_eq]; exact hm
        have hx := e3 (u.size - 1) (by omega)
        refine ⟨by rw [ilt_dec, decide_eq_false (by omega)]; rfl, by rw [ilt_dec]; exact decide_eq_false (by omega), h3, by rw [hv]; rfl, fun hlt => ?_, fun _ => rfl⟩
        have hlt : u.size - 1 < s.size := by
          have : Nat.blt (u.size - 1) s.size = true := hlt
          rwa [Nat.blt_eq] at this
        refine ⟨hi _ hlt, hi _ (by omega), ?_, by simp only [Int.ofNat_eq_natCast]; omega, by simp only [Int.ofNat_eq_natCast]; omega, hi _ (by omega), noB_part hl hx (byteAt_range _ _).2 _ _, rfl⟩
        have h5 := byteAt_low hl (u.size - 1)
        show (!(ieq (byteAt s (u.size - 1)) (byteAt u (u.size - 1)))) = true
        rw [ieq_dec, decide_eq_false (by omega)]
        rfl
noncomputable def orcH : Orc := orElse 100 (flatSpec ixS) orcGb
theorem orcH_ok : OrcOk Tryz.prog orcH := by
  refine flatSpec_ok (fun l v h => ?_) orcGb_ok
  unfold ixS at h
  split at h
  · rename_i s c
    split at h
    · rename_i hs
      cases h
      exact ⟨rfl, rfl, ix_call hs c⟩
    · cases h
  · cases h
end Go.Proofs.YtojfhklkcelblaaGreatDoor
