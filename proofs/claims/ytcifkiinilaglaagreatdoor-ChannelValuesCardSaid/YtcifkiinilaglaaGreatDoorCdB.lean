/-
  OWN WORK. Names: what the program and the reference say of a string.
-/
import Derived.Test.YtcifkiinilaglaaGreatDoorCdA
import Derived.Laws.RangeAny
namespace Go.Proofs.YtcifkiinilaglaaGreatDoor
open Go Go.Am


/-- Whether a letter may stand at a place of a name. -/
noncomputable def mayS (first : Bool) (c : Int) : Bool := letterS c || (!first && (digitS c || ieq c 95))
noncomputable def okAt (s : ByteArray) (i : Nat) : Bool := mayS (ieq (Int.ofNat i) 0) (byteAt s i)
noncomputable def allOk (s : ByteArray) : Bool := (List.range s.size).all (okAt s)
noncomputable def nameS (s : ByteArray) : Bool := !ieq (Int.ofNat s.size) 0 && !ilt 24 (Int.ofNat s.size) && allOk s

noncomputable abbrev itH (s : ByteArray) (p : Nat) : AHeap := (emp Tryz.prog).push (.iter s p)
noncomputable abbrev itP : Value := .pointer (some ⟨Tryz.prog.globals.size, 0, none⟩)

theorem isName_body (s : ByteArray) (p : Nat) (g : Nat → Value) (Q : Exit → List Value → AHeap → Prop) :
    execC Tryz.prog (exec Tryz.prog orcB 10) (syOf [(15, 5), (20, 1), (24, 1), (27, 1), (31, 1)]) noAsks (noLoops _) 40 (loopOf Tryz.prog 105 0) (stOf 35 [(0, .string s), (2, .bool false), (14, itP)] g) (itH s p) (told 35 [0, 2, 14] Q) =
    ((Nat.blt p s.size = true → 
      (letterS (Int.ofNat (Utf8.decode s p).1) = true → Q .normal [.string s, .bool false, itP] (itH s (p + (Utf8.decode s p).2))) ∧
      (letterS (Int.ofNat (Utf8.decode s p).1) = false →
        (ieq (Int.ofNat p) 0 = true → Q .ret [.string s, .bool false, itP] (itH s (p + (Utf8.decode s p).2))) ∧
        (ieq (Int.ofNat p) 0 = false →
          (digitS (Int.ofNat (Utf8.decode s p).1) = true → Q .normal [.string s, .bool false, itP] (itH s (p + (Utf8.decode s p).2))) ∧
          (digitS (Int.ofNat (Utf8.decode s p).1) = false →
            ((!ieq (Int.ofNat (Utf8.decode s p).1) 95) = true → Q .ret [.string s, .bool false, itP] (itH s (p + (Utf8.decode s p).2))) ∧
            ((!ieq (Int.ofNat (Utf8.decode s p).1) 95) = false → Q .normal [.string s, .bool false, itP] (itH s (p + (Utf8.decode s p).2))))))) ∧
     (Nat.blt p s.size = false → Q (.exit 0) [.string s, .bool false, itP] (itH s p))) := by kernel_rfl
theorem may_high {b : Bool} {n : Nat} (h : 128 ≤ n) : mayS b (Int.ofNat n) = false := by
  have h1 : ilt 90 (Int.ofNat n) = true := by show Nat.blt 90 n = true; rw [Nat.blt_eq]; omega
  have h2 : ilt 122 (Int.ofNat n) = true := by show Nat.blt 122 n = true; rw [Nat.blt_eq]; omega
  have h3 : ilt 57 (Int.ofNat n) = true := by show Nat.blt 57 n = true; rw [Nat.blt_eq]; omega
  have h4 : ieq (Int.ofNat n) 95 = false := by
    show Nat.beq n 95 = false
    rw [Tr.beq_eq]
    simp
    omega
  unfold mayS letterS digitS
  rw [h1, h2, h3, h4]
  simp
section
variable {b : Bool} {c : Int}
theorem may1 (h : letterS c = true) : mayS b c = true := by simp [mayS, h]
theorem may2 (h : letterS c = false) (hb : b = true) : mayS b c = false := by simp [mayS, h, hb]
theorem may3 (h : letterS c = false) (hb : b = false) (hd : digitS c = true) : mayS b c = true := by simp [mayS, h, hb, hd]
theorem may4 (h : letterS c = false) (hd : digitS c = false) (he : (!ieq c 95) = true) : mayS b c = false := by
  simp at he
  simp [mayS, h, hd, he]
theorem may5 (hb : b = false) (he : (!ieq c 95) = false) : mayS b c = true := by
  simp at he
  simp [mayS, hb, he]
end
theorem byteAt_eq {s : ByteArray} {p : Nat} (hp : p < s.size) : byteAt s p = Int.ofNat (s[p]).toNat := by
  unfold byteAt
  rw [getElem?_pos s p hp]
  rfl
theorem dec_may {s : ByteArray} {p : Nat} (hp : p < s.size) : mayS (ieq (Int.ofNat p) 0) (Int.ofNat (Utf8.decode s p).1) = okAt s p ∧ (okAt s p = true → (Utf8.decode s p).2 = 1) := by
  unfold okAt
  rw [byteAt_eq hp]
  by_cases hb : (s[p]).toNat < 128
  · rw [decode_ascii s p hp hb]
    exact ⟨rfl, fun _ => rfl⟩
  · have hb : 128 ≤ (s[p]).toNat := Nat.le_of_not_lt hb
    rw [may_high (decode_high s p hp hb).1, may_high hb]
    exact ⟨rfl, fun e => by cases e⟩
theorem allOk_of {s : ByteArray} (h : ∀ i, i < s.size → okAt s i = true) : allOk s = true := by
  unfold allOk
  rw [List.all_eq_true]
  intro i hi
  exact h i (by simpa using hi)
theorem not_allOk {s : ByteArray} {i : Nat} (hi : i < s.size) (h : okAt s i = false) : allOk s = false := by
  cases hA : allOk s with
  | false => rfl
  | true =>
    unfold allOk at hA
    rw [List.all_eq_true] at hA
    have := hA i (by simpa using hi)
    rw [h] at this
    cases this
set_option maxRecDepth 100000 in
theorem isName_loop (s : ByteArray) : ∀ a : AAct, a.n = 35 → a.marks = [] → [0, 2, 14].map a.tmp = [.string s, .bool false, itP] →
    J Tryz.prog (.loop (loopOf Tryz.prog 105 0)) a (itH s 0) (told 35 [0, 2, 14] fun e vs h => vs = [.string s, .bool false, itP] ∧ (∃ p, h = itH s p) ∧ ((e = .exit 0 ∧ allOk s = true) ∨ (e = .ret ∧ allOk s = false))) := by
  intro a hn hm hv
  refine loop_rule (fun m vs h => ∃ p, p ≤ s.size ∧ m = s.size - p ∧ vs = [.string s, .bool false, itP] ∧ h = itH s p ∧ ∀ i, i < p → okAt s i = true) _ ?_ s.size _ _ a ⟨0, Nat.zero_le _, rfl, rfl, rfl, fun i hi => absurd hi (Nat.not_lt_zero _)⟩ hn hm hv
  rintro m vs h g ⟨p, hp, rfl, rfl, rfl, hok⟩
  refine execC_ok mixed orcB_ok (noAsks_ok _) (noLoops _) (Eq.mpr (isName_body s p g _) ?_)
  refine ⟨fun hlt => ?_, fun hlt => ?_⟩
  · have hlt : p < s.size := by simpa [Nat.blt_eq] using hlt
    obtain ⟨d1, d2⟩ := dec_may hlt
    have good : okAt s p = true → ∃ m', m' < s.size - p ∧ ∃ p', p' ≤ s.size ∧ m' = s.size - p' ∧ [Value.string s, .bool false, itP] = [.string s, .bool false, itP] ∧ itH s (p + (Utf8.decode s p).2) = itH s p' ∧ ∀ i, i < p' → okAt s i = true := fun hk => by
      rw [d2 hk]
      refine ⟨s.size - (p + 1), by omega, p + 1, hlt, rfl, rfl, rfl, fun i hi => ?_⟩
      by_cases e : i = p
      · rw [e]; exact hk
      · exact hok i (by omega)
    have bad : okAt s p = false → ([Value.string s, .bool false, itP] = [.string s, .bool false, itP] ∧ (∃ q, itH s (p + (Utf8.decode s p).2) = itH s q) ∧ ((Exit.ret = .exit 0 ∧ allOk s = true) ∨ (Exit.ret = .ret ∧ allOk s = false))) := fun hk =>
      ⟨rfl, ⟨_, rfl⟩, .inr ⟨rfl, not_allOk hlt hk⟩⟩
    refine ⟨fun h1 => good ?_, fun h1 => ⟨fun h2 => bad ?_, fun h2 => ⟨fun h3 => good ?_, fun h3 => ⟨fun h4 => bad ?_, fun h4 => good ?_⟩⟩⟩⟩
    · rw [← d1]; exact may1 h1
    · rw [← d1]; exact may2 h1 h2
    · rw [← d1]; exact may3 h1 h2 h3
    · rw [← d1]; exact may4 h1 h3 h4
    · rw [← d1]; exact may5 h2 h4
  · have hge : ¬ p < s.size := fun hl => by
      rw [show Nat.blt p s.size = true by rw [Nat.blt_eq]; exact hl] at hlt
      cases hlt
    exact ⟨rfl, ⟨p, rfl⟩, .inl ⟨rfl, allOk_of fun i hi => hok i (by omega)⟩⟩
noncomputable def nameLoops (s : ByteArray) : Loops Tryz.prog where
  body := fun _ => loopOf Tryz.prog 105 0
  spec := fun _ a h k => entry a 35 [(0, .string s), (2, .bool false), (14, itP)] (h = itH s 0 ∧ (allOk s = true → ∀ g p, k (.exit 0) (stOf 35 [(0, .string s), (2, .bool false), (14, itP)] g) (itH s p)) ∧ (allOk s = false → ∀ g p, k .ret (stOf 35 [(0, .string s), (2, .bool false), (14, itP)] g) (itH s p)))
  ok := fun i a h k q => by
    obtain ⟨h1, h2, h3, rfl, h4, h5⟩ := entry_facts q
    refine J.of_told (isName_loop s a h1 h2 ?_) ?_
    · simp only [List.map_cons, List.map_nil]
      rw [h3 (0, .string s) (by simp), h3 (2, .bool false) (by simp), h3 (14, itP) (by simp)]
    · rintro e vs h' g ⟨rfl, ⟨p, rfl⟩, ⟨rfl, ha⟩ | ⟨rfl, ha⟩⟩
      · exact h4 ha g p
      · exact h5 ha g p
theorem isName_run (s : ByteArray) (K : Value → AHeap → Prop) : callC Tryz.prog (exec Tryz.prog orcB 10) (syOf [(7, 1), (11, 1)]) noAsks (nameLoops s) 40 105 #[.string s] (emp Tryz.prog) K =
  ((ieq (Int.ofNat s.size) 0 = true → K (.bool false) (emp Tryz.prog)) ∧ (ieq (Int.ofNat s.size) 0 = false →
    (ilt 24 (Int.ofNat s.size) = true → K (.bool false) (emp Tryz.prog)) ∧ (ilt 24 (Int.ofNat s.size) = false →
      loopOf Tryz.prog 105 0 = loopOf Tryz.prog 105 0 ∧ Value.string s = .string s ∧ Value.bool false = .bool false ∧ itP = itP ∧ itH s 0 = itH s 0 ∧
        (allOk s = true → ∀ (g : Nat → Value) p, K (.bool true) (itH s p)) ∧ (allOk s = false → ∀ (g : Nat → Value) p, K (.bool false) (itH s p))))) := by kernel_rfl
noncomputable def nameL : List Value → Option Value
  | [.string s] => some (.bool (nameS s))
  | _ => none
end Go.Proofs.YtcifkiinilaglaaGreatDoor
