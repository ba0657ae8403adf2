/-
  OWN WORK. Names, as the reference sees them.
-/
import Derived.Test.YtcifkiinilaglaaGreatDoorCdB
namespace Go.Proofs.YtcifkiinilaglaaGreatDoor
open Go Go.Am

noncomputable abbrev goN (i : Nat) : Value := .int .i64 (Int.ofNat i)
theorem IsName_6 (s : ByteArray) (i : Nat) (g : Nat → Value) (Q : Exit → List Value → AHeap → Prop) :
    execC Tryz.prog (exec Tryz.prog orcB 10) (syOf [(22, 8), (23, 1), (27, 8), (28, 1), (33, 8), (34, 1), (38, 8), (39, 1)]) noAsks (noLoops _) 4 (regionOf Tryz.prog 145 6) (stOf 68 [(0, .string s), (2, .bool false), (3, goN i)] g) (emp Tryz.prog) (told 68 [0, 2, 3, 4] Q) =
    (Nat.blt i s.size = true ∧
      ((!ilt (byteAt s i) 65) = true → Nat.blt i s.size = true ∧
        ((!ilt 90 (byteAt s i)) = true → Q .normal [.string s, .bool false, goN i, .bool true] (emp Tryz.prog)) ∧
        ((!ilt 90 (byteAt s i)) = false → Nat.blt i s.size = true ∧
          ((!ilt (byteAt s i) 97) = true → Nat.blt i s.size = true ∧
            ((!ilt 122 (byteAt s i)) = true → Q .normal [.string s, .bool false, goN i, .bool true] (emp Tryz.prog)) ∧
            ((!ilt 122 (byteAt s i)) = false → Q .normal [.string s, .bool false, goN i, .bool false] (emp Tryz.prog))) ∧
          ((!ilt (byteAt s i) 97) = false → Q .normal [.string s, .bool false, goN i, .bool false] (emp Tryz.prog)))) ∧
      ((!ilt (byteAt s i) 65) = false → Nat.blt i s.size = true ∧
          ((!ilt (byteAt s i) 97) = true → Nat.blt i s.size = true ∧
            ((!ilt 122 (byteAt s i)) = true → Q .normal [.string s, .bool false, goN i, .bool true] (emp Tryz.prog)) ∧
            ((!ilt 122 (byteAt s i)) = false → Q .normal [.string s, .bool false, goN i, .bool false] (emp Tryz.prog))) ∧
          ((!ilt (byteAt s i) 97) = false → Q .normal [.string s, .bool false, goN i, .bool false] (emp Tryz.prog)))) := by kernel_rfl
theorem IsName_7 (s : ByteArray) (i : Nat) (b : Bool) (g : Nat → Value) (Q : Exit → List Value → AHeap → Prop) :
    execC Tryz.prog (exec Tryz.prog orcB 10) (syOf [(44, 8), (45, 1), (49, 8), (50, 1), (55, 8), (56, 1)]) noAsks (noLoops _) 4 (regionOf Tryz.prog 145 7) (stOf 68 [(0, .string s), (2, .bool false), (3, goN i), (4, .bool b)] g) (emp Tryz.prog) (told 68 [0, 2, 3, 4, 5] Q) =
    (Nat.blt i s.size = true ∧
      ((!ilt (byteAt s i) 48) = true → Nat.blt i s.size = true ∧
        ((!ilt 57 (byteAt s i)) = true → Q .normal [.string s, .bool false, goN i, .bool b, .bool true] (emp Tryz.prog)) ∧
        ((!ilt 57 (byteAt s i)) = false → Nat.blt i s.size = true ∧
          (ieq (byteAt s i) 95 = true → Q .normal [.string s, .bool false, goN i, .bool b, .bool true] (emp Tryz.prog)) ∧
          (ieq (byteAt s i) 95 = false → Q .normal [.string s, .bool false, goN i, .bool b, .bool false] (emp Tryz.prog)))) ∧
      ((!ilt (byteAt s i) 48) = false → Nat.blt i s.size = true ∧
          (ieq (byteAt s i) 95 = true → Q .normal [.string s, .bool false, goN i, .bool b, .bool true] (emp Tryz.prog)) ∧
          (ieq (byteAt s i) 95 = false → Q .normal [.string s, .bool false, goN i, .bool b, .bool false] (emp Tryz.prog)))) := by kernel_rfl
noncomputable def otherS (c : Int) : Bool := digitS c || ieq c 95
set_option maxRecDepth 100000 in
theorem J_6 (s : ByteArray) (i : Nat) (hi : Nat.blt i s.size = true) (g : Nat → Value) : J Tryz.prog (regionOf Tryz.prog 145 6) (stOf 68 [(0, .string s), (2, .bool false), (3, goN i)] g) (emp Tryz.prog)
    (told 68 [0, 2, 3, 4] fun e vs h => e = .normal ∧ vs = [.string s, .bool false, goN i, .bool (letterS (byteAt s i))] ∧ h = emp Tryz.prog) := by
  refine execC_ok mixed orcB_ok (noAsks_ok _) (noLoops _) (Eq.mpr (IsName_6 s i g _) ?_)
  unfold letterS
  generalize (!ilt (byteAt s i) 65) = b1
  generalize (!ilt 90 (byteAt s i)) = b2
  generalize (!ilt (byteAt s i) 97) = b3
  generalize (!ilt 122 (byteAt s i)) = b4
  cases b1 <;> cases b2 <;> cases b3 <;> cases b4 <;> simp [hi]
set_option maxRecDepth 100000 in
theorem J_7 (s : ByteArray) (i : Nat) (b : Bool) (hi : Nat.blt i s.size = true) (g : Nat → Value) : J Tryz.prog (regionOf Tryz.prog 145 7) (stOf 68 [(0, .string s), (2, .bool false), (3, goN i), (4, .bool b)] g) (emp Tryz.prog)
    (told 68 [0, 2, 3, 4, 5] fun e vs h => e = .normal ∧ vs = [.string s, .bool false, goN i, .bool b, .bool (otherS (byteAt s i))] ∧ h = emp Tryz.prog) := by
  refine execC_ok mixed orcB_ok (noAsks_ok _) (noLoops _) (Eq.mpr (IsName_7 s i b g _) ?_)
  unfold otherS digitS
  generalize (!ilt (byteAt s i) 48) = b1
  generalize (!ilt 57 (byteAt s i)) = b2
  generalize ieq (byteAt s i) 95 = b3
  cases b1 <;> cases b2 <;> cases b3 <;> simp [hi]
set_option maxRecDepth 100000 in
/-- The two regions in which a byte is looked at. -/
noncomputable def byteCuts (s : ByteArray) (i : Nat) : Loops Tryz.prog where
  body := fun _ => .skip
  spec := fun _ _ _ _ => False
  ok := fun _ _ _ _ h => h.elim
  reg := fun r => match Nat.beq r 6 with
    | true => some (regionOf Tryz.prog 145 6)
    | false => match Nat.beq r 7 with
      | true => some (regionOf Tryz.prog 145 7)
      | false => none
  rspec := fun r a h k => match Nat.beq r 6 with
    | true => entry a 68 [(0, .string s), (2, .bool false), (3, goN i)] (h = emp Tryz.prog ∧ Nat.blt i s.size = true ∧ ∀ g, k .normal (stOf 68 [(0, .string s), (2, .bool false), (3, goN i), (4, .bool (letterS (byteAt s i)))] g) (emp Tryz.prog))
    | false => match Nat.beq r 7 with
      | true => entry a 68 [(0, .string s), (2, .bool false), (3, goN i), (4, .bool (letterS (byteAt s i)))] (h = emp Tryz.prog ∧ Nat.blt i s.size = true ∧ ∀ g, k .normal (stOf 68 [(0, .string s), (2, .bool false), (3, goN i), (4, .bool (letterS (byteAt s i))), (5, .bool (otherS (byteAt s i)))] g) (emp Tryz.prog))
      | false => False
  rok := fun r c a h k hc q => by
    split at hc
    · rename_i h6
      rw [h6] at q
      cases hc
      obtain ⟨h1, h2, h3, rfl, h4, h5⟩ := entry_facts q
      refine J.of_facts h1 h2 h3 fun g => J.of_told (J_6 s i h4 g) ?_
      rintro e vs h' g ⟨rfl, rfl, rfl⟩
      exact h5 g
    · rename_i h6
      rw [h6] at q
      split at hc
      · rename_i h7
        rw [h7] at q
        cases hc
        obtain ⟨h1, h2, h3, rfl, h4, h5⟩ := entry_facts q
        refine J.of_facts h1 h2 h3 fun g => J.of_told (J_7 s i _ h4 g) ?_
        rintro e vs h' g ⟨rfl, rfl, rfl⟩
        exact h5 g
      · cases hc
theorem IsName_body (s : ByteArray) (i : Nat) (g : Nat → Value) (Q : Exit → List Value → AHeap → Prop) :
    execC Tryz.prog (exec Tryz.prog orcB 10) (syOf [(17, 1), (58, 1), (62, 1), (64, 1)]) noAsks (byteCuts s i) 40 (loopOf Tryz.prog 145 0) (stOf 68 [(0, .string s), (2, .bool false), (3, goN i)] g) (emp Tryz.prog) (told 68 [0, 2, 3] Q) =
    ((Nat.blt i s.size = true → regionOf Tryz.prog 145 6 = regionOf Tryz.prog 145 6 ∧ Value.string s = .string s ∧ Value.bool false = .bool false ∧ goN i = goN i ∧ emp Tryz.prog = emp Tryz.prog ∧ Nat.blt i s.size = true ∧ ∀ _ : Nat → Value,
      regionOf Tryz.prog 145 7 = regionOf Tryz.prog 145 7 ∧ Value.string s = .string s ∧ Value.bool false = .bool false ∧ goN i = goN i ∧ Value.bool (letterS (byteAt s i)) = .bool (letterS (byteAt s i)) ∧ emp Tryz.prog = emp Tryz.prog ∧ Nat.blt i s.size = true ∧ ∀ _ : Nat → Value,
        (letterS (byteAt s i) = true → Q .normal [.string s, .bool false, .int .i64 (fwrap .i64 (Int.ofNat (i + 1)))] (emp Tryz.prog)) ∧
        (letterS (byteAt s i) = false →
          (ieq (Int.ofNat i) 0 = true → Q .ret [.string s, .bool false, goN i] (emp Tryz.prog)) ∧
          (ieq (Int.ofNat i) 0 = false →
            (otherS (byteAt s i) = true → Q .normal [.string s, .bool false, .int .i64 (fwrap .i64 (Int.ofNat (i + 1)))] (emp Tryz.prog)) ∧
            (otherS (byteAt s i) = false → Q .ret [.string s, .bool false, goN i] (emp Tryz.prog))))) ∧
     (Nat.blt i s.size = false → Q (.exit 0) [.string s, .bool false, goN i] (emp Tryz.prog))) := by kernel_rfl
theorem okAt_eq (s : ByteArray) (i : Nat) : okAt s i = (letterS (byteAt s i) || (!ieq (Int.ofNat i) 0 && otherS (byteAt s i))) := rfl
set_option maxRecDepth 100000 in
theorem IsName_loop (s : ByteArray) (hs : s.size ≤ 24) : ∀ a : AAct, a.n = 68 → a.marks = [] → [0, 2, 3].map a.tmp = [.string s, .bool false, goN 0] →
    J Tryz.prog (.loop (loopOf Tryz.prog 145 0)) a (emp Tryz.prog) (told 68 [0, 2, 3] fun e vs h => (∃ i, vs = [.string s, .bool false, goN i]) ∧ h = emp Tryz.prog ∧ ((e = .exit 0 ∧ allOk s = true) ∨ (e = .ret ∧ allOk s = false))) := by
  intro a hn hm hv
  refine loop_rule (fun m vs h => ∃ p, p ≤ s.size ∧ m = s.size - p ∧ vs = [.string s, .bool false, goN p] ∧ h = emp Tryz.prog ∧ ∀ i, i < p → okAt s i = true) _ ?_ s.size _ _ a ⟨0, Nat.zero_le _, rfl, rfl, rfl, fun i hi => absurd hi (Nat.not_lt_zero _)⟩ hn hm hv
  rintro m vs h g ⟨p, hp, rfl, rfl, rfl, hok⟩
  refine execC_ok mixed orcB_ok (noAsks_ok _) (byteCuts s p) (Eq.mpr (IsName_body s p g _) ?_)
  refine ⟨fun hlt => ?_, fun hlt => ?_⟩
  · have hl : p < s.size := by rw [Nat.blt_eq] at hlt; exact hlt
    have good : okAt s p = true → ∃ m', m' < s.size - p ∧ ∃ p', p' ≤ s.size ∧ m' = s.size - p' ∧ [Value.string s, .bool false, .int .i64 (fwrap .i64 (Int.ofNat (p + 1)))] = [.string s, .bool false, goN p'] ∧ emp Tryz.prog = emp Tryz.prog ∧ ∀ i, i < p' → okAt s i = true := fun hk => by
      rw [fwrap_nat (by omega)]
      refine ⟨s.size - (p + 1), by omega, p + 1, hl, rfl, rfl, rfl, fun i hi => ?_⟩
      by_cases e : i = p
      · rw [e]; exact hk
      · exact hok i (by omega)
    have bad : okAt s p = false → ((∃ i, [Value.string s, .bool false, goN p] = [.string s, .bool false, goN i]) ∧ emp Tryz.prog = emp Tryz.prog ∧ ((Exit.ret = .exit 0 ∧ allOk s = true) ∨ (Exit.ret = .ret ∧ allOk s = false))) := fun hk =>
      ⟨⟨p, rfl⟩, rfl, .inr ⟨rfl, not_allOk hl hk⟩⟩
    refine ⟨rfl, rfl, rfl, rfl, rfl, hlt, fun _ => ⟨rfl, rfl, rfl, rfl, rfl, rfl, hlt, fun _ => ⟨fun h1 => good ?_, fun h1 => ⟨fun h2 => bad ?_, fun h2 => ⟨fun h3 => good ?_, fun h3 => bad ?_⟩⟩⟩⟩⟩
    · rw [okAt_eq, h1, Bool.true_or]
    · rw [okAt_eq, h1, h2, Bool.false_or, Bool.not_true, Bool.false_and]
    · rw [okAt_eq, h1, h2, h3, Bool.false_or, Bool.not_false, Bool.true_and]
    · rw [okAt_eq, h1, h2, h3, Bool.false_or, Bool.not_false, Bool.true_and]
  · have hge : ¬ p < s.size := fun hl => by
      rw [show Nat.blt p s.size = true by rw [Nat.blt_eq]; exact hl] at hlt
      cases hlt
    exact ⟨⟨p, rfl⟩, rfl, .inl ⟨rfl, allOk_of fun i hi => hok i (by omega)⟩⟩
noncomputable def NameLoops (s : ByteArray) : Loops Tryz.prog where
  body := fun _ => loopOf Tryz.prog 145 0
  spec := fun _ a h k => entry a 68 [(0, .string s), (2, .bool false), (3, goN 0)] (h = emp Tryz.prog ∧ s.size ≤ 24 ∧ (allOk s = true → ∀ g i, k (.exit 0) (stOf 68 [(0, .string s), (2, .bool false), (3, goN i)] g) (emp Tryz.prog)) ∧ (allOk s = false → ∀ g i, k .ret (stOf 68 [(0, .string s), (2, .bool false), (3, goN i)] g) (emp Tryz.prog)))
  ok := fun i a h k q => by
    obtain ⟨h1, h2, h3, rfl, hs, h4, h5⟩ := entry_facts q
    refine J.of_told (IsName_loop s hs a h1 h2 ?_) ?_
    · simp only [List.map_cons, List.map_nil]
      rw [h3 (0, .string s) (by simp), h3 (2, .bool false) (by simp), h3 (3, goN 0) (by simp)]
    · rintro e vs h' g ⟨⟨i, rfl⟩, rfl, ⟨rfl, ha⟩ | ⟨rfl, ha⟩⟩
      · exact h4 ha g i
      · exact h5 ha g i
theorem IsName_run (s : ByteArray) (K : Value → AHeap → Prop) : callC Tryz.prog (exec Tryz.prog orcB 10) (syOf [(8, 1), (12, 1)]) noAsks (NameLoops s) 40 145 #[.string s] (emp Tryz.prog) K =
  ((ieq (Int.ofNat s.size) 0 = true → K (.bool false) (emp Tryz.prog)) ∧ (ieq (Int.ofNat s.size) 0 = false →
    (ilt 24 (Int.ofNat s.size) = true → K (.bool false) (emp Tryz.prog)) ∧ (ilt 24 (Int.ofNat s.size) = false →
      loopOf Tryz.prog 145 0 = loopOf Tryz.prog 145 0 ∧ Value.string s = .string s ∧ Value.bool false = .bool false ∧ goN 0 = goN 0 ∧ emp Tryz.prog = emp Tryz.prog ∧ s.size ≤ 24 ∧
        (allOk s = true → ∀ (_ : Nat → Value) (_ : Nat), K (.bool true) (emp Tryz.prog)) ∧ (allOk s = false → ∀ (_ : Nat → Value) (_ : Nat), K (.bool false) (emp Tryz.prog))))) := by kernel_rfl
theorem size_le {n : Nat} (h : ilt 24 (Int.ofNat n) = false) : n ≤ 24 := by
  have h : Nat.blt 24 n = false := h
  apply Nat.le_of_not_lt
  intro hl
  rw [show Nat.blt 24 n = true by rw [Nat.blt_eq]; exact hl] at h
  cases h
noncomputable def orcC : Orc := orElse 145 (flatSpec nameL) (orElse 105 (flatSpec nameL) orcB)
set_option maxRecDepth 100000 in
theorem orcC_ok : OrcOk Tryz.prog orcC := by
  refine flatSpec_ok (fun l v h => ?_) (flatSpec_ok (fun l v h => ?_) orcB_ok)
  · unfold nameL at h
    split at h
    · rename_i s
      cases h
      refine ⟨rfl, rfl, callC_ok mixed orcB_ok (noAsks_ok _) (Eq.mpr (IsName_run s _) ⟨fun h1 => ?_, fun h1 => ⟨fun h2 => ?_, fun h2 => ⟨rfl, rfl, rfl, rfl, rfl, size_le h2, fun h3 _ _ => ?_, fun h3 _ _ => ?_⟩⟩⟩)⟩ <;> unfold nameS
      · rw [h1]; rfl
      · rw [h1, h2]; rfl
      · rw [h1, h2, h3]; rfl
      · rw [h1, h2, h3]; rfl
    · cases h
  · unfold nameL at h
    split at h
    · rename_i s
      cases h
      refine ⟨rfl, rfl, callC_ok mixed orcB_ok (noAsks_ok _) (Eq.mpr (isName_run s _) ⟨fun h1 => ?_, fun h1 => ⟨fun h2 => ?_, fun h2 => ⟨rfl, rfl, rfl, rfl, rfl, fun h3 _ _ => ?_, fun h3 _ _ => ?_⟩⟩⟩)⟩ <;> unfold nameS
      · rw [h1]; rfl
      · rw [h1, h2]; rfl
      · rw [h1, h2, h3]; rfl
      · rw [h1, h2, h3]; rfl
    · cases h
end Go.Proofs.YtcifkiinilaglaaGreatDoor
