/-
  OWN WORK. Codes: read from their strings, by the reference.
-/
import Derived.Test.YtojfhklkcelblaaGreatDoorCdL
namespace Go.Proofs.YtojfhklkcelblaaGreatDoor
open Go Go.Am

noncomputable abbrev rcG (p : ByteArray) (a b : Int) : AHeap := ((emp Tryz.prog).push (.cells z0 23 0 false)).push (.cells [.string p, gi a, gi b] 23 0 false)
noncomputable abbrev rcS (s : ByteArray) (c : Int) (i : Int) : List Value := [.string s, pt 0, gi 0, gi c, pt 1, gi i]
theorem rc_body0 (s p : ByteArray) (c a b : Int) (g : Nat → Value) (Q : Exit → List Value → AHeap → Prop) : execC Tryz.prog (exec Tryz.prog orcK 10) (syOf [(30, 8), (33, 1)]) askK (noLoops _) 40 (loopOf Tryz.prog 10 0) (stOf 98 [(0, .string s), (2, pt 0), (3, gi 0), (4, gi c), (5, pt 1), (6, gi 0)] g) (rcG p a b) (told 98 [0, 2, 3, 4, 5, 6] Q) = (ahasIndex (fwrap .i64 (c + 1)) s.size = true ∧ (ieq (byteAt s (fwrap .i64 (c + 1)).toNat) 120 = true → Q .normal (rcS s c 1) (rcG p 0 b)) ∧ (ieq (byteAt s (fwrap .i64 (c + 1)).toNat) 120 = false → Q .normal (rcS s c 1) (rcG p a b))) := by kernel_rfl
theorem rc_body1 (s p : ByteArray) (c a b : Int) (g : Nat → Value) (Q : Exit → List Value → AHeap → Prop) : execC Tryz.prog (exec Tryz.prog orcK 10) (syOf [(30, 8), (33, 1)]) askK (noLoops _) 40 (loopOf Tryz.prog 10 0) (stOf 98 [(0, .string s), (2, pt 0), (3, gi 0), (4, gi c), (5, pt 1), (6, gi 1)] g) (rcG p a b) (told 98 [0, 2, 3, 4, 5, 6] Q) = (ahasIndex (fwrap .i64 (c + 1)) s.size = true ∧ (ieq (byteAt s (fwrap .i64 (c + 1)).toNat) 121 = true → Q .normal (rcS s c 2) (rcG p 1 b)) ∧ (ieq (byteAt s (fwrap .i64 (c + 1)).toNat) 121 = false → Q .normal (rcS s c 2) (rcG p a b))) := by kernel_rfl
theorem rc_body2 (s p : ByteArray) (c a b : Int) (g : Nat → Value) (Q : Exit → List Value → AHeap → Prop) : execC Tryz.prog (exec Tryz.prog orcK 10) (syOf [(30, 8), (33, 1)]) askK (noLoops _) 40 (loopOf Tryz.prog 10 0) (stOf 98 [(0, .string s), (2, pt 0), (3, gi 0), (4, gi c), (5, pt 1), (6, gi 2)] g) (rcG p a b) (told 98 [0, 2, 3, 4, 5, 6] Q) = (ahasIndex (fwrap .i64 (c + 1)) s.size = true ∧ (ieq (byteAt s (fwrap .i64 (c + 1)).toNat) 122 = true → Q .normal (rcS s c 3) (rcG p 2 b)) ∧ (ieq (byteAt s (fwrap .i64 (c + 1)).toNat) 122 = false → Q .normal (rcS s c 3) (rcG p a b))) := by kernel_rfl
theorem rc_body3 (s p : ByteArray) (c a b : Int) (g : Nat → Value) (Q : Exit → List Value → AHeap → Prop) : execC Tryz.prog (exec Tryz.prog orcK 10) (syOf [(30, 8), (33, 1)]) askK (noLoops _) 40 (loopOf Tryz.prog 10 0) (stOf 98 [(0, .string s), (2, pt 0), (3, gi 0), (4, gi c), (5, pt 1), (6, gi 3)] g) (rcG p a b) (told 98 [0, 2, 3, 4, 5, 6] Q) = Q (.exit 0) (rcS s c 3) (rcG p a b) := by kernel_rfl
/-- The axis of a byte, as the reference sees it. -/
def axR (y : Int) : Int := bif ieq y 122 then 2 else bif ieq y 121 then 1 else bif ieq y 120 then 0 else -1
noncomputable abbrev yA (s : ByteArray) (c : Int) (k : Int) : Int := byteAt s (fwrap .i64 (c + k)).toNat
set_option maxRecDepth 100000 in
theorem rc_loop (s p : ByteArray) (c b : Int) (hc : ahasIndex (fwrap .i64 (c + 1)) s.size = true) : ∀ a : AAct, a.n = 98 → a.marks = [] → [0, 2, 3, 4, 5, 6].map a.tmp = rcS s c 0 →
    J Tryz.prog (.loop (loopOf Tryz.prog 10 0)) a (rcG p (-1) b) (told 98 [0, 2, 3, 4, 5, 6] fun ex vs h => ex = .exit 0 ∧ vs = rcS s c 3 ∧ h = rcG p (axR (yA s c 1)) b) := by
  intro a hn hm hv
  refine loop_rule (fun m vs h => (m = 3 ∧ vs = rcS s c 0 ∧ h = rcG p (-1) b) ∨ (m = 2 ∧ vs = rcS s c 1 ∧ h = rcG p (bif ieq (yA s c 1) 120 then 0 else -1) b) ∨ (m = 1 ∧ vs = rcS s c 2 ∧ h = rcG p (bif ieq (yA s c 1) 121 then 1 else bif ieq (yA s c 1) 120 then 0 else -1) b) ∨ (m = 0 ∧ vs = rcS s c 3 ∧ h = rcG p (axR (yA s c 1)) b)) _ ?_ 3 _ _ a (.inl ⟨rfl, rfl, rfl⟩) hn hm hv
  rintro m vs h g (⟨rfl, rfl, rfl⟩ | ⟨rfl, rfl, rfl⟩ | ⟨rfl, rfl, rfl⟩ | ⟨rfl, rfl, rfl⟩)
  · refine execC_ok mixed orcK_ok askK_ok (noLoops _) (Eq.mpr (rc_body0 s p c _ b g _) ⟨hc, fun h => ⟨2, by omega, .inr (.inl ⟨rfl, rfl, ?_⟩)⟩, fun h => ⟨2, by omega, .inr (.inl ⟨rfl, rfl, ?_⟩)⟩⟩)
    · rw [h]; rfl
    · rw [h]; rfl
  · refine execC_ok mixed orcK_ok askK_ok (noLoops _) (Eq.mpr (rc_body1 s p c _ b g _) ⟨hc, fun h => ⟨1, by omega, .inr (.inr (.inl ⟨rfl, rfl, ?_⟩))⟩, fun h => ⟨1, by omega, .inr (.inr (.inl ⟨rfl, rfl, ?_⟩))⟩⟩)
    · rw [h]; rfl
    · rw [h]; rfl
  · refine execC_ok mixed orcK_ok askK_ok (noLoops _) (Eq.mpr (rc_body2 s p c _ b g _) ⟨hc, fun h => ⟨0, by omega, .inr (.inr (.inr ⟨rfl, rfl, ?_⟩))⟩, fun h => ⟨0, by omega, .inr (.inr (.inr ⟨rfl, rfl, ?_⟩))⟩⟩)
    · unfold axR
      rw [h]; rfl
    · unfold axR
      rw [h]; rfl
  · exact execC_ok mixed orcK_ok askK_ok (noLoops _) (Eq.mpr (rc_body3 s p c _ b g _) ⟨rfl, rfl, rfl⟩)
noncomputable def rcLoops (s p : ByteArray) (c : Int) : Loops Tryz.prog where
  body := fun _ => loopOf Tryz.prog 10 0
  spec := fun _ a h k => entry a 98 [(0, .string s), (2, pt 0), (3, gi 0), (4, gi c), (5, pt 1), (6, gi 0)] (h = rcG p (-1) 0 ∧ ahasIndex (fwrap .i64 (c + 1)) s.size = true ∧ ∀ g, k (.exit 0) (stOf 98 [(0, .string s), (2, pt 0), (3, gi 0), (4, gi c), (5, pt 1), (6, gi 3)] g) (rcG p (axR (yA s c 1)) 0))
  ok := fun i a h k q => by
    obtain ⟨h1, h2, h3, rfl, hs, h4⟩ := entry_facts q
    refine J.of_told (rc_loop s p c 0 hs a h1 h2 ?_) ?_
    · simp only [List.map_cons, List.map_nil]
      rw [h3 (0, .string s) (by simp), h3 (2, pt 0) (by simp), h3 (3, gi 0) (by simp), h3 (4, gi c) (by simp), h3 (5, pt 1) (by simp), h3 (6, gi 0) (by simp)]
    · rintro e vs h' g ⟨rfl, rfl, rfl⟩
      exact h4 g
noncomputable def cut3 (s : ByteArray) : Int := fwrap .i64 (cutI s + 3)
noncomputable def lfE (s : ByteArray) : Int := firstS [whenS (!(nameS (hdB s))) 8, whenS (!((sub1 mL (letN (s.extract 0 (cut3 s).toNat))).toList == (s.extract (cut3 s).toNat s.size).toList)) 27]
noncomputable abbrev V25 : Value := .tuple #[.agg ⟨z0⟩, gi 25]
noncomputable abbrev has3 (s : ByteArray) : Prop := ahasIndex (cut3 s) s.size = true
noncomputable abbrev has2 (s : ByteArray) : Prop := ahasIndex (fwrap .i64 (cutI s + 2)) s.size = true
noncomputable abbrev yB (s : ByteArray) (c : Int) : Int := byteAt s c.toNat
noncomputable abbrev rcT (s : ByteArray) (b : Int) (K : Value → Prop) : Prop := (ahasIndex (cutI s) s.size = true ∧ ((!(ieq (yB s (cutI s)) 45)) = true → K V25) ∧ ((!(ieq (yB s (cutI s)) 45)) = false → ((ilt (axR (yA s (cutI s) 1)) 0 = true → K V25) ∧ (ilt (axR (yA s (cutI s) 1)) 0 = false → (has3 s ∧ (ilt (yB s (cut3 s)) 65 = true → K V25) ∧ (ilt (yB s (cut3 s)) 65 = false → (has3 s ∧ (ilt 90 (yB s (cut3 s)) = true → K V25) ∧ (ilt 90 (yB s (cut3 s)) = false → ((0 : Int) ≤ 0 ∧ 0 ≤ cut3 s ∧ cut3 s ≤ Int.ofNat s.size ∧ 0 ≤ cut3 s ∧ cut3 s ≤ Int.ofNat s.size ∧ (s.extract 0 (cut3 s).toNat).size ≤ 1000000 ∧
  ((!(ieq (lfE s) 0)) = true → K (.tuple #[.agg ⟨z0⟩, gi (lfE s)])) ∧ ((!(ieq (lfE s) 0)) = false → K (.tuple #[.agg #[.string (hdB s), gi (axR (yA s (cutI s) 1)), gi b], gi 0])))))))))))
noncomputable abbrev rcZ (s : ByteArray) (K : Value → Prop) : Prop := (ahasIndex (cutI s) s.size = true ∧ ((!(ieq (yB s (cutI s)) 45)) = true → K V25) ∧ ((!(ieq (yB s (cutI s)) 45)) = false → ((ilt (axR (yA s (cutI s) 1)) 0 = true → K V25) ∧ (ilt (axR (yA s (cutI s) 1)) 0 = false → K V25))))
theorem Dec_run (s : ByteArray) (K : Value → Prop) : callC Tryz.prog (exec Tryz.prog orcK 10) (syOf [(10, 1), (14, 1), (21, 42), (39, 8), (40, 1), (45, 8), (46, 1), (50, 8), (51, 1), (55, 1), (66, 8), (67, 1), (73, 8), (74, 1), (83, 42), (84, 7), (88, 42), (94, 1)]) askK (rcLoops s (hdB s) (cutI s)) 60 10 #[.string s] (emp Tryz.prog) (fun v _ => K v) =
  ((ilt 28 (Int.ofNat s.size) = true → K (.tuple #[.agg ⟨z0⟩, gi 26])) ∧ (ilt 28 (Int.ofNat s.size) = false → ((ilt (Int.ofNat s.size) 5 = true → K V25) ∧ (ilt (Int.ofNat s.size) 5 = false →
    ((0 : Int) ≤ 0 ∧ 0 ≤ cutI s ∧ cutI s ≤ Int.ofNat s.size ∧ loopOf Tryz.prog 10 0 = loopOf Tryz.prog 10 0 ∧ Value.string s = .string s ∧ pt 0 = pt 0 ∧ gi 0 = gi 0 ∧ gi (cutI s) = gi (cutI s) ∧ pt 1 = pt 1 ∧ gi 0 = gi 0 ∧ rcG (hdB s) (-1) 0 = rcG (hdB s) (-1) 0 ∧ ahasIndex (fwrap .i64 (cutI s + 1)) s.size = true ∧
      (∀ _ : Nat → Value, (has2 s ∧ (ieq (yA s (cutI s) 2) 43 = true → (has2 s ∧ (ieq (yA s (cutI s) 2) 45 = true → rcT s (-1) K) ∧ (ieq (yA s (cutI s) 2) 45 = false → rcT s 1 K))) ∧ (ieq (yA s (cutI s) 2) 43 = false → (has2 s ∧ (ieq (yA s (cutI s) 2) 45 = true → rcT s (-1) K) ∧ (ieq (yA s (cutI s) 2) 45 = false → rcZ s K)))))))))) := by kernel_rfl
end Go.Proofs.YtojfhklkcelblaaGreatDoor
