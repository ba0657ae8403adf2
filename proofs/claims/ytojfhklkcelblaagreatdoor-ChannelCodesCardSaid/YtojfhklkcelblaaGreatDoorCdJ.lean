/-
  OWN WORK. Codes: their strings, by the program and by the reference.
-/
import Derived.Test.YtojfhklkcelblaaGreatDoorCdI
namespace Go.Proofs.YtojfhklkcelblaaGreatDoor
open Go Go.Am

noncomputable def codeS : List Value → Option Value
  | [.agg a] => match a.toList with
    | [.string p, .int .i64 x, .int .i64 g] => some (gi (codeE p x g))
    | _ => none
  | _ => none
theorem codeS_some {l : List Value} {v : Value} (h : codeS l = some v) : ∃ p x g, l = [.agg #[.string p, gi x, gi g]] ∧ v = gi (codeE p x g) := by
  unfold codeS at h
  split at h
  · rename_i a
    split at h
    · rename_i p x g ha
      cases h
      obtain rfl : a = #[.string p, .int .i64 x, .int .i64 g] := by rw [← ha]
      exact ⟨p, x, g, rfl, rfl⟩
    · cases h
  · cases h
theorem codeE_t {p : ByteArray} {x g : Int} (h : (!(ieq g 1)) = true) : firstS [whenS (!(nameS p)) 8, withinS x 0 2, whenS (!(ieq g (-1))) 3] = codeE p x g := by
  unfold codeE
  rw [h, Bool.true_and]
theorem codeE_f {p : ByteArray} {x g : Int} (h : (!(ieq g 1)) = false) : firstS [whenS (!(nameS p)) 8, withinS x 0 2, 0] = codeE p x g := by
  unfold codeE
  rw [h, Bool.false_and]
  rfl
noncomputable def orcJa : Orc := orElse 8 (flatSpec codeS) (orElse 11 (tabSpec tabs2 codeS) orcIa)
set_option maxRecDepth 100000 in
theorem orcJa_ok : OrcOk Tryz.prog orcJa := by
  refine flatSpec_ok (fun l v h => ?_) (tabSpec_ok tabs2_flat (fun l v h => ?_) orcIa_ok)
  · obtain ⟨p, x, g, rfl, rfl⟩ := codeS_some h
    exact ⟨rfl, rfl, callC_ok mixed orcIa_ok (noAsks_ok _) (Eq.mpr (CheckCode_run p x g _) ⟨fun h => ⟨rfl, rfl, rfl, by rw [codeE_t h]⟩, fun h => ⟨rfl, rfl, rfl, by rw [codeE_f h]⟩⟩)⟩
  · obtain ⟨p, x, g, rfl, rfl⟩ := codeS_some h
    exact ⟨rfl, rfl, fun es => callC_ok mixed orcIa_ok (noAsks_ok _) (Eq.mpr (checkCode_run es p x g _) ⟨fun h => ⟨rfl, rfl, rfl, rfl, rfl, rfl, rfl, rfl, rfl, by rw [codeE_t h]⟩, fun h => ⟨rfl, rfl, rfl, rfl, rfl, rfl, rfl, rfl, rfl, congrArg gi (codeE_f h)⟩⟩)⟩
noncomputable def askJa : Asks := skipA 8 (skipA 11 askIa)
theorem askJa_ok : AsksOk orcJa askJa := skipA_ok (skipA_ok askIa_ok)
theorem coded_run (es : Nat → TypeId) (p : ByteArray) (x g : Int) (K : Value → AHeap → Prop) : callC Tryz.prog (exec Tryz.prog orcJa 10) (syOf [(8, 1), (11, 7)]) askJa (noLoops _) 40 6 #[.agg #[.string p, gi x, gi g]] (bT es) K = (((!(ieq (codeE p x g) 0)) = true → K (.tuple #[.string ⟨#[]⟩, gi (codeE p x g)]) (cdH es p x g)) ∧ ((!(ieq (codeE p x g) 0)) = false → (p.size ≤ 1000 ∧ (x = 0 ∨ (x = 1 ∨ x = 2)) ∧ (g = 1 ∨ (g = (-1) ∨ g = 0)) ∧ K (.tuple #[.string (textB p x g), gi 0]) (cdH es p x g)))) := by kernel_rfl
noncomputable abbrev CodedQ (p : ByteArray) (x g : Int) (K : Value → AHeap → Prop) : Prop := callC Tryz.prog (exec Tryz.prog orcJa 10) (syOf [(7, 44), (15, 44), (20, 44), (22, 44), (26, 44), (25, 7)]) askJa (noLoops _) 40 9 #[.agg #[.string p, gi x, gi g]] (emp Tryz.prog) K
noncomputable abbrev CodedR (p : ByteArray) (x g : Int) (K : Value → AHeap → Prop) : Prop := p.size + 1 ≤ 1000000000 ∧ (p ++ mD).size + 1 ≤ 1000000000 ∧ ((p ++ mD) ++ axB x).size + 1 ≤ 1000000000 ∧ (cdS p x g).size ≤ 1000000 ∧ (cdS p x g).size + (sub1 mL (letN (cdS p x g))).size ≤ 1000000000 ∧ K (.string (textB p x g)) ((emp Tryz.prog).push (.cells (cdC p x g) 23 0 false))
theorem Coded_0p (p : ByteArray) (K : Value → AHeap → Prop) : CodedQ p 0 1 K = CodedR p 0 1 K := by kernel_rfl
theorem Coded_0m (p : ByteArray) (K : Value → AHeap → Prop) : CodedQ p 0 (-1) K = CodedR p 0 (-1) K := by kernel_rfl
theorem Coded_1p (p : ByteArray) (K : Value → AHeap → Prop) : CodedQ p 1 1 K = CodedR p 1 1 K := by kernel_rfl
theorem Coded_1m (p : ByteArray) (K : Value → AHeap → Prop) : CodedQ p 1 (-1) K = CodedR p 1 (-1) K := by kernel_rfl
theorem Coded_2p (p : ByteArray) (K : Value → AHeap → Prop) : CodedQ p 2 1 K = CodedR p 2 1 K := by kernel_rfl
theorem Coded_2m (p : ByteArray) (K : Value → AHeap → Prop) : CodedQ p 2 (-1) K = CodedR p 2 (-1) K := by kernel_rfl
set_option maxRecDepth 100000 in
theorem Coded_call {p : ByteArray} {x g : Int} (hp : p.size ≤ 1000) (hx : x = 0 ∨ x = 1 ∨ x = 2) (hg : g = 1 ∨ g = -1) : CallJ Tryz.prog 9 #[.agg #[.string p, gi x, gi g]] (emp Tryz.prog) (fun v _ => v = .string (textB p x g)) := by
  obtain ⟨h1, h2, h3⟩ := cdS_size (p := p) (g := g) hx
  have h5 := sub1_size mL (letN_range (cdS p x g)).1
  have key : CodedR p x g (fun v _ => v = .string (textB p x g)) := ⟨by omega, by omega, by omega, by omega, by omega, rfl⟩
  refine callC_ok mixed orcJa_ok askJa_ok (L := noLoops _) (m := 10) (n := 40) (sy := syOf [(7, 44), (15, 44), (20, 44), (22, 44), (26, 44), (25, 7)]) ?_
  rcases hx with rfl | rfl | rfl <;> rcases hg with rfl | rfl
  · exact Eq.mpr (Coded_0p p _) key
  · exact Eq.mpr (Coded_0m p _) key
  · exact Eq.mpr (Coded_1p p _) key
  · exact Eq.mpr (Coded_1m p _) key
  · exact Eq.mpr (Coded_2p p _) key
  · exact Eq.mpr (Coded_2m p _) key
theorem firstS_zero : ∀ {l : List Int}, firstS l = 0 → ∀ x ∈ l, x = 0
  | [], _, x, hx => by cases hx
  | y :: r, h, x, hx => by
    have h : (bif ieq y 0 then firstS r else y) = 0 := h
    cases hy : ieq y 0 with
    | false =>
      rw [hy] at h
      have h : y = 0 := h
      rw [ieq_dec, h] at hy
      simp at hy
    | true =>
      rw [hy] at h
      rcases List.mem_cons.1 hx with rfl | hx
      · rw [ieq_dec] at hy; exact of_decide_eq_true hy
      · exact firstS_zero h x hx
theorem when_zero {b : Bool} {e : Int} (he : e ≠ 0) (h : whenS b e = 0) : b = false := by
  cases b with
  | false => rfl
  | true => exact (he h).elim
/-- What a code without an error is. -/
theorem codeE_zero {p : ByteArray} {x g : Int} (h : codeE p x g = 0) : nameS p = true ∧ p.size ≤ 24 ∧ (x = 0 ∨ x = 1 ∨ x = 2) ∧ (g = 1 ∨ g = -1) := by
  have hz := firstS_zero h
  have h1 := when_zero (by decide) (hz (whenS (!(nameS p)) 8) (by simp))
  have h2 := when_zero (by decide) (hz (withinS x 0 2) (by simp))
  have h3 := when_zero (by decide) (hz (whenS (!ieq g 1 && !ieq g (-1)) 3) (by simp))
  have h1 : nameS p = true := by simpa using h1
  refine ⟨h1, ?_, ?_, ?_⟩
  · unfold nameS at h1
    simp only [Bool.and_eq_true, Bool.not_eq_true', ilt_dec, decide_eq_false_iff_not] at h1
    have := h1.1.2
    simp only [Int.ofNat_eq_natCast] at this
    omega
  · rw [ilt_dec, ilt_dec, Bool.or_eq_false_iff] at h2
    have a1 := of_decide_eq_false h2.1
    have a2 := of_decide_eq_false h2.2
    omega
  · rw [ieq_dec, ieq_dec] at h3
    by_cases a : g = 1
    · exact .inl a
    · by_cases b : g = -1
      · exact .inr b
      · rw [decide_eq_false a, decide_eq_false b] at h3
        cases h3
/-- The string of a code, or none. -/
noncomputable def cdT (p : ByteArray) (x g : Int) : ByteArray := bif ieq (codeE p x g) 0 then textB p x g else ⟨#[]⟩
set_option maxRecDepth 100000 in
theorem coded_call (es : Nat → TypeId) (p : ByteArray) (x g : Int) : CallJ Tryz.prog 6 #[.agg #[.string p, gi x, gi g]] (bT es) (fun v _ => v = .tuple #[.string (cdT p x g), gi (codeE p x g)]) := by
  refine callC_ok mixed orcJa_ok askJa_ok (Eq.mpr (coded_run es p x g _) ⟨fun h => ?_, fun h => ?_⟩)
  · have h : ieq (codeE p x g) 0 = false := by simpa using h
    unfold cdT
    rw [h]; rfl
  · have h : ieq (codeE p x g) 0 = true := by simpa using h
    have hz : codeE p x g = 0 := by rw [ieq_dec] at h; exact of_decide_eq_true h
    obtain ⟨_, h2, h3, h4⟩ := codeE_zero hz
    refine ⟨by omega, h3, h4.imp id .inl, ?_⟩
    unfold cdT
    rw [h, hz]; rfl
noncomputable def cdtS : List Value → Option Value
  | [.agg a] => match a.toList with
    | [.string p, .int .i64 x, .int .i64 g] => some (.tuple #[.string (cdT p x g), gi (codeE p x g)])
    | _ => none
  | _ => none
noncomputable def refS : List Value → Option Value
  | [.agg a] => match a.toList with
    | [.string p, .int .i64 x, .int .i64 g] => if p.size ≤ 1000 ∧ (x = 0 ∨ x = 1 ∨ x = 2) ∧ (g = 1 ∨ g = -1) then some (.string (textB p x g)) else none
    | _ => none
  | _ => none
noncomputable def refY : List Value → (Value → Prop) → Prop
  | [.agg a], K => match a.toList with
    | [.string p, .int .i64 x, .int .i64 g] => (p.size ≤ 1000 ∧ (x = 0 ∨ x = 1 ∨ x = 2) ∧ (g = 1 ∨ g = -1)) ∧ K (.string (textB p x g))
    | _ => False
  | _, _ => False
theorem refY_ok (l : List Value) (K : Value → Prop) (h : refY l K) : ∃ v, refS l = some v ∧ K v := by
  unfold refY at h
  split at h
  · rename_i a
    split at h
    · rename_i p x g ha
      refine ⟨_, ?_, h.2⟩
      unfold refS
      simp only [ha]
      exact if_pos h.1
    · exact h.elim
  · exact h.elim
noncomputable def orcJb : Orc := orElse 9 (flatSpec refS) (orElse 6 (tabSpec tabs2 cdtS) orcJa)
theorem orcJb_ok : OrcOk Tryz.prog orcJb := by
  refine flatSpec_ok (fun l v h => ?_) (tabSpec_ok tabs2_flat (fun l v h => ?_) orcJa_ok)
  · unfold refS at h
    split at h
    · rename_i a
      split at h
      · rename_i p x g ha
        split at h
        · rename_i hc
          cases h
          obtain rfl : a = #[.string p, .int .i64 x, .int .i64 g] := by rw [← ha]
          exact ⟨rfl, rfl, Coded_call hc.1 hc.2.1 hc.2.2⟩
        · cases h
      · cases h
    · cases h
  · unfold cdtS at h
    split at h
    · rename_i a
      split at h
      · rename_i p x g ha
        cases h
        obtain rfl : a = #[.string p, .int .i64 x, .int .i64 g] := by rw [← ha]
        exact ⟨rfl, rfl, fun es => coded_call es p x g⟩
      · cases h
    · cases h
noncomputable def askJb : Asks := asksP 9 refY (skipA 6 askJa)
theorem askJb_ok : AsksOk orcJb askJb := asksQ_ok refY_ok (skipA_ok askJa_ok)
end Go.Proofs.YtojfhklkcelblaaGreatDoor
