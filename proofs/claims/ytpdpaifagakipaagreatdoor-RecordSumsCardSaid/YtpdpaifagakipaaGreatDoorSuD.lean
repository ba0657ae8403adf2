/-
  OWN WORK. Spans; the sum of a span, by the reference.
-/
import Derived.Test.YtpdpaifagakipaaGreatDoorSuC
namespace Go.Proofs.YtpdpaifagakipaaGreatDoor
open Go Go.Am

noncomputable def spanB (f t n : Int) : Bool := ilt f 0 || (ilt t f || ilt n t)
noncomputable def spanE (f t n : Int) : Int := whenS (spanB f t n) 14
theorem checkSpan_run (f t n : Int) (K : Value → Prop) : callC Tryz.prog (exec Tryz.prog orcPa 10) (syOf [(7, 1), (13, 1), (19, 1)]) askPa (noLoops _) 20 73 #[.agg #[gi f, gi t], gi n] (emp Tryz.prog) (fun v _ => K v) =
  ((ilt f 0 = true → K (gi 14)) ∧ (ilt f 0 = false → (ilt t f = true → K (gi 14)) ∧ (ilt t f = false → (ilt n t = true → K (gi 14)) ∧ (ilt n t = false → K (gi 0))))) := by kernel_rfl
theorem CheckSpan_run (f t n : Int) (K : Value → Prop) : callC Tryz.prog (exec Tryz.prog orcPa 10) (syOf [(7, 1), (13, 1), (19, 1)]) askPa (noLoops _) 20 33 #[.agg #[gi f, gi t], gi n] (emp Tryz.prog) (fun v _ => K v) =
  ((ilt f 0 = true → K (gi 14)) ∧ (ilt f 0 = false → (ilt t f = true → K (gi 14)) ∧ (ilt t f = false → (ilt n t = true → K (gi 14)) ∧ (ilt n t = false → K (gi 0))))) := by kernel_rfl
noncomputable def spanL : List Value → Option Value
  | [.agg a, .int .i64 n] => match a.toList with
    | [.int .i64 f, .int .i64 t] => some (gi (spanE f t n))
    | _ => none
  | _ => none
theorem spanL_some {l : List Value} {v : Value} (h : spanL l = some v) : ∃ f t n, l = [.agg #[gi f, gi t], gi n] ∧ v = gi (spanE f t n) := by
  unfold spanL at h
  split at h
  · rename_i a n
    split at h
    · rename_i f t ha
      cases h
      exact ⟨f, t, n, by rw [show a = #[gi f, gi t] by rw [← ha]], rfl⟩
    · cases h
  · cases h
theorem span_cases {f t n : Int} {K : Value → Prop} (h : K (gi (spanE f t n))) : (ilt f 0 = true → K (gi 14)) ∧ (ilt f 0 = false → (ilt t f = true → K (gi 14)) ∧ (ilt t f = false → (ilt n t = true → K (gi 14)) ∧ (ilt n t = false → K (gi 0)))) := by
  unfold spanE spanB whenS at h
  cases h1 : ilt f 0 <;> cases h2 : ilt t f <;> cases h3 : ilt n t <;> simp_all
noncomputable def orcPb : Orc := orElse 33 (flatSpec spanL) (orElse 73 (flatSpec spanL) orcPa)
set_option maxRecDepth 100000 in
theorem orcPb_ok : OrcOk Tryz.prog orcPb := by
  refine flatSpec_ok (fun l v h => ?_) (flatSpec_ok (fun l v h => ?_) orcPa_ok)
  · obtain ⟨f, t, n, rfl, rfl⟩ := spanL_some h
    exact ⟨rfl, rfl, callC_ok mixed orcPa_ok askPa_ok (Eq.mpr (CheckSpan_run f t n _) (span_cases (K := fun u => u = gi (spanE f t n)) rfl))⟩
  · obtain ⟨f, t, n, rfl, rfl⟩ := spanL_some h
    exact ⟨rfl, rfl, callC_ok mixed orcPa_ok askPa_ok (Eq.mpr (checkSpan_run f t n _) (span_cases (K := fun u => u = gi (spanE f t n)) rfl))⟩
noncomputable abbrev SH (c : List Value) (e row : Nat) (f t : Int) : AHeap := canonT [] (fun _ => 0) Tryz.prog.globals.size [(c, e, row, true), ([gi f, gi t], 66, 0, false)]
noncomputable abbrev spP : Value := .pointer (some ⟨Tryz.prog.globals.size + 1, 0, none⟩)
theorem sm_body (c : List Value) (n k e row : Nat) (i s f t : Int) (g : Nat → Value) (Q : Exit → List Value → AHeap → Prop) :
    execC Tryz.prog (exec Tryz.prog orcPa 10) (syOf [(12, 1), (18, 2), (19, 3), (20, 7)]) askPa (noLoops _) 40 (loopOf Tryz.prog 35 0) (stOf 23 [(0, liP n k), (3, spP), (5, gi s), (6, gi i)] g) (SH c e row f t) (told 23 [0, 3, 5, 6] Q) =
    ((ilt i t = true → ahasIndex i n = true ∧ c[0 + i.toNat * 1]? = some (.float .f32 (floatAt c (0 + i.toNat * 1))) ∧ ieq (smpE (floatAt c (0 + i.toNat * 1))) 0 = true ∧
      Q .normal [liP n k, spP, gi (fwrap .i64 (s + unitE (floatAt c (0 + i.toNat * 1)))), gi (fwrap .i64 (i + 1))] (SH c e row f t)) ∧
     (ilt i t = false → Q (.exit 0) [liP n k, spP, gi s, gi i] (SH c e row f t))) := by kernel_rfl
end Go.Proofs.YtpdpaifagakipaaGreatDoor
