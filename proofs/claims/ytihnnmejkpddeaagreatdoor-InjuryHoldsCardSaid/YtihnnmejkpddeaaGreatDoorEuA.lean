/-
  OWN WORK. Ratios in lowest terms (for any stage): Euclid's way, carried out.
-/
import Derived.Test.YtihnnmejkpddeaaGreatDoorSgCX
namespace Go.Proofs.YtihnnmejkpddeaaGreatDoor
open Go Go.Am
noncomputable def eu (a b : Int) : Int := if _h : b = 0 then a else eu b (a.tmod b)
termination_by b.natAbs
decreasing_by
  rw [Int.natAbs_tmod]
  exact Nat.mod_lt _ (by omega)
theorem eu_zero (a : Int) : eu a 0 = a := by unfold eu; simp
theorem eu_step {a b : Int} (h : b ≠ 0) : eu a b = eu b (a.tmod b) := by
  rw [eu]
  simp [h]
theorem eu_gcd (a b : Int) : (eu a b).natAbs = Nat.gcd a.natAbs b.natAbs := by
  induction a, b using eu.induct with
  | case1 a => rw [eu_zero]; simp
  | case2 a b hb ih => rw [eu_step hb, ih, Int.natAbs_tmod, Nat.gcd_comm b.natAbs, Nat.gcd_comm a.natAbs b.natAbs, Nat.gcd_rec b.natAbs]
theorem eu_nonneg {a b : Int} (ha : 0 ≤ a) (hb : 0 ≤ b) : 0 ≤ eu a b := by
  induction a, b using eu.induct with
  | case1 a => rw [eu_zero]; exact ha
  | case2 a b hb' ih => rw [eu_step hb']; exact ih hb (Int.tmod_nonneg b ha)
abbrev euQ (x y : Int) (H : AHeap) (Q : Exit → List Value → AHeap → Prop) : Prop := ((!ieq y 0) = true → y ≠ 0 ∧ Q .normal [gi y, gi (x.tmod y)] H) ∧ ((!ieq y 0) = false → Q (.exit 0) [gi x, gi y] H)
abbrev EuB (f n i j : Nat) (H : AHeap) : Prop := ∀ x y g (Q : Exit → List Value → AHeap → Prop), euQ x y H Q → J Tryz.prog (loopOf Tryz.prog f 0) (stOf n [(i, gi x), (j, gi y)] g) H (told n [i, j] Q)
noncomputable abbrev hRt : AHeap := (emp Tryz.prog).push (.cells [gi 0, gi 0] 28 0 false)
noncomputable abbrev pRt : Value := .pointer (some ⟨nG1, 0, none⟩)
abbrev raQ (a b x y : Int) (Q : Exit → List Value → AHeap → Prop) : Prop := ((!ieq y 0) = true → y ≠ 0 ∧ Q .normal [gi y, gi (x.tmod y), gi a, gi b, pRt] hRt) ∧ ((!ieq y 0) = false → Q (.exit 0) [gi x, gi y, gi a, gi b, pRt] hRt)
theorem Ratio_body (a b x y : Int) (g : Nat → Value) (Q : Exit → List Value → AHeap → Prop) : execC Tryz.prog (exec Tryz.prog orcCm 10) (syOf [(12, 1), (16, 6)]) noAsks (noLoops _) 20 (loopOf Tryz.prog 154 0) (stOf 28 [(5, gi x), (6, gi y), (0, gi a), (1, gi b), (4, pRt)] g) hRt (told 28 [5, 6, 0, 1, 4] Q) = raQ a b x y Q := by kernel_rfl
theorem Divisor_body (x y : Int) (g : Nat → Value) (Q : Exit → List Value → AHeap → Prop) : execC Tryz.prog (exec Tryz.prog orcCm 10) (syOf [(14, 1), (18, 6)]) noAsks (noLoops _) 20 (loopOf Tryz.prog 158 0) (stOf 20 [(0, gi x), (1, gi y)] g) (emp Tryz.prog) (told 20 [0, 1] Q) = euQ x y (emp Tryz.prog) Q := by kernel_rfl
set_option maxRecDepth 100000 in
theorem hbD : EuB 158 20 0 1 (emp Tryz.prog) := fun x y g Q hq => execC_ok mixed orcCm_ok (noAsks_ok _) (noLoops _) (Eq.mpr (Divisor_body x y g Q) hq)
theorem eu_loop {f n i j : Nat} {H : AHeap} (hb : EuB f n i j H) (x y : Int) : ∀ a : AAct, a.n = n → a.marks = [] → [i, j].map a.tmp = [gi x, gi y] → J Tryz.prog (.loop (loopOf Tryz.prog f 0)) a H (told n [i, j] fun e vs h => e = .exit 0 ∧ vs = [gi (eu x y), gi 0] ∧ h = H) := by
  intro a hn hm hv
  refine loop_rule (fun m vs h => ∃ u v, m = Int.natAbs v ∧ vs = [gi u, gi v] ∧ h = H ∧ eu u v = eu x y) _ ?_ _ _ _ a ⟨x, y, rfl, rfl, rfl, rfl⟩ hn hm hv
  rintro m vs h g ⟨u, v, rfl, rfl, rfl, he⟩
  refine hb u v g _ ⟨fun hv => ?_, fun hv => ?_⟩
  · have hv : v ≠ 0 := by rw [ieq_dec] at hv; simpa using hv
    refine ⟨hv, (u.tmod v).natAbs, ?_, v, _, rfl, rfl, rfl, by rw [← he, eu_step hv]⟩
    rw [Int.natAbs_tmod]
    exact Nat.mod_lt _ (by omega)
  · have hv : v = 0 := by rw [ieq_dec] at hv; simpa using hv
    subst hv
    rw [eu_zero] at he
    exact ⟨rfl, by rw [he], rfl⟩
noncomputable def euL {f n i j : Nat} {H : AHeap} (hb : EuB f n i j H) (x y : Int) : Loops Tryz.prog where
  body := fun _ => loopOf Tryz.prog f 0
  spec := fun _ a h k => entry a n [(i, gi x), (j, gi y)] (h = H ∧ ∀ g, k (.exit 0) (stOf n [(i, gi (eu x y)), (j, gi 0)] g) H)
  ok := fun _ a h k q => by
    obtain ⟨h1, h2, h3, rfl, h4⟩ := entry_facts q
    refine J.of_told (eu_loop hb x y a h1 h2 ?_) ?_
    · simp only [List.map_cons, List.map_nil]
      rw [h3 (i, gi x) (by simp), h3 (j, gi y) (by simp)]
    · rintro e vs h' g ⟨rfl, rfl, rfl⟩
      exact h4 g
set_option maxRecDepth 100000 in
theorem ra_loop (a b x y : Int) : ∀ s : AAct, s.n = 28 → s.marks = [] → [5, 6, 0, 1, 4].map s.tmp = [gi x, gi y, gi a, gi b, pRt] → J Tryz.prog (.loop (loopOf Tryz.prog 154 0)) s hRt (told 28 [5, 6, 0, 1, 4] fun e vs h => e = .exit 0 ∧ vs = [gi (eu x y), gi 0, gi a, gi b, pRt] ∧ h = hRt) := by
  intro s hn hm hv
  refine loop_rule (fun m vs h => ∃ u v, m = Int.natAbs v ∧ vs = [gi u, gi v, gi a, gi b, pRt] ∧ h = hRt ∧ eu u v = eu x y) _ ?_ _ _ _ s ⟨x, y, rfl, rfl, rfl, rfl⟩ hn hm hv
  rintro m vs h g ⟨u, v, rfl, rfl, rfl, he⟩
  refine execC_ok mixed orcCm_ok (noAsks_ok _) (noLoops _) (Eq.mpr (Ratio_body a b u v g _) ⟨fun hv => ?_, fun hv => ?_⟩)
  · have hv : v ≠ 0 := by rw [ieq_dec] at hv; simpa using hv
    refine ⟨hv, (u.tmod v).natAbs, ?_, v, _, rfl, rfl, rfl, by rw [← he, eu_step hv]⟩
    rw [Int.natAbs_tmod]
    exact Nat.mod_lt _ (by omega)
  · have hv : v = 0 := by rw [ieq_dec] at hv; simpa using hv
    subst hv
    rw [eu_zero] at he
    exact ⟨rfl, by rw [he], rfl⟩
noncomputable def raL (a b x y : Int) : Loops Tryz.prog where
  body := fun _ => loopOf Tryz.prog 154 0
  spec := fun _ s h k => entry s 28 [(5, gi x), (6, gi y), (0, gi a), (1, gi b), (4, pRt)] (h = hRt ∧ ∀ g, k (.exit 0) (stOf 28 [(5, gi (eu x y)), (6, gi 0), (0, gi a), (1, gi b), (4, pRt)] g) hRt)
  ok := fun _ s h k q => by
    obtain ⟨h1, h2, h3, rfl, h4⟩ := entry_facts q
    refine J.of_told (ra_loop a b x y s h1 h2 ?_) ?_
    · simp only [List.map_cons, List.map_nil]
      rw [h3 (5, gi x) (by simp), h3 (6, gi y) (by simp), h3 (0, gi a) (by simp), h3 (1, gi b) (by simp), h3 (4, pRt) (by simp)]
    · rintro e vs h' g ⟨rfl, rfl, rfl⟩
      exact h4 g
theorem ra_run (a b : Int) (K : Value → Prop) : callC Tryz.prog (exec Tryz.prog orcCm 10) (syOf [(10, 6), (23, 35), (26, 35)]) noAsks (raL a b b (a.tmod b)) 40 154 #[gi a, gi b] (emp Tryz.prog) (fun v _ => K v) = (((b = 0 → False) ∧ loopOf Tryz.prog 154 0 = loopOf Tryz.prog 154 0 ∧ gi b = gi b ∧ gi (Int.tmod a b) = gi (Int.tmod a b) ∧ gi a = gi a ∧ gi b = gi b ∧ Value.pointer (some ⟨nG1, 0, none⟩) = pRt ∧ (emp Tryz.prog).push (.cells [gi 0, gi 0] 28 0 false) = hRt ∧ (∀ _ : Nat → Value, (((if (IntKind.wrap .i64 (0 - eu b (Int.tmod a b)) : Int) > eu b (Int.tmod a b) then IntKind.wrap .i64 (0 - eu b (Int.tmod a b)) else eu b (Int.tmod a b)) = 0 → False) ∧ ((if (IntKind.wrap .i64 (0 - eu b (Int.tmod a b)) : Int) > eu b (Int.tmod a b) then IntKind.wrap .i64 (0 - eu b (Int.tmod a b)) else eu b (Int.tmod a b)) = 0 → False) ∧ K (Value.agg (Array.mk (List.take 2 (List.drop 0 ([] ++ ([gi (IntKind.wrap .i64 (Int.tdiv a (if (IntKind.wrap .i64 (0 - eu b (Int.tmod a b)) : Int) > eu b (Int.tmod a b) then IntKind.wrap .i64 (0 - eu b (Int.tmod a b)) else eu b (Int.tmod a b)))), gi (IntKind.wrap .i64 (Int.tdiv b (if (IntKind.wrap .i64 (0 - eu b (Int.tmod a b)) : Int) > eu b (Int.tmod a b) then IntKind.wrap .i64 (0 - eu b (Int.tmod a b)) else eu b (Int.tmod a b))))] ++ [])))))))))) := by kernel_rfl
theorem dv_run (a b : Int) (K : Value → Prop) : callC Tryz.prog (exec Tryz.prog orcCm 10) (syOf []) noAsks (euL hbD (if fwrap .i64 (0 - a) > a then fwrap .i64 (0 - a) else a) (if fwrap .i64 (0 - b) > b then fwrap .i64 (0 - b) else b)) 40 158 #[gi a, gi b] (emp Tryz.prog) (fun v _ => K v) = ((loopOf Tryz.prog 158 0 = loopOf Tryz.prog 158 0 ∧ gi (if (fwrap IntKind.i64 (0 - a) : Int) > a then fwrap IntKind.i64 (0 - a) else a) = gi (if (fwrap IntKind.i64 (0 - a) : Int) > a then fwrap IntKind.i64 (0 - a) else a) ∧ gi (if (fwrap IntKind.i64 (0 - b) : Int) > b then fwrap IntKind.i64 (0 - b) else b) = gi (if (fwrap IntKind.i64 (0 - b) : Int) > b then fwrap IntKind.i64 (0 - b) else b) ∧ emp Tryz.prog = emp Tryz.prog ∧ (∀ _ : Nat → Value, K (gi (eu (if (fwrap IntKind.i64 (0 - a) : Int) > a then fwrap IntKind.i64 (0 - a) else a) (if (fwrap IntKind.i64 (0 - b) : Int) > b then fwrap IntKind.i64 (0 - b) else b)))))) := by kernel_rfl
end Go.Proofs.YtihnnmejkpddeaaGreatDoor
