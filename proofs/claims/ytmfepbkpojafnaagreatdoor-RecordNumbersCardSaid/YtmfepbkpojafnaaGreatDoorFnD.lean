/-
  OWN WORK. Divisors.
-/
import Derived.Test.YtmfepbkpojafnaaGreatDoorFnC
namespace Go.Proofs.YtmfepbkpojafnaaGreatDoor
open Go Go.Am

noncomputable abbrev gi (x : Int) : Value := .int .i64 x
/-- Euclid's way. -/
noncomputable def eu (a b : Int) : Int := if h : b = 0 then a else eu b (a.tmod b)
termination_by b.natAbs
decreasing_by
  rw [Int.natAbs_tmod]
  exact Nat.mod_lt _ (by omega)
theorem eu_zero (a : Int) : eu a 0 = a := by unfold eu; simp
theorem eu_step {a b : Int} (h : b ≠ 0) : eu a b = eu b (a.tmod b) := by
  rw [eu]
  simp [h]
noncomputable def absP (g : Int) : Int := if IntKind.wrap .i64 (0 - g) > g then IntKind.wrap .i64 (0 - g) else g
noncomputable def absS (a : Int) : Int := if fwrap .i64 (0 - a) > a then fwrap .i64 (0 - a) else a
theorem divisor_body (x y : Int) (g : Nat → Value) (Q : Exit → List Value → AHeap → Prop) :
    execC Tryz.prog (exec Tryz.prog orcC 10) (syOf [(6, 1), (10, 6)]) noAsks (noLoops _) 20 (loopOf Tryz.prog 68 0) (stOf 15 [(0, gi x), (1, gi y)] g) (emp Tryz.prog) (told 15 [0, 1] Q) =
    (((!ieq y 0) = true → y ≠ 0 ∧ Q .normal [gi y, gi (x.tmod y)] (emp Tryz.prog)) ∧ ((!ieq y 0) = false → Q (.exit 0) [gi x, gi y] (emp Tryz.prog))) := by kernel_rfl
theorem Divisor_body (x y : Int) (g : Nat → Value) (Q : Exit → List Value → AHeap → Prop) :
    execC Tryz.prog (exec Tryz.prog orcC 10) (syOf [(14, 1), (18, 6)]) noAsks (noLoops _) 20 (loopOf Tryz.prog 70 0) (stOf 20 [(0, gi x), (1, gi y)] g) (emp Tryz.prog) (told 20 [0, 1] Q) =
    (((!ieq y 0) = true → y ≠ 0 ∧ Q .normal [gi y, gi (x.tmod y)] (emp Tryz.prog)) ∧ ((!ieq y 0) = false → Q (.exit 0) [gi x, gi y] (emp Tryz.prog))) := by kernel_rfl
set_option maxRecDepth 100000 in
theorem div_loop {f n : Nat} (hb : ∀ x y g (Q : Exit → List Value → AHeap → Prop), (((!ieq y 0) = true → y ≠ 0 ∧ Q .normal [gi y, gi (x.tmod y)] (emp Tryz.prog)) ∧ ((!ieq y 0) = false → Q (.exit 0) [gi x, gi y] (emp Tryz.prog))) → J Tryz.prog (loopOf Tryz.prog f 0) (stOf n [(0, gi x), (1, gi y)] g) (emp Tryz.prog) (told n [0, 1] Q))
    (x y : Int) : ∀ a : AAct, a.n = n → a.marks = [] → [0, 1].map a.tmp = [gi x, gi y] →
    J Tryz.prog (.loop (loopOf Tryz.prog f 0)) a (emp Tryz.prog) (told n [0, 1] fun e vs h => e = .exit 0 ∧ vs = [gi (eu x y), gi 0] ∧ h = emp Tryz.prog) := by
  intro a hn hm hv
  refine loop_rule (fun m vs h => ∃ u v, m = Int.natAbs v ∧ vs = [gi u, gi v] ∧ h = emp Tryz.prog ∧ eu u v = eu x y) _ ?_ _ _ _ a ⟨x, y, rfl, rfl, rfl, rfl⟩ hn hm hv
  rintro m vs h g ⟨u, v, rfl, rfl, rfl, he⟩
  refine hb u v g _ ⟨fun hv => ?_, fun hv => ?_⟩
  · have hv : v ≠ 0 := by rw [ieq_dec] at hv; simpa using hv
    refine ⟨hv, (u.tmod v).natAbs, ?_, v, _, rfl, rfl, rfl, by rw [← he, eu_step hv]⟩
    rw [Int.natAbs_tmod]
    exact Nat.mod_lt _ (by omega)
  · have hv : v = 0 := by rw [ieq_dec] at hv; simpa using hv
    subst hv
    rw [eu_zero] at he
    exact ⟨rfl, by rw [he], rfl⟩
noncomputable def divLoops (f n : Nat) (hb : ∀ x y g (Q : Exit → List Value → AHeap → Prop), (((!ieq y 0) = true → y ≠ 0 ∧ Q .normal [gi y, gi (x.tmod y)] (emp Tryz.prog)) ∧ ((!ieq y 0) = false → Q (.exit 0) [gi x, gi y] (emp Tryz.prog))) → J Tryz.prog (loopOf Tryz.prog f 0) (stOf n [(0, gi x), (1, gi y)] g) (emp Tryz.prog) (told n [0, 1] Q)) (x y : Int) : Loops Tryz.prog where
  body := fun _ => loopOf Tryz.prog f 0
  spec := fun _ a h k => entry a n [(0, gi x), (1, gi y)] (h = emp Tryz.prog ∧ ∀ g, k (.exit 0) (stOf n [(0, gi (eu x y)), (1, gi 0)] g) (emp Tryz.prog))
  ok := fun i a h k q => by
    obtain ⟨h1, h2, h3, rfl, h4⟩ := entry_facts q
    refine J.of_told (div_loop hb x y a h1 h2 ?_) ?_
    · simp only [List.map_cons, List.map_nil]
      rw [h3 (0, gi x) (by simp), h3 (1, gi y) (by simp)]
    · rintro e vs h' g ⟨rfl, rfl, rfl⟩
      exact h4 g
set_option maxRecDepth 100000 in
theorem hb68 : ∀ x y g (Q : Exit → List Value → AHeap → Prop), (((!ieq y 0) = true → y ≠ 0 ∧ Q .normal [gi y, gi (x.tmod y)] (emp Tryz.prog)) ∧ ((!ieq y 0) = false → Q (.exit 0) [gi x, gi y] (emp Tryz.prog))) → J Tryz.prog (loopOf Tryz.prog 68 0) (stOf 15 [(0, gi x), (1, gi y)] g) (emp Tryz.prog) (told 15 [0, 1] Q) :=
  fun x y g Q hq => execC_ok mixed orcC_ok (noAsks_ok _) (noLoops _) (Eq.mpr (divisor_body x y g Q) hq)
set_option maxRecDepth 100000 in
theorem hb70 : ∀ x y g (Q : Exit → List Value → AHeap → Prop), (((!ieq y 0) = true → y ≠ 0 ∧ Q .normal [gi y, gi (x.tmod y)] (emp Tryz.prog)) ∧ ((!ieq y 0) = false → Q (.exit 0) [gi x, gi y] (emp Tryz.prog))) → J Tryz.prog (loopOf Tryz.prog 70 0) (stOf 20 [(0, gi x), (1, gi y)] g) (emp Tryz.prog) (told 20 [0, 1] Q) :=
  fun x y g Q hq => execC_ok mixed orcC_ok (noAsks_ok _) (noLoops _) (Eq.mpr (Divisor_body x y g Q) hq)
theorem divisor_run (x y : Int) (K : Value → AHeap → Prop) : callC Tryz.prog (exec Tryz.prog orcC 10) (syOf []) noAsks (divLoops 68 15 hb68 x y) 40 68 #[gi x, gi y] (emp Tryz.prog) K =
  (loopOf Tryz.prog 68 0 = loopOf Tryz.prog 68 0 ∧ gi x = gi x ∧ gi y = gi y ∧ emp Tryz.prog = emp Tryz.prog ∧ ∀ _ : Nat → Value, K (gi (absP (eu x y))) (emp Tryz.prog)) := by kernel_rfl
theorem Divisor_run (x y : Int) (K : Value → AHeap → Prop) : callC Tryz.prog (exec Tryz.prog orcC 10) (syOf []) noAsks (divLoops 70 20 hb70 (absS x) (absS y)) 40 70 #[gi x, gi y] (emp Tryz.prog) K =
  (loopOf Tryz.prog 70 0 = loopOf Tryz.prog 70 0 ∧ gi (absS x) = gi (absS x) ∧ gi (absS y) = gi (absS y) ∧ emp Tryz.prog = emp Tryz.prog ∧ ∀ _ : Nat → Value, K (gi (eu (absS x) (absS y))) (emp Tryz.prog)) := by kernel_rfl
noncomputable def divL : List Value → Option Value
  | [.int .i64 x, .int .i64 y] => some (gi (absP (eu x y)))
  | _ => none
noncomputable def DivL : List Value → Option Value
  | [.int .i64 x, .int .i64 y] => some (gi (eu (absS x) (absS y)))
  | _ => none
noncomputable def orcD : Orc := orElse 70 (flatSpec DivL) (orElse 68 (flatSpec divL) orcC)
set_option maxRecDepth 100000 in
theorem orcD_ok : OrcOk Tryz.prog orcD := by
  refine flatSpec_ok (fun l v h => ?_) (flatSpec_ok (fun l v h => ?_) orcC_ok)
  · unfold DivL at h
    split at h
    · rename_i x y
      cases h
      exact ⟨rfl, rfl, callC_ok mixed orcC_ok (noAsks_ok _) (Eq.mpr (Divisor_run x y _) ⟨rfl, rfl, rfl, rfl, fun _ => rfl⟩)⟩
    · cases h
  · unfold divL at h
    split at h
    · rename_i x y
      cases h
      exact ⟨rfl, rfl, callC_ok mixed orcC_ok (noAsks_ok _) (Eq.mpr (divisor_run x y _) ⟨rfl, rfl, rfl, rfl, fun _ => rfl⟩)⟩
    · cases h
/-! In range both are the greatest common divisor. -/
theorem eu_gcd (a b : Int) : (eu a b).natAbs = Nat.gcd a.natAbs b.natAbs := by
  induction a, b using eu.induct with
  | case1 a => rw [eu_zero]; simp
  | case2 a b hb ih => rw [eu_step hb, ih, Int.natAbs_tmod, Nat.gcd_comm b.natAbs, Nat.gcd_comm a.natAbs b.natAbs, Nat.gcd_rec b.natAbs]
theorem eu_nonneg {a b : Int} (ha : 0 ≤ a) (hb : 0 ≤ b) : 0 ≤ eu a b := by
  induction a, b using eu.induct with
  | case1 a => rw [eu_zero]; exact ha
  | case2 a b hb' ih => rw [eu_step hb']; exact ih hb (Int.tmod_nonneg b ha)
theorem wrap_in {n : Int} (h1 : -9223372036854775808 ≤ n) (h2 : n < 9223372036854775808) : IntKind.wrap .i64 n = n := by
  simp [IntKind.wrap, IntKind.signed, IntKind.bits]
  split <;> omega
theorem absS_eq {a : Int} (h1 : -999999999 ≤ a) (h2 : a ≤ 999999999) : absS a = Int.ofNat a.natAbs := by
  unfold absS
  rw [fwrap_eq, wrap_in (by omega) (by omega)]
  simp
  split <;> omega
theorem absP_eq {a : Int} (h1 : -999999999 ≤ a) (h2 : a ≤ 999999999) : absP a = Int.ofNat a.natAbs := by
  unfold absP
  rw [wrap_in (by omega) (by omega)]
  simp
  split <;> omega
theorem div_same {x y : Int} (h1 : -999999999 ≤ x) (h2 : x ≤ 999999999) (h3 : 1 ≤ y) (h4 : y ≤ 999999999) : absP (eu x y) = eu (absS x) (absS y) := by
  have hg := eu_gcd x y
  have hle : Nat.gcd x.natAbs y.natAbs ≤ y.natAbs := Nat.gcd_le_right _ (by omega)
  rw [absP_eq (by omega) (by omega), hg, absS_eq h1 h2, absS_eq (by omega) (by omega)]
  have hn := eu_nonneg (a := Int.ofNat x.natAbs) (b := Int.ofNat y.natAbs) (by simp) (by simp)
  have hg2 := eu_gcd (Int.ofNat x.natAbs) (Int.ofNat y.natAbs)
  simp only [Int.ofNat_eq_natCast, Int.natAbs_natCast] at hg2 hn ⊢
  omega
end Go.Proofs.YtmfepbkpojafnaaGreatDoor
