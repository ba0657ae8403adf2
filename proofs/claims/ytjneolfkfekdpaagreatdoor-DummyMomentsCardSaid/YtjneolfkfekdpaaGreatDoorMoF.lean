/-
  OWN WORK. Moments: errors are the same; within the limits nothing is wrapped around, and a moment is taken back.
-/
import Derived.Test.YtjneolfkfekdpaaGreatDoorMoE
namespace Go.Proofs.YtjneolfkfekdpaaGreatDoor
open Go Go.Am

theorem wrap_i64 {x : Int} (h1 : -9223372036854775808 ≤ x) (h2 : x < 9223372036854775808) : IntKind.i64.wrap x = x := by
  simp [IntKind.wrap, IntKind.signed, IntKind.bits]
  split <;> omega
theorem withinS_eq (x lo hi : Int) : withinS x lo hi = if lo ≤ x ∧ x ≤ hi then 0 else 3 := by
  unfold withinS whenS
  rw [ilt_eq, ilt_eq]
  by_cases h1 : x < lo
  · rw [if_neg (by omega)]; simp [h1]
  · by_cases h2 : hi < x
    · rw [if_neg (by omega)]; simp [h2]
    · rw [if_pos (by omega)]; simp [h1, h2]
theorem clamp_eq {x m : Int} (hm : 0 ≤ m) : ieq (clampS x (-m) m) x = decide (-m ≤ x ∧ x ≤ m) := by
  rw [ieq_dec]
  unfold clampS minS maxS
  apply decide_eq_decide.2
  by_cases h1 : -m > x
  · rw [if_pos h1]
    by_cases h2 : m < -m
    · rw [if_pos h2]; omega
    · rw [if_neg h2]; omega
  · rw [if_neg h1]
    by_cases h2 : m < x
    · rw [if_pos h2]; omega
    · rw [if_neg h2]; omega
def inside (x y z m : Int) : Prop := (-m ≤ x ∧ x ≤ m) ∧ (-m ≤ y ∧ y ≤ m) ∧ (-m ≤ z ∧ z ≤ m)
instance (x y z m : Int) : Decidable (inside x y z m) := by unfold inside; infer_instance
theorem vecE_eq {x y z m : Int} (h : negS m = -m) (hm : 0 ≤ m) : vecE x y z m = if inside x y z m then 0 else 3 := by
  unfold vecE inS hasS
  rw [h, clamp_eq hm, clamp_eq hm, clamp_eq hm]
  unfold whenS inside
  by_cases h1 : -m ≤ x ∧ x ≤ m <;> by_cases h2 : -m ≤ y ∧ y ≤ m <;> by_cases h3 : -m ≤ z ∧ z ≤ m <;> simp [h1, h2, h3]
theorem vecR_eq {x y z m : Int} (h : fwrap .i64 (0 - m) = -m) : vecR x y z m = if inside x y z m then 0 else 3 := by
  unfold vecR
  rw [h, withinS_eq, withinS_eq, withinS_eq]
  unfold inside
  by_cases h1 : -m ≤ x ∧ x ≤ m <;> by_cases h2 : -m ≤ y ∧ y ≤ m <;> by_cases h3 : -m ≤ z ∧ z ≤ m <;> simp [h1, h2, h3, firstS, ieq_dec]
theorem neg6 : negS 1000000 = -1000000 := by decide +kernel
theorem neg4 : negS 10000 = -10000 := by decide +kernel
theorem fneg6 : fwrap .i64 (0 - 1000000) = -1000000 := by decide +kernel
theorem fneg4 : fwrap .i64 (0 - 10000) = -10000 := by decide +kernel
theorem e6 (x y z : Int) : vecE x y z 1000000 = if inside x y z 1000000 then 0 else 3 := vecE_eq neg6 (by decide)
theorem e4 (x y z : Int) : vecE x y z 10000 = if inside x y z 10000 then 0 else 3 := vecE_eq neg4 (by decide)
theorem r6 (x y z : Int) : vecR x y z 1000000 = if inside x y z 1000000 then 0 else 3 := vecR_eq fneg6
theorem r4 (x y z : Int) : vecR x y z 10000 = if inside x y z 10000 then 0 else 3 := vecR_eq fneg4
theorem mom_same (a b c d e f g h i : Int) : momE a b c d e f g h i = momR a b c d e f g h i := by
  unfold momE momR
  rw [e6, e6, e4, r6, r6, r4]
theorem momE_zero {a b c d e f g h i : Int} : momE a b c d e f g h i = 0 ↔ inside a b c 1000000 ∧ inside d e f 1000000 ∧ inside g h i 10000 := by
  unfold momE
  rw [e6, e6, e4]
  by_cases h1 : inside a b c 1000000 <;> by_cases h2 : inside d e f 1000000 <;> by_cases h3 : inside g h i 10000 <;> simp [h1, h2, h3, firstS, ieq_dec]
theorem prod_le {b c p q : Int} (hp : -p ≤ b ∧ b ≤ p) (hq : -q ≤ c ∧ c ≤ q) : -(p * q) ≤ b * c ∧ b * c ≤ p * q := by
  have h1 : b.natAbs ≤ p.natAbs := by omega
  have h2 : c.natAbs ≤ q.natAbs := by omega
  have h3 : (b * c).natAbs ≤ (p * q).natAbs := by
    rw [Int.natAbs_mul, Int.natAbs_mul]
    exact Nat.mul_le_mul h1 h2
  have h4 : 0 ≤ p * q := Int.mul_nonneg (by omega) (by omega)
  omega
theorem comb_eq {a b c d e : Int} (ha : -1000000 ≤ a ∧ a ≤ 1000000) (hb : -10000 ≤ b ∧ b ≤ 10000) (hc : -1000000 ≤ c ∧ c ≤ 1000000) (hd : -10000 ≤ d ∧ d ≤ 10000) (he : -1000000 ≤ e ∧ e ≤ 1000000) :
    comb a b c d e = a + b * c - d * e := by
  have h1 := prod_le hb hc
  have h2 := prod_le hd he
  unfold comb
  rw [fwrap_eq, fwrap_eq, fwrap_eq, fwrap_eq]
  generalize b * c = u at *
  generalize d * e = v at *
  rw [wrap_i64 (x := u) (by omega) (by omega), wrap_i64 (x := v) (by omega) (by omega), wrap_i64 (x := a + u) (by omega) (by omega), wrap_i64 (by omega) (by omega)]
theorem negS_eq {x : Int} (h : -10000 ≤ x ∧ x ≤ 10000) : negS x = -x := by
  unfold negS
  rw [wrap_i64 (by omega) (by omega)]
  omega
theorem sel_zero {e c : Int} (h : e = 0) : sel e c = c := by subst h; rfl
theorem sel_ne {e c : Int} (h : e ≠ 0) : sel e c = 0 := by
  unfold sel
  rw [ieq_dec]
  simp [h]
theorem eqv_self (x y z : Int) : eqv x y z x y z = true := by
  unfold eqv
  simp [ieq_dec]
theorem back_one {a b c d e : Int} (ha : -1000000 ≤ a ∧ a ≤ 1000000) (hb : -10000 ≤ b ∧ b ≤ 10000) (hc : -1000000 ≤ c ∧ c ≤ 1000000) (hd : -10000 ≤ d ∧ d ≤ 10000) (he : -1000000 ≤ e ∧ e ≤ 1000000)
    (hk : -1000000 ≤ comb a b c d e ∧ comb a b c d e ≤ 1000000) : comb (comb a b c d e) (negS b) c (negS d) e = a := by
  rw [negS_eq hb, negS_eq hd, comb_eq hk (by omega) hc (by omega) he, comb_eq ha hb hc hd he, Int.neg_mul, Int.neg_mul]
  omega

def MomentsCall : Prop := ∀ (a b c d e f g h i : Int) es, CallJ Tryz.prog 3 #[vec a b c, vec d e f, vec g h i] (base tabs3 es Tryz.prog.globals.size) (fun v _ => v = .bool true)
theorem placeS_ok {e c₁ c₂ c₃ : Int} : placeS (sel e c₁) (sel e c₂) (sel e c₃) e e (sel e c₁) (sel e c₂) (sel e c₃) = true := by
  unfold placeS
  by_cases h : e = 0
  · subst h
    rw [eqv_self]
    rfl
  · rw [sel_ne h, sel_ne h, sel_ne h, eqv_self]
    simp [ieq_dec]
set_option maxRecDepth 100000 in
theorem law_true (W : OrcOk Tryz.prog orm7) : MomentsCall := by
  intro a b c d e f g h i es
  refine callC_ok mixed3 W (noAsks_ok _) (Eq.mpr (law_run es a b c d e f g h i _) ?_)
  simp only
  rw [← mom_same]
  have hp := @placeS_ok (momE a b c d e f g h i) (comb a h f i e) (comb b i d g f) (comb c g e h d)
  have rest : (ieq (momE a b c d e f g h i) 0 = true → (ieq (vecR (sel (momE a b c d e f g h i) (comb a h f i e)) (sel (momE a b c d e f g h i) (comb b i d g f)) (sel (momE a b c d e f g h i) (comb c g e h d)) 1000000) 0 = true →
      momE (sel (momE a b c d e f g h i) (comb a h f i e)) (sel (momE a b c d e f g h i) (comb b i d g f)) (sel (momE a b c d e f g h i) (comb c g e h d)) d e f (negS g) (negS h) (negS i) = 0 ∧
      comb (sel (momE a b c d e f g h i) (comb a h f i e)) (negS h) f (negS i) e = a ∧ comb (sel (momE a b c d e f g h i) (comb b i d g f)) (negS i) d (negS g) f = b ∧ comb (sel (momE a b c d e f g h i) (comb c g e h d)) (negS g) e (negS h) d = c)) := by
    intro h1 h2
    rw [ieq_dec] at h1 h2
    have h1 : momE a b c d e f g h i = 0 := by simpa using h1
    rw [sel_zero h1, sel_zero h1, sel_zero h1] at h2 ⊢
    obtain ⟨⟨ka, kb, kc⟩, ⟨kd, ke, kf⟩, kg, kh, ki⟩ := momE_zero.1 h1
    rw [r6] at h2
    have h2 : inside (comb a h f i e) (comb b i d g f) (comb c g e h d) 1000000 := by
      by_cases hi : inside (comb a h f i e) (comb b i d g f) (comb c g e h d) 1000000
      · exact hi
      · rw [if_neg hi] at h2
        simp at h2
    have h3 := h2
    obtain ⟨q1, q2, q3⟩ := h3
    refine ⟨momE_zero.2 ⟨h2, ⟨kd, ke, kf⟩, ?_⟩, back_one ka kh kf ki ke q1, back_one kb ki kd kg kf q2, back_one kc kg ke kh kd q3⟩
    rw [negS_eq kg, negS_eq kh, negS_eq ki]
    unfold inside
    omega
  refine ⟨trivial, trivial, trivial, fun h1 => ⟨fun h2 => ?_, fun _ => ⟨fun h3 => ⟨fun h4 => ⟨fun h5 => ⟨fun _ => trivial, fun h6 => ?_⟩, fun h5 => ?_⟩, fun _ => trivial⟩, fun _ => trivial⟩⟩, fun h1 => ⟨fun h2 => ?_, fun _ => ⟨fun h3 => ?_, fun _ => trivial⟩⟩⟩
  · have h1' : momE a b c d e f g h i = 0 := by rw [ieq_dec] at h1; simpa using h1
    rw [sel_zero h1', sel_zero h1', sel_zero h1'] at hp h2
    rw [hp] at h2
    cases h2
  · obtain ⟨z, x1, x2, x3⟩ := rest h3 h4
    rw [sel_zero z, sel_zero z, sel_zero z, x1, x2, x3, eqv_self] at h6
    cases h6
  · obtain ⟨z, _⟩ := rest h3 h4
    rw [z] at h5
    cases h5
  · have h1' : momE a b c d e f g h i ≠ 0 := by rw [ieq_dec] at h1; simpa using h1
    rw [sel_ne h1', sel_ne h1', sel_ne h1'] at hp h2
    rw [hp] at h2
    cases h2
  · rw [h1] at h3
    cases h3
end Go.Proofs.YtjneolfkfekdpaaGreatDoor
