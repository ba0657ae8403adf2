/-
  OWN WORK. Ratios.
-/
import Derived.Test.YtihnnmejkpddeaaGreatDoorSgCX
/-! (OWN WORK. Ratios in lowest terms (for any stage): Euclid's way, carried out.) -/
namespace Go.Proofs.YtihnnmejkpddeaaGreatDoor
open Go Go.Am
noncomputable def eu (a b : Int) : Int := if _h : b = 0 then a else eu b (a.tmod b)
termination_by b.natAbs
decreasing_by
 rw [Int.natAbs_tmod]
 exact Nat.mod_lt _ (by omega)
theorem eu_zero (a : Int) : eu a 0 = a := by unfold eu; simp
theorem eu_step {a b : Int} (h : b ≠ 0) : eu a b = eu b (a.tmod b) := by
 rw [eu]
 simp [h]
theorem eu_gcd (a b : Int) : (eu a b).natAbs = Nat.gcd a.natAbs b.natAbs := by
 induction a, b using eu.induct with
 | case1 a => rw [eu_zero]; simp
 | case2 a b hb ih => rw [eu_step hb, ih, Int.natAbs_tmod, Nat.gcd_comm b.natAbs, Nat.gcd_comm a.natAbs b.natAbs, Nat.gcd_rec b.natAbs]
theorem eu_nonneg {a b : Int} (ha : 0 ≤ a) (hb : 0 ≤ b) : 0 ≤ eu a b := by
 induction a, b using eu.induct with
 | case1 a => rw [eu_zero]; exact ha
 | case2 a b hb' ih => rw [eu_step hb']; exact ih hb (Int.tmod_nonneg b ha)
abbrev euQ (x y : Int) (H : AHeap) (Q : Exit → List Value → AHeap → Prop) : Prop := ((!ieq y 0) = true → y ≠ 0 ∧ Q .normal [gi y, gi (x.tmod y)] H) ∧ ((!ieq y 0) = false → Q (.exit 0) [gi x, gi y] H)
abbrev EuB (f n i j : Nat) (H : AHeap) : Prop := ∀ x y g (Q : Exit → List Value → AHeap → Prop), euQ x y H Q → J Tryz.prog (loopOf Tryz.prog f 0) (stOf n [(i, gi x), (j, gi y)] g) H (told n [i, j] Q)
noncomputable abbrev hRt : AHeap := (emp Tryz.prog).push (.cells [gi 0, gi 0] 28 0 false)
noncomputable abbrev pRt : Value := .pointer (some ⟨nG1, 0, none⟩)
abbrev raQ (a b x y : Int) (Q : Exit → List Value → AHeap → Prop) : Prop := ((!ieq y 0) = true → y ≠ 0 ∧ Q .normal [gi y, gi (x.tmod y), gi a, gi b, pRt] hRt) ∧ ((!ieq y 0) = false → Q (.exit 0) [gi x, gi y, gi a, gi b, pRt] hRt)
theorem Ratio_body (a b x y : Int) (g : Nat → Value) (Q : Exit → List Value → AHeap → Prop) : execC Tryz.prog (exec Tryz.prog orcCm 10) (syOf [(12, 1), (16, 6)]) noAsks (noLoops _) 20 (loopOf Tryz.prog 154 0) (stOf 28 [(5, gi x), (6, gi y), (0, gi a), (1, gi b), (4, pRt)] g) hRt (told 28 [5, 6, 0, 1, 4] Q) = raQ a b x y Q := by kernel_rfl
theorem Divisor_body (x y : Int) (g : Nat → Value) (Q : Exit → List Value → AHeap → Prop) : execC Tryz.prog (exec Tryz.prog orcCm 10) (syOf [(14, 1), (18, 6)]) noAsks (noLoops _) 20 (loopOf Tryz.prog 158 0) (stOf 20 [(0, gi x), (1, gi y)] g) (emp Tryz.prog) (told 20 [0, 1] Q) = euQ x y (emp Tryz.prog) Q := by kernel_rfl
set_option maxRecDepth 100000 in
theorem hbD : EuB 158 20 0 1 (emp Tryz.prog) := fun x y g Q hq => execC_ok mixed orcCm_ok (noAsks_ok _) (noLoops _) (Eq.mpr (Divisor_body x y g Q) hq)
theorem eu_loop {f n i j : Nat} {H : AHeap} (hb : EuB f n i j H) (x y : Int) : ∀ a : AAct, a.n = n → a.marks = [] → [i, j].map a.tmp = [gi x, gi y] → J Tryz.prog (.loop (loopOf Tryz.prog f 0)) a H (told n [i, j] fun e vs h => e = .exit 0 ∧ vs = [gi (eu x y), gi 0] ∧ h = H) := by
 intro a hn hm hv
 refine loop_rule (fun m vs h => ∃ u v, m = Int.natAbs v ∧ vs = [gi u, gi v] ∧ h = H ∧ eu u v = eu x y) _ ?_ _ _ _ a ⟨x, y, rfl, rfl, rfl, rfl⟩ hn hm hv
 rintro m vs h g ⟨u, v, rfl, rfl, rfl, he⟩
 refine hb u v g _ ⟨fun hv => ?_, fun hv => ?_⟩
 ·have hv : v ≠ 0 := by rw [ieq_dec] at hv; simpa using hv
  refine ⟨hv, (u.tmod v).natAbs, ?_, v, _, rfl, rfl, rfl, by rw [← he, eu_step hv]⟩
  rw [Int.natAbs_tmod]
  exact Nat.mod_lt _ (by omega)
 ·have hv : v = 0 := by rw [ieq_dec] at hv; simpa using hv
  subst hv
  rw [eu_zero] at he
  exact ⟨rfl, by rw [he], rfl⟩
noncomputable def euL {f n i j : Nat} {H : AHeap} (hb : EuB f n i j H) (x y : Int) : Loops Tryz.prog where
 body := fun _ => loopOf Tryz.prog f 0
 spec := fun _ a h k => entry a n [(i, gi x), (j, gi y)] (h = H ∧ ∀ g, k (.exit 0) (stOf n [(i, gi (eu x y)), (j, gi 0)] g) H)
 ok := fun _ a h k q => by
  obtain ⟨h1, h2, h3, rfl, h4⟩ := entry_facts q
  refine J.of_told (eu_loop hb x y a h1 h2 ?_) ?_
  ·simp only [List.map_cons, List.map_nil]
   rw [h3 (i, gi x) (by simp), h3 (j, gi y) (by simp)]
  ·rintro e vs h' g ⟨rfl, rfl, rfl⟩
   exact h4 g
set_option maxRecDepth 100000 in
theorem ra_loop (a b x y : Int) : ∀ s : AAct, s.n = 28 → s.marks = [] → [5, 6, 0, 1, 4].map s.tmp = [gi x, gi y, gi a, gi b, pRt] → J Tryz.prog (.loop (loopOf Tryz.prog 154 0)) s hRt (told 28 [5, 6, 0, 1, 4] fun e vs h => e = .exit 0 ∧ vs = [gi (eu x y), gi 0, gi a, gi b, pRt] ∧ h = hRt) := by
 intro s hn hm hv
 refine loop_rule (fun m vs h => ∃ u v, m = Int.natAbs v ∧ vs = [gi u, gi v, gi a, gi b, pRt] ∧ h = hRt ∧ eu u v = eu x y) _ ?_ _ _ _ s ⟨x, y, rfl, rfl, rfl, rfl⟩ hn hm hv
 rintro m vs h g ⟨u, v, rfl, rfl, rfl, he⟩
 refine execC_ok mixed orcCm_ok (noAsks_ok _) (noLoops _) (Eq.mpr (Ratio_body a b u v g _) ⟨fun hv => ?_, fun hv => ?_⟩)
 ·have hv : v ≠ 0 := by rw [ieq_dec] at hv; simpa using hv
  refine ⟨hv, (u.tmod v).natAbs, ?_, v, _, rfl, rfl, rfl, by rw [← he, eu_step hv]⟩
  rw [Int.natAbs_tmod]
  exact Nat.mod_lt _ (by omega)
 ·have hv : v = 0 := by rw [ieq_dec] at hv; simpa using hv
  subst hv
  rw [eu_zero] at he
  exact ⟨rfl, by rw [he], rfl⟩
noncomputable def raL (a b x y : Int) : Loops Tryz.prog where
 body := fun _ => loopOf Tryz.prog 154 0
 spec := fun _ s h k => entry s 28 [(5, gi x), (6, gi y), (0, gi a), (1, gi b), (4, pRt)] (h = hRt ∧ ∀ g, k (.exit 0) (stOf 28 [(5, gi (eu x y)), (6, gi 0), (0, gi a), (1, gi b), (4, pRt)] g) hRt)
 ok := fun _ s h k q => by
  obtain ⟨h1, h2, h3, rfl, h4⟩ := entry_facts q
  refine J.of_told (ra_loop a b x y s h1 h2 ?_) ?_
  ·simp only [List.map_cons, List.map_nil]
   rw [h3 (5, gi x) (by simp), h3 (6, gi y) (by simp), h3 (0, gi a) (by simp), h3 (1, gi b) (by simp), h3 (4, pRt) (by simp)]
  ·rintro e vs h' g ⟨rfl, rfl, rfl⟩
   exact h4 g
theorem ra_run (a b : Int) (K : Value → Prop) : callC Tryz.prog (exec Tryz.prog orcCm 10) (syOf [(10, 6), (23, 35), (26, 35)]) noAsks (raL a b b (a.tmod b)) 40 154 #[gi a, gi b] (emp Tryz.prog) (fun v _ => K v) = (((b = 0 → False) ∧ loopOf Tryz.prog 154 0 = loopOf Tryz.prog 154 0 ∧ gi b = gi b ∧ gi (Int.tmod a b) = gi (Int.tmod a b) ∧ gi a = gi a ∧ gi b = gi b ∧ Value.pointer (some ⟨nG1, 0, none⟩) = pRt ∧ (emp Tryz.prog).push (.cells [gi 0, gi 0] 28 0 false) = hRt ∧ (∀ _ : Nat → Value, (((if (IntKind.wrap .i64 (0 - eu b (Int.tmod a b)) : Int) > eu b (Int.tmod a b) then IntKind.wrap .i64 (0 - eu b (Int.tmod a b)) else eu b (Int.tmod a b)) = 0 → False) ∧ ((if (IntKind.wrap .i64 (0 - eu b (Int.tmod a b)) : Int) > eu b (Int.tmod a b) then IntKind.wrap .i64 (0 - eu b (Int.tmod a b)) else eu b (Int.tmod a b)) = 0 → False) ∧ K (Value.agg (Array.mk (List.take 2 (List.drop 0 ([] ++ ([gi (IntKind.wrap .i64 (Int.tdiv a (if (IntKind.wrap .i64 (0 - eu b (Int.tmod a b)) : Int) > eu b (Int.tmod a b) then IntKind.wrap .i64 (0 - eu b (Int.tmod a b)) else eu b (Int.tmod a b)))), gi (IntKind.wrap .i64 (Int.tdiv b (if (IntKind.wrap .i64 (0 - eu b (Int.tmod a b)) : Int) > eu b (Int.tmod a b) then IntKind.wrap .i64 (0 - eu b (Int.tmod a b)) else eu b (Int.tmod a b))))] ++ [])))))))))) := by kernel_rfl
theorem dv_run (a b : Int) (K : Value → Prop) : callC Tryz.prog (exec Tryz.prog orcCm 10) (syOf []) noAsks (euL hbD (if fwrap .i64 (0 - a) > a then fwrap .i64 (0 - a) else a) (if fwrap .i64 (0 - b) > b then fwrap .i64 (0 - b) else b)) 40 158 #[gi a, gi b] (emp Tryz.prog) (fun v _ => K v) = ((loopOf Tryz.prog 158 0 = loopOf Tryz.prog 158 0 ∧ gi (if (fwrap IntKind.i64 (0 - a) : Int) > a then fwrap IntKind.i64 (0 - a) else a) = gi (if (fwrap IntKind.i64 (0 - a) : Int) > a then fwrap IntKind.i64 (0 - a) else a) ∧ gi (if (fwrap IntKind.i64 (0 - b) : Int) > b then fwrap IntKind.i64 (0 - b) else b) = gi (if (fwrap IntKind.i64 (0 - b) : Int) > b then fwrap IntKind.i64 (0 - b) else b) ∧ emp Tryz.prog = emp Tryz.prog ∧ (∀ _ : Nat → Value, K (gi (eu (if (fwrap IntKind.i64 (0 - a) : Int) > a then fwrap IntKind.i64 (0 - a) else a) (if (fwrap IntKind.i64 (0 - b) : Int) > b then fwrap IntKind.i64 (0 - b) else b)))))) := by kernel_rfl
end Go.Proofs.YtihnnmejkpddeaaGreatDoor
/-! (OWN WORK. Stage 6, arithmetic: how ratios compare; the greatest one of some, and the first place that has it.) -/
namespace Go.Proofs.YtihnnmejkpddeaaGreatDoor
open Go Go.Am
theorem inI64_iff {x : Int} : inI64 x = true ↔ -9223372036854775808 ≤ x ∧ x < 9223372036854775808 := by
 cases x with
 | ofNat m =>
  show Nat.blt m 9223372036854775808 = true ↔ _
  rw [Nat.blt_eq]; simp only [Int.ofNat_eq_natCast]; omega
 | negSucc m =>
  show Nat.blt m 9223372036854775808 = true ↔ _
  rw [Nat.blt_eq]; omega
theorem fwrap_in {x : Int} (h : inI64 x = true) : fwrap .i64 x = x := by
 simp only [fwrap, h]
noncomputable def cpE (x y : Int) : Int := bif ilt x y then -1 else bif ilt y x then 1 else 0
noncomputable def cpR (x y : P2) : Int := cpE (fwrap .i64 (x.1 * y.2)) (fwrap .i64 (y.1 * x.2))
noncomputable def gtR (x y : P2) : Bool := ilt 0 (cpR x y)
def okR (x : P2) : Prop := (0 ≤ x.1 ∧ x.1 ≤ 5000000000000) ∧ 0 < x.2 ∧ x.2 ≤ 1000000
theorem prod_in {a b : Int} (h1 : 0 ≤ a) (h2 : a ≤ 5000000000000) (h3 : 0 < b) (h4 : b ≤ 1000000) : inI64 (a * b) = true := by
 rw [inI64_iff]
 have l := Int.mul_nonneg h1 (Int.le_of_lt h3)
 have u : a * b ≤ 5000000000000 * 1000000 := Int.mul_le_mul h2 h4 (Int.le_of_lt h3) (by decide)
 omega
theorem ilt0_cp (p q : Int) : ilt 0 (cpE p q) = decide (q < p) := by
 unfold cpE
 rw [ilt_say, ilt_say p q, ilt_say q p]
 by_cases h1 : p < q
 ·rw [decide_eq_true h1, decide_eq_false (show ¬ q < p by omega)]; rfl
 ·rw [decide_eq_false h1]
  by_cases h2 : q < p
  ·rw [decide_eq_true h2]; rfl
  ·rw [decide_eq_false h2]; rfl
theorem gtR_say {x y : P2} (hx : okR x) (hy : okR y) : gtR x y = decide (y.1 * x.2 < x.1 * y.2) := by
 obtain ⟨⟨a1, a2⟩, a3, a4⟩ := hx
 obtain ⟨⟨b1, b2⟩, b3, b4⟩ := hy
 unfold gtR cpR
 rw [fwrap_in (prod_in a1 a2 b3 b4), fwrap_in (prod_in b1 b2 a3 a4), ilt0_cp]
noncomputable def mxF : P2 → List P2 → P2
 | m, [] => m
 | m, x :: l => mxF (bif gtR x m then x else m) l
noncomputable def eqP (v x : P2) : Bool := ieq v.1 x.1 && (ieq v.2 x.2 && true)
noncomputable def idxB {α : Type} (f : α → Bool) : List α → Nat → Int
 | [], _ => -1
 | x :: r, i => bif f x then Int.ofNat i else idxB f r (i + 1)
theorem idxB_drop {α : Type} {f : α → Bool} {l : List α} {j : Nat} (hj : j < l.length) : idxB f (l.drop j) j = bif f l[j] then Int.ofNat j else idxB f (l.drop (j + 1)) (j + 1) := by
 rw [List.drop_eq_getElem_cons hj]; rfl
theorem idxB_end {α : Type} {f : α → Bool} {l : List α} {j : Nat} (hj : l.length ≤ j) : idxB f (l.drop j) j = -1 := by
 rw [List.drop_eq_nil_of_le hj]; rfl
noncomputable def bsF : Nat → P2 → Nat → List P2 → P2 × Nat
 | _, m, a, [] => (m, a)
 | i, m, a, x :: l => bif gtR x m then bsF (i + 1) x i l else bsF (i + 1) m a l
end Go.Proofs.YtihnnmejkpddeaaGreatDoor
/-! (OWN WORK. Ratios in lowest terms, as known calls (for any stage).) -/
namespace Go.Proofs.YtihnnmejkpddeaaGreatDoor
open Go Go.Am
theorem agg_eq {a : Array Value} {l : List Value} (h : a.toList = l) : a = ⟨l⟩ := by rw [← h]
theorem wrap64 {n : Int} (h1 : -9223372036854775808 ≤ n) (h2 : n < 9223372036854775808) : IntKind.wrap .i64 n = n := by
 simp [IntKind.wrap, IntKind.signed, IntKind.bits]
 split <;> omega
noncomputable def gz (a b : Int) : Int := Int.ofNat (Nat.gcd a.natAbs b.natAbs)
theorem gz_pos {a b : Int} (hb : 0 < b) : 0 < gz a b ∧ gz a b ≤ b := by
 have p : 0 < Nat.gcd a.natAbs b.natAbs := Nat.gcd_pos_of_pos_right _ (by omega)
 have q : Nat.gcd a.natAbs b.natAbs ≤ b.natAbs := Nat.gcd_le_right _ (by omega)
 unfold gz
 simp only [Int.ofNat_eq_natCast]
 omega
theorem gz_eu {a b : Int} (hb : 0 < b) (h : b < 9223372036854775808) : (if (IntKind.wrap .i64 (0 - eu b (a.tmod b)) : Int) > eu b (a.tmod b) then IntKind.wrap .i64 (0 - eu b (a.tmod b)) else eu b (a.tmod b)) = gz a b := by
 have e : eu b (a.tmod b) = eu a b := (eu_step (by omega)).symm
 have g := eu_gcd a b
 obtain ⟨p, q⟩ := gz_pos (a := a) hb
 unfold gz at p q ⊢
 simp only [Int.ofNat_eq_natCast] at p q ⊢
 rw [e, wrap64 (by omega) (by omega)]
 split <;> omega
theorem gz_eu' {a b : Int} (ha : 0 ≤ a) (hb : 0 < b) : eu a b = gz a b := by
 have g := eu_gcd a b
 have n := eu_nonneg (a := a) (b := b) ha (by omega)
 unfold gz
 simp only [Int.ofNat_eq_natCast]
 omega
noncomputable def rqA (a b : Int) : Int := a.tdiv (gz a b)
noncomputable def rqB (a b : Int) : Int := b.tdiv (gz a b)
noncomputable abbrev rqV (a b : Int) : Value := .agg #[gi (rqA a b), gi (rqB a b)]
theorem rq_in {a b : Int} (ha : inI64 a = true) (hb : inI64 b = true) (h : 0 < b) : IntKind.wrap .i64 (a.tdiv (gz a b)) = rqA a b ∧ IntKind.wrap .i64 (b.tdiv (gz a b)) = rqB a b := by
 rw [inI64_iff] at ha hb
 obtain ⟨p, _⟩ := gz_pos (a := a) h
 have d1 := Int.natAbs_tdiv_le_natAbs a (gz a b)
 have d2 := Int.natAbs_tdiv_le_natAbs b (gz a b)
 unfold rqA rqB
 constructor
 ·refine wrap64 (by omega) ?_
  by_cases h0 : 0 ≤ a
  ·omega
  ·have := Int.tdiv_nonneg (a := -a) (b := gz a b) (by omega) (by omega)
   rw [Int.neg_tdiv] at this
   omega
 ·exact wrap64 (by omega) (by omega)
theorem rq_ok {a b : Int} (h1 : 0 ≤ a) (h2 : a ≤ 5000000000000) (h3 : 0 < b) (h4 : b ≤ 1000000) : okR (rqA a b, rqB a b) := by
 obtain ⟨p, q⟩ := gz_pos (a := a) h3
 have d1 := Int.natAbs_tdiv_le_natAbs a (gz a b)
 have d2 := Int.natAbs_tdiv_le_natAbs b (gz a b)
 have n1 := Int.tdiv_nonneg (a := a) (b := gz a b) h1 (by omega)
 have n2 := Int.tdiv_nonneg (a := b) (b := gz a b) (by omega) (by omega)
 refine ⟨⟨n1, by unfold rqA; omega⟩, ?_, by unfold rqB; omega⟩
 show 0 < b.tdiv (gz a b)
 have hd : gz a b ∣ b := by
  unfold gz
  have : (Nat.gcd a.natAbs b.natAbs : Int) ∣ (b.natAbs : Int) := Int.natCast_dvd_natCast.2 (Nat.gcd_dvd_right _ _)
  rwa [Int.natAbs_of_nonneg (by omega)] at this
 have hz : b.tdiv (gz a b) ≠ 0 := fun e => by
  have := Int.mul_tdiv_cancel' hd
  rw [e] at this
  omega
 omega
noncomputable def ratB (a b : Int) : Bool := inI64 a && (inI64 b && ilt 0 b)
theorem ratB_of {a b : Int} (h1 : inI64 a = true) (h2 : inI64 b = true) (h3 : 0 < b) : ratB a b = true := by
 unfold ratB
 rw [h1, h2, ilt_say, decide_eq_true h3]; rfl
theorem ratB_le {a b : Int} (h : ratB a b = true) : inI64 a = true ∧ inI64 b = true ∧ 0 < b := by
 unfold ratB at h
 rw [ilt_say] at h
 simp only [Bool.and_eq_true, decide_eq_true_eq] at h
 exact h
noncomputable def ratL : List Value → Option (Bool × Value)
 | [.int .i64 a, .int .i64 b] => some (ratB a b, rqV a b)
 | _ => none
noncomputable def dvB (a b : Int) : Bool := !ilt a 0 && (!ilt 4611686018427387904 a && (ilt 0 b && !ilt 4611686018427387904 b))
theorem dvB_of {a b : Int} (h1 : 0 ≤ a) (h2 : a ≤ 4611686018427387904) (h3 : 0 < b) (h4 : b ≤ 4611686018427387904) : dvB a b = true := by
 unfold dvB
 rw [ilt_say, ilt_say, ilt_say, ilt_say, decide_eq_false (by omega), decide_eq_false (by omega), decide_eq_true h3, decide_eq_false (by omega)]; rfl
theorem dvB_le {a b : Int} (h : dvB a b = true) : 0 ≤ a ∧ a ≤ 4611686018427387904 ∧ 0 < b ∧ b ≤ 4611686018427387904 := by
 unfold dvB at h
 rw [ilt_say, ilt_say, ilt_say, ilt_say] at h
 simp only [Bool.and_eq_true, Bool.not_eq_true', decide_eq_true_eq, decide_eq_false_iff_not] at h
 omega
noncomputable def dvL : List Value → Option (Bool × Value)
 | [.int .i64 a, .int .i64 b] => some (dvB a b, gi (gz a b))
 | _ => none
theorem absW {a : Int} (h1 : 0 ≤ a) (h2 : a ≤ 4611686018427387904) : (if fwrap .i64 (0 - a) > a then fwrap .i64 (0 - a) else a) = a := by
 rw [fwrap_mid (by omega) (by omega), if_neg (by omega)]
noncomputable def orcEu : Orc := orElse 154 (condO ratL) (orElse 158 (condO dvL) orcCm)
set_option maxRecDepth 100000 in
theorem orcEu_ok : OrcOk Tryz.prog orcEu := by
 refine condO_ok (fun l v h => ?_) (condO_ok (fun l v h => ?_) orcCm_ok)
 ·unfold ratL at h
  split at h
  ·rename_i a b
   injection h with h
   injection h with h1 h2
   obtain ⟨h3, h4, h5⟩ := ratB_le h1
   obtain ⟨g1, g2⟩ := gz_pos (a := a) h5
   obtain ⟨w1, w2⟩ := rq_in h3 h4 h5
   subst h2
   refine ⟨rfl, rfl, callC_ok mixed orcCm_ok (noAsks_ok _) (Eq.mpr (ra_run a b _) ?_)⟩
   rw [inI64_iff] at h4
   rw [gz_eu h5 h4.2, w1, w2]
   exact ⟨fun h => by omega, rfl, rfl, rfl, rfl, rfl, rfl, rfl, fun _ => ⟨fun h => by omega, fun h => by omega, rfl⟩⟩
  ·cases h
 ·unfold dvL at h
  split at h
  ·rename_i a b
   injection h with h
   injection h with h1 h2
   obtain ⟨h3, h4, h5, h6⟩ := dvB_le h1
   subst h2
   refine ⟨rfl, rfl, callC_ok mixed orcCm_ok (noAsks_ok _) (Eq.mpr (dv_run a b _) ⟨rfl, rfl, rfl, rfl, fun _ => ?_⟩)⟩
   rw [absW (by omega) (by omega), absW (by omega) (by omega), gz_eu' h3 h5]
  ·cases h
noncomputable def askEu : Asks := asksF 154 ratL (asksF 158 dvL noAsks)
theorem askEu_ok : AsksOk orcEu askEu := asksF_ok (asksF_ok (noAsks_ok _))
theorem lo_run (a b : Int) (K : Value → Prop) : callC Tryz.prog (exec Tryz.prog orcEu 10) (syOf [(7, 32), (14, 7), (17, 35), (20, 35)]) askEu (noLoops _) 20 94 #[gi a, gi b] (emp Tryz.prog) (fun v _ => K v) = ((ilt b 0 = false ∧ dvB a b = true ∧ (gz a b = 0 → False) ∧ (gz a b = 0 → False) ∧ K (Value.agg (Array.mk (List.take 2 (List.drop 0 ([] ++ ([gi (IntKind.wrap .i64 (Int.tdiv a (gz a b))), gi (IntKind.wrap .i64 (Int.tdiv b (gz a b)))] ++ [])))))))) := by kernel_rfl
noncomputable def loL : List Value → Option (Bool × Value)
 | [.int .i64 a, .int .i64 b] => some (dvB a b, rqV a b)
 | _ => none
noncomputable def orcEv : Orc := orElse 94 (condO loL) orcEu
set_option maxRecDepth 100000 in
theorem orcEv_ok : OrcOk Tryz.prog orcEv := by
 refine condO_ok (fun l v h => ?_) orcEu_ok
 unfold loL at h
 split at h
 ·rename_i a b
  injection h with h
  injection h with h1 h2
  obtain ⟨h3, h4, h5, h6⟩ := dvB_le h1
  obtain ⟨g1, g2⟩ := gz_pos (a := a) h5
  obtain ⟨w1, w2⟩ := rq_in (a := a) (b := b) (inI64_iff.2 ⟨by omega, by omega⟩) (inI64_iff.2 ⟨by omega, by omega⟩) h5
  subst h2
  refine ⟨rfl, rfl, callC_ok mixed orcEu_ok askEu_ok (Eq.mpr (lo_run a b _) ⟨by rw [ilt_say]; exact decide_eq_false (by omega), h1, fun h => by omega, fun h => by omega, ?_⟩)⟩
  show Value.agg #[gi (IntKind.wrap .i64 (Int.tdiv a (gz a b))), gi (IntKind.wrap .i64 (Int.tdiv b (gz a b)))] = rqV a b
  rw [w1, w2]
 ·cases h
noncomputable def askEv : Asks := asksF 94 loL askEu
theorem askEv_ok : AsksOk orcEv askEv := asksF_ok askEu_ok
end Go.Proofs.YtihnnmejkpddeaaGreatDoor
