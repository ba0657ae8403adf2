/-
  OWN WORK. Converted, by the reference: its inner loops.
-/
import Derived.Test.YtojfhklkcelblaaGreatDoorCsS
import Derived.Test.YtojfhklkcelblaaGreatDoorAm17
/-! Converted, by the reference: its inner loops. -/
namespace Go.Proofs.YtojfhklkcelblaaGreatDoor
open Go Go.Am

noncomputable abbrev cvK (c : List Value) (e row : Nat) (S O : List Value) : List Blk := [(c, e, row, true), (S, 40, 0, false), (O, 38, 0, false)]
noncomputable abbrev HA (c : List Value) (e row : Nat) (S O : List Value) : AHeap := canonT [] (fun _ => 0) Tryz.prog.globals.size (cvK c e row S O)
noncomputable abbrev HD (c : List Value) (e row : Nat) (S O d : List Value) : AHeap := canonT [] (fun _ => 0) Tryz.prog.globals.size (cvK c e row S O ++ [(d, 78, 5, false)])
noncomputable abbrev pS : Value := .pointer (some ⟨Tryz.prog.globals.size + 1, 0, none⟩)
noncomputable abbrev pO : Value := .pointer (some ⟨Tryz.prog.globals.size + 2, 0, none⟩)
noncomputable abbrev cvS (w1 w8 w9 : Value) (u a b k m : Int) : List (Nat × Value) := [(1, w1), (3, pS), (7, pO), (8, w8), (9, w9), (10, gi u), (11, gi a), (12, gi b), (13, gi k), (14, gi m)]
noncomputable abbrev InR (H : AHeap) (x y : Int) (w1 w8 w9 : Value) (u a b k m : Int) (Q : Exit → List Value → AHeap → Prop) : Prop := (((!(ilt y m)) = true → (inI64 (u - k) = true ∧ inI64 ((u - k) * m) = true ∧ inI64 (u - k) = true ∧ inI64 ((u - k) * m) = true ∧ inI64 (y - x) = true ∧ inI64 (m + mxI 1 (y - x)) = true ∧ Q .normal [w1, pS, pO, w8, w9, gi u, gi (mnI a ((u - k) * m)), gi (mxI b ((u - k) * m)), gi k, gi (m + mxI 1 (y - x))] H)) ∧ ((!(ilt y m)) = false → Q (.exit 4) [w1, pS, pO, w8, w9, gi u, gi a, gi b, gi k, gi m] H))
noncomputable abbrev InB (H : AHeap) (x y : Int) : Prop := ∀ (w1 w8 w9 : Value) (u a b k m : Int) (g : Nat → Value) (Q : Exit → List Value → AHeap → Prop), execC Tryz.prog (exec Tryz.prog orcRm 10) (syOf [(66, 1), (80, 33), (82, 33), (87, 33), (89, 33), (74, 33), (76, 33)]) askRm (noLoops _) 40 (loopOf Tryz.prog 22 4) (stOf 109 (cvS w1 w8 w9 u a b k m) g) H (told 109 [1, 3, 7, 8, 9, 10, 11, 12, 13, 14] Q) = InR H x y w1 w8 w9 u a b k m Q
theorem in_bodyA (c : List Value) (e row : Nat) (s : ByteArray) (sc x y lo hi : Int) : InB (HA c e row (snC s sc x y) (ofC lo hi)) x y := by
  intro w1 w8 w9 u a b k m g Q
  kernel_rfl
theorem in_bodyD (c d : List Value) (e row : Nat) (s : ByteArray) (sc x y lo hi : Int) : InB (HD c e row (snC s sc x y) (ofC lo hi) d) x y := by
  intro w1 w8 w9 u a b k m g Q
  kernel_rfl
theorem mn_l (a b : Int) : mnI a b ≤ a := by unfold mnI; split <;> omega
theorem mn_r (a b : Int) : mnI a b ≤ b := by unfold mnI; split <;> omega
theorem le_mn {c a b : Int} (h1 : c ≤ a) (h2 : c ≤ b) : c ≤ mnI a b := by unfold mnI; split <;> omega
theorem mx_l (a b : Int) : a ≤ mxI a b := by unfold mxI; split <;> omega
theorem mx_r (a b : Int) : b ≤ mxI a b := by unfold mxI; split <;> omega
theorem mx_le {c a b : Int} (h1 : a ≤ c) (h2 : b ≤ c) : mxI a b ≤ c := by unfold mxI; split <;> omega
theorem mnI_same (a b : Int) : mnI (mnI a b) b = mnI a b := Int.le_antisymm (mn_l _ _) (le_mn (Int.le_refl _) (mn_r _ _))
theorem mxI_same (a b : Int) : mxI (mxI a b) b = mxI a b := Int.le_antisymm (mx_le (Int.le_refl _) (mx_r _ _)) (mx_l _ _)
noncomputable def mn2 (a p q : Int) : Int := mnI (mnI a p) q
noncomputable def mx2 (a p q : Int) : Int := mxI (mxI a p) q
theorem mn2_le (a p q : Int) : mn2 a p q ≤ a ∧ mn2 a p q ≤ p ∧ mn2 a p q ≤ q := by
  have h1 := mn_l a p; have h2 := mn_r a p; have h3 := mn_l (mnI a p) q; have h4 := mn_r (mnI a p) q
  unfold mn2
  omega
theorem le_mx2 (a p q : Int) : a ≤ mx2 a p q ∧ p ≤ mx2 a p q ∧ q ≤ mx2 a p q := by
  have h1 := mx_l a p; have h2 := mx_r a p; have h3 := mx_l (mxI a p) q; have h4 := mx_r (mxI a p) q
  unfold mx2
  omega
theorem mn2_same (a p q : Int) : mn2 (mn2 a p q) p q = mn2 a p q := by
  obtain ⟨h1, h2, h3⟩ := mn2_le a p q
  exact Int.le_antisymm (mn2_le _ _ _).1 (le_mn (le_mn (Int.le_refl _) h2) h3)
theorem mx2_same (a p q : Int) : mx2 (mx2 a p q) p q = mx2 a p q := by
  obtain ⟨h1, h2, h3⟩ := le_mx2 a p q
  exact Int.le_antisymm (mx_le (mx_le (Int.le_refl _) h2) h3) (le_mx2 _ _ _).1
theorem mn_all (x y lo hi u : Int) : mn2 (mn2 ((u - lo) * x) ((u - lo) * x) ((u - lo) * y)) ((u - hi) * x) ((u - hi) * y) = mnV x y lo hi u := by
  obtain ⟨a1, a2, a3⟩ := mn2_le ((u - lo) * x) ((u - lo) * x) ((u - lo) * y)
  obtain ⟨b1, b2, b3⟩ := mn2_le (mn2 ((u - lo) * x) ((u - lo) * x) ((u - lo) * y)) ((u - hi) * x) ((u - hi) * y)
  have c1 := mn_l ((u - hi) * x) ((u - hi) * y)
  have c2 := mn_r ((u - hi) * x) ((u - hi) * y)
  have c3 := mn_l (mnI ((u - hi) * x) ((u - hi) * y)) ((u - lo) * x)
  have c4 := mn_r (mnI ((u - hi) * x) ((u - hi) * y)) ((u - lo) * x)
  have c5 := mn_l (mnI (mnI ((u - hi) * x) ((u - hi) * y)) ((u - lo) * x)) ((u - lo) * y)
  have c6 := mn_r (mnI (mnI ((u - hi) * x) ((u - hi) * y)) ((u - lo) * x)) ((u - lo) * y)
  refine Int.le_antisymm (le_mn (le_mn (le_mn b2 b3) (Int.le_trans b1 a1)) (Int.le_trans b1 a3)) ?_
  unfold mnV mn4
  exact le_mn (le_mn (le_mn (le_mn (by omega) (by omega)) (by omega)) (by omega)) (by omega)
theorem mx_all (x y lo hi u : Int) : mx2 (mx2 ((u - lo) * x) ((u - lo) * x) ((u - lo) * y)) ((u - hi) * x) ((u - hi) * y) = mxV x y lo hi u := by
  obtain ⟨a1, a2, a3⟩ := le_mx2 ((u - lo) * x) ((u - lo) * x) ((u - lo) * y)
  obtain ⟨b1, b2, b3⟩ := le_mx2 (mx2 ((u - lo) * x) ((u - lo) * x) ((u - lo) * y)) ((u - hi) * x) ((u - hi) * y)
  have c1 := mx_l ((u - hi) * x) ((u - hi) * y)
  have c2 := mx_r ((u - hi) * x) ((u - hi) * y)
  have c3 := mx_l (mxI ((u - hi) * x) ((u - hi) * y)) ((u - lo) * x)
  have c4 := mx_r (mxI ((u - hi) * x) ((u - hi) * y)) ((u - lo) * x)
  have c5 := mx_l (mxI (mxI ((u - hi) * x) ((u - hi) * y)) ((u - lo) * x)) ((u - lo) * y)
  have c6 := mx_r (mxI (mxI ((u - hi) * x) ((u - hi) * y)) ((u - lo) * x)) ((u - lo) * y)
  refine Int.le_antisymm ?_ (mx_le (mx_le (mx_le b2 b3) (Int.le_trans a1 b1)) (Int.le_trans a3 b1))
  unfold mxV mx4
  exact mx_le (mx_le (mx_le (mx_le (by omega) (by omega)) (by omega)) (by omega)) (by omega)
theorem step_lt {x y : Int} (h : x < y) : mxI 1 (y - x) = y - x := by unfold mxI; split <;> omega
theorem step_eq {x y : Int} (h : x = y) : mxI 1 (y - x) = 1 := by unfold mxI; rw [if_neg (by omega)]
theorem ilt_true {a b : Int} (h : a < b) : ilt a b = true := by rw [ilt_say]; exact decide_eq_true h
theorem ilt_no {a b : Int} (h : b ≤ a) : ilt a b = false := by rw [ilt_say]; exact decide_eq_false (by omega)
abbrev inC (x y u k : Int) : Prop := 1 ≤ x ∧ x ≤ y ∧ y ≤ 4000 ∧ tiny (u - k) = true
set_option maxRecDepth 100000 in
theorem in_loop (H : AHeap) (x y : Int) (hb : InB H x y) (w1 w8 w9 : Value) (u a0 b0 k : Int) (hc : inC x y u k) :
    ∀ a : AAct, a.n = 109 → a.marks = [] → [1, 3, 7, 8, 9, 10, 11, 12, 13, 14].map a.tmp = [w1, pS, pO, w8, w9, gi u, gi a0, gi b0, gi k, gi x] →
    J Tryz.prog (.loop (loopOf Tryz.prog 22 4)) a H (told 109 [1, 3, 7, 8, 9, 10, 11, 12, 13, 14] fun ex vs h => ex = .exit 4 ∧ h = H ∧ ∃ m, vs = [w1, pS, pO, w8, w9, gi u, gi (mnI (mnI a0 ((u - k) * x)) ((u - k) * y)), gi (mxI (mxI b0 ((u - k) * x)) ((u - k) * y)), gi k, gi m]) := by
  obtain ⟨c1, c2, c3, c4⟩ := hc
  have t := tiny_le c4
  have i1 := tiny_mul (a := u - k) (b := x) c4 (tiny_of (by omega) (by omega))
  have i2 := tiny_mul (a := u - k) (b := y) c4 (tiny_of (by omega) (by omega))
  intro a hn hm hv
  refine loop_rule (fun q vs h => h = H ∧ ∃ a b m : Int, vs = [w1, pS, pO, w8, w9, gi u, gi a, gi b, gi k, gi m] ∧ ((q = 2 ∧ m = x ∧ a = a0 ∧ b = b0) ∨ (q = 1 ∧ x < y ∧ m = y ∧ a = mnI a0 ((u - k) * x) ∧ b = mxI b0 ((u - k) * x)) ∨ (q = 0 ∧ y < m ∧ a = mnI (mnI a0 ((u - k) * x)) ((u - k) * y) ∧ b = mxI (mxI b0 ((u - k) * x)) ((u - k) * y)))) _ ?_ 2 _ _ a ⟨rfl, a0, b0, x, rfl, .inl ⟨rfl, rfl, rfl, rfl⟩⟩ hn hm hv
  rintro q vs h g ⟨rfl, a, b, m, rfl, hst⟩
  refine execC_ok mixed orcRm_ok askRm_ok (noLoops _) (Eq.mpr (hb w1 w8 w9 u a b k m g _) ⟨fun hlt => ?_, fun hge => ?_⟩)
  · have hle : m ≤ y := by
      rw [ilt_say] at hlt
      simp at hlt
      exact hlt
    rcases hst with ⟨rfl, rfl, rfl, rfl⟩ | ⟨rfl, h1, rfl, rfl, rfl⟩ | ⟨rfl, h1, rfl, rfl⟩
    · have hs : 1 ≤ mxI 1 (y - m) ∧ mxI 1 (y - m) ≤ 4000 := by unfold mxI; split <;> omega
      refine ⟨inI64_small (by omega) (by omega), inI64_small (by omega) (by omega), inI64_small (by omega) (by omega), inI64_small (by omega) (by omega), inI64_small (by omega) (by omega), inI64_small (by omega) (by omega), ?_⟩
      by_cases he : m < y
      · exact ⟨1, by omega, rfl, _, _, _, rfl, .inr (.inl ⟨rfl, he, by rw [step_lt he]; omega, rfl, rfl⟩)⟩
      · obtain rfl : m = y := by omega
        exact ⟨0, by omega, rfl, _, _, _, rfl, .inr (.inr ⟨rfl, by rw [step_eq rfl]; omega, (mnI_same _ _).symm, (mxI_same _ _).symm⟩)⟩
    · refine ⟨inI64_small (by omega) (by omega), inI64_small (by omega) (by omega), inI64_small (by omega) (by omega), inI64_small (by omega) (by omega), inI64_small (by omega) (by omega), by rw [step_lt h1]; exact inI64_small (by omega) (by omega), ?_⟩
      exact ⟨0, by omega, rfl, _, _, _, rfl, .inr (.inr ⟨rfl, by rw [step_lt h1]; omega, rfl, rfl⟩)⟩
    · omega
  · have hgt : y < m := by
      rw [ilt_say] at hge
      simpa using hge
    rcases hst with ⟨rfl, rfl, rfl, rfl⟩ | ⟨rfl, h1, rfl, rfl, rfl⟩ | ⟨rfl, h1, rfl, rfl⟩
    · omega
    · omega
    · exact ⟨rfl, rfl, m, rfl⟩
noncomputable def inL (H : AHeap) (x y : Int) (hb : InB H x y) (w1 w8 w9 : Value) (u a0 b0 k : Int) : Loops Tryz.prog where
  body := fun _ => loopOf Tryz.prog 22 4
  spec := fun _ a h c => entry a 109 [(1, w1), (3, pS), (7, pO), (8, w8), (9, w9), (10, gi u), (11, gi a0), (12, gi b0), (13, gi k), (14, gi x)] (h = H ∧ inC x y u k ∧ ∀ g m, c (.exit 4) (stOf 109 (cvS w1 w8 w9 u (mnI (mnI a0 ((u - k) * x)) ((u - k) * y)) (mxI (mxI b0 ((u - k) * x)) ((u - k) * y)) k m) g) H)
  ok := fun i a h c q => by
    obtain ⟨h1, h2, h3, rfl, hc, h4⟩ := entry_facts q
    refine J.of_told (in_loop h x y hb w1 w8 w9 u a0 b0 k hc a h1 h2 ?_) ?_
    · simp only [List.map_cons, List.map_nil]
      rw [h3 (1, w1) (by simp), h3 (3, pS) (by simp), h3 (7, pO) (by simp), h3 (8, w8) (by simp), h3 (9, w9) (by simp), h3 (10, gi u) (by simp), h3 (11, gi a0) (by simp), h3 (12, gi b0) (by simp), h3 (13, gi k) (by simp), h3 (14, gi x) (by simp)]
    · rintro ex vs h' g ⟨rfl, rfl, m, rfl⟩
      exact h4 g m
noncomputable abbrev MidR (H : AHeap) (x y lo hi : Int) (w1 w8 w9 : Value) (u a b k : Int) (Q : Exit → List Value → AHeap → Prop) : Prop := (((!(ilt hi k)) = true → (loopOf Tryz.prog 22 4 = loopOf Tryz.prog 22 4 ∧ w1 = w1 ∧ pS = pS ∧ pO = pO ∧ w8 = w8 ∧ w9 = w9 ∧ gi u = gi u ∧ gi a = gi a ∧ gi b = gi b ∧ gi k = gi k ∧ gi x = gi x ∧ H = H ∧ inC x y u k ∧ (∀ _ : Nat → Value, (∀ _ : Int, (inI64 (hi - lo) = true ∧ inI64 (k + mxI 1 (hi - lo)) = true ∧ Q .normal [w1, pS, pO, w8, w9, gi u, gi (mn2 a ((u - k) * x) ((u - k) * y)), gi (mx2 b ((u - k) * x) ((u - k) * y)), gi (k + mxI 1 (hi - lo))] H))))) ∧ ((!(ilt hi k)) = false → Q (.exit 2) [w1, pS, pO, w8, w9, gi u, gi a, gi b, gi k] H))
noncomputable abbrev MidB (H : AHeap) (x y lo hi : Int) (hb : InB H x y) : Prop := ∀ (w1 w8 w9 : Value) (u a b k : Int) (g : Nat → Value) (Q : Exit → List Value → AHeap → Prop), execC Tryz.prog (exec Tryz.prog orcRm 10) (syOf [(50, 1), (56, 33), (58, 33)]) askRm (inL H x y hb w1 w8 w9 u a b k) 40 (loopOf Tryz.prog 22 2) (stOf 109 [(1, w1), (3, pS), (7, pO), (8, w8), (9, w9), (10, gi u), (11, gi a), (12, gi b), (13, gi k)] g) H (told 109 [1, 3, 7, 8, 9, 10, 11, 12, 13] Q) = MidR H x y lo hi w1 w8 w9 u a b k Q
theorem mid_bodyA (c : List Value) (e row : Nat) (s : ByteArray) (sc x y lo hi : Int) : MidB (HA c e row (snC s sc x y) (ofC lo hi)) x y lo hi (in_bodyA c e row s sc x y lo hi) := by
  intro w1 w8 w9 u a b k g Q
  kernel_rfl
theorem mid_bodyD (c d : List Value) (e row : Nat) (s : ByteArray) (sc x y lo hi : Int) : MidB (HD c e row (snC s sc x y) (ofC lo hi) d) x y lo hi (in_bodyD c d e row s sc x y lo hi) := by
  intro w1 w8 w9 u a b k g Q
  kernel_rfl
abbrev midC (x y lo hi u : Int) : Prop := (1 ≤ x ∧ x ≤ y ∧ y ≤ 4000) ∧ (lo ≤ hi ∧ -100000 ≤ lo ∧ hi ≤ 100000) ∧ tiny (u - lo) = true ∧ tiny (u - hi) = true
set_option maxRecDepth 100000 in
theorem mid_loop (H : AHeap) (x y lo hi : Int) (hb : InB H x y) (hm : MidB H x y lo hi hb) (w1 w8 w9 : Value) (u a0 b0 : Int) (hc : midC x y lo hi u) :
    ∀ a : AAct, a.n = 109 → a.marks = [] → [1, 3, 7, 8, 9, 10, 11, 12, 13].map a.tmp = [w1, pS, pO, w8, w9, gi u, gi a0, gi b0, gi lo] →
    J Tryz.prog (.loop (loopOf Tryz.prog 22 2)) a H (told 109 [1, 3, 7, 8, 9, 10, 11, 12, 13] fun ex vs h => ex = .exit 2 ∧ h = H ∧ ∃ k, vs = [w1, pS, pO, w8, w9, gi u, gi (mn2 (mn2 a0 ((u - lo) * x) ((u - lo) * y)) ((u - hi) * x) ((u - hi) * y)), gi (mx2 (mx2 b0 ((u - lo) * x) ((u - lo) * y)) ((u - hi) * x) ((u - hi) * y)), gi k]) := by
  obtain ⟨⟨c1, c2, c3⟩, ⟨d1, d2, d3⟩, t1, t2⟩ := hc
  intro a hn hk hv
  refine loop_rule (fun q vs h => h = H ∧ ∃ a b k : Int, vs = [w1, pS, pO, w8, w9, gi u, gi a, gi b, gi k] ∧ ((q = 2 ∧ k = lo ∧ a = a0 ∧ b = b0) ∨ (q = 1 ∧ lo < hi ∧ k = hi ∧ a = mn2 a0 ((u - lo) * x) ((u - lo) * y) ∧ b = mx2 b0 ((u - lo) * x) ((u - lo) * y)) ∨ (q = 0 ∧ hi < k ∧ a = mn2 (mn2 a0 ((u - lo) * x) ((u - lo) * y)) ((u - hi) * x) ((u - hi) * y) ∧ b = mx2 (mx2 b0 ((u - lo) * x) ((u - lo) * y)) ((u - hi) * x) ((u - hi) * y)))) _ ?_ 2 _ _ a ⟨rfl, a0, b0, lo, rfl, .inl ⟨rfl, rfl, rfl, rfl⟩⟩ hn hk hv
  rintro q vs h g ⟨rfl, a, b, k, rfl, hst⟩
  refine execC_ok mixed orcRm_ok askRm_ok _ (Eq.mpr (hm w1 w8 w9 u a b k g _) ⟨fun hlt => ?_, fun hge => ?_⟩)
  · have hle : k ≤ hi := by
      rw [ilt_say] at hlt
      simp at hlt
      exact hlt
    rcases hst with ⟨rfl, rfl, rfl, rfl⟩ | ⟨rfl, h1, rfl, rfl, rfl⟩ | ⟨rfl, h1, rfl, rfl⟩
    · have hs : 1 ≤ mxI 1 (hi - k) ∧ mxI 1 (hi - k) ≤ 200000 := by unfold mxI; split <;> omega
      refine ⟨rfl, rfl, rfl, rfl, rfl, rfl, rfl, rfl, rfl, rfl, rfl, rfl, ⟨c1, c2, c3, t1⟩, fun _ _ => ⟨inI64_small (by omega) (by omega), inI64_small (by omega) (by omega), ?_⟩⟩
      by_cases he : k < hi
      · exact ⟨1, by omega, rfl, _, _, _, rfl, .inr (.inl ⟨rfl, he, by rw [step_lt he]; omega, rfl, rfl⟩)⟩
      · obtain rfl : k = hi := by omega
        exact ⟨0, by omega, rfl, _, _, _, rfl, .inr (.inr ⟨rfl, by rw [step_eq rfl]; omega, (mn2_same _ _ _).symm, (mx2_same _ _ _).symm⟩)⟩
    · refine ⟨rfl, rfl, rfl, rfl, rfl, rfl, rfl, rfl, rfl, rfl, rfl, rfl, ⟨c1, c2, c3, t2⟩, fun _ _ => ⟨inI64_small (by omega) (by omega), by rw [step_lt h1]; exact inI64_small (by omega) (by omega), ?_⟩⟩
      exact ⟨0, by omega, rfl, _, _, _, rfl, .inr (.inr ⟨rfl, by rw [step_lt h1]; omega, rfl, rfl⟩)⟩
    · omega
  · have hgt : hi < k := by
      rw [ilt_say] at hge
      simpa using hge
    rcases hst with ⟨rfl, rfl, rfl, rfl⟩ | ⟨rfl, h1, rfl, rfl, rfl⟩ | ⟨rfl, h1, rfl, rfl⟩
    · omega
    · omega
    · exact ⟨rfl, rfl, k, rfl⟩
noncomputable def midL (H : AHeap) (x y lo hi : Int) (hb : InB H x y) (hm : MidB H x y lo hi hb) (w1 w8 w9 : Value) (u : Int) : Loops Tryz.prog where
  body := fun _ => loopOf Tryz.prog 22 2
  spec := fun _ a h c => entry a 109 [(1, w1), (3, pS), (7, pO), (8, w8), (9, w9), (10, gi u), (11, gi ((u - lo) * x)), (12, gi ((u - lo) * x)), (13, gi lo)] (h = H ∧ midC x y lo hi u ∧ ∀ g k p q, p = mnV x y lo hi u → q = mxV x y lo hi u → c (.exit 2) (stOf 109 [(1, w1), (3, pS), (7, pO), (8, w8), (9, w9), (10, gi u), (11, gi p), (12, gi q), (13, gi k)] g) H)
  ok := fun i a h c q => by
    obtain ⟨h1, h2, h3, rfl, hc, h4⟩ := entry_facts q
    refine J.of_told (mid_loop h x y lo hi hb hm w1 w8 w9 u ((u - lo) * x) ((u - lo) * x) hc a h1 h2 ?_) ?_
    · simp only [List.map_cons, List.map_nil]
      rw [h3 (1, w1) (by simp), h3 (3, pS) (by simp), h3 (7, pO) (by simp), h3 (8, w8) (by simp), h3 (9, w9) (by simp), h3 (10, gi u) (by simp), h3 (11, gi ((u - lo) * x)) (by simp), h3 (12, gi ((u - lo) * x)) (by simp), h3 (13, gi lo) (by simp)]
    · rintro ex vs h' g ⟨rfl, rfl, k, rfl⟩
      exact h4 g k _ _ (mn_all x y lo hi u) (mx_all x y lo hi u)
theorem cvr_bodyA (c : List Value) (n k e row j : Nat) (s : ByteArray) (sc x y lo hi u : Int) (g : Nat → Value) (Q : Exit → List Value → AHeap → Prop) : execC Tryz.prog (exec Tryz.prog orcRm 10) (syOf [(21, 1), (26, 2), (27, 3), (28, 7), (32, 33), (36, 33), (40, 33), (44, 33), (93, 7), (95, 7)]) askRm (midL (HA c e row (snC s sc x y) (ofC lo hi)) x y lo hi (in_bodyA c e row s sc x y lo hi) (mid_bodyA c e row s sc x y lo hi) (liP n k) (.slice none 0 0) (goN j) u) 40 (loopOf Tryz.prog 22 0) (stOf 109 [(1, liP n k), (3, pS), (7, pO), (8, .slice none 0 0), (9, goN j)] g) (HA c e row (snC s sc x y) (ofC lo hi)) (told 109 [1, 3, 7, 8, 9] Q) = (((Nat.blt j n = true → (Nat.blt j n = true ∧ c[(0 + (j * 1))]? = Option.some (gf (floatAt c (0 + (j * 1)))) ∧ ieq (smpE (floatAt c (0 + (j * 1)))) 0 = true ∧ inI64 (unitE (floatAt c (0 + (j * 1))) - lo) = true ∧ inI64 ((unitE (floatAt c (0 + (j * 1))) - lo) * x) = true ∧ inI64 (unitE (floatAt c (0 + (j * 1))) - lo) = true ∧ inI64 ((unitE (floatAt c (0 + (j * 1))) - lo) * x) = true ∧ loopOf Tryz.prog 22 2 = loopOf Tryz.prog 22 2 ∧ liP n k = liP n k ∧ pS = pS ∧ pO = pO ∧ nilS = nilS ∧ goN j = goN j ∧ gi (unitE (floatAt c (0 + (j * 1)))) = gi u ∧ gi ((unitE (floatAt c (0 + (j * 1))) - lo) * x) = gi ((u - lo) * x) ∧ gi ((unitE (floatAt c (0 + (j * 1))) - lo) * x) = gi ((u - lo) * x) ∧ gi lo = gi lo ∧ HA c e row (snC s sc x y) (ofC lo hi) = HA c e row (snC s sc x y) (ofC lo hi) ∧ midC x y lo hi u ∧ (∀ _ : Nat → Value, (∀ _ : Int, (∀ y3 : Int, (∀ y4 : Int, (y3 = mnV x y lo hi u → (y4 = mxV x y lo hi u → ((true && small y3) = true ∧ (snC s sc x y)[1]? = Option.some (gi sc) ∧ (snC s sc x y)[1]? = Option.some (gi sc) ∧ (true && small y4) = true ∧ (snC s sc x y)[1]? = Option.some (gi sc) ∧ (snC s sc x y)[1]? = Option.some (gi sc) ∧ (snC s sc x y)[1]? = Option.some (gi sc) ∧ (snC s sc x y)[1]? = Option.some (gi sc) ∧ Q .normal [liP n k, pS, pO, Value.slice (some ⟨nG1 + 4, 0, none⟩) 1 1, gi (fwrap IntKind.i64 (Int.ofNat (j + 1)))] (((HA c e row (snC s sc x y) (ofC lo hi)).push (.cells [gi (floorE y3 1000), gi (ceilE y4 1000), Value.bool (!(ilt (fwrap IntKind.i64 (0 - sc)) u)), Value.bool (!(ilt u sc))] 78 5 false)).push (.cells ([] ++ [gi (floorE y3 1000), gi (ceilE y4 1000), Value.bool (!(ilt (fwrap IntKind.i64 (0 - sc)) u)), Value.bool (!(ilt u sc))]) 78 5 false))))))))))) ∧ (Nat.blt j n = false → Q (.exit 0) [liP n k, pS, pO, nilS, goN j] (HA c e row (snC s sc x y) (ofC lo hi))))) := by kernel_rfl
theorem cvr_bodyD (c d : List Value) (n k e row j q : Nat) (s : ByteArray) (sc x y lo hi u : Int) (g : Nat → Value) (Q : Exit → List Value → AHeap → Prop) : execC Tryz.prog (exec Tryz.prog orcRm 10) (syOf [(21, 1), (26, 2), (27, 3), (28, 7), (32, 33), (36, 33), (40, 33), (44, 33), (93, 7), (95, 7), (107, 10)]) askRm (midL (HD c e row (snC s sc x y) (ofC lo hi) d) x y lo hi (in_bodyD c d e row s sc x y lo hi) (mid_bodyD c d e row s sc x y lo hi) (liP n k) (slQ q q) (goN j) u) 40 (loopOf Tryz.prog 22 0) (stOf 109 [(1, liP n k), (3, pS), (7, pO), (8, slQ q q), (9, goN j)] g) (HD c e row (snC s sc x y) (ofC lo hi) d) (told 109 [1, 3, 7, 8, 9] Q) = (((Nat.blt j n = true → (Nat.blt j n = true ∧ c[(0 + (j * 1))]? = Option.some (gf (floatAt c (0 + (j * 1)))) ∧ ieq (smpE (floatAt c (0 + (j * 1)))) 0 = true ∧ inI64 (unitE (floatAt c (0 + (j * 1))) - lo) = true ∧ inI64 ((unitE (floatAt c (0 + (j * 1))) - lo) * x) = true ∧ inI64 (unitE (floatAt c (0 + (j * 1))) - lo) = true ∧ inI64 ((unitE (floatAt c (0 + (j * 1))) - lo) * x) = true ∧ loopOf Tryz.prog 22 2 = loopOf Tryz.prog 22 2 ∧ liP n k = liP n k ∧ pS = pS ∧ pO = pO ∧ slQ q q = slQ q q ∧ goN j = goN j ∧ gi (unitE (floatAt c (0 + (j * 1)))) = gi u ∧ gi ((unitE (floatAt c (0 + (j * 1))) - lo) * x) = gi ((u - lo) * x) ∧ gi ((unitE (floatAt c (0 + (j * 1))) - lo) * x) = gi ((u - lo) * x) ∧ gi lo = gi lo ∧ HD c e row (snC s sc x y) (ofC lo hi) d = HD c e row (snC s sc x y) (ofC lo hi) d ∧ midC x y lo hi u ∧ (∀ _ : Nat → Value, (∀ _ : Int, (∀ y3 : Int, (∀ y4 : Int, (y3 = mnV x y lo hi u → (y4 = mxV x y lo hi u → ((true && small y3) = true ∧ (snC s sc x y)[1]? = Option.some (gi sc) ∧ (snC s sc x y)[1]? = Option.some (gi sc) ∧ (true && small y4) = true ∧ (snC s sc x y)[1]? = Option.some (gi sc) ∧ (snC s sc x y)[1]? = Option.some (gi sc) ∧ (snC s sc x y)[1]? = Option.some (gi sc) ∧ (snC s sc x y)[1]? = Option.some (gi sc) ∧ Nat.ble (q + 1) q = false ∧ Nat.ble (((2 * (q + 1)) + 256) * 24) 281474976710656 = true ∧ (q * 4) = List.length d ∧ Q .normal [liP n k, pS, pO, Value.slice (some ⟨nG1 + 5, 0, none⟩) (q + 1) (q + 1), gi (fwrap IntKind.i64 (Int.ofNat (j + 1)))] ((((HD c e row (snC s sc x y) (ofC lo hi) d).push (.cells [gi (floorE y3 1000), gi (ceilE y4 1000), Value.bool (!(ilt (fwrap IntKind.i64 (0 - sc)) u)), Value.bool (!(ilt u sc))] 78 5 false)).set (nG1 + 3) (.dead)).push (.cells (d ++ [gi (floorE y3 1000), gi (ceilE y4 1000), Value.bool (!(ilt (fwrap IntKind.i64 (0 - sc)) u)), Value.bool (!(ilt u sc))]) 78 5 false))))))))))) ∧ (Nat.blt j n = false → Q (.exit 0) [liP n k, pS, pO, slQ q q, goN j] (HD c e row (snC s sc x y) (ofC lo hi) d)))) := by kernel_rfl
end Go.Proofs.YtojfhklkcelblaaGreatDoor
/-! Converted, by the reference: its loop over samples. -/
namespace Go.Proofs.YtojfhklkcelblaaGreatDoor
open Go Go.Am

theorem ble_no {a b : Nat} (h : ¬ a ≤ b) : Nat.ble a b = false := by
  cases q : Nat.ble a b with
  | false => rfl
  | true => rw [Nat.ble_eq] at q; exact absurd q h
noncomputable def cvV (n k : Nat) : Nat → Value → List Value := fun j w => [liP n k, pS, pO, w, goN j]
theorem cvK_flat (l : List Nat) (e row : Nat) (s : ByteArray) (sc x y lo hi : Int) : ∀ b ∈ cvK (l.map gf) e row (snC s sc x y) (ofC lo hi), b.1.all (flat 3) = true := by
  intro b hb
  simp only [List.mem_cons, List.not_mem_nil, or_false] at hb
  rcases hb with rfl | rfl | rfl
  · exact flat_floats l
  · rfl
  · rfl
abbrev cvC (x y lo hi : Int) : Prop := (1 ≤ x ∧ x ≤ y ∧ y ≤ 4000) ∧ (lo ≤ hi ∧ -100000 ≤ lo ∧ hi ≤ 100000)
theorem valsL_take {sc x y lo hi : Int} {l : List Nat} {j : Nat} (hj : j < l.length) : valsL sc x y lo hi (l.take (j + 1)) = valsL sc x y lo hi (l.take j) ++ valC sc x y lo hi (unitE l[j]) := by
  rw [List.take_add_one, List.getElem?_eq_getElem hj, valsL_app]
  show _ ++ (valC sc x y lo hi (unitE l[j]) ++ []) = _
  rw [List.append_nil]
theorem valsL_nil {sc x y lo hi : Int} {l : List Nat} {j : Nat} (hj : j ≤ l.length) (h : valsL sc x y lo hi (l.take j) = []) : j = 0 := by
  have := congrArg List.length h
  rw [valsL_len, List.length_take, Nat.min_eq_left hj] at this
  simp at this
  omega
set_option maxRecDepth 100000 in
theorem cvr_loop (l : List Nat) (n e row k : Nat) (s : ByteArray) (sc x y lo hi : Int) (h0 : 0 < n) (hn : n ≤ l.length) (hle : n ≤ 65536) (hv : vGood sc x y lo hi (l.take n)) (hc : cvC x y lo hi) : ∀ (a : AAct) (h : AHeap), GrownW Tryz.prog (cvK (l.map gf) e row (snC s sc x y) (ofC lo hi)) 78 5 (cvV n k) (fun j => j) (fun j => valsL sc x y lo hi (l.take j)) 0 ([1, 3, 7, 8, 9].map a.tmp) h → a.n = 109 → a.marks = [] →
    J Tryz.prog (.loop (loopOf Tryz.prog 22 0)) a h (told 109 [1, 3, 7, 8, 9] fun ex vs h' => ex = .exit 0 ∧ vs = [liP n k, pS, pO, slQ n n, goN n] ∧ h'.get (Tryz.prog.globals.size + 3) = some (.cells (valsL sc x y lo hi (l.take n)) 78 5 false)) := by
  intro a h hG ha hk
  obtain ⟨⟨c1, c2, c3⟩, ⟨d1, d2, d3⟩⟩ := hc
  have at_ : ∀ j (hj : j < n), smpE (l[j]'(by omega)) = 0 ∧ valB sc x y lo hi (unitE (l[j]'(by omega))) = true := fun j hj => hv _ (List.mem_of_getElem? (i := j) (by rw [List.getElem?_take, if_pos hj, List.getElem?_eq_getElem (by omega)]))
  refine growW_rule (C := cvK (l.map gf) e row (snC s sc x y) (ofC lo hi)) (el := 78) (rw := 5) globs_pos (by decide) (by decide) (cvK_flat l e row s sc x y lo hi) (cvV n k) (fun j => j) (fun j => valsL sc x y lo hi (l.take j)) n _ (fun j => valsL_flat _) (fun j => by kernel_rfl) (fun j q d hd => by
      obtain rfl | rfl | rfl | rfl : d = 0 ∨ d = 1 ∨ d = 2 ∨ d = 3 := by omega
      all_goals kernel_rfl)
    (fun j v q hq => by match q, hq with | 0, _ => exact ⟨(1, liP n k), by simp [cvV], by simp [named]⟩ | 1, _ => exact ⟨(3, pS), by simp [cvV], by simp [named]⟩ | 2, _ => exact ⟨(7, pO), by simp [cvV], by simp [named]⟩) (fun j b q => ⟨(8, .slice (some ⟨b, 0, none⟩) q q), by simp [cvV], by simp [named]⟩) ?_ ?_ ?_ ?_ a h hG ha hk
  · intro j hj hx g
    have hjl : j < l.length := by omega
    obtain ⟨f1, f2⟩ := float_at hjl
    obtain ⟨v1, v2⟩ := at_ j hj
    have hb := v2
    unfold valB at hb
    rw [Bool.and_eq_true, Bool.and_eq_true, Bool.and_eq_true, Bool.and_eq_true] at hb
    obtain ⟨b1, b2, b3, b4, b5⟩ := hb
    have r2 := tiny_le b2
    have r5 := tiny_le b5
    have m1 := tiny_mul b2 b3
    refine execC_ok mixed orcRm_ok askRm_ok _ (Eq.mpr (cvr_bodyA _ n k e row j s sc x y lo hi (unitE l[j]) g _) ⟨fun hlt => ?_, fun hge => ?_⟩)
    · rw [f2]
      refine ⟨hlt, f2 ▸ f1, by rw [v1]; rfl, inI64_small (by omega) (by omega), inI64_small (by omega) (by omega), inI64_small (by omega) (by omega), inI64_small (by omega) (by omega), rfl, rfl, rfl, rfl, rfl, rfl, rfl, rfl, rfl, rfl, rfl, ⟨⟨c1, c2, c3⟩, ⟨d1, d2, d3⟩, b2, b1⟩, fun _ _ p q hp hq => ?_⟩
      subst hp hq
      refine ⟨by rw [show small (mnV x y lo hi (unitE l[j])) = true from mn4_small b1 b2 b3 b4]; rfl, rfl, rfl, by rw [show small (mxV x y lo hi (unitE l[j])) = true from mx4_small b1 b2 b3 b4]; rfl, rfl, rfl, rfl, rfl, ?_⟩
      have j0 := valsL_nil (by omega) hx
      rw [fwrap_mid (x := 0 - sc) (by omega) (by omega)]
      refine ⟨fun p b hb => ?_, .inr ⟨nG1 + 4, 1, rfl, by omega, ?_, ?_, ?_⟩⟩
      · match p, hb with
        | 0, hb => cases hb; rw [AHeap.get_push_ne (by kernel_rfl), AHeap.get_push_ne (by kernel_rfl)]; exact gC_get (q := 0) rfl
        | 1, hb => cases hb; rw [AHeap.get_push_ne (by kernel_rfl), AHeap.get_push_ne (by kernel_rfl)]; exact gC_get (q := 1) rfl
        | 2, hb => cases hb; rw [AHeap.get_push_ne (by kernel_rfl), AHeap.get_push_ne (by kernel_rfl)]; exact gC_get (q := 2) rfl
      · intro hh
        have := valsL_nil (by omega) hh
        omega
      · rw [fwrap_nat (by omega), j0]; rfl
      · rw [AHeap.get_push_eq (by kernel_rfl)]
        show _ = some (AObj.cells (valsL sc x y lo hi (l.take (j + 1))) _ _ _)
        rw [valsL_take hjl]
        have hx : valsL sc x y lo hi (l.take j) = [] := hx
        rw [hx]; rfl
    · have := blt_false hge; omega
  · intro j hj hx g
    have hjl : j < l.length := by omega
    obtain ⟨f1, f2⟩ := float_at hjl
    obtain ⟨v1, v2⟩ := at_ j hj
    have hb := v2
    unfold valB at hb
    rw [Bool.and_eq_true, Bool.and_eq_true, Bool.and_eq_true, Bool.and_eq_true] at hb
    obtain ⟨b1, b2, b3, b4, b5⟩ := hb
    have r2 := tiny_le b2
    have r5 := tiny_le b5
    have m1 := tiny_mul b2 b3
    refine execC_ok mixed orcRm_ok askRm_ok _ (Eq.mpr (cvr_bodyD _ (valsL sc x y lo hi (l.take j)) n k e row j j s sc x y lo hi (unitE l[j]) g _) ⟨fun hlt => ?_, fun hge => ?_⟩)
    · rw [f2]
      refine ⟨hlt, f2 ▸ f1, by rw [v1]; rfl, inI64_small (by omega) (by omega), inI64_small (by omega) (by omega), inI64_small (by omega) (by omega), inI64_small (by omega) (by omega), rfl, rfl, rfl, rfl, rfl, rfl, rfl, rfl, rfl, rfl, rfl, ⟨⟨c1, c2, c3⟩, ⟨d1, d2, d3⟩, b2, b1⟩, fun _ _ p q hp hq => ?_⟩
      subst hp hq
      refine ⟨by rw [show small (mnV x y lo hi (unitE l[j])) = true from mn4_small b1 b2 b3 b4]; rfl, rfl, rfl, by rw [show small (mxV x y lo hi (unitE l[j])) = true from mx4_small b1 b2 b3 b4]; rfl, rfl, rfl, rfl, rfl, ble_no (by omega), by rw [Nat.ble_eq]; omega, by rw [valsL_len, List.length_take, Nat.min_eq_left (by omega)], ?_⟩
      rw [fwrap_mid (x := 0 - sc) (by omega) (by omega)]
      refine ⟨fun p b hb => ?_, .inr ⟨nG1 + 5, 2, rfl, by omega, ?_, ?_, ?_⟩⟩
      · match p, hb with
        | 0, hb => cases hb; rw [AHeap.get_push_ne (by kernel_rfl), AHeap.get_set_neB (by kernel_rfl), AHeap.get_push_ne (by kernel_rfl)]; exact gW_get (q := 0) rfl
        | 1, hb => cases hb; rw [AHeap.get_push_ne (by kernel_rfl), AHeap.get_set_neB (by kernel_rfl), AHeap.get_push_ne (by kernel_rfl)]; exact gW_get (q := 1) rfl
        | 2, hb => cases hb; rw [AHeap.get_push_ne (by kernel_rfl), AHeap.get_set_neB (by kernel_rfl), AHeap.get_push_ne (by kernel_rfl)]; exact gW_get (q := 2) rfl
      · intro hh
        have := valsL_nil (by omega) hh
        omega
      · rw [fwrap_nat (by omega)]; rfl
      · rw [AHeap.get_push_eq (by kernel_rfl)]
        show _ = some (AObj.cells (valsL sc x y lo hi (l.take (j + 1))) _ _ _)
        rw [valsL_take hjl]
        rfl
    · have := blt_false hge; omega
  · intro hx g
    have := valsL_nil hn hx
    omega
  · intro hx g
    refine execC_ok mixed orcRm_ok askRm_ok _ (Eq.mpr (cvr_bodyD _ (valsL sc x y lo hi (l.take n)) n k e row n n s sc x y lo hi 0 g _) ⟨fun hlt => ?_, fun _ => ⟨rfl, rfl, gW_dst⟩⟩)
    have := blt_true hlt
    omega
noncomputable def cvrL (l : List Nat) (n e row k : Nat) (s : ByteArray) (sc x y lo hi : Int) : Loops Tryz.prog where
  body := fun _ => loopOf Tryz.prog 22 0
  spec := fun _ a h c => entry a 109 [(1, liP n k), (3, pS), (7, pO), (8, .slice none 0 0), (9, goN 0)] (h.get Tryz.prog.globals.size = some (.cells (l.map gf) e row true) ∧ h.get (Tryz.prog.globals.size + 1) = some (.cells (snC s sc x y) 40 0 false) ∧ h.get (Tryz.prog.globals.size + 2) = some (.cells (ofC lo hi) 38 0 false) ∧ (0 < n ∧ n ≤ l.length ∧ n ≤ 65536 ∧ vGood sc x y lo hi (l.take n) ∧ cvC x y lo hi) ∧
    ∀ g h', h'.get (Tryz.prog.globals.size + 3) = some (.cells (valsL sc x y lo hi (l.take n)) 78 5 false) → c (.exit 0) (stOf 109 [(8, slQ n n)] g) h')
  ok := fun i a h c q => by
    obtain ⟨h1, h2, h3, g0, g1, g2, ⟨hs1, hs2, hs3, hs4, hs5⟩, h4⟩ := entry_facts q
    refine J.of_told (cvr_loop l n e row k s sc x y lo hi hs1 hs2 hs3 hs4 hs5 a h ?_ h1 h2) ?_
    · refine ⟨fun p b hb => ?_, .inl ⟨rfl, ?_⟩⟩
      · match p, hb with
        | 0, hb => cases hb; exact g0
        | 1, hb => cases hb; exact g1
        | 2, hb => cases hb; exact g2
      · simp only [List.map_cons, List.map_nil]
        rw [h3 (1, liP n k) (by simp), h3 (3, pS) (by simp), h3 (7, pO) (by simp), h3 (8, .slice none 0 0) (by simp), h3 (9, goN 0) (by simp)]
        rfl
    · rintro ex vs h' g ⟨rfl, rfl, hg⟩
      exact h4 (ov [(1, liP n k), (3, pS), (7, pO), (9, goN n)] g) h' hg
theorem cvr_run (l : List Nat) (m e row k : Nat) (s : ByteArray) (sc x y z lo hi : Int) (K : Value → AHeap → Prop) : callC Tryz.prog (exec Tryz.prog orcRm 10) (syOf [(17, 7)]) askRm (cvrL l (m + 1) e row k s sc x y lo hi) 20 22 #[.agg #[.string s, gi sc, gi x, gi y], liP (m + 1) k, gi z] (liH (l.map gf) e row) K = ((∃ x1 : List Nat, (List.map gf l = List.map gf x1 ∧ (Nat.beq row 0 || Nat.beq row 2) = true ∧ (0 : Nat) < (m + 1) ∧ ((m + 1) : Nat) ≤ List.length x1 ∧ ((m + 1) : Nat) ≤ 1000000 ∧ ((m + 1) : Nat) ≤ k ∧ ieq (zeroE (List.take (m + 1) x1) z) 0 = true ∧ (∀ y2 : X4, (y2 = offN (List.take (m + 1) x1) z → (loopOf Tryz.prog 22 0 = loopOf Tryz.prog 22 0 ∧ liP (m + 1) k = liP (m + 1) k ∧ Value.pointer (some ⟨nG1 + 1, 0, none⟩) = pS ∧ Value.pointer (some ⟨nG1 + 2, 0, none⟩) = pO ∧ nilS = nilS ∧ gi 0 = goN 0 ∧ ((((liH (List.map gf l) e row).push (.cells [Value.string s, gi sc, gi x, gi y] 40 0 false)).push (.cells [gi 0, gi 0] 38 0 false)).set (nG1 + 2) (.cells ([] ++ ([gi (X4.lo y2), gi (X4.hi y2)] ++ [])) 38 0 false)).get (nG1) = Option.some (.cells (List.map gf l) e row true) ∧ ((((liH (List.map gf l) e row).push (.cells [Value.string s, gi sc, gi x, gi y] 40 0 false)).push (.cells [gi 0, gi 0] 38 0 false)).set (nG1 + 2) (.cells ([] ++ ([gi (X4.lo y2), gi (X4.hi y2)] ++ [])) 38 0 false)).get (nG1 + 1) = Option.some (.cells (snC s sc x y) 40 0 false) ∧ ((((liH (List.map gf l) e row).push (.cells [Value.string s, gi sc, gi x, gi y] 40 0 false)).push (.cells [gi 0, gi 0] 38 0 false)).set (nG1 + 2) (.cells ([] ++ ([gi (X4.lo y2), gi (X4.hi y2)] ++ [])) 38 0 false)).get (nG1 + 2) = Option.some (.cells (ofC lo hi) 38 0 false) ∧ ((0 : Nat) < (m + 1) ∧ ((m + 1) : Nat) ≤ List.length l ∧ ((m + 1) : Nat) ≤ 65536 ∧ vGood sc x y lo hi (List.take (m + 1) l) ∧ cvC x y lo hi) ∧ (∀ _ : Nat → Value, (∀ y4 : AHeap, (y4.get (nG1 + 3) = Option.some (.cells (valsL sc x y lo hi (List.take (m + 1) l)) 78 5 false) → K (slQ (m + 1) (m + 1)) y4))))))))) := by kernel_rfl
end Go.Proofs.YtojfhklkcelblaaGreatDoor
