/-
  OWN WORK. Rings: samples are written, by the reference: its loops.
-/
import Derived.Test.YtgomacijdadjpaaGreatDoorRgH
namespace Go.Proofs.YtgomacijdadjpaaGreatDoor
open Go Go.Am

set_option maxRecDepth 100000 in
theorem w0J_1 (x0 : Nat) (e row k el rl : Nat) (nx : Int) (fu : Bool) (M : List Value) (p qq : Nat) : ∀ a : AAct, a.n = 58 → a.marks = [] → [1, 2, 4, 5, 6].map a.tmp = [slA' p qq, ptB 2, ptB 3, ptB 4, gi 0] →
    J Tryz.prog (.loop (loopOf Tryz.prog 15 0)) a (w0H [gf x0] e row 1 k nx fu M el rl nilS nx fu) (told 58 [1, 2, 4, 5, 6] fun ex vs h => ex = .exit 0 ∧ vs = [slA' p qq, ptB 2, ptB 3, ptB 4, gi 1] ∧ h = wRH1 x0 e row k el rl nx fu M [gf x0] nx fu) := by
  intro a hn hm hv
  refine J.of_facts (l := [(1, slA' p qq), (2, ptB 2), (4, ptB 3), (5, ptB 4), (6, gi 0)]) hn hm (zip_facts hv) fun g => J.ofE mixed orcRgG_ok (noAsks_ok _) (Eq.mpr (w0_1 x0 e row k el rl nx fu M p qq g _) ⟨rfl, rfl, rfl, rfl, rfl, ?_⟩)
  kernel_rfl
theorem wR_h1_1 (x0 : Nat) (e row k el rl : Nat) (nx : Int) (fu : Bool) (M : List Value) (c C : List Value) (x y : Int) (f : Bool) : (((((wRH1 x0 e row k el rl nx fu M c x f).set (N1 + 6) (.cells C 49 2 false)).set (N1 + 4) (.cells ([Value.slice (some ⟨N1 + 6, 0, none⟩) 1 1] ++ ([gi y] ++ [Value.bool f])) 24 0 false)).set (N1 + 4) (.cells (splice ([Value.slice (some ⟨N1 + 6, 0, none⟩) 1 1] ++ ([gi y] ++ [Value.bool f])) 1 [gi 0]) 24 0 false)).set (N1 + 4) (.cells (splice (splice ([Value.slice (some ⟨N1 + 6, 0, none⟩) 1 1] ++ ([gi y] ++ [Value.bool f])) 1 [gi 0]) 2 [Value.bool true]) 24 0 false)) = wRH1 x0 e row k el rl nx fu M C 0 true := by kernel_rfl
theorem wR_h2_1 (x0 : Nat) (e row k el rl : Nat) (nx : Int) (fu : Bool) (M : List Value) (c C : List Value) (x y : Int) (f : Bool) : (((wRH1 x0 e row k el rl nx fu M c x f).set (N1 + 6) (.cells C 49 2 false)).set (N1 + 4) (.cells ([Value.slice (some ⟨N1 + 6, 0, none⟩) 1 1] ++ ([gi y] ++ [Value.bool f])) 24 0 false)) = wRH1 x0 e row k el rl nx fu M C y f := by kernel_rfl
noncomputable abbrev wRHs1 (x0 : Nat) (e row k el rl : Nat) (nx : Int) (fu : Bool) (M : List Value) (s : WSt) : AHeap := wRH1 x0 e row k el rl nx fu M ((wC s).map gf) (Int.ofNat (wX s)) (wB s)
set_option maxRecDepth 100000 in
theorem wR_loop1 (x0 : Nat) (e row k el rl : Nat) (nx : Int) (fu : Bool) (m : List Nat) (p qq : Nat) (s : WSt) (hp : p ≤ m.length) (hl : p ≤ 1000000) (hs : s.1.length = 1 ∧ s.2.1 < 1) : ∀ a : AAct, a.n = 58 → a.marks = [] → [1, 2, 4, 5, 7].map a.tmp = [slA' p qq, ptB 2, ptB 3, ptB 4, gi 0] →
    J Tryz.prog (.loop (loopOf Tryz.prog 15 2)) a (wRHs1 x0 e row k el rl nx fu (m.map gf) s) (told 58 [1, 2, 4, 5, 7] fun ex vs h => ex = .exit 2 ∧ vs = [slA' p qq, ptB 2, ptB 3, ptB 4, goN p] ∧ h = wRHs1 x0 e row k el rl nx fu (m.map gf) (wrF 1 s (m.take p))) := by
  intro a ha hm hv
  refine loop_rule (fun d vs h => ∃ j, j ≤ p ∧ d = p - j ∧ vs = [slA' p qq, ptB 2, ptB 3, ptB 4, goN j] ∧ h = wRHs1 x0 e row k el rl nx fu (m.map gf) (wrF 1 s (m.take j))) _ ?_ p _ _ a ⟨0, Nat.zero_le _, rfl, rfl, rfl⟩ ha hm hv
  rintro d vs h g ⟨j, hj, rfl, rfl, rfl⟩
  obtain ⟨ho, hx⟩ := wrF_ok (m.take j) hs
  refine execC_ok mixed orcRgG_ok (noAsks_ok _) (noLoops _) (Eq.mpr (wR_body1 x0 e row k el rl nx fu _ _ _ _ p qq j g _) ?_)
  refine ⟨fun hlt => ?_, fun hge => ?_⟩
  · have hj' := blt_true hlt
    obtain ⟨h1, h2⟩ := float_at (l := m) (j := j) (by omega)
    have hst := wrF_snoc 1 s (L := m) (j := j) (by omega)
    generalize wrF 1 s (m.take j) = u at ho hx hst ⊢
    have ho : (wC u).length = 1 := ho
    have hx : wX u < 1 := hx
    rw [h2, splice_gf (by omega)]
    have e1 : fwrap IntKind.i64 (Int.ofNat (wX u) + 1) = Int.ofNat (wX u + 1) := by
      rw [show Int.ofNat (wX u) + 1 = Int.ofNat (wX u + 1) from rfl, fwrap_nat (by omega)]
    rw [e1]
    refine ⟨hlt, h2 ▸ h1, by show Nat.blt (wX u) 1 = true; rw [Nat.blt_eq]; exact hx, by rw [Nat.ble_eq, List.length_map]; show 0 + wX u * 1 + 1 ≤ (wC u).length; omega, fun hc => ⟨p - (j + 1), by omega, j + 1, hj', rfl, by rw [fwrap_nat (by omega)], ?_⟩, fun hc => ⟨p - (j + 1), by omega, j + 1, hj', rfl, by rw [fwrap_nat (by omega)], ?_⟩⟩
    · rw [ieq_dec] at hc
      have hc : wX u + 1 = 1 := by have := of_decide_eq_true hc; simp only [Int.ofNat_eq_natCast] at this; omega
      rw [wR_h1_1, hst]
      unfold wrS wRHs1
      have hc : u.2.1 + 1 = 1 := hc
      rw [if_pos hc, if_pos hc]; rfl
    · rw [ieq_dec] at hc
      have hc : ¬ wX u + 1 = 1 := by have := of_decide_eq_false hc; simp only [Int.ofNat_eq_natCast] at this; omega
      rw [wR_h2_1, hst]
      unfold wrS wRHs1
      have hc : ¬ u.2.1 + 1 = 1 := hc
      rw [if_neg hc, if_neg hc]; rfl
  · have := blt_false hge
    obtain rfl : j = p := by omega
    exact ⟨rfl, rfl, rfl⟩
noncomputable def wRLoops1 (x0 : Nat) (e row k el rl : Nat) (nx : Int) (fu : Bool) (m : List Nat) (p qq x : Nat) : Loops Tryz.prog where
  body := fun i => loopOf Tryz.prog 15 i
  spec := fun i a h c => match i with
    | 0 => entry a 58 [(1, slA' p qq), (2, ptB 2), (4, ptB 3), (5, ptB 4), (6, gi 0)] (h = w0H [gf x0] e row 1 k nx fu (m.map gf) el rl nilS nx fu ∧ ∀ g, c (.exit 0) (stOf 58 [(1, slA' p qq), (2, ptB 2), (4, ptB 3), (5, ptB 4), (6, gi 1)] g) (wRH1 x0 e row k el rl nx fu (m.map gf) [gf x0] nx fu))
    | 2 => entry a 58 [(1, slA' p qq), (2, ptB 2), (4, ptB 3), (5, ptB 4), (7, gi 0)] (h = wRH1 x0 e row k el rl nx fu (m.map gf) [gf x0] nx fu ∧ nx = Int.ofNat x ∧ (p ≤ m.length ∧ p ≤ 1000000 ∧ x < 1) ∧ ∀ g, c (.exit 2) (stOf 58 [(1, slA' p qq), (2, ptB 2), (4, ptB 3), (5, ptB 4), (7, goN p)] g) (wRHs1 x0 e row k el rl nx fu (m.map gf) (wrF 1 ([x0], x, fu) (m.take p))))
    | _ => False
  ok := fun i a h c q => by
    match i, q with
    | 0, q =>
      obtain ⟨h1, h2, h3, rfl, h4⟩ := entry_facts q
      refine J.of_told (w0J_1 x0 e row k el rl nx fu (m.map gf) p qq a h1 h2 ?_) ?_
      · simp only [List.map_cons, List.map_nil]
        rw [h3 (1, slA' p qq) (by simp), h3 (2, ptB 2) (by simp), h3 (4, ptB 3) (by simp), h3 (5, ptB 4) (by simp), h3 (6, gi 0) (by simp)]
      · rintro ex vs h' g ⟨rfl, rfl, rfl⟩
        exact h4 g
    | 2, q =>
      obtain ⟨h1, h2, h3, rfl, rfl, ⟨hs, hs2, hs3⟩, h4⟩ := entry_facts q
      refine J.of_told (wR_loop1 x0 e row k el rl (Int.ofNat x) fu m p qq ([x0], x, fu) hs hs2 ⟨rfl, hs3⟩ a h1 h2 ?_) ?_
      · simp only [List.map_cons, List.map_nil]
        rw [h3 (1, slA' p qq) (by simp), h3 (2, ptB 2) (by simp), h3 (4, ptB 3) (by simp), h3 (5, ptB 4) (by simp), h3 (7, gi 0) (by simp)]
      · rintro ex vs h' g ⟨rfl, rfl, rfl⟩
        exact h4 g
set_option maxRecDepth 100000 in
theorem w0J_2 (x0 x1 : Nat) (e row k el rl : Nat) (nx : Int) (fu : Bool) (M : List Value) (p qq : Nat) : ∀ a : AAct, a.n = 58 → a.marks = [] → [1, 2, 4, 5, 6].map a.tmp = [slA' p qq, ptB 2, ptB 3, ptB 4, gi 0] →
    J Tryz.prog (.loop (loopOf Tryz.prog 15 0)) a (w0H [gf x0, gf x1] e row 2 k nx fu M el rl nilS nx fu) (told 58 [1, 2, 4, 5, 6] fun ex vs h => ex = .exit 0 ∧ vs = [slA' p qq, ptB 2, ptB 3, ptB 4, gi 2] ∧ h = wRH2 x0 x1 e row k el rl nx fu M [gf x0, gf x1] nx fu) := by
  intro a hn hm hv
  refine J.of_facts (l := [(1, slA' p qq), (2, ptB 2), (4, ptB 3), (5, ptB 4), (6, gi 0)]) hn hm (zip_facts hv) fun g => J.ofE mixed orcRgG_ok (noAsks_ok _) (Eq.mpr (w0_2 x0 x1 e row k el rl nx fu M p qq g _) ⟨rfl, rfl, rfl, rfl, rfl, rfl, rfl, rfl, ?_⟩)
  kernel_rfl
theorem wR_h1_2 (x0 x1 : Nat) (e row k el rl : Nat) (nx : Int) (fu : Bool) (M : List Value) (c C : List Value) (x y : Int) (f : Bool) : (((((wRH2 x0 x1 e row k el rl nx fu M c x f).set (N1 + 8) (.cells C 49 2 false)).set (N1 + 4) (.cells ([Value.slice (some ⟨N1 + 8, 0, none⟩) 2 2] ++ ([gi y] ++ [Value.bool f])) 24 0 false)).set (N1 + 4) (.cells (splice ([Value.slice (some ⟨N1 + 8, 0, none⟩) 2 2] ++ ([gi y] ++ [Value.bool f])) 1 [gi 0]) 24 0 false)).set (N1 + 4) (.cells (splice (splice ([Value.slice (some ⟨N1 + 8, 0, none⟩) 2 2] ++ ([gi y] ++ [Value.bool f])) 1 [gi 0]) 2 [Value.bool true]) 24 0 false)) = wRH2 x0 x1 e row k el rl nx fu M C 0 true := by kernel_rfl
theorem wR_h2_2 (x0 x1 : Nat) (e row k el rl : Nat) (nx : Int) (fu : Bool) (M : List Value) (c C : List Value) (x y : Int) (f : Bool) : (((wRH2 x0 x1 e row k el rl nx fu M c x f).set (N1 + 8) (.cells C 49 2 false)).set (N1 + 4) (.cells ([Value.slice (some ⟨N1 + 8, 0, none⟩) 2 2] ++ ([gi y] ++ [Value.bool f])) 24 0 false)) = wRH2 x0 x1 e row k el rl nx fu M C y f := by kernel_rfl
noncomputable abbrev wRHs2 (x0 x1 : Nat) (e row k el rl : Nat) (nx : Int) (fu : Bool) (M : List Value) (s : WSt) : AHeap := wRH2 x0 x1 e row k el rl nx fu M ((wC s).map gf) (Int.ofNat (wX s)) (wB s)
set_option maxRecDepth 100000 in
theorem wR_loop2 (x0 x1 : Nat) (e row k el rl : Nat) (nx : Int) (fu : Bool) (m : List Nat) (p qq : Nat) (s : WSt) (hp : p ≤ m.length) (hl : p ≤ 1000000) (hs : s.1.length = 2 ∧ s.2.1 < 2) : ∀ a : AAct, a.n = 58 → a.marks = [] → [1, 2, 4, 5, 7].map a.tmp = [slA' p qq, ptB 2, ptB 3, ptB 4, gi 0] →
    J Tryz.prog (.loop (loopOf Tryz.prog 15 2)) a (wRHs2 x0 x1 e row k el rl nx fu (m.map gf) s) (told 58 [1, 2, 4, 5, 7] fun ex vs h => ex = .exit 2 ∧ vs = [slA' p qq, ptB 2, ptB 3, ptB 4, goN p] ∧ h = wRHs2 x0 x1 e row k el rl nx fu (m.map gf) (wrF 2 s (m.take p))) := by
  intro a ha hm hv
  refine loop_rule (fun d vs h => ∃ j, j ≤ p ∧ d = p - j ∧ vs = [slA' p qq, ptB 2, ptB 3, ptB 4, goN j] ∧ h = wRHs2 x0 x1 e row k el rl nx fu (m.map gf) (wrF 2 s (m.take j))) _ ?_ p _ _ a ⟨0, Nat.zero_le _, rfl, rfl, rfl⟩ ha hm hv
  rintro d vs h g ⟨j, hj, rfl, rfl, rfl⟩
  obtain ⟨ho, hx⟩ := wrF_ok (m.take j) hs
  refine execC_ok mixed orcRgG_ok (noAsks_ok _) (noLoops _) (Eq.mpr (wR_body2 x0 x1 e row k el rl nx fu _ _ _ _ p qq j g _) ?_)
  refine ⟨fun hlt => ?_, fun hge => ?_⟩
  · have hj' := blt_true hlt
    obtain ⟨h1, h2⟩ := float_at (l := m) (j := j) (by omega)
    have hst := wrF_snoc 2 s (L := m) (j := j) (by omega)
    generalize wrF 2 s (m.take j) = u at ho hx hst ⊢
    have ho : (wC u).length = 2 := ho
    have hx : wX u < 2 := hx
    rw [h2, splice_gf (by omega)]
    have e1 : fwrap IntKind.i64 (Int.ofNat (wX u) + 1) = Int.ofNat (wX u + 1) := by
      rw [show Int.ofNat (wX u) + 1 = Int.ofNat (wX u + 1) from rfl, fwrap_nat (by omega)]
    rw [e1]
    refine ⟨hlt, h2 ▸ h1, by show Nat.blt (wX u) 2 = true; rw [Nat.blt_eq]; exact hx, by rw [Nat.ble_eq, List.length_map]; show 0 + wX u * 1 + 1 ≤ (wC u).length; omega, fun hc => ⟨p - (j + 1), by omega, j + 1, hj', rfl, by rw [fwrap_nat (by omega)], ?_⟩, fun hc => ⟨p - (j + 1), by omega, j + 1, hj', rfl, by rw [fwrap_nat (by omega)], ?_⟩⟩
    · rw [ieq_dec] at hc
      have hc : wX u + 1 = 2 := by have := of_decide_eq_true hc; simp only [Int.ofNat_eq_natCast] at this; omega
      rw [wR_h1_2, hst]
      unfold wrS wRHs2
      have hc : u.2.1 + 1 = 2 := hc
      rw [if_pos hc, if_pos hc]; rfl
    · rw [ieq_dec] at hc
      have hc : ¬ wX u + 1 = 2 := by have := of_decide_eq_false hc; simp only [Int.ofNat_eq_natCast] at this; omega
      rw [wR_h2_2, hst]
      unfold wrS wRHs2
      have hc : ¬ u.2.1 + 1 = 2 := hc
      rw [if_neg hc, if_neg hc]; rfl
  · have := blt_false hge
    obtain rfl : j = p := by omega
    exact ⟨rfl, rfl, rfl⟩
noncomputable def wRLoops2 (x0 x1 : Nat) (e row k el rl : Nat) (nx : Int) (fu : Bool) (m : List Nat) (p qq x : Nat) : Loops Tryz.prog where
  body := fun i => loopOf Tryz.prog 15 i
  spec := fun i a h c => match i with
    | 0 => entry a 58 [(1, slA' p qq), (2, ptB 2), (4, ptB 3), (5, ptB 4), (6, gi 0)] (h = w0H [gf x0, gf x1] e row 2 k nx fu (m.map gf) el rl nilS nx fu ∧ ∀ g, c (.exit 0) (stOf 58 [(1, slA' p qq), (2, ptB 2), (4, ptB 3), (5, ptB 4), (6, gi 2)] g) (wRH2 x0 x1 e row k el rl nx fu (m.map gf) [gf x0, gf x1] nx fu))
    | 2 => entry a 58 [(1, slA' p qq), (2, ptB 2), (4, ptB 3), (5, ptB 4), (7, gi 0)] (h = wRH2 x0 x1 e row k el rl nx fu (m.map gf) [gf x0, gf x1] nx fu ∧ nx = Int.ofNat x ∧ (p ≤ m.length ∧ p ≤ 1000000 ∧ x < 2) ∧ ∀ g, c (.exit 2) (stOf 58 [(1, slA' p qq), (2, ptB 2), (4, ptB 3), (5, ptB 4), (7, goN p)] g) (wRHs2 x0 x1 e row k el rl nx fu (m.map gf) (wrF 2 ([x0, x1], x, fu) (m.take p))))
    | _ => False
  ok := fun i a h c q => by
    match i, q with
    | 0, q =>
      obtain ⟨h1, h2, h3, rfl, h4⟩ := entry_facts q
      refine J.of_told (w0J_2 x0 x1 e row k el rl nx fu (m.map gf) p qq a h1 h2 ?_) ?_
      · simp only [List.map_cons, List.map_nil]
        rw [h3 (1, slA' p qq) (by simp), h3 (2, ptB 2) (by simp), h3 (4, ptB 3) (by simp), h3 (5, ptB 4) (by simp), h3 (6, gi 0) (by simp)]
      · rintro ex vs h' g ⟨rfl, rfl, rfl⟩
        exact h4 g
    | 2, q =>
      obtain ⟨h1, h2, h3, rfl, rfl, ⟨hs, hs2, hs3⟩, h4⟩ := entry_facts q
      refine J.of_told (wR_loop2 x0 x1 e row k el rl (Int.ofNat x) fu m p qq ([x0, x1], x, fu) hs hs2 ⟨rfl, hs3⟩ a h1 h2 ?_) ?_
      · simp only [List.map_cons, List.map_nil]
        rw [h3 (1, slA' p qq) (by simp), h3 (2, ptB 2) (by simp), h3 (4, ptB 3) (by simp), h3 (5, ptB 4) (by simp), h3 (7, gi 0) (by simp)]
      · rintro ex vs h' g ⟨rfl, rfl, rfl⟩
        exact h4 g
set_option maxRecDepth 100000 in
theorem w0J_3 (x0 x1 x2 : Nat) (e row k el rl : Nat) (nx : Int) (fu : Bool) (M : List Value) (p qq : Nat) : ∀ a : AAct, a.n = 58 → a.marks = [] → [1, 2, 4, 5, 6].map a.tmp = [slA' p qq, ptB 2, ptB 3, ptB 4, gi 0] →
    J Tryz.prog (.loop (loopOf Tryz.prog 15 0)) a (w0H [gf x0, gf x1, gf x2] e row 3 k nx fu M el rl nilS nx fu) (told 58 [1, 2, 4, 5, 6] fun ex vs h => ex = .exit 0 ∧ vs = [slA' p qq, ptB 2, ptB 3, ptB 4, gi 3] ∧ h = wRH3 x0 x1 x2 e row k el rl nx fu M [gf x0, gf x1, gf x2] nx fu) := by
  intro a hn hm hv
  refine J.of_facts (l := [(1, slA' p qq), (2, ptB 2), (4, ptB 3), (5, ptB 4), (6, gi 0)]) hn hm (zip_facts hv) fun g => J.ofE mixed orcRgG_ok (noAsks_ok _) (Eq.mpr (w0_3 x0 x1 x2 e row k el rl nx fu M p qq g _) ⟨rfl, rfl, rfl, rfl, rfl, rfl, rfl, rfl, rfl, rfl, rfl, ?_⟩)
  kernel_rfl
theorem wR_h1_3 (x0 x1 x2 : Nat) (e row k el rl : Nat) (nx : Int) (fu : Bool) (M : List Value) (c C : List Value) (x y : Int) (f : Bool) : (((((wRH3 x0 x1 x2 e row k el rl nx fu M c x f).set (N1 + 10) (.cells C 49 2 false)).set (N1 + 4) (.cells ([Value.slice (some ⟨N1 + 10, 0, none⟩) 3 3] ++ ([gi y] ++ [Value.bool f])) 24 0 false)).set (N1 + 4) (.cells (splice ([Value.slice (some ⟨N1 + 10, 0, none⟩) 3 3] ++ ([gi y] ++ [Value.bool f])) 1 [gi 0]) 24 0 false)).set (N1 + 4) (.cells (splice (splice ([Value.slice (some ⟨N1 + 10, 0, none⟩) 3 3] ++ ([gi y] ++ [Value.bool f])) 1 [gi 0]) 2 [Value.bool true]) 24 0 false)) = wRH3 x0 x1 x2 e row k el rl nx fu M C 0 true := by kernel_rfl
theorem wR_h2_3 (x0 x1 x2 : Nat) (e row k el rl : Nat) (nx : Int) (fu : Bool) (M : List Value) (c C : List Value) (x y : Int) (f : Bool) : (((wRH3 x0 x1 x2 e row k el rl nx fu M c x f).set (N1 + 10) (.cells C 49 2 false)).set (N1 + 4) (.cells ([Value.slice (some ⟨N1 + 10, 0, none⟩) 3 3] ++ ([gi y] ++ [Value.bool f])) 24 0 false)) = wRH3 x0 x1 x2 e row k el rl nx fu M C y f := by kernel_rfl
noncomputable abbrev wRHs3 (x0 x1 x2 : Nat) (e row k el rl : Nat) (nx : Int) (fu : Bool) (M : List Value) (s : WSt) : AHeap := wRH3 x0 x1 x2 e row k el rl nx fu M ((wC s).map gf) (Int.ofNat (wX s)) (wB s)
set_option maxRecDepth 100000 in
theorem wR_loop3 (x0 x1 x2 : Nat) (e row k el rl : Nat) (nx : Int) (fu : Bool) (m : List Nat) (p qq : Nat) (s : WSt) (hp : p ≤ m.length) (hl : p ≤ 1000000) (hs : s.1.length = 3 ∧ s.2.1 < 3) : ∀ a : AAct, a.n = 58 → a.marks = [] → [1, 2, 4, 5, 7].map a.tmp = [slA' p qq, ptB 2, ptB 3, ptB 4, gi 0] →
    J Tryz.prog (.loop (loopOf Tryz.prog 15 2)) a (wRHs3 x0 x1 x2 e row k el rl nx fu (m.map gf) s) (told 58 [1, 2, 4, 5, 7] fun ex vs h => ex = .exit 2 ∧ vs = [slA' p qq, ptB 2, ptB 3, ptB 4, goN p] ∧ h = wRHs3 x0 x1 x2 e row k el rl nx fu (m.map gf) (wrF 3 s (m.take p))) := by
  intro a ha hm hv
  refine loop_rule (fun d vs h => ∃ j, j ≤ p ∧ d = p - j ∧ vs = [slA' p qq, ptB 2, ptB 3, ptB 4, goN j] ∧ h = wRHs3 x0 x1 x2 e row k el rl nx fu (m.map gf) (wrF 3 s (m.take j))) _ ?_ p _ _ a ⟨0, Nat.zero_le _, rfl, rfl, rfl⟩ ha hm hv
  rintro d vs h g ⟨j, hj, rfl, rfl, rfl⟩
  obtain ⟨ho, hx⟩ := wrF_ok (m.take j) hs
  refine execC_ok mixed orcRgG_ok (noAsks_ok _) (noLoops _) (Eq.mpr (wR_body3 x0 x1 x2 e row k el rl nx fu _ _ _ _ p qq j g _) ?_)
  refine ⟨fun hlt => ?_, fun hge => ?_⟩
  · have hj' := blt_true hlt
    obtain ⟨h1, h2⟩ := float_at (l := m) (j := j) (by omega)
    have hst := wrF_snoc 3 s (L := m) (j := j) (by omega)
    generalize wrF 3 s (m.take j) = u at ho hx hst ⊢
    have ho : (wC u).length = 3 := ho
    have hx : wX u < 3 := hx
    rw [h2, splice_gf (by omega)]
    have e1 : fwrap IntKind.i64 (Int.ofNat (wX u) + 1) = Int.ofNat (wX u + 1) := by
      rw [show Int.ofNat (wX u) + 1 = Int.ofNat (wX u + 1) from rfl, fwrap_nat (by omega)]
    rw [e1]
    refine ⟨hlt, h2 ▸ h1, by show Nat.blt (wX u) 3 = true; rw [Nat.blt_eq]; exact hx, by rw [Nat.ble_eq, List.length_map]; show 0 + wX u * 1 + 1 ≤ (wC u).length; omega, fun hc => ⟨p - (j + 1), by omega, j + 1, hj', rfl, by rw [fwrap_nat (by omega)], ?_⟩, fun hc => ⟨p - (j + 1), by omega, j + 1, hj', rfl, by rw [fwrap_nat (by omega)], ?_⟩⟩
    · rw [ieq_dec] at hc
      have hc : wX u + 1 = 3 := by have := of_decide_eq_true hc; simp only [Int.ofNat_eq_natCast] at this; omega
      rw [wR_h1_3, hst]
      unfold wrS wRHs3
      have hc : u.2.1 + 1 = 3 := hc
      rw [if_pos hc, if_pos hc]; rfl
    · rw [ieq_dec] at hc
      have hc : ¬ wX u + 1 = 3 := by have := of_decide_eq_false hc; simp only [Int.ofNat_eq_natCast] at this; omega
      rw [wR_h2_3, hst]
      unfold wrS wRHs3
      have hc : ¬ u.2.1 + 1 = 3 := hc
      rw [if_neg hc, if_neg hc]; rfl
  · have := blt_false hge
    obtain rfl : j = p := by omega
    exact ⟨rfl, rfl, rfl⟩
noncomputable def wRLoops3 (x0 x1 x2 : Nat) (e row k el rl : Nat) (nx : Int) (fu : Bool) (m : List Nat) (p qq x : Nat) : Loops Tryz.prog where
  body := fun i => loopOf Tryz.prog 15 i
  spec := fun i a h c => match i with
    | 0 => entry a 58 [(1, slA' p qq), (2, ptB 2), (4, ptB 3), (5, ptB 4), (6, gi 0)] (h = w0H [gf x0, gf x1, gf x2] e row 3 k nx fu (m.map gf) el rl nilS nx fu ∧ ∀ g, c (.exit 0) (stOf 58 [(1, slA' p qq), (2, ptB 2), (4, ptB 3), (5, ptB 4), (6, gi 3)] g) (wRH3 x0 x1 x2 e row k el rl nx fu (m.map gf) [gf x0, gf x1, gf x2] nx fu))
    | 2 => entry a 58 [(1, slA' p qq), (2, ptB 2), (4, ptB 3), (5, ptB 4), (7, gi 0)] (h = wRH3 x0 x1 x2 e row k el rl nx fu (m.map gf) [gf x0, gf x1, gf x2] nx fu ∧ nx = Int.ofNat x ∧ (p ≤ m.length ∧ p ≤ 1000000 ∧ x < 3) ∧ ∀ g, c (.exit 2) (stOf 58 [(1, slA' p qq), (2, ptB 2), (4, ptB 3), (5, ptB 4), (7, goN p)] g) (wRHs3 x0 x1 x2 e row k el rl nx fu (m.map gf) (wrF 3 ([x0, x1, x2], x, fu) (m.take p))))
    | _ => False
  ok := fun i a h c q => by
    match i, q with
    | 0, q =>
      obtain ⟨h1, h2, h3, rfl, h4⟩ := entry_facts q
      refine J.of_told (w0J_3 x0 x1 x2 e row k el rl nx fu (m.map gf) p qq a h1 h2 ?_) ?_
      · simp only [List.map_cons, List.map_nil]
        rw [h3 (1, slA' p qq) (by simp), h3 (2, ptB 2) (by simp), h3 (4, ptB 3) (by simp), h3 (5, ptB 4) (by simp), h3 (6, gi 0) (by simp)]
      · rintro ex vs h' g ⟨rfl, rfl, rfl⟩
        exact h4 g
    | 2, q =>
      obtain ⟨h1, h2, h3, rfl, rfl, ⟨hs, hs2, hs3⟩, h4⟩ := entry_facts q
      refine J.of_told (wR_loop3 x0 x1 x2 e row k el rl (Int.ofNat x) fu m p qq ([x0, x1, x2], x, fu) hs hs2 ⟨rfl, hs3⟩ a h1 h2 ?_) ?_
      · simp only [List.map_cons, List.map_nil]
        rw [h3 (1, slA' p qq) (by simp), h3 (2, ptB 2) (by simp), h3 (4, ptB 3) (by simp), h3 (5, ptB 4) (by simp), h3 (7, gi 0) (by simp)]
      · rintro ex vs h' g ⟨rfl, rfl, rfl⟩
        exact h4 g
set_option maxRecDepth 100000 in
theorem w0J_4 (x0 x1 x2 x3 : Nat) (e row k el rl : Nat) (nx : Int) (fu : Bool) (M : List Value) (p qq : Nat) : ∀ a : AAct, a.n = 58 → a.marks = [] → [1, 2, 4, 5, 6].map a.tmp = [slA' p qq, ptB 2, ptB 3, ptB 4, gi 0] →
    J Tryz.prog (.loop (loopOf Tryz.prog 15 0)) a (w0H [gf x0, gf x1, gf x2, gf x3] e row 4 k nx fu M el rl nilS nx fu) (told 58 [1, 2, 4, 5, 6] fun ex vs h => ex = .exit 0 ∧ vs = [slA' p qq, ptB 2, ptB 3, ptB 4, gi 4] ∧ h = wRH4 x0 x1 x2 x3 e row k el rl nx fu M [gf x0, gf x1, gf x2, gf x3] nx fu) := by
  intro a hn hm hv
  refine J.of_facts (l := [(1, slA' p qq), (2, ptB 2), (4, ptB 3), (5, ptB 4), (6, gi 0)]) hn hm (zip_facts hv) fun g => J.ofE mixed orcRgG_ok (noAsks_ok _) (Eq.mpr (w0_4 x0 x1 x2 x3 e row k el rl nx fu M p qq g _) ⟨rfl, rfl, rfl, rfl, rfl, rfl, rfl, rfl, rfl, rfl, rfl, rfl, rfl, rfl, ?_⟩)
  kernel_rfl
theorem wR_h1_4 (x0 x1 x2 x3 : Nat) (e row k el rl : Nat) (nx : Int) (fu : Bool) (M : List Value) (c C : List Value) (x y : Int) (f : Bool) : (((((wRH4 x0 x1 x2 x3 e row k el rl nx fu M c x f).set (N1 + 12) (.cells C 49 2 false)).set (N1 + 4) (.cells ([Value.slice (some ⟨N1 + 12, 0, none⟩) 4 4] ++ ([gi y] ++ [Value.bool f])) 24 0 false)).set (N1 + 4) (.cells (splice ([Value.slice (some ⟨N1 + 12, 0, none⟩) 4 4] ++ ([gi y] ++ [Value.bool f])) 1 [gi 0]) 24 0 false)).set (N1 + 4) (.cells (splice (splice ([Value.slice (some ⟨N1 + 12, 0, none⟩) 4 4] ++ ([gi y] ++ [Value.bool f])) 1 [gi 0]) 2 [Value.bool true]) 24 0 false)) = wRH4 x0 x1 x2 x3 e row k el rl nx fu M C 0 true := by kernel_rfl
theorem wR_h2_4 (x0 x1 x2 x3 : Nat) (e row k el rl : Nat) (nx : Int) (fu : Bool) (M : List Value) (c C : List Value) (x y : Int) (f : Bool) : (((wRH4 x0 x1 x2 x3 e row k el rl nx fu M c x f).set (N1 + 12) (.cells C 49 2 false)).set (N1 + 4) (.cells ([Value.slice (some ⟨N1 + 12, 0, none⟩) 4 4] ++ ([gi y] ++ [Value.bool f])) 24 0 false)) = wRH4 x0 x1 x2 x3 e row k el rl nx fu M C y f := by kernel_rfl
noncomputable abbrev wRHs4 (x0 x1 x2 x3 : Nat) (e row k el rl : Nat) (nx : Int) (fu : Bool) (M : List Value) (s : WSt) : AHeap := wRH4 x0 x1 x2 x3 e row k el rl nx fu M ((wC s).map gf) (Int.ofNat (wX s)) (wB s)
set_option maxRecDepth 100000 in
theorem wR_loop4 (x0 x1 x2 x3 : Nat) (e row k el rl : Nat) (nx : Int) (fu : Bool) (m : List Nat) (p qq : Nat) (s : WSt) (hp : p ≤ m.length) (hl : p ≤ 1000000) (hs : s.1.length = 4 ∧ s.2.1 < 4) : ∀ a : AAct, a.n = 58 → a.marks = [] → [1, 2, 4, 5, 7].map a.tmp = [slA' p qq, ptB 2, ptB 3, ptB 4, gi 0] →
    J Tryz.prog (.loop (loopOf Tryz.prog 15 2)) a (wRHs4 x0 x1 x2 x3 e row k el rl nx fu (m.map gf) s) (told 58 [1, 2, 4, 5, 7] fun ex vs h => ex = .exit 2 ∧ vs = [slA' p qq, ptB 2, ptB 3, ptB 4, goN p] ∧ h = wRHs4 x0 x1 x2 x3 e row k el rl nx fu (m.map gf) (wrF 4 s (m.take p))) := by
  intro a ha hm hv
  refine loop_rule (fun d vs h => ∃ j, j ≤ p ∧ d = p - j ∧ vs = [slA' p qq, ptB 2, ptB 3, ptB 4, goN j] ∧ h = wRHs4 x0 x1 x2 x3 e row k el rl nx fu (m.map gf) (wrF 4 s (m.take j))) _ ?_ p _ _ a ⟨0, Nat.zero_le _, rfl, rfl, rfl⟩ ha hm hv
  rintro d vs h g ⟨j, hj, rfl, rfl, rfl⟩
  obtain ⟨ho, hx⟩ := wrF_ok (m.take j) hs
  refine execC_ok mixed orcRgG_ok (noAsks_ok _) (noLoops _) (Eq.mpr (wR_body4 x0 x1 x2 x3 e row k el rl nx fu _ _ _ _ p qq j g _) ?_)
  refine ⟨fun hlt => ?_, fun hge => ?_⟩
  · have hj' := blt_true hlt
    obtain ⟨h1, h2⟩ := float_at (l := m) (j := j) (by omega)
    have hst := wrF_snoc 4 s (L := m) (j := j) (by omega)
    generalize wrF 4 s (m.take j) = u at ho hx hst ⊢
    have ho : (wC u).length = 4 := ho
    have hx : wX u < 4 := hx
    rw [h2, splice_gf (by omega)]
    have e1 : fwrap IntKind.i64 (Int.ofNat (wX u) + 1) = Int.ofNat (wX u + 1) := by
      rw [show Int.ofNat (wX u) + 1 = Int.ofNat (wX u + 1) from rfl, fwrap_nat (by omega)]
    rw [e1]
    refine ⟨hlt, h2 ▸ h1, by show Nat.blt (wX u) 4 = true; rw [Nat.blt_eq]; exact hx, by rw [Nat.ble_eq, List.length_map]; show 0 + wX u * 1 + 1 ≤ (wC u).length; omega, fun hc => ⟨p - (j + 1), by omega, j + 1, hj', rfl, by rw [fwrap_nat (by omega)], ?_⟩, fun hc => ⟨p - (j + 1), by omega, j + 1, hj', rfl, by rw [fwrap_nat (by omega)], ?_⟩⟩
    · rw [ieq_dec] at hc
      have hc : wX u + 1 = 4 := by have := of_decide_eq_true hc; simp only [Int.ofNat_eq_natCast] at this; omega
      rw [wR_h1_4, hst]
      unfold wrS wRHs4
      have hc : u.2.1 + 1 = 4 := hc
      rw [if_pos hc, if_pos hc]; rfl
    · rw [ieq_dec] at hc
      have hc : ¬ wX u + 1 = 4 := by have := of_decide_eq_false hc; simp only [Int.ofNat_eq_natCast] at this; omega
      rw [wR_h2_4, hst]
      unfold wrS wRHs4
      have hc : ¬ u.2.1 + 1 = 4 := hc
      rw [if_neg hc, if_neg hc]; rfl
  · have := blt_false hge
    obtain rfl : j = p := by omega
    exact ⟨rfl, rfl, rfl⟩
noncomputable def wRLoops4 (x0 x1 x2 x3 : Nat) (e row k el rl : Nat) (nx : Int) (fu : Bool) (m : List Nat) (p qq x : Nat) : Loops Tryz.prog where
  body := fun i => loopOf Tryz.prog 15 i
  spec := fun i a h c => match i with
    | 0 => entry a 58 [(1, slA' p qq), (2, ptB 2), (4, ptB 3), (5, ptB 4), (6, gi 0)] (h = w0H [gf x0, gf x1, gf x2, gf x3] e row 4 k nx fu (m.map gf) el rl nilS nx fu ∧ ∀ g, c (.exit 0) (stOf 58 [(1, slA' p qq), (2, ptB 2), (4, ptB 3), (5, ptB 4), (6, gi 4)] g) (wRH4 x0 x1 x2 x3 e row k el rl nx fu (m.map gf) [gf x0, gf x1, gf x2, gf x3] nx fu))
    | 2 => entry a 58 [(1, slA' p qq), (2, ptB 2), (4, ptB 3), (5, ptB 4), (7, gi 0)] (h = wRH4 x0 x1 x2 x3 e row k el rl nx fu (m.map gf) [gf x0, gf x1, gf x2, gf x3] nx fu ∧ nx = Int.ofNat x ∧ (p ≤ m.length ∧ p ≤ 1000000 ∧ x < 4) ∧ ∀ g, c (.exit 2) (stOf 58 [(1, slA' p qq), (2, ptB 2), (4, ptB 3), (5, ptB 4), (7, goN p)] g) (wRHs4 x0 x1 x2 x3 e row k el rl nx fu (m.map gf) (wrF 4 ([x0, x1, x2, x3], x, fu) (m.take p))))
    | _ => False
  ok := fun i a h c q => by
    match i, q with
    | 0, q =>
      obtain ⟨h1, h2, h3, rfl, h4⟩ := entry_facts q
      refine J.of_told (w0J_4 x0 x1 x2 x3 e row k el rl nx fu (m.map gf) p qq a h1 h2 ?_) ?_
      · simp only [List.map_cons, List.map_nil]
        rw [h3 (1, slA' p qq) (by simp), h3 (2, ptB 2) (by simp), h3 (4, ptB 3) (by simp), h3 (5, ptB 4) (by simp), h3 (6, gi 0) (by simp)]
      · rintro ex vs h' g ⟨rfl, rfl, rfl⟩
        exact h4 g
    | 2, q =>
      obtain ⟨h1, h2, h3, rfl, rfl, ⟨hs, hs2, hs3⟩, h4⟩ := entry_facts q
      refine J.of_told (wR_loop4 x0 x1 x2 x3 e row k el rl (Int.ofNat x) fu m p qq ([x0, x1, x2, x3], x, fu) hs hs2 ⟨rfl, hs3⟩ a h1 h2 ?_) ?_
      · simp only [List.map_cons, List.map_nil]
        rw [h3 (1, slA' p qq) (by simp), h3 (2, ptB 2) (by simp), h3 (4, ptB 3) (by simp), h3 (5, ptB 4) (by simp), h3 (7, gi 0) (by simp)]
      · rintro ex vs h' g ⟨rfl, rfl, rfl⟩
        exact h4 g
set_option maxRecDepth 100000 in
theorem w0J_5 (x0 x1 x2 x3 x4 : Nat) (e row k el rl : Nat) (nx : Int) (fu : Bool) (M : List Value) (p qq : Nat) : ∀ a : AAct, a.n = 58 → a.marks = [] → [1, 2, 4, 5, 6].map a.tmp = [slA' p qq, ptB 2, ptB 3, ptB 4, gi 0] →
    J Tryz.prog (.loop (loopOf Tryz.prog 15 0)) a (w0H [gf x0, gf x1, gf x2, gf x3, gf x4] e row 5 k nx fu M el rl nilS nx fu) (told 58 [1, 2, 4, 5, 6] fun ex vs h => ex = .exit 0 ∧ vs = [slA' p qq, ptB 2, ptB 3, ptB 4, gi 5] ∧ h = wRH5 x0 x1 x2 x3 x4 e row k el rl nx fu M [gf x0, gf x1, gf x2, gf x3, gf x4] nx fu) := by
  intro a hn hm hv
  refine J.of_facts (l := [(1, slA' p qq), (2, ptB 2), (4, ptB 3), (5, ptB 4), (6, gi 0)]) hn hm (zip_facts hv) fun g => J.ofE mixed orcRgG_ok (noAsks_ok _) (Eq.mpr (w0_5 x0 x1 x2 x3 x4 e row k el rl nx fu M p qq g _) ⟨rfl, rfl, rfl, rfl, rfl, rfl, rfl, rfl, rfl, rfl, rfl, rfl, rfl, rfl, rfl, rfl, rfl, ?_⟩)
  kernel_rfl
theorem wR_h1_5 (x0 x1 x2 x3 x4 : Nat) (e row k el rl : Nat) (nx : Int) (fu : Bool) (M : List Value) (c C : List Value) (x y : Int) (f : Bool) : (((((wRH5 x0 x1 x2 x3 x4 e row k el rl nx fu M c x f).set (N1 + 14) (.cells C 49 2 false)).set (N1 + 4) (.cells ([Value.slice (some ⟨N1 + 14, 0, none⟩) 5 5] ++ ([gi y] ++ [Value.bool f])) 24 0 false)).set (N1 + 4) (.cells (splice ([Value.slice (some ⟨N1 + 14, 0, none⟩) 5 5] ++ ([gi y] ++ [Value.bool f])) 1 [gi 0]) 24 0 false)).set (N1 + 4) (.cells (splice (splice ([Value.slice (some ⟨N1 + 14, 0, none⟩) 5 5] ++ ([gi y] ++ [Value.bool f])) 1 [gi 0]) 2 [Value.bool true]) 24 0 false)) = wRH5 x0 x1 x2 x3 x4 e row k el rl nx fu M C 0 true := by kernel_rfl
theorem wR_h2_5 (x0 x1 x2 x3 x4 : Nat) (e row k el rl : Nat) (nx : Int) (fu : Bool) (M : List Value) (c C : List Value) (x y : Int) (f : Bool) : (((wRH5 x0 x1 x2 x3 x4 e row k el rl nx fu M c x f).set (N1 + 14) (.cells C 49 2 false)).set (N1 + 4) (.cells ([Value.slice (some ⟨N1 + 14, 0, none⟩) 5 5] ++ ([gi y] ++ [Value.bool f])) 24 0 false)) = wRH5 x0 x1 x2 x3 x4 e row k el rl nx fu M C y f := by kernel_rfl
noncomputable abbrev wRHs5 (x0 x1 x2 x3 x4 : Nat) (e row k el rl : Nat) (nx : Int) (fu : Bool) (M : List Value) (s : WSt) : AHeap := wRH5 x0 x1 x2 x3 x4 e row k el rl nx fu M ((wC s).map gf) (Int.ofNat (wX s)) (wB s)
set_option maxRecDepth 100000 in
theorem wR_loop5 (x0 x1 x2 x3 x4 : Nat) (e row k el rl : Nat) (nx : Int) (fu : Bool) (m : List Nat) (p qq : Nat) (s : WSt) (hp : p ≤ m.length) (hl : p ≤ 1000000) (hs : s.1.length = 5 ∧ s.2.1 < 5) : ∀ a : AAct, a.n = 58 → a.marks = [] → [1, 2, 4, 5, 7].map a.tmp = [slA' p qq, ptB 2, ptB 3, ptB 4, gi 0] →
    J Tryz.prog (.loop (loopOf Tryz.prog 15 2)) a (wRHs5 x0 x1 x2 x3 x4 e row k el rl nx fu (m.map gf) s) (told 58 [1, 2, 4, 5, 7] fun ex vs h => ex = .exit 2 ∧ vs = [slA' p qq, ptB 2, ptB 3, ptB 4, goN p] ∧ h = wRHs5 x0 x1 x2 x3 x4 e row k el rl nx fu (m.map gf) (wrF 5 s (m.take p))) := by
  intro a ha hm hv
  refine loop_rule (fun d vs h => ∃ j, j ≤ p ∧ d = p - j ∧ vs = [slA' p qq, ptB 2, ptB 3, ptB 4, goN j] ∧ h = wRHs5 x0 x1 x2 x3 x4 e row k el rl nx fu (m.map gf) (wrF 5 s (m.take j))) _ ?_ p _ _ a ⟨0, Nat.zero_le _, rfl, rfl, rfl⟩ ha hm hv
  rintro d vs h g ⟨j, hj, rfl, rfl, rfl⟩
  obtain ⟨ho, hx⟩ := wrF_ok (m.take j) hs
  refine execC_ok mixed orcRgG_ok (noAsks_ok _) (noLoops _) (Eq.mpr (wR_body5 x0 x1 x2 x3 x4 e row k el rl nx fu _ _ _ _ p qq j g _) ?_)
  refine ⟨fun hlt => ?_, fun hge => ?_⟩
  · have hj' := blt_true hlt
    obtain ⟨h1, h2⟩ := float_at (l := m) (j := j) (by omega)
    have hst := wrF_snoc 5 s (L := m) (j := j) (by omega)
    generalize wrF 5 s (m.take j) = u at ho hx hst ⊢
    have ho : (wC u).length = 5 := ho
    have hx : wX u < 5 := hx
    rw [h2, splice_gf (by omega)]
    have e1 : fwrap IntKind.i64 (Int.ofNat (wX u) + 1) = Int.ofNat (wX u + 1) := by
      rw [show Int.ofNat (wX u) + 1 = Int.ofNat (wX u + 1) from rfl, fwrap_nat (by omega)]
    rw [e1]
    refine ⟨hlt, h2 ▸ h1, by show Nat.blt (wX u) 5 = true; rw [Nat.blt_eq]; exact hx, by rw [Nat.ble_eq, List.length_map]; show 0 + wX u * 1 + 1 ≤ (wC u).length; omega, fun hc => ⟨p - (j + 1), by omega, j + 1, hj', rfl, by rw [fwrap_nat (by omega)], ?_⟩, fun hc => ⟨p - (j + 1), by omega, j + 1, hj', rfl, by rw [fwrap_nat (by omega)], ?_⟩⟩
    · rw [ieq_dec] at hc
      have hc : wX u + 1 = 5 := by have := of_decide_eq_true hc; simp only [Int.ofNat_eq_natCast] at this; omega
      rw [wR_h1_5, hst]
      unfold wrS wRHs5
      have hc : u.2.1 + 1 = 5 := hc
      rw [if_pos hc, if_pos hc]; rfl
    · rw [ieq_dec] at hc
      have hc : ¬ wX u + 1 = 5 := by have := of_decide_eq_false hc; simp only [Int.ofNat_eq_natCast] at this; omega
      rw [wR_h2_5, hst]
      unfold wrS wRHs5
      have hc : ¬ u.2.1 + 1 = 5 := hc
      rw [if_neg hc, if_neg hc]; rfl
  · have := blt_false hge
    obtain rfl : j = p := by omega
    exact ⟨rfl, rfl, rfl⟩
noncomputable def wRLoops5 (x0 x1 x2 x3 x4 : Nat) (e row k el rl : Nat) (nx : Int) (fu : Bool) (m : List Nat) (p qq x : Nat) : Loops Tryz.prog where
  body := fun i => loopOf Tryz.prog 15 i
  spec := fun i a h c => match i with
    | 0 => entry a 58 [(1, slA' p qq), (2, ptB 2), (4, ptB 3), (5, ptB 4), (6, gi 0)] (h = w0H [gf x0, gf x1, gf x2, gf x3, gf x4] e row 5 k nx fu (m.map gf) el rl nilS nx fu ∧ ∀ g, c (.exit 0) (stOf 58 [(1, slA' p qq), (2, ptB 2), (4, ptB 3), (5, ptB 4), (6, gi 5)] g) (wRH5 x0 x1 x2 x3 x4 e row k el rl nx fu (m.map gf) [gf x0, gf x1, gf x2, gf x3, gf x4] nx fu))
    | 2 => entry a 58 [(1, slA' p qq), (2, ptB 2), (4, ptB 3), (5, ptB 4), (7, gi 0)] (h = wRH5 x0 x1 x2 x3 x4 e row k el rl nx fu (m.map gf) [gf x0, gf x1, gf x2, gf x3, gf x4] nx fu ∧ nx = Int.ofNat x ∧ (p ≤ m.length ∧ p ≤ 1000000 ∧ x < 5) ∧ ∀ g, c (.exit 2) (stOf 58 [(1, slA' p qq), (2, ptB 2), (4, ptB 3), (5, ptB 4), (7, goN p)] g) (wRHs5 x0 x1 x2 x3 x4 e row k el rl nx fu (m.map gf) (wrF 5 ([x0, x1, x2, x3, x4], x, fu) (m.take p))))
    | _ => False
  ok := fun i a h c q => by
    match i, q with
    | 0, q =>
      obtain ⟨h1, h2, h3, rfl, h4⟩ := entry_facts q
      refine J.of_told (w0J_5 x0 x1 x2 x3 x4 e row k el rl nx fu (m.map gf) p qq a h1 h2 ?_) ?_
      · simp only [List.map_cons, List.map_nil]
        rw [h3 (1, slA' p qq) (by simp), h3 (2, ptB 2) (by simp), h3 (4, ptB 3) (by simp), h3 (5, ptB 4) (by simp), h3 (6, gi 0) (by simp)]
      · rintro ex vs h' g ⟨rfl, rfl, rfl⟩
        exact h4 g
    | 2, q =>
      obtain ⟨h1, h2, h3, rfl, rfl, ⟨hs, hs2, hs3⟩, h4⟩ := entry_facts q
      refine J.of_told (wR_loop5 x0 x1 x2 x3 x4 e row k el rl (Int.ofNat x) fu m p qq ([x0, x1, x2, x3, x4], x, fu) hs hs2 ⟨rfl, hs3⟩ a h1 h2 ?_) ?_
      · simp only [List.map_cons, List.map_nil]
        rw [h3 (1, slA' p qq) (by simp), h3 (2, ptB 2) (by simp), h3 (4, ptB 3) (by simp), h3 (5, ptB 4) (by simp), h3 (7, gi 0) (by simp)]
      · rintro ex vs h' g ⟨rfl, rfl, rfl⟩
        exact h4 g
set_option maxRecDepth 100000 in
theorem w0J_6 (x0 x1 x2 x3 x4 x5 : Nat) (e row k el rl : Nat) (nx : Int) (fu : Bool) (M : List Value) (p qq : Nat) : ∀ a : AAct, a.n = 58 → a.marks = [] → [1, 2, 4, 5, 6].map a.tmp = [slA' p qq, ptB 2, ptB 3, ptB 4, gi 0] →
    J Tryz.prog (.loop (loopOf Tryz.prog 15 0)) a (w0H [gf x0, gf x1, gf x2, gf x3, gf x4, gf x5] e row 6 k nx fu M el rl nilS nx fu) (told 58 [1, 2, 4, 5, 6] fun ex vs h => ex = .exit 0 ∧ vs = [slA' p qq, ptB 2, ptB 3, ptB 4, gi 6] ∧ h = wRH6 x0 x1 x2 x3 x4 x5 e row k el rl nx fu M [gf x0, gf x1, gf x2, gf x3, gf x4, gf x5] nx fu) := by
  intro a hn hm hv
  refine J.of_facts (l := [(1, slA' p qq), (2, ptB 2), (4, ptB 3), (5, ptB 4), (6, gi 0)]) hn hm (zip_facts hv) fun g => J.ofE mixed orcRgG_ok (noAsks_ok _) (Eq.mpr (w0_6 x0 x1 x2 x3 x4 x5 e row k el rl nx fu M p qq g _) ⟨rfl, rfl, rfl, rfl, rfl, rfl, rfl, rfl, rfl, rfl, rfl, rfl, rfl, rfl, rfl, rfl, rfl, rfl, rfl, rfl, ?_⟩)
  kernel_rfl
theorem wR_h1_6 (x0 x1 x2 x3 x4 x5 : Nat) (e row k el rl : Nat) (nx : Int) (fu : Bool) (M : List Value) (c C : List Value) (x y : Int) (f : Bool) : (((((wRH6 x0 x1 x2 x3 x4 x5 e row k el rl nx fu M c x f).set (N1 + 16) (.cells C 49 2 false)).set (N1 + 4) (.cells ([Value.slice (some ⟨N1 + 16, 0, none⟩) 6 6] ++ ([gi y] ++ [Value.bool f])) 24 0 false)).set (N1 + 4) (.cells (splice ([Value.slice (some ⟨N1 + 16, 0, none⟩) 6 6] ++ ([gi y] ++ [Value.bool f])) 1 [gi 0]) 24 0 false)).set (N1 + 4) (.cells (splice (splice ([Value.slice (some ⟨N1 + 16, 0, none⟩) 6 6] ++ ([gi y] ++ [Value.bool f])) 1 [gi 0]) 2 [Value.bool true]) 24 0 false)) = wRH6 x0 x1 x2 x3 x4 x5 e row k el rl nx fu M C 0 true := by kernel_rfl
theorem wR_h2_6 (x0 x1 x2 x3 x4 x5 : Nat) (e row k el rl : Nat) (nx : Int) (fu : Bool) (M : List Value) (c C : List Value) (x y : Int) (f : Bool) : (((wRH6 x0 x1 x2 x3 x4 x5 e row k el rl nx fu M c x f).set (N1 + 16) (.cells C 49 2 false)).set (N1 + 4) (.cells ([Value.slice (some ⟨N1 + 16, 0, none⟩) 6 6] ++ ([gi y] ++ [Value.bool f])) 24 0 false)) = wRH6 x0 x1 x2 x3 x4 x5 e row k el rl nx fu M C y f := by kernel_rfl
noncomputable abbrev wRHs6 (x0 x1 x2 x3 x4 x5 : Nat) (e row k el rl : Nat) (nx : Int) (fu : Bool) (M : List Value) (s : WSt) : AHeap := wRH6 x0 x1 x2 x3 x4 x5 e row k el rl nx fu M ((wC s).map gf) (Int.ofNat (wX s)) (wB s)
set_option maxRecDepth 100000 in
theorem wR_loop6 (x0 x1 x2 x3 x4 x5 : Nat) (e row k el rl : Nat) (nx : Int) (fu : Bool) (m : List Nat) (p qq : Nat) (s : WSt) (hp : p ≤ m.length) (hl : p ≤ 1000000) (hs : s.1.length = 6 ∧ s.2.1 < 6) : ∀ a : AAct, a.n = 58 → a.marks = [] → [1, 2, 4, 5, 7].map a.tmp = [slA' p qq, ptB 2, ptB 3, ptB 4, gi 0] →
    J Tryz.prog (.loop (loopOf Tryz.prog 15 2)) a (wRHs6 x0 x1 x2 x3 x4 x5 e row k el rl nx fu (m.map gf) s) (told 58 [1, 2, 4, 5, 7] fun ex vs h => ex = .exit 2 ∧ vs = [slA' p qq, ptB 2, ptB 3, ptB 4, goN p] ∧ h = wRHs6 x0 x1 x2 x3 x4 x5 e row k el rl nx fu (m.map gf) (wrF 6 s (m.take p))) := by
  intro a ha hm hv
  refine loop_rule (fun d vs h => ∃ j, j ≤ p ∧ d = p - j ∧ vs = [slA' p qq, ptB 2, ptB 3, ptB 4, goN j] ∧ h = wRHs6 x0 x1 x2 x3 x4 x5 e row k el rl nx fu (m.map gf) (wrF 6 s (m.take j))) _ ?_ p _ _ a ⟨0, Nat.zero_le _, rfl, rfl, rfl⟩ ha hm hv
  rintro d vs h g ⟨j, hj, rfl, rfl, rfl⟩
  obtain ⟨ho, hx⟩ := wrF_ok (m.take j) hs
  refine execC_ok mixed orcRgG_ok (noAsks_ok _) (noLoops _) (Eq.mpr (wR_body6 x0 x1 x2 x3 x4 x5 e row k el rl nx fu _ _ _ _ p qq j g _) ?_)
  refine ⟨fun hlt => ?_, fun hge => ?_⟩
  · have hj' := blt_true hlt
    obtain ⟨h1, h2⟩ := float_at (l := m) (j := j) (by omega)
    have hst := wrF_snoc 6 s (L := m) (j := j) (by omega)
    generalize wrF 6 s (m.take j) = u at ho hx hst ⊢
    have ho : (wC u).length = 6 := ho
    have hx : wX u < 6 := hx
    rw [h2, splice_gf (by omega)]
    have e1 : fwrap IntKind.i64 (Int.ofNat (wX u) + 1) = Int.ofNat (wX u + 1) := by
      rw [show Int.ofNat (wX u) + 1 = Int.ofNat (wX u + 1) from rfl, fwrap_nat (by omega)]
    rw [e1]
    refine ⟨hlt, h2 ▸ h1, by show Nat.blt (wX u) 6 = true; rw [Nat.blt_eq]; exact hx, by rw [Nat.ble_eq, List.length_map]; show 0 + wX u * 1 + 1 ≤ (wC u).length; omega, fun hc => ⟨p - (j + 1), by omega, j + 1, hj', rfl, by rw [fwrap_nat (by omega)], ?_⟩, fun hc => ⟨p - (j + 1), by omega, j + 1, hj', rfl, by rw [fwrap_nat (by omega)], ?_⟩⟩
    · rw [ieq_dec] at hc
      have hc : wX u + 1 = 6 := by have := of_decide_eq_true hc; simp only [Int.ofNat_eq_natCast] at this; omega
      rw [wR_h1_6, hst]
      unfold wrS wRHs6
      have hc : u.2.1 + 1 = 6 := hc
      rw [if_pos hc, if_pos hc]; rfl
    · rw [ieq_dec] at hc
      have hc : ¬ wX u + 1 = 6 := by have := of_decide_eq_false hc; simp only [Int.ofNat_eq_natCast] at this; omega
      rw [wR_h2_6, hst]
      unfold wrS wRHs6
      have hc : ¬ u.2.1 + 1 = 6 := hc
      rw [if_neg hc, if_neg hc]; rfl
  · have := blt_false hge
    obtain rfl : j = p := by omega
    exact ⟨rfl, rfl, rfl⟩
noncomputable def wRLoops6 (x0 x1 x2 x3 x4 x5 : Nat) (e row k el rl : Nat) (nx : Int) (fu : Bool) (m : List Nat) (p qq x : Nat) : Loops Tryz.prog where
  body := fun i => loopOf Tryz.prog 15 i
  spec := fun i a h c => match i with
    | 0 => entry a 58 [(1, slA' p qq), (2, ptB 2), (4, ptB 3), (5, ptB 4), (6, gi 0)] (h = w0H [gf x0, gf x1, gf x2, gf x3, gf x4, gf x5] e row 6 k nx fu (m.map gf) el rl nilS nx fu ∧ ∀ g, c (.exit 0) (stOf 58 [(1, slA' p qq), (2, ptB 2), (4, ptB 3), (5, ptB 4), (6, gi 6)] g) (wRH6 x0 x1 x2 x3 x4 x5 e row k el rl nx fu (m.map gf) [gf x0, gf x1, gf x2, gf x3, gf x4, gf x5] nx fu))
    | 2 => entry a 58 [(1, slA' p qq), (2, ptB 2), (4, ptB 3), (5, ptB 4), (7, gi 0)] (h = wRH6 x0 x1 x2 x3 x4 x5 e row k el rl nx fu (m.map gf) [gf x0, gf x1, gf x2, gf x3, gf x4, gf x5] nx fu ∧ nx = Int.ofNat x ∧ (p ≤ m.length ∧ p ≤ 1000000 ∧ x < 6) ∧ ∀ g, c (.exit 2) (stOf 58 [(1, slA' p qq), (2, ptB 2), (4, ptB 3), (5, ptB 4), (7, goN p)] g) (wRHs6 x0 x1 x2 x3 x4 x5 e row k el rl nx fu (m.map gf) (wrF 6 ([x0, x1, x2, x3, x4, x5], x, fu) (m.take p))))
    | _ => False
  ok := fun i a h c q => by
    match i, q with
    | 0, q =>
      obtain ⟨h1, h2, h3, rfl, h4⟩ := entry_facts q
      refine J.of_told (w0J_6 x0 x1 x2 x3 x4 x5 e row k el rl nx fu (m.map gf) p qq a h1 h2 ?_) ?_
      · simp only [List.map_cons, List.map_nil]
        rw [h3 (1, slA' p qq) (by simp), h3 (2, ptB 2) (by simp), h3 (4, ptB 3) (by simp), h3 (5, ptB 4) (by simp), h3 (6, gi 0) (by simp)]
      · rintro ex vs h' g ⟨rfl, rfl, rfl⟩
        exact h4 g
    | 2, q =>
      obtain ⟨h1, h2, h3, rfl, rfl, ⟨hs, hs2, hs3⟩, h4⟩ := entry_facts q
      refine J.of_told (wR_loop6 x0 x1 x2 x3 x4 x5 e row k el rl (Int.ofNat x) fu m p qq ([x0, x1, x2, x3, x4, x5], x, fu) hs hs2 ⟨rfl, hs3⟩ a h1 h2 ?_) ?_
      · simp only [List.map_cons, List.map_nil]
        rw [h3 (1, slA' p qq) (by simp), h3 (2, ptB 2) (by simp), h3 (4, ptB 3) (by simp), h3 (5, ptB 4) (by simp), h3 (7, gi 0) (by simp)]
      · rintro ex vs h' g ⟨rfl, rfl, rfl⟩
        exact h4 g
set_option maxRecDepth 100000 in
theorem w0J_7 (x0 x1 x2 x3 x4 x5 x6 : Nat) (e row k el rl : Nat) (nx : Int) (fu : Bool) (M : List Value) (p qq : Nat) : ∀ a : AAct, a.n = 58 → a.marks = [] → [1, 2, 4, 5, 6].map a.tmp = [slA' p qq, ptB 2, ptB 3, ptB 4, gi 0] →
    J Tryz.prog (.loop (loopOf Tryz.prog 15 0)) a (w0H [gf x0, gf x1, gf x2, gf x3, gf x4, gf x5, gf x6] e row 7 k nx fu M el rl nilS nx fu) (told 58 [1, 2, 4, 5, 6] fun ex vs h => ex = .exit 0 ∧ vs = [slA' p qq, ptB 2, ptB 3, ptB 4, gi 7] ∧ h = wRH7 x0 x1 x2 x3 x4 x5 x6 e row k el rl nx fu M [gf x0, gf x1, gf x2, gf x3, gf x4, gf x5, gf x6] nx fu) := by
  intro a hn hm hv
  refine J.of_facts (l := [(1, slA' p qq), (2, ptB 2), (4, ptB 3), (5, ptB 4), (6, gi 0)]) hn hm (zip_facts hv) fun g => J.ofE mixed orcRgG_ok (noAsks_ok _) (Eq.mpr (w0_7 x0 x1 x2 x3 x4 x5 x6 e row k el rl nx fu M p qq g _) ⟨rfl, rfl, rfl, rfl, rfl, rfl, rfl, rfl, rfl, rfl, rfl, rfl, rfl, rfl, rfl, rfl, rfl, rfl, rfl, rfl, rfl, rfl, rfl, ?_⟩)
  kernel_rfl
theorem wR_h1_7 (x0 x1 x2 x3 x4 x5 x6 : Nat) (e row k el rl : Nat) (nx : Int) (fu : Bool) (M : List Value) (c C : List Value) (x y : Int) (f : Bool) : (((((wRH7 x0 x1 x2 x3 x4 x5 x6 e row k el rl nx fu M c x f).set (N1 + 18) (.cells C 49 2 false)).set (N1 + 4) (.cells ([Value.slice (some ⟨N1 + 18, 0, none⟩) 7 7] ++ ([gi y] ++ [Value.bool f])) 24 0 false)).set (N1 + 4) (.cells (splice ([Value.slice (some ⟨N1 + 18, 0, none⟩) 7 7] ++ ([gi y] ++ [Value.bool f])) 1 [gi 0]) 24 0 false)).set (N1 + 4) (.cells (splice (splice ([Value.slice (some ⟨N1 + 18, 0, none⟩) 7 7] ++ ([gi y] ++ [Value.bool f])) 1 [gi 0]) 2 [Value.bool true]) 24 0 false)) = wRH7 x0 x1 x2 x3 x4 x5 x6 e row k el rl nx fu M C 0 true := by kernel_rfl
theorem wR_h2_7 (x0 x1 x2 x3 x4 x5 x6 : Nat) (e row k el rl : Nat) (nx : Int) (fu : Bool) (M : List Value) (c C : List Value) (x y : Int) (f : Bool) : (((wRH7 x0 x1 x2 x3 x4 x5 x6 e row k el rl nx fu M c x f).set (N1 + 18) (.cells C 49 2 false)).set (N1 + 4) (.cells ([Value.slice (some ⟨N1 + 18, 0, none⟩) 7 7] ++ ([gi y] ++ [Value.bool f])) 24 0 false)) = wRH7 x0 x1 x2 x3 x4 x5 x6 e row k el rl nx fu M C y f := by kernel_rfl
noncomputable abbrev wRHs7 (x0 x1 x2 x3 x4 x5 x6 : Nat) (e row k el rl : Nat) (nx : Int) (fu : Bool) (M : List Value) (s : WSt) : AHeap := wRH7 x0 x1 x2 x3 x4 x5 x6 e row k el rl nx fu M ((wC s).map gf) (Int.ofNat (wX s)) (wB s)
set_option maxRecDepth 100000 in
theorem wR_loop7 (x0 x1 x2 x3 x4 x5 x6 : Nat) (e row k el rl : Nat) (nx : Int) (fu : Bool) (m : List Nat) (p qq : Nat) (s : WSt) (hp : p ≤ m.length) (hl : p ≤ 1000000) (hs : s.1.length = 7 ∧ s.2.1 < 7) : ∀ a : AAct, a.n = 58 → a.marks = [] → [1, 2, 4, 5, 7].map a.tmp = [slA' p qq, ptB 2, ptB 3, ptB 4, gi 0] →
    J Tryz.prog (.loop (loopOf Tryz.prog 15 2)) a (wRHs7 x0 x1 x2 x3 x4 x5 x6 e row k el rl nx fu (m.map gf) s) (told 58 [1, 2, 4, 5, 7] fun ex vs h => ex = .exit 2 ∧ vs = [slA' p qq, ptB 2, ptB 3, ptB 4, goN p] ∧ h = wRHs7 x0 x1 x2 x3 x4 x5 x6 e row k el rl nx fu (m.map gf) (wrF 7 s (m.take p))) := by
  intro a ha hm hv
  refine loop_rule (fun d vs h => ∃ j, j ≤ p ∧ d = p - j ∧ vs = [slA' p qq, ptB 2, ptB 3, ptB 4, goN j] ∧ h = wRHs7 x0 x1 x2 x3 x4 x5 x6 e row k el rl nx fu (m.map gf) (wrF 7 s (m.take j))) _ ?_ p _ _ a ⟨0, Nat.zero_le _, rfl, rfl, rfl⟩ ha hm hv
  rintro d vs h g ⟨j, hj, rfl, rfl, rfl⟩
  obtain ⟨ho, hx⟩ := wrF_ok (m.take j) hs
  refine execC_ok mixed orcRgG_ok (noAsks_ok _) (noLoops _) (Eq.mpr (wR_body7 x0 x1 x2 x3 x4 x5 x6 e row k el rl nx fu _ _ _ _ p qq j g _) ?_)
  refine ⟨fun hlt => ?_, fun hge => ?_⟩
  · have hj' := blt_true hlt
    obtain ⟨h1, h2⟩ := float_at (l := m) (j := j) (by omega)
    have hst := wrF_snoc 7 s (L := m) (j := j) (by omega)
    generalize wrF 7 s (m.take j) = u at ho hx hst ⊢
    have ho : (wC u).length = 7 := ho
    have hx : wX u < 7 := hx
    rw [h2, splice_gf (by omega)]
    have e1 : fwrap IntKind.i64 (Int.ofNat (wX u) + 1) = Int.ofNat (wX u + 1) := by
      rw [show Int.ofNat (wX u) + 1 = Int.ofNat (wX u + 1) from rfl, fwrap_nat (by omega)]
    rw [e1]
    refine ⟨hlt, h2 ▸ h1, by show Nat.blt (wX u) 7 = true; rw [Nat.blt_eq]; exact hx, by rw [Nat.ble_eq, List.length_map]; show 0 + wX u * 1 + 1 ≤ (wC u).length; omega, fun hc => ⟨p - (j + 1), by omega, j + 1, hj', rfl, by rw [fwrap_nat (by omega)], ?_⟩, fun hc => ⟨p - (j + 1), by omega, j + 1, hj', rfl, by rw [fwrap_nat (by omega)], ?_⟩⟩
    · rw [ieq_dec] at hc
      have hc : wX u + 1 = 7 := by have := of_decide_eq_true hc; simp only [Int.ofNat_eq_natCast] at this; omega
      rw [wR_h1_7, hst]
      unfold wrS wRHs7
      have hc : u.2.1 + 1 = 7 := hc
      rw [if_pos hc, if_pos hc]; rfl
    · rw [ieq_dec] at hc
      have hc : ¬ wX u + 1 = 7 := by have := of_decide_eq_false hc; simp only [Int.ofNat_eq_natCast] at this; omega
      rw [wR_h2_7, hst]
      unfold wrS wRHs7
      have hc : ¬ u.2.1 + 1 = 7 := hc
      rw [if_neg hc, if_neg hc]; rfl
  · have := blt_false hge
    obtain rfl : j = p := by omega
    exact ⟨rfl, rfl, rfl⟩
noncomputable def wRLoops7 (x0 x1 x2 x3 x4 x5 x6 : Nat) (e row k el rl : Nat) (nx : Int) (fu : Bool) (m : List Nat) (p qq x : Nat) : Loops Tryz.prog where
  body := fun i => loopOf Tryz.prog 15 i
  spec := fun i a h c => match i with
    | 0 => entry a 58 [(1, slA' p qq), (2, ptB 2), (4, ptB 3), (5, ptB 4), (6, gi 0)] (h = w0H [gf x0, gf x1, gf x2, gf x3, gf x4, gf x5, gf x6] e row 7 k nx fu (m.map gf) el rl nilS nx fu ∧ ∀ g, c (.exit 0) (stOf 58 [(1, slA' p qq), (2, ptB 2), (4, ptB 3), (5, ptB 4), (6, gi 7)] g) (wRH7 x0 x1 x2 x3 x4 x5 x6 e row k el rl nx fu (m.map gf) [gf x0, gf x1, gf x2, gf x3, gf x4, gf x5, gf x6] nx fu))
    | 2 => entry a 58 [(1, slA' p qq), (2, ptB 2), (4, ptB 3), (5, ptB 4), (7, gi 0)] (h = wRH7 x0 x1 x2 x3 x4 x5 x6 e row k el rl nx fu (m.map gf) [gf x0, gf x1, gf x2, gf x3, gf x4, gf x5, gf x6] nx fu ∧ nx = Int.ofNat x ∧ (p ≤ m.length ∧ p ≤ 1000000 ∧ x < 7) ∧ ∀ g, c (.exit 2) (stOf 58 [(1, slA' p qq), (2, ptB 2), (4, ptB 3), (5, ptB 4), (7, goN p)] g) (wRHs7 x0 x1 x2 x3 x4 x5 x6 e row k el rl nx fu (m.map gf) (wrF 7 ([x0, x1, x2, x3, x4, x5, x6], x, fu) (m.take p))))
    | _ => False
  ok := fun i a h c q => by
    match i, q with
    | 0, q =>
      obtain ⟨h1, h2, h3, rfl, h4⟩ := entry_facts q
      refine J.of_told (w0J_7 x0 x1 x2 x3 x4 x5 x6 e row k el rl nx fu (m.map gf) p qq a h1 h2 ?_) ?_
      · simp only [List.map_cons, List.map_nil]
        rw [h3 (1, slA' p qq) (by simp), h3 (2, ptB 2) (by simp), h3 (4, ptB 3) (by simp), h3 (5, ptB 4) (by simp), h3 (6, gi 0) (by simp)]
      · rintro ex vs h' g ⟨rfl, rfl, rfl⟩
        exact h4 g
    | 2, q =>
      obtain ⟨h1, h2, h3, rfl, rfl, ⟨hs, hs2, hs3⟩, h4⟩ := entry_facts q
      refine J.of_told (wR_loop7 x0 x1 x2 x3 x4 x5 x6 e row k el rl (Int.ofNat x) fu m p qq ([x0, x1, x2, x3, x4, x5, x6], x, fu) hs hs2 ⟨rfl, hs3⟩ a h1 h2 ?_) ?_
      · simp only [List.map_cons, List.map_nil]
        rw [h3 (1, slA' p qq) (by simp), h3 (2, ptB 2) (by simp), h3 (4, ptB 3) (by simp), h3 (5, ptB 4) (by simp), h3 (7, gi 0) (by simp)]
      · rintro ex vs h' g ⟨rfl, rfl, rfl⟩
        exact h4 g
set_option maxRecDepth 100000 in
theorem w0J_8 (x0 x1 x2 x3 x4 x5 x6 x7 : Nat) (e row k el rl : Nat) (nx : Int) (fu : Bool) (M : List Value) (p qq : Nat) : ∀ a : AAct, a.n = 58 → a.marks = [] → [1, 2, 4, 5, 6].map a.tmp = [slA' p qq, ptB 2, ptB 3, ptB 4, gi 0] →
    J Tryz.prog (.loop (loopOf Tryz.prog 15 0)) a (w0H [gf x0, gf x1, gf x2, gf x3, gf x4, gf x5, gf x6, gf x7] e row 8 k nx fu M el rl nilS nx fu) (told 58 [1, 2, 4, 5, 6] fun ex vs h => ex = .exit 0 ∧ vs = [slA' p qq, ptB 2, ptB 3, ptB 4, gi 8] ∧ h = wRH8 x0 x1 x2 x3 x4 x5 x6 x7 e row k el rl nx fu M [gf x0, gf x1, gf x2, gf x3, gf x4, gf x5, gf x6, gf x7] nx fu) := by
  intro a hn hm hv
  refine J.of_facts (l := [(1, slA' p qq), (2, ptB 2), (4, ptB 3), (5, ptB 4), (6, gi 0)]) hn hm (zip_facts hv) fun g => J.ofE mixed orcRgG_ok (noAsks_ok _) (Eq.mpr (w0_8 x0 x1 x2 x3 x4 x5 x6 x7 e row k el rl nx fu M p qq g _) ⟨rfl, rfl, rfl, rfl, rfl, rfl, rfl, rfl, rfl, rfl, rfl, rfl, rfl, rfl, rfl, rfl, rfl, rfl, rfl, rfl, rfl, rfl, rfl, rfl, rfl, rfl, ?_⟩)
  kernel_rfl
theorem wR_h1_8 (x0 x1 x2 x3 x4 x5 x6 x7 : Nat) (e row k el rl : Nat) (nx : Int) (fu : Bool) (M : List Value) (c C : List Value) (x y : Int) (f : Bool) : (((((wRH8 x0 x1 x2 x3 x4 x5 x6 x7 e row k el rl nx fu M c x f).set (N1 + 20) (.cells C 49 2 false)).set (N1 + 4) (.cells ([Value.slice (some ⟨N1 + 20, 0, none⟩) 8 8] ++ ([gi y] ++ [Value.bool f])) 24 0 false)).set (N1 + 4) (.cells (splice ([Value.slice (some ⟨N1 + 20, 0, none⟩) 8 8] ++ ([gi y] ++ [Value.bool f])) 1 [gi 0]) 24 0 false)).set (N1 + 4) (.cells (splice (splice ([Value.slice (some ⟨N1 + 20, 0, none⟩) 8 8] ++ ([gi y] ++ [Value.bool f])) 1 [gi 0]) 2 [Value.bool true]) 24 0 false)) = wRH8 x0 x1 x2 x3 x4 x5 x6 x7 e row k el rl nx fu M C 0 true := by kernel_rfl
theorem wR_h2_8 (x0 x1 x2 x3 x4 x5 x6 x7 : Nat) (e row k el rl : Nat) (nx : Int) (fu : Bool) (M : List Value) (c C : List Value) (x y : Int) (f : Bool) : (((wRH8 x0 x1 x2 x3 x4 x5 x6 x7 e row k el rl nx fu M c x f).set (N1 + 20) (.cells C 49 2 false)).set (N1 + 4) (.cells ([Value.slice (some ⟨N1 + 20, 0, none⟩) 8 8] ++ ([gi y] ++ [Value.bool f])) 24 0 false)) = wRH8 x0 x1 x2 x3 x4 x5 x6 x7 e row k el rl nx fu M C y f := by kernel_rfl
noncomputable abbrev wRHs8 (x0 x1 x2 x3 x4 x5 x6 x7 : Nat) (e row k el rl : Nat) (nx : Int) (fu : Bool) (M : List Value) (s : WSt) : AHeap := wRH8 x0 x1 x2 x3 x4 x5 x6 x7 e row k el rl nx fu M ((wC s).map gf) (Int.ofNat (wX s)) (wB s)
set_option maxRecDepth 100000 in
theorem wR_loop8 (x0 x1 x2 x3 x4 x5 x6 x7 : Nat) (e row k el rl : Nat) (nx : Int) (fu : Bool) (m : List Nat) (p qq : Nat) (s : WSt) (hp : p ≤ m.length) (hl : p ≤ 1000000) (hs : s.1.length = 8 ∧ s.2.1 < 8) : ∀ a : AAct, a.n = 58 → a.marks = [] → [1, 2, 4, 5, 7].map a.tmp = [slA' p qq, ptB 2, ptB 3, ptB 4, gi 0] →
    J Tryz.prog (.loop (loopOf Tryz.prog 15 2)) a (wRHs8 x0 x1 x2 x3 x4 x5 x6 x7 e row k el rl nx fu (m.map gf) s) (told 58 [1, 2, 4, 5, 7] fun ex vs h => ex = .exit 2 ∧ vs = [slA' p qq, ptB 2, ptB 3, ptB 4, goN p] ∧ h = wRHs8 x0 x1 x2 x3 x4 x5 x6 x7 e row k el rl nx fu (m.map gf) (wrF 8 s (m.take p))) := by
  intro a ha hm hv
  refine loop_rule (fun d vs h => ∃ j, j ≤ p ∧ d = p - j ∧ vs = [slA' p qq, ptB 2, ptB 3, ptB 4, goN j] ∧ h = wRHs8 x0 x1 x2 x3 x4 x5 x6 x7 e row k el rl nx fu (m.map gf) (wrF 8 s (m.take j))) _ ?_ p _ _ a ⟨0, Nat.zero_le _, rfl, rfl, rfl⟩ ha hm hv
  rintro d vs h g ⟨j, hj, rfl, rfl, rfl⟩
  obtain ⟨ho, hx⟩ := wrF_ok (m.take j) hs
  refine execC_ok mixed orcRgG_ok (noAsks_ok _) (noLoops _) (Eq.mpr (wR_body8 x0 x1 x2 x3 x4 x5 x6 x7 e row k el rl nx fu _ _ _ _ p qq j g _) ?_)
  refine ⟨fun hlt => ?_, fun hge => ?_⟩
  · have hj' := blt_true hlt
    obtain ⟨h1, h2⟩ := float_at (l := m) (j := j) (by omega)
    have hst := wrF_snoc 8 s (L := m) (j := j) (by omega)
    generalize wrF 8 s (m.take j) = u at ho hx hst ⊢
    have ho : (wC u).length = 8 := ho
    have hx : wX u < 8 := hx
    rw [h2, splice_gf (by omega)]
    have e1 : fwrap IntKind.i64 (Int.ofNat (wX u) + 1) = Int.ofNat (wX u + 1) := by
      rw [show Int.ofNat (wX u) + 1 = Int.ofNat (wX u + 1) from rfl, fwrap_nat (by omega)]
    rw [e1]
    refine ⟨hlt, h2 ▸ h1, by show Nat.blt (wX u) 8 = true; rw [Nat.blt_eq]; exact hx, by rw [Nat.ble_eq, List.length_map]; show 0 + wX u * 1 + 1 ≤ (wC u).length; omega, fun hc => ⟨p - (j + 1), by omega, j + 1, hj', rfl, by rw [fwrap_nat (by omega)], ?_⟩, fun hc => ⟨p - (j + 1), by omega, j + 1, hj', rfl, by rw [fwrap_nat (by omega)], ?_⟩⟩
    · rw [ieq_dec] at hc
      have hc : wX u + 1 = 8 := by have := of_decide_eq_true hc; simp only [Int.ofNat_eq_natCast] at this; omega
      rw [wR_h1_8, hst]
      unfold wrS wRHs8
      have hc : u.2.1 + 1 = 8 := hc
      rw [if_pos hc, if_pos hc]; rfl
    · rw [ieq_dec] at hc
      have hc : ¬ wX u + 1 = 8 := by have := of_decide_eq_false hc; simp only [Int.ofNat_eq_natCast] at this; omega
      rw [wR_h2_8, hst]
      unfold wrS wRHs8
      have hc : ¬ u.2.1 + 1 = 8 := hc
      rw [if_neg hc, if_neg hc]; rfl
  · have := blt_false hge
    obtain rfl : j = p := by omega
    exact ⟨rfl, rfl, rfl⟩
noncomputable def wRLoops8 (x0 x1 x2 x3 x4 x5 x6 x7 : Nat) (e row k el rl : Nat) (nx : Int) (fu : Bool) (m : List Nat) (p qq x : Nat) : Loops Tryz.prog where
  body := fun i => loopOf Tryz.prog 15 i
  spec := fun i a h c => match i with
    | 0 => entry a 58 [(1, slA' p qq), (2, ptB 2), (4, ptB 3), (5, ptB 4), (6, gi 0)] (h = w0H [gf x0, gf x1, gf x2, gf x3, gf x4, gf x5, gf x6, gf x7] e row 8 k nx fu (m.map gf) el rl nilS nx fu ∧ ∀ g, c (.exit 0) (stOf 58 [(1, slA' p qq), (2, ptB 2), (4, ptB 3), (5, ptB 4), (6, gi 8)] g) (wRH8 x0 x1 x2 x3 x4 x5 x6 x7 e row k el rl nx fu (m.map gf) [gf x0, gf x1, gf x2, gf x3, gf x4, gf x5, gf x6, gf x7] nx fu))
    | 2 => entry a 58 [(1, slA' p qq), (2, ptB 2), (4, ptB 3), (5, ptB 4), (7, gi 0)] (h = wRH8 x0 x1 x2 x3 x4 x5 x6 x7 e row k el rl nx fu (m.map gf) [gf x0, gf x1, gf x2, gf x3, gf x4, gf x5, gf x6, gf x7] nx fu ∧ nx = Int.ofNat x ∧ (p ≤ m.length ∧ p ≤ 1000000 ∧ x < 8) ∧ ∀ g, c (.exit 2) (stOf 58 [(1, slA' p qq), (2, ptB 2), (4, ptB 3), (5, ptB 4), (7, goN p)] g) (wRHs8 x0 x1 x2 x3 x4 x5 x6 x7 e row k el rl nx fu (m.map gf) (wrF 8 ([x0, x1, x2, x3, x4, x5, x6, x7], x, fu) (m.take p))))
    | _ => False
  ok := fun i a h c q => by
    match i, q with
    | 0, q =>
      obtain ⟨h1, h2, h3, rfl, h4⟩ := entry_facts q
      refine J.of_told (w0J_8 x0 x1 x2 x3 x4 x5 x6 x7 e row k el rl nx fu (m.map gf) p qq a h1 h2 ?_) ?_
      · simp only [List.map_cons, List.map_nil]
        rw [h3 (1, slA' p qq) (by simp), h3 (2, ptB 2) (by simp), h3 (4, ptB 3) (by simp), h3 (5, ptB 4) (by simp), h3 (6, gi 0) (by simp)]
      · rintro ex vs h' g ⟨rfl, rfl, rfl⟩
        exact h4 g
    | 2, q =>
      obtain ⟨h1, h2, h3, rfl, rfl, ⟨hs, hs2, hs3⟩, h4⟩ := entry_facts q
      refine J.of_told (wR_loop8 x0 x1 x2 x3 x4 x5 x6 x7 e row k el rl (Int.ofNat x) fu m p qq ([x0, x1, x2, x3, x4, x5, x6, x7], x, fu) hs hs2 ⟨rfl, hs3⟩ a h1 h2 ?_) ?_
      · simp only [List.map_cons, List.map_nil]
        rw [h3 (1, slA' p qq) (by simp), h3 (2, ptB 2) (by simp), h3 (4, ptB 3) (by simp), h3 (5, ptB 4) (by simp), h3 (7, gi 0) (by simp)]
      · rintro ex vs h' g ⟨rfl, rfl, rfl⟩
        exact h4 g
set_option maxRecDepth 100000 in
theorem w0J_9 (x0 x1 x2 x3 x4 x5 x6 x7 x8 : Nat) (e row k el rl : Nat) (nx : Int) (fu : Bool) (M : List Value) (p qq : Nat) : ∀ a : AAct, a.n = 58 → a.marks = [] → [1, 2, 4, 5, 6].map a.tmp = [slA' p qq, ptB 2, ptB 3, ptB 4, gi 0] →
    J Tryz.prog (.loop (loopOf Tryz.prog 15 0)) a (w0H [gf x0, gf x1, gf x2, gf x3, gf x4, gf x5, gf x6, gf x7, gf x8] e row 9 k nx fu M el rl nilS nx fu) (told 58 [1, 2, 4, 5, 6] fun ex vs h => ex = .exit 0 ∧ vs = [slA' p qq, ptB 2, ptB 3, ptB 4, gi 9] ∧ h = wRH9 x0 x1 x2 x3 x4 x5 x6 x7 x8 e row k el rl nx fu M [gf x0, gf x1, gf x2, gf x3, gf x4, gf x5, gf x6, gf x7, gf x8] nx fu) := by
  intro a hn hm hv
  refine J.of_facts (l := [(1, slA' p qq), (2, ptB 2), (4, ptB 3), (5, ptB 4), (6, gi 0)]) hn hm (zip_facts hv) fun g => J.ofE mixed orcRgG_ok (noAsks_ok _) (Eq.mpr (w0_9 x0 x1 x2 x3 x4 x5 x6 x7 x8 e row k el rl nx fu M p qq g _) ⟨rfl, rfl, rfl, rfl, rfl, rfl, rfl, rfl, rfl, rfl, rfl, rfl, rfl, rfl, rfl, rfl, rfl, rfl, rfl, rfl, rfl, rfl, rfl, rfl, rfl, rfl, rfl, rfl, rfl, ?_⟩)
  kernel_rfl
theorem wR_h1_9 (x0 x1 x2 x3 x4 x5 x6 x7 x8 : Nat) (e row k el rl : Nat) (nx : Int) (fu : Bool) (M : List Value) (c C : List Value) (x y : Int) (f : Bool) : (((((wRH9 x0 x1 x2 x3 x4 x5 x6 x7 x8 e row k el rl nx fu M c x f).set (N1 + 22) (.cells C 49 2 false)).set (N1 + 4) (.cells ([Value.slice (some ⟨N1 + 22, 0, none⟩) 9 9] ++ ([gi y] ++ [Value.bool f])) 24 0 false)).set (N1 + 4) (.cells (splice ([Value.slice (some ⟨N1 + 22, 0, none⟩) 9 9] ++ ([gi y] ++ [Value.bool f])) 1 [gi 0]) 24 0 false)).set (N1 + 4) (.cells (splice (splice ([Value.slice (some ⟨N1 + 22, 0, none⟩) 9 9] ++ ([gi y] ++ [Value.bool f])) 1 [gi 0]) 2 [Value.bool true]) 24 0 false)) = wRH9 x0 x1 x2 x3 x4 x5 x6 x7 x8 e row k el rl nx fu M C 0 true := by kernel_rfl
theorem wR_h2_9 (x0 x1 x2 x3 x4 x5 x6 x7 x8 : Nat) (e row k el rl : Nat) (nx : Int) (fu : Bool) (M : List Value) (c C : List Value) (x y : Int) (f : Bool) : (((wRH9 x0 x1 x2 x3 x4 x5 x6 x7 x8 e row k el rl nx fu M c x f).set (N1 + 22) (.cells C 49 2 false)).set (N1 + 4) (.cells ([Value.slice (some ⟨N1 + 22, 0, none⟩) 9 9] ++ ([gi y] ++ [Value.bool f])) 24 0 false)) = wRH9 x0 x1 x2 x3 x4 x5 x6 x7 x8 e row k el rl nx fu M C y f := by kernel_rfl
noncomputable abbrev wRHs9 (x0 x1 x2 x3 x4 x5 x6 x7 x8 : Nat) (e row k el rl : Nat) (nx : Int) (fu : Bool) (M : List Value) (s : WSt) : AHeap := wRH9 x0 x1 x2 x3 x4 x5 x6 x7 x8 e row k el rl nx fu M ((wC s).map gf) (Int.ofNat (wX s)) (wB s)
set_option maxRecDepth 100000 in
theorem wR_loop9 (x0 x1 x2 x3 x4 x5 x6 x7 x8 : Nat) (e row k el rl : Nat) (nx : Int) (fu : Bool) (m : List Nat) (p qq : Nat) (s : WSt) (hp : p ≤ m.length) (hl : p ≤ 1000000) (hs : s.1.length = 9 ∧ s.2.1 < 9) : ∀ a : AAct, a.n = 58 → a.marks = [] → [1, 2, 4, 5, 7].map a.tmp = [slA' p qq, ptB 2, ptB 3, ptB 4, gi 0] →
    J Tryz.prog (.loop (loopOf Tryz.prog 15 2)) a (wRHs9 x0 x1 x2 x3 x4 x5 x6 x7 x8 e row k el rl nx fu (m.map gf) s) (told 58 [1, 2, 4, 5, 7] fun ex vs h => ex = .exit 2 ∧ vs = [slA' p qq, ptB 2, ptB 3, ptB 4, goN p] ∧ h = wRHs9 x0 x1 x2 x3 x4 x5 x6 x7 x8 e row k el rl nx fu (m.map gf) (wrF 9 s (m.take p))) := by
  intro a ha hm hv
  refine loop_rule (fun d vs h => ∃ j, j ≤ p ∧ d = p - j ∧ vs = [slA' p qq, ptB 2, ptB 3, ptB 4, goN j] ∧ h = wRHs9 x0 x1 x2 x3 x4 x5 x6 x7 x8 e row k el rl nx fu (m.map gf) (wrF 9 s (m.take j))) _ ?_ p _ _ a ⟨0, Nat.zero_le _, rfl, rfl, rfl⟩ ha hm hv
  rintro d vs h g ⟨j, hj, rfl, rfl, rfl⟩
  obtain ⟨ho, hx⟩ := wrF_ok (m.take j) hs
  refine execC_ok mixed orcRgG_ok (noAsks_ok _) (noLoops _) (Eq.mpr (wR_body9 x0 x1 x2 x3 x4 x5 x6 x7 x8 e row k el rl nx fu _ _ _ _ p qq j g _) ?_)
  refine ⟨fun hlt => ?_, fun hge => ?_⟩
  · have hj' := blt_true hlt
    obtain ⟨h1, h2⟩ := float_at (l := m) (j := j) (by omega)
    have hst := wrF_snoc 9 s (L := m) (j := j) (by omega)
    generalize wrF 9 s (m.take j) = u at ho hx hst ⊢
    have ho : (wC u).length = 9 := ho
    have hx : wX u < 9 := hx
    rw [h2, splice_gf (by omega)]
    have e1 : fwrap IntKind.i64 (Int.ofNat (wX u) + 1) = Int.ofNat (wX u + 1) := by
      rw [show Int.ofNat (wX u) + 1 = Int.ofNat (wX u + 1) from rfl, fwrap_nat (by omega)]
    rw [e1]
    refine ⟨hlt, h2 ▸ h1, by show Nat.blt (wX u) 9 = true; rw [Nat.blt_eq]; exact hx, by rw [Nat.ble_eq, List.length_map]; show 0 + wX u * 1 + 1 ≤ (wC u).length; omega, fun hc => ⟨p - (j + 1), by omega, j + 1, hj', rfl, by rw [fwrap_nat (by omega)], ?_⟩, fun hc => ⟨p - (j + 1), by omega, j + 1, hj', rfl, by rw [fwrap_nat (by omega)], ?_⟩⟩
    · rw [ieq_dec] at hc
      have hc : wX u + 1 = 9 := by have := of_decide_eq_true hc; simp only [Int.ofNat_eq_natCast] at this; omega
      rw [wR_h1_9, hst]
      unfold wrS wRHs9
      have hc : u.2.1 + 1 = 9 := hc
      rw [if_pos hc, if_pos hc]; rfl
    · rw [ieq_dec] at hc
      have hc : ¬ wX u + 1 = 9 := by have := of_decide_eq_false hc; simp only [Int.ofNat_eq_natCast] at this; omega
      rw [wR_h2_9, hst]
      unfold wrS wRHs9
      have hc : ¬ u.2.1 + 1 = 9 := hc
      rw [if_neg hc, if_neg hc]; rfl
  · have := blt_false hge
    obtain rfl : j = p := by omega
    exact ⟨rfl, rfl, rfl⟩
noncomputable def wRLoops9 (x0 x1 x2 x3 x4 x5 x6 x7 x8 : Nat) (e row k el rl : Nat) (nx : Int) (fu : Bool) (m : List Nat) (p qq x : Nat) : Loops Tryz.prog where
  body := fun i => loopOf Tryz.prog 15 i
  spec := fun i a h c => match i with
    | 0 => entry a 58 [(1, slA' p qq), (2, ptB 2), (4, ptB 3), (5, ptB 4), (6, gi 0)] (h = w0H [gf x0, gf x1, gf x2, gf x3, gf x4, gf x5, gf x6, gf x7, gf x8] e row 9 k nx fu (m.map gf) el rl nilS nx fu ∧ ∀ g, c (.exit 0) (stOf 58 [(1, slA' p qq), (2, ptB 2), (4, ptB 3), (5, ptB 4), (6, gi 9)] g) (wRH9 x0 x1 x2 x3 x4 x5 x6 x7 x8 e row k el rl nx fu (m.map gf) [gf x0, gf x1, gf x2, gf x3, gf x4, gf x5, gf x6, gf x7, gf x8] nx fu))
    | 2 => entry a 58 [(1, slA' p qq), (2, ptB 2), (4, ptB 3), (5, ptB 4), (7, gi 0)] (h = wRH9 x0 x1 x2 x3 x4 x5 x6 x7 x8 e row k el rl nx fu (m.map gf) [gf x0, gf x1, gf x2, gf x3, gf x4, gf x5, gf x6, gf x7, gf x8] nx fu ∧ nx = Int.ofNat x ∧ (p ≤ m.length ∧ p ≤ 1000000 ∧ x < 9) ∧ ∀ g, c (.exit 2) (stOf 58 [(1, slA' p qq), (2, ptB 2), (4, ptB 3), (5, ptB 4), (7, goN p)] g) (wRHs9 x0 x1 x2 x3 x4 x5 x6 x7 x8 e row k el rl nx fu (m.map gf) (wrF 9 ([x0, x1, x2, x3, x4, x5, x6, x7, x8], x, fu) (m.take p))))
    | _ => False
  ok := fun i a h c q => by
    match i, q with
    | 0, q =>
      obtain ⟨h1, h2, h3, rfl, h4⟩ := entry_facts q
      refine J.of_told (w0J_9 x0 x1 x2 x3 x4 x5 x6 x7 x8 e row k el rl nx fu (m.map gf) p qq a h1 h2 ?_) ?_
      · simp only [List.map_cons, List.map_nil]
        rw [h3 (1, slA' p qq) (by simp), h3 (2, ptB 2) (by simp), h3 (4, ptB 3) (by simp), h3 (5, ptB 4) (by simp), h3 (6, gi 0) (by simp)]
      · rintro ex vs h' g ⟨rfl, rfl, rfl⟩
        exact h4 g
    | 2, q =>
      obtain ⟨h1, h2, h3, rfl, rfl, ⟨hs, hs2, hs3⟩, h4⟩ := entry_facts q
      refine J.of_told (wR_loop9 x0 x1 x2 x3 x4 x5 x6 x7 x8 e row k el rl (Int.ofNat x) fu m p qq ([x0, x1, x2, x3, x4, x5, x6, x7, x8], x, fu) hs hs2 ⟨rfl, hs3⟩ a h1 h2 ?_) ?_
      · simp only [List.map_cons, List.map_nil]
        rw [h3 (1, slA' p qq) (by simp), h3 (2, ptB 2) (by simp), h3 (4, ptB 3) (by simp), h3 (5, ptB 4) (by simp), h3 (7, gi 0) (by simp)]
      · rintro ex vs h' g ⟨rfl, rfl, rfl⟩
        exact h4 g
set_option maxRecDepth 100000 in
theorem w0J_10 (x0 x1 x2 x3 x4 x5 x6 x7 x8 x9 : Nat) (e row k el rl : Nat) (nx : Int) (fu : Bool) (M : List Value) (p qq : Nat) : ∀ a : AAct, a.n = 58 → a.marks = [] → [1, 2, 4, 5, 6].map a.tmp = [slA' p qq, ptB 2, ptB 3, ptB 4, gi 0] →
    J Tryz.prog (.loop (loopOf Tryz.prog 15 0)) a (w0H [gf x0, gf x1, gf x2, gf x3, gf x4, gf x5, gf x6, gf x7, gf x8, gf x9] e row 10 k nx fu M el rl nilS nx fu) (told 58 [1, 2, 4, 5, 6] fun ex vs h => ex = .exit 0 ∧ vs = [slA' p qq, ptB 2, ptB 3, ptB 4, gi 10] ∧ h = wRH10 x0 x1 x2 x3 x4 x5 x6 x7 x8 x9 e row k el rl nx fu M [gf x0, gf x1, gf x2, gf x3, gf x4, gf x5, gf x6, gf x7, gf x8, gf x9] nx fu) := by
  intro a hn hm hv
  refine J.of_facts (l := [(1, slA' p qq), (2, ptB 2), (4, ptB 3), (5, ptB 4), (6, gi 0)]) hn hm (zip_facts hv) fun g => J.ofE mixed orcRgG_ok (noAsks_ok _) (Eq.mpr (w0_10 x0 x1 x2 x3 x4 x5 x6 x7 x8 x9 e row k el rl nx fu M p qq g _) ⟨rfl, rfl, rfl, rfl, rfl, rfl, rfl, rfl, rfl, rfl, rfl, rfl, rfl, rfl, rfl, rfl, rfl, rfl, rfl, rfl, rfl, rfl, rfl, rfl, rfl, rfl, rfl, rfl, rfl, rfl, rfl, rfl, ?_⟩)
  kernel_rfl
theorem wR_h1_10 (x0 x1 x2 x3 x4 x5 x6 x7 x8 x9 : Nat) (e row k el rl : Nat) (nx : Int) (fu : Bool) (M : List Value) (c C : List Value) (x y : Int) (f : Bool) : (((((wRH10 x0 x1 x2 x3 x4 x5 x6 x7 x8 x9 e row k el rl nx fu M c x f).set (N1 + 24) (.cells C 49 2 false)).set (N1 + 4) (.cells ([Value.slice (some ⟨N1 + 24, 0, none⟩) 10 10] ++ ([gi y] ++ [Value.bool f])) 24 0 false)).set (N1 + 4) (.cells (splice ([Value.slice (some ⟨N1 + 24, 0, none⟩) 10 10] ++ ([gi y] ++ [Value.bool f])) 1 [gi 0]) 24 0 false)).set (N1 + 4) (.cells (splice (splice ([Value.slice (some ⟨N1 + 24, 0, none⟩) 10 10] ++ ([gi y] ++ [Value.bool f])) 1 [gi 0]) 2 [Value.bool true]) 24 0 false)) = wRH10 x0 x1 x2 x3 x4 x5 x6 x7 x8 x9 e row k el rl nx fu M C 0 true := by kernel_rfl
theorem wR_h2_10 (x0 x1 x2 x3 x4 x5 x6 x7 x8 x9 : Nat) (e row k el rl : Nat) (nx : Int) (fu : Bool) (M : List Value) (c C : List Value) (x y : Int) (f : Bool) : (((wRH10 x0 x1 x2 x3 x4 x5 x6 x7 x8 x9 e row k el rl nx fu M c x f).set (N1 + 24) (.cells C 49 2 false)).set (N1 + 4) (.cells ([Value.slice (some ⟨N1 + 24, 0, none⟩) 10 10] ++ ([gi y] ++ [Value.bool f])) 24 0 false)) = wRH10 x0 x1 x2 x3 x4 x5 x6 x7 x8 x9 e row k el rl nx fu M C y f := by kernel_rfl
noncomputable abbrev wRHs10 (x0 x1 x2 x3 x4 x5 x6 x7 x8 x9 : Nat) (e row k el rl : Nat) (nx : Int) (fu : Bool) (M : List Value) (s : WSt) : AHeap := wRH10 x0 x1 x2 x3 x4 x5 x6 x7 x8 x9 e row k el rl nx fu M ((wC s).map gf) (Int.ofNat (wX s)) (wB s)
set_option maxRecDepth 100000 in
theorem wR_loop10 (x0 x1 x2 x3 x4 x5 x6 x7 x8 x9 : Nat) (e row k el rl : Nat) (nx : Int) (fu : Bool) (m : List Nat) (p qq : Nat) (s : WSt) (hp : p ≤ m.length) (hl : p ≤ 1000000) (hs : s.1.length = 10 ∧ s.2.1 < 10) : ∀ a : AAct, a.n = 58 → a.marks = [] → [1, 2, 4, 5, 7].map a.tmp = [slA' p qq, ptB 2, ptB 3, ptB 4, gi 0] →
    J Tryz.prog (.loop (loopOf Tryz.prog 15 2)) a (wRHs10 x0 x1 x2 x3 x4 x5 x6 x7 x8 x9 e row k el rl nx fu (m.map gf) s) (told 58 [1, 2, 4, 5, 7] fun ex vs h => ex = .exit 2 ∧ vs = [slA' p qq, ptB 2, ptB 3, ptB 4, goN p] ∧ h = wRHs10 x0 x1 x2 x3 x4 x5 x6 x7 x8 x9 e row k el rl nx fu (m.map gf) (wrF 10 s (m.take p))) := by
  intro a ha hm hv
  refine loop_rule (fun d vs h => ∃ j, j ≤ p ∧ d = p - j ∧ vs = [slA' p qq, ptB 2, ptB 3, ptB 4, goN j] ∧ h = wRHs10 x0 x1 x2 x3 x4 x5 x6 x7 x8 x9 e row k el rl nx fu (m.map gf) (wrF 10 s (m.take j))) _ ?_ p _ _ a ⟨0, Nat.zero_le _, rfl, rfl, rfl⟩ ha hm hv
  rintro d vs h g ⟨j, hj, rfl, rfl, rfl⟩
  obtain ⟨ho, hx⟩ := wrF_ok (m.take j) hs
  refine execC_ok mixed orcRgG_ok (noAsks_ok _) (noLoops _) (Eq.mpr (wR_body10 x0 x1 x2 x3 x4 x5 x6 x7 x8 x9 e row k el rl nx fu _ _ _ _ p qq j g _) ?_)
  refine ⟨fun hlt => ?_, fun hge => ?_⟩
  · have hj' := blt_true hlt
    obtain ⟨h1, h2⟩ := float_at (l := m) (j := j) (by omega)
    have hst := wrF_snoc 10 s (L := m) (j := j) (by omega)
    generalize wrF 10 s (m.take j) = u at ho hx hst ⊢
    have ho : (wC u).length = 10 := ho
    have hx : wX u < 10 := hx
    rw [h2, splice_gf (by omega)]
    have e1 : fwrap IntKind.i64 (Int.ofNat (wX u) + 1) = Int.ofNat (wX u + 1) := by
      rw [show Int.ofNat (wX u) + 1 = Int.ofNat (wX u + 1) from rfl, fwrap_nat (by omega)]
    rw [e1]
    refine ⟨hlt, h2 ▸ h1, by show Nat.blt (wX u) 10 = true; rw [Nat.blt_eq]; exact hx, by rw [Nat.ble_eq, List.length_map]; show 0 + wX u * 1 + 1 ≤ (wC u).length; omega, fun hc => ⟨p - (j + 1), by omega, j + 1, hj', rfl, by rw [fwrap_nat (by omega)], ?_⟩, fun hc => ⟨p - (j + 1), by omega, j + 1, hj', rfl, by rw [fwrap_nat (by omega)], ?_⟩⟩
    · rw [ieq_dec] at hc
      have hc : wX u + 1 = 10 := by have := of_decide_eq_true hc; simp only [Int.ofNat_eq_natCast] at this; omega
      rw [wR_h1_10, hst]
      unfold wrS wRHs10
      have hc : u.2.1 + 1 = 10 := hc
      rw [if_pos hc, if_pos hc]; rfl
    · rw [ieq_dec] at hc
      have hc : ¬ wX u + 1 = 10 := by have := of_decide_eq_false hc; simp only [Int.ofNat_eq_natCast] at this; omega
      rw [wR_h2_10, hst]
      unfold wrS wRHs10
      have hc : ¬ u.2.1 + 1 = 10 := hc
      rw [if_neg hc, if_neg hc]; rfl
  · have := blt_false hge
    obtain rfl : j = p := by omega
    exact ⟨rfl, rfl, rfl⟩
noncomputable def wRLoops10 (x0 x1 x2 x3 x4 x5 x6 x7 x8 x9 : Nat) (e row k el rl : Nat) (nx : Int) (fu : Bool) (m : List Nat) (p qq x : Nat) : Loops Tryz.prog where
  body := fun i => loopOf Tryz.prog 15 i
  spec := fun i a h c => match i with
    | 0 => entry a 58 [(1, slA' p qq), (2, ptB 2), (4, ptB 3), (5, ptB 4), (6, gi 0)] (h = w0H [gf x0, gf x1, gf x2, gf x3, gf x4, gf x5, gf x6, gf x7, gf x8, gf x9] e row 10 k nx fu (m.map gf) el rl nilS nx fu ∧ ∀ g, c (.exit 0) (stOf 58 [(1, slA' p qq), (2, ptB 2), (4, ptB 3), (5, ptB 4), (6, gi 10)] g) (wRH10 x0 x1 x2 x3 x4 x5 x6 x7 x8 x9 e row k el rl nx fu (m.map gf) [gf x0, gf x1, gf x2, gf x3, gf x4, gf x5, gf x6, gf x7, gf x8, gf x9] nx fu))
    | 2 => entry a 58 [(1, slA' p qq), (2, ptB 2), (4, ptB 3), (5, ptB 4), (7, gi 0)] (h = wRH10 x0 x1 x2 x3 x4 x5 x6 x7 x8 x9 e row k el rl nx fu (m.map gf) [gf x0, gf x1, gf x2, gf x3, gf x4, gf x5, gf x6, gf x7, gf x8, gf x9] nx fu ∧ nx = Int.ofNat x ∧ (p ≤ m.length ∧ p ≤ 1000000 ∧ x < 10) ∧ ∀ g, c (.exit 2) (stOf 58 [(1, slA' p qq), (2, ptB 2), (4, ptB 3), (5, ptB 4), (7, goN p)] g) (wRHs10 x0 x1 x2 x3 x4 x5 x6 x7 x8 x9 e row k el rl nx fu (m.map gf) (wrF 10 ([x0, x1, x2, x3, x4, x5, x6, x7, x8, x9], x, fu) (m.take p))))
    | _ => False
  ok := fun i a h c q => by
    match i, q with
    | 0, q =>
      obtain ⟨h1, h2, h3, rfl, h4⟩ := entry_facts q
      refine J.of_told (w0J_10 x0 x1 x2 x3 x4 x5 x6 x7 x8 x9 e row k el rl nx fu (m.map gf) p qq a h1 h2 ?_) ?_
      · simp only [List.map_cons, List.map_nil]
        rw [h3 (1, slA' p qq) (by simp), h3 (2, ptB 2) (by simp), h3 (4, ptB 3) (by simp), h3 (5, ptB 4) (by simp), h3 (6, gi 0) (by simp)]
      · rintro ex vs h' g ⟨rfl, rfl, rfl⟩
        exact h4 g
    | 2, q =>
      obtain ⟨h1, h2, h3, rfl, rfl, ⟨hs, hs2, hs3⟩, h4⟩ := entry_facts q
      refine J.of_told (wR_loop10 x0 x1 x2 x3 x4 x5 x6 x7 x8 x9 e row k el rl (Int.ofNat x) fu m p qq ([x0, x1, x2, x3, x4, x5, x6, x7, x8, x9], x, fu) hs hs2 ⟨rfl, hs3⟩ a h1 h2 ?_) ?_
      · simp only [List.map_cons, List.map_nil]
        rw [h3 (1, slA' p qq) (by simp), h3 (2, ptB 2) (by simp), h3 (4, ptB 3) (by simp), h3 (5, ptB 4) (by simp), h3 (7, gi 0) (by simp)]
      · rintro ex vs h' g ⟨rfl, rfl, rfl⟩
        exact h4 g
set_option maxRecDepth 100000 in
theorem w0J_11 (x0 x1 x2 x3 x4 x5 x6 x7 x8 x9 x10 : Nat) (e row k el rl : Nat) (nx : Int) (fu : Bool) (M : List Value) (p qq : Nat) : ∀ a : AAct, a.n = 58 → a.marks = [] → [1, 2, 4, 5, 6].map a.tmp = [slA' p qq, ptB 2, ptB 3, ptB 4, gi 0] →
    J Tryz.prog (.loop (loopOf Tryz.prog 15 0)) a (w0H [gf x0, gf x1, gf x2, gf x3, gf x4, gf x5, gf x6, gf x7, gf x8, gf x9, gf x10] e row 11 k nx fu M el rl nilS nx fu) (told 58 [1, 2, 4, 5, 6] fun ex vs h => ex = .exit 0 ∧ vs = [slA' p qq, ptB 2, ptB 3, ptB 4, gi 11] ∧ h = wRH11 x0 x1 x2 x3 x4 x5 x6 x7 x8 x9 x10 e row k el rl nx fu M [gf x0, gf x1, gf x2, gf x3, gf x4, gf x5, gf x6, gf x7, gf x8, gf x9, gf x10] nx fu) := by
  intro a hn hm hv
  refine J.of_facts (l := [(1, slA' p qq), (2, ptB 2), (4, ptB 3), (5, ptB 4), (6, gi 0)]) hn hm (zip_facts hv) fun g => J.ofE mixed orcRgG_ok (noAsks_ok _) (Eq.mpr (w0_11 x0 x1 x2 x3 x4 x5 x6 x7 x8 x9 x10 e row k el rl nx fu M p qq g _) ⟨rfl, rfl, rfl, rfl, rfl, rfl, rfl, rfl, rfl, rfl, rfl, rfl, rfl, rfl, rfl, rfl, rfl, rfl, rfl, rfl, rfl, rfl, rfl, rfl, rfl, rfl, rfl, rfl, rfl, rfl, rfl, rfl, rfl, rfl, rfl, ?_⟩)
  kernel_rfl
theorem wR_h1_11 (x0 x1 x2 x3 x4 x5 x6 x7 x8 x9 x10 : Nat) (e row k el rl : Nat) (nx : Int) (fu : Bool) (M : List Value) (c C : List Value) (x y : Int) (f : Bool) : (((((wRH11 x0 x1 x2 x3 x4 x5 x6 x7 x8 x9 x10 e row k el rl nx fu M c x f).set (N1 + 26) (.cells C 49 2 false)).set (N1 + 4) (.cells ([Value.slice (some ⟨N1 + 26, 0, none⟩) 11 11] ++ ([gi y] ++ [Value.bool f])) 24 0 false)).set (N1 + 4) (.cells (splice ([Value.slice (some ⟨N1 + 26, 0, none⟩) 11 11] ++ ([gi y] ++ [Value.bool f])) 1 [gi 0]) 24 0 false)).set (N1 + 4) (.cells (splice (splice ([Value.slice (some ⟨N1 + 26, 0, none⟩) 11 11] ++ ([gi y] ++ [Value.bool f])) 1 [gi 0]) 2 [Value.bool true]) 24 0 false)) = wRH11 x0 x1 x2 x3 x4 x5 x6 x7 x8 x9 x10 e row k el rl nx fu M C 0 true := by kernel_rfl
theorem wR_h2_11 (x0 x1 x2 x3 x4 x5 x6 x7 x8 x9 x10 : Nat) (e row k el rl : Nat) (nx : Int) (fu : Bool) (M : List Value) (c C : List Value) (x y : Int) (f : Bool) : (((wRH11 x0 x1 x2 x3 x4 x5 x6 x7 x8 x9 x10 e row k el rl nx fu M c x f).set (N1 + 26) (.cells C 49 2 false)).set (N1 + 4) (.cells ([Value.slice (some ⟨N1 + 26, 0, none⟩) 11 11] ++ ([gi y] ++ [Value.bool f])) 24 0 false)) = wRH11 x0 x1 x2 x3 x4 x5 x6 x7 x8 x9 x10 e row k el rl nx fu M C y f := by kernel_rfl
noncomputable abbrev wRHs11 (x0 x1 x2 x3 x4 x5 x6 x7 x8 x9 x10 : Nat) (e row k el rl : Nat) (nx : Int) (fu : Bool) (M : List Value) (s : WSt) : AHeap := wRH11 x0 x1 x2 x3 x4 x5 x6 x7 x8 x9 x10 e row k el rl nx fu M ((wC s).map gf) (Int.ofNat (wX s)) (wB s)
set_option maxRecDepth 100000 in
theorem wR_loop11 (x0 x1 x2 x3 x4 x5 x6 x7 x8 x9 x10 : Nat) (e row k el rl : Nat) (nx : Int) (fu : Bool) (m : List Nat) (p qq : Nat) (s : WSt) (hp : p ≤ m.length) (hl : p ≤ 1000000) (hs : s.1.length = 11 ∧ s.2.1 < 11) : ∀ a : AAct, a.n = 58 → a.marks = [] → [1, 2, 4, 5, 7].map a.tmp = [slA' p qq, ptB 2, ptB 3, ptB 4, gi 0] →
    J Tryz.prog (.loop (loopOf Tryz.prog 15 2)) a (wRHs11 x0 x1 x2 x3 x4 x5 x6 x7 x8 x9 x10 e row k el rl nx fu (m.map gf) s) (told 58 [1, 2, 4, 5, 7] fun ex vs h => ex = .exit 2 ∧ vs = [slA' p qq, ptB 2, ptB 3, ptB 4, goN p] ∧ h = wRHs11 x0 x1 x2 x3 x4 x5 x6 x7 x8 x9 x10 e row k el rl nx fu (m.map gf) (wrF 11 s (m.take p))) := by
  intro a ha hm hv
  refine loop_rule (fun d vs h => ∃ j, j ≤ p ∧ d = p - j ∧ vs = [slA' p qq, ptB 2, ptB 3, ptB 4, goN j] ∧ h = wRHs11 x0 x1 x2 x3 x4 x5 x6 x7 x8 x9 x10 e row k el rl nx fu (m.map gf) (wrF 11 s (m.take j))) _ ?_ p _ _ a ⟨0, Nat.zero_le _, rfl, rfl, rfl⟩ ha hm hv
  rintro d vs h g ⟨j, hj, rfl, rfl, rfl⟩
  obtain ⟨ho, hx⟩ := wrF_ok (m.take j) hs
  refine execC_ok mixed orcRgG_ok (noAsks_ok _) (noLoops _) (Eq.mpr (wR_body11 x0 x1 x2 x3 x4 x5 x6 x7 x8 x9 x10 e row k el rl nx fu _ _ _ _ p qq j g _) ?_)
  refine ⟨fun hlt => ?_, fun hge => ?_⟩
  · have hj' := blt_true hlt
    obtain ⟨h1, h2⟩ := float_at (l := m) (j := j) (by omega)
    have hst := wrF_snoc 11 s (L := m) (j := j) (by omega)
    generalize wrF 11 s (m.take j) = u at ho hx hst ⊢
    have ho : (wC u).length = 11 := ho
    have hx : wX u < 11 := hx
    rw [h2, splice_gf (by omega)]
    have e1 : fwrap IntKind.i64 (Int.ofNat (wX u) + 1) = Int.ofNat (wX u + 1) := by
      rw [show Int.ofNat (wX u) + 1 = Int.ofNat (wX u + 1) from rfl, fwrap_nat (by omega)]
    rw [e1]
    refine ⟨hlt, h2 ▸ h1, by show Nat.blt (wX u) 11 = true; rw [Nat.blt_eq]; exact hx, by rw [Nat.ble_eq, List.length_map]; show 0 + wX u * 1 + 1 ≤ (wC u).length; omega, fun hc => ⟨p - (j + 1), by omega, j + 1, hj', rfl, by rw [fwrap_nat (by omega)], ?_⟩, fun hc => ⟨p - (j + 1), by omega, j + 1, hj', rfl, by rw [fwrap_nat (by omega)], ?_⟩⟩
    · rw [ieq_dec] at hc
      have hc : wX u + 1 = 11 := by have := of_decide_eq_true hc; simp only [Int.ofNat_eq_natCast] at this; omega
      rw [wR_h1_11, hst]
      unfold wrS wRHs11
      have hc : u.2.1 + 1 = 11 := hc
      rw [if_pos hc, if_pos hc]; rfl
    · rw [ieq_dec] at hc
      have hc : ¬ wX u + 1 = 11 := by have := of_decide_eq_false hc; simp only [Int.ofNat_eq_natCast] at this; omega
      rw [wR_h2_11, hst]
      unfold wrS wRHs11
      have hc : ¬ u.2.1 + 1 = 11 := hc
      rw [if_neg hc, if_neg hc]; rfl
  · have := blt_false hge
    obtain rfl : j = p := by omega
    exact ⟨rfl, rfl, rfl⟩
noncomputable def wRLoops11 (x0 x1 x2 x3 x4 x5 x6 x7 x8 x9 x10 : Nat) (e row k el rl : Nat) (nx : Int) (fu : Bool) (m : List Nat) (p qq x : Nat) : Loops Tryz.prog where
  body := fun i => loopOf Tryz.prog 15 i
  spec := fun i a h c => match i with
    | 0 => entry a 58 [(1, slA' p qq), (2, ptB 2), (4, ptB 3), (5, ptB 4), (6, gi 0)] (h = w0H [gf x0, gf x1, gf x2, gf x3, gf x4, gf x5, gf x6, gf x7, gf x8, gf x9, gf x10] e row 11 k nx fu (m.map gf) el rl nilS nx fu ∧ ∀ g, c (.exit 0) (stOf 58 [(1, slA' p qq), (2, ptB 2), (4, ptB 3), (5, ptB 4), (6, gi 11)] g) (wRH11 x0 x1 x2 x3 x4 x5 x6 x7 x8 x9 x10 e row k el rl nx fu (m.map gf) [gf x0, gf x1, gf x2, gf x3, gf x4, gf x5, gf x6, gf x7, gf x8, gf x9, gf x10] nx fu))
    | 2 => entry a 58 [(1, slA' p qq), (2, ptB 2), (4, ptB 3), (5, ptB 4), (7, gi 0)] (h = wRH11 x0 x1 x2 x3 x4 x5 x6 x7 x8 x9 x10 e row k el rl nx fu (m.map gf) [gf x0, gf x1, gf x2, gf x3, gf x4, gf x5, gf x6, gf x7, gf x8, gf x9, gf x10] nx fu ∧ nx = Int.ofNat x ∧ (p ≤ m.length ∧ p ≤ 1000000 ∧ x < 11) ∧ ∀ g, c (.exit 2) (stOf 58 [(1, slA' p qq), (2, ptB 2), (4, ptB 3), (5, ptB 4), (7, goN p)] g) (wRHs11 x0 x1 x2 x3 x4 x5 x6 x7 x8 x9 x10 e row k el rl nx fu (m.map gf) (wrF 11 ([x0, x1, x2, x3, x4, x5, x6, x7, x8, x9, x10], x, fu) (m.take p))))
    | _ => False
  ok := fun i a h c q => by
    match i, q with
    | 0, q =>
      obtain ⟨h1, h2, h3, rfl, h4⟩ := entry_facts q
      refine J.of_told (w0J_11 x0 x1 x2 x3 x4 x5 x6 x7 x8 x9 x10 e row k el rl nx fu (m.map gf) p qq a h1 h2 ?_) ?_
      · simp only [List.map_cons, List.map_nil]
        rw [h3 (1, slA' p qq) (by simp), h3 (2, ptB 2) (by simp), h3 (4, ptB 3) (by simp), h3 (5, ptB 4) (by simp), h3 (6, gi 0) (by simp)]
      · rintro ex vs h' g ⟨rfl, rfl, rfl⟩
        exact h4 g
    | 2, q =>
      obtain ⟨h1, h2, h3, rfl, rfl, ⟨hs, hs2, hs3⟩, h4⟩ := entry_facts q
      refine J.of_told (wR_loop11 x0 x1 x2 x3 x4 x5 x6 x7 x8 x9 x10 e row k el rl (Int.ofNat x) fu m p qq ([x0, x1, x2, x3, x4, x5, x6, x7, x8, x9, x10], x, fu) hs hs2 ⟨rfl, hs3⟩ a h1 h2 ?_) ?_
      · simp only [List.map_cons, List.map_nil]
        rw [h3 (1, slA' p qq) (by simp), h3 (2, ptB 2) (by simp), h3 (4, ptB 3) (by simp), h3 (5, ptB 4) (by simp), h3 (7, gi 0) (by simp)]
      · rintro ex vs h' g ⟨rfl, rfl, rfl⟩
        exact h4 g
set_option maxRecDepth 100000 in
theorem w0J_12 (x0 x1 x2 x3 x4 x5 x6 x7 x8 x9 x10 x11 : Nat) (e row k el rl : Nat) (nx : Int) (fu : Bool) (M : List Value) (p qq : Nat) : ∀ a : AAct, a.n = 58 → a.marks = [] → [1, 2, 4, 5, 6].map a.tmp = [slA' p qq, ptB 2, ptB 3, ptB 4, gi 0] →
    J Tryz.prog (.loop (loopOf Tryz.prog 15 0)) a (w0H [gf x0, gf x1, gf x2, gf x3, gf x4, gf x5, gf x6, gf x7, gf x8, gf x9, gf x10, gf x11] e row 12 k nx fu M el rl nilS nx fu) (told 58 [1, 2, 4, 5, 6] fun ex vs h => ex = .exit 0 ∧ vs = [slA' p qq, ptB 2, ptB 3, ptB 4, gi 12] ∧ h = wRH12 x0 x1 x2 x3 x4 x5 x6 x7 x8 x9 x10 x11 e row k el rl nx fu M [gf x0, gf x1, gf x2, gf x3, gf x4, gf x5, gf x6, gf x7, gf x8, gf x9, gf x10, gf x11] nx fu) := by
  intro a hn hm hv
  refine J.of_facts (l := [(1, slA' p qq), (2, ptB 2), (4, ptB 3), (5, ptB 4), (6, gi 0)]) hn hm (zip_facts hv) fun g => J.ofE mixed orcRgG_ok (noAsks_ok _) (Eq.mpr (w0_12 x0 x1 x2 x3 x4 x5 x6 x7 x8 x9 x10 x11 e row k el rl nx fu M p qq g _) ⟨rfl, rfl, rfl, rfl, rfl, rfl, rfl, rfl, rfl, rfl, rfl, rfl, rfl, rfl, rfl, rfl, rfl, rfl, rfl, rfl, rfl, rfl, rfl, rfl, rfl, rfl, rfl, rfl, rfl, rfl, rfl, rfl, rfl, rfl, rfl, rfl, rfl, rfl, ?_⟩)
  kernel_rfl
theorem wR_h1_12 (x0 x1 x2 x3 x4 x5 x6 x7 x8 x9 x10 x11 : Nat) (e row k el rl : Nat) (nx : Int) (fu : Bool) (M : List Value) (c C : List Value) (x y : Int) (f : Bool) : (((((wRH12 x0 x1 x2 x3 x4 x5 x6 x7 x8 x9 x10 x11 e row k el rl nx fu M c x f).set (N1 + 28) (.cells C 49 2 false)).set (N1 + 4) (.cells ([Value.slice (some ⟨N1 + 28, 0, none⟩) 12 12] ++ ([gi y] ++ [Value.bool f])) 24 0 false)).set (N1 + 4) (.cells (splice ([Value.slice (some ⟨N1 + 28, 0, none⟩) 12 12] ++ ([gi y] ++ [Value.bool f])) 1 [gi 0]) 24 0 false)).set (N1 + 4) (.cells (splice (splice ([Value.slice (some ⟨N1 + 28, 0, none⟩) 12 12] ++ ([gi y] ++ [Value.bool f])) 1 [gi 0]) 2 [Value.bool true]) 24 0 false)) = wRH12 x0 x1 x2 x3 x4 x5 x6 x7 x8 x9 x10 x11 e row k el rl nx fu M C 0 true := by kernel_rfl
theorem wR_h2_12 (x0 x1 x2 x3 x4 x5 x6 x7 x8 x9 x10 x11 : Nat) (e row k el rl : Nat) (nx : Int) (fu : Bool) (M : List Value) (c C : List Value) (x y : Int) (f : Bool) : (((wRH12 x0 x1 x2 x3 x4 x5 x6 x7 x8 x9 x10 x11 e row k el rl nx fu M c x f).set (N1 + 28) (.cells C 49 2 false)).set (N1 + 4) (.cells ([Value.slice (some ⟨N1 + 28, 0, none⟩) 12 12] ++ ([gi y] ++ [Value.bool f])) 24 0 false)) = wRH12 x0 x1 x2 x3 x4 x5 x6 x7 x8 x9 x10 x11 e row k el rl nx fu M C y f := by kernel_rfl
noncomputable abbrev wRHs12 (x0 x1 x2 x3 x4 x5 x6 x7 x8 x9 x10 x11 : Nat) (e row k el rl : Nat) (nx : Int) (fu : Bool) (M : List Value) (s : WSt) : AHeap := wRH12 x0 x1 x2 x3 x4 x5 x6 x7 x8 x9 x10 x11 e row k el rl nx fu M ((wC s).map gf) (Int.ofNat (wX s)) (wB s)
set_option maxRecDepth 100000 in
theorem wR_loop12 (x0 x1 x2 x3 x4 x5 x6 x7 x8 x9 x10 x11 : Nat) (e row k el rl : Nat) (nx : Int) (fu : Bool) (m : List Nat) (p qq : Nat) (s : WSt) (hp : p ≤ m.length) (hl : p ≤ 1000000) (hs : s.1.length = 12 ∧ s.2.1 < 12) : ∀ a : AAct, a.n = 58 → a.marks = [] → [1, 2, 4, 5, 7].map a.tmp = [slA' p qq, ptB 2, ptB 3, ptB 4, gi 0] →
    J Tryz.prog (.loop (loopOf Tryz.prog 15 2)) a (wRHs12 x0 x1 x2 x3 x4 x5 x6 x7 x8 x9 x10 x11 e row k el rl nx fu (m.map gf) s) (told 58 [1, 2, 4, 5, 7] fun ex vs h => ex = .exit 2 ∧ vs = [slA' p qq, ptB 2, ptB 3, ptB 4, goN p] ∧ h = wRHs12 x0 x1 x2 x3 x4 x5 x6 x7 x8 x9 x10 x11 e row k el rl nx fu (m.map gf) (wrF 12 s (m.take p))) := by
  intro a ha hm hv
  refine loop_rule (fun d vs h => ∃ j, j ≤ p ∧ d = p - j ∧ vs = [slA' p qq, ptB 2, ptB 3, ptB 4, goN j] ∧ h = wRHs12 x0 x1 x2 x3 x4 x5 x6 x7 x8 x9 x10 x11 e row k el rl nx fu (m.map gf) (wrF 12 s (m.take j))) _ ?_ p _ _ a ⟨0, Nat.zero_le _, rfl, rfl, rfl⟩ ha hm hv
  rintro d vs h g ⟨j, hj, rfl, rfl, rfl⟩
  obtain ⟨ho, hx⟩ := wrF_ok (m.take j) hs
  refine execC_ok mixed orcRgG_ok (noAsks_ok _) (noLoops _) (Eq.mpr (wR_body12 x0 x1 x2 x3 x4 x5 x6 x7 x8 x9 x10 x11 e row k el rl nx fu _ _ _ _ p qq j g _) ?_)
  refine ⟨fun hlt => ?_, fun hge => ?_⟩
  · have hj' := blt_true hlt
    obtain ⟨h1, h2⟩ := float_at (l := m) (j := j) (by omega)
    have hst := wrF_snoc 12 s (L := m) (j := j) (by omega)
    generalize wrF 12 s (m.take j) = u at ho hx hst ⊢
    have ho : (wC u).length = 12 := ho
    have hx : wX u < 12 := hx
    rw [h2, splice_gf (by omega)]
    have e1 : fwrap IntKind.i64 (Int.ofNat (wX u) + 1) = Int.ofNat (wX u + 1) := by
      rw [show Int.ofNat (wX u) + 1 = Int.ofNat (wX u + 1) from rfl, fwrap_nat (by omega)]
    rw [e1]
    refine ⟨hlt, h2 ▸ h1, by show Nat.blt (wX u) 12 = true; rw [Nat.blt_eq]; exact hx, by rw [Nat.ble_eq, List.length_map]; show 0 + wX u * 1 + 1 ≤ (wC u).length; omega, fun hc => ⟨p - (j + 1), by omega, j + 1, hj', rfl, by rw [fwrap_nat (by omega)], ?_⟩, fun hc => ⟨p - (j + 1), by omega, j + 1, hj', rfl, by rw [fwrap_nat (by omega)], ?_⟩⟩
    · rw [ieq_dec] at hc
      have hc : wX u + 1 = 12 := by have := of_decide_eq_true hc; simp only [Int.ofNat_eq_natCast] at this; omega
      rw [wR_h1_12, hst]
      unfold wrS wRHs12
      have hc : u.2.1 + 1 = 12 := hc
      rw [if_pos hc, if_pos hc]; rfl
    · rw [ieq_dec] at hc
      have hc : ¬ wX u + 1 = 12 := by have := of_decide_eq_false hc; simp only [Int.ofNat_eq_natCast] at this; omega
      rw [wR_h2_12, hst]
      unfold wrS wRHs12
      have hc : ¬ u.2.1 + 1 = 12 := hc
      rw [if_neg hc, if_neg hc]; rfl
  · have := blt_false hge
    obtain rfl : j = p := by omega
    exact ⟨rfl, rfl, rfl⟩
noncomputable def wRLoops12 (x0 x1 x2 x3 x4 x5 x6 x7 x8 x9 x10 x11 : Nat) (e row k el rl : Nat) (nx : Int) (fu : Bool) (m : List Nat) (p qq x : Nat) : Loops Tryz.prog where
  body := fun i => loopOf Tryz.prog 15 i
  spec := fun i a h c => match i with
    | 0 => entry a 58 [(1, slA' p qq), (2, ptB 2), (4, ptB 3), (5, ptB 4), (6, gi 0)] (h = w0H [gf x0, gf x1, gf x2, gf x3, gf x4, gf x5, gf x6, gf x7, gf x8, gf x9, gf x10, gf x11] e row 12 k nx fu (m.map gf) el rl nilS nx fu ∧ ∀ g, c (.exit 0) (stOf 58 [(1, slA' p qq), (2, ptB 2), (4, ptB 3), (5, ptB 4), (6, gi 12)] g) (wRH12 x0 x1 x2 x3 x4 x5 x6 x7 x8 x9 x10 x11 e row k el rl nx fu (m.map gf) [gf x0, gf x1, gf x2, gf x3, gf x4, gf x5, gf x6, gf x7, gf x8, gf x9, gf x10, gf x11] nx fu))
    | 2 => entry a 58 [(1, slA' p qq), (2, ptB 2), (4, ptB 3), (5, ptB 4), (7, gi 0)] (h = wRH12 x0 x1 x2 x3 x4 x5 x6 x7 x8 x9 x10 x11 e row k el rl nx fu (m.map gf) [gf x0, gf x1, gf x2, gf x3, gf x4, gf x5, gf x6, gf x7, gf x8, gf x9, gf x10, gf x11] nx fu ∧ nx = Int.ofNat x ∧ (p ≤ m.length ∧ p ≤ 1000000 ∧ x < 12) ∧ ∀ g, c (.exit 2) (stOf 58 [(1, slA' p qq), (2, ptB 2), (4, ptB 3), (5, ptB 4), (7, goN p)] g) (wRHs12 x0 x1 x2 x3 x4 x5 x6 x7 x8 x9 x10 x11 e row k el rl nx fu (m.map gf) (wrF 12 ([x0, x1, x2, x3, x4, x5, x6, x7, x8, x9, x10, x11], x, fu) (m.take p))))
    | _ => False
  ok := fun i a h c q => by
    match i, q with
    | 0, q =>
      obtain ⟨h1, h2, h3, rfl, h4⟩ := entry_facts q
      refine J.of_told (w0J_12 x0 x1 x2 x3 x4 x5 x6 x7 x8 x9 x10 x11 e row k el rl nx fu (m.map gf) p qq a h1 h2 ?_) ?_
      · simp only [List.map_cons, List.map_nil]
        rw [h3 (1, slA' p qq) (by simp), h3 (2, ptB 2) (by simp), h3 (4, ptB 3) (by simp), h3 (5, ptB 4) (by simp), h3 (6, gi 0) (by simp)]
      · rintro ex vs h' g ⟨rfl, rfl, rfl⟩
        exact h4 g
    | 2, q =>
      obtain ⟨h1, h2, h3, rfl, rfl, ⟨hs, hs2, hs3⟩, h4⟩ := entry_facts q
      refine J.of_told (wR_loop12 x0 x1 x2 x3 x4 x5 x6 x7 x8 x9 x10 x11 e row k el rl (Int.ofNat x) fu m p qq ([x0, x1, x2, x3, x4, x5, x6, x7, x8, x9, x10, x11], x, fu) hs hs2 ⟨rfl, hs3⟩ a h1 h2 ?_) ?_
      · simp only [List.map_cons, List.map_nil]
        rw [h3 (1, slA' p qq) (by simp), h3 (2, ptB 2) (by simp), h3 (4, ptB 3) (by simp), h3 (5, ptB 4) (by simp), h3 (7, gi 0) (by simp)]
      · rintro ex vs h' g ⟨rfl, rfl, rfl⟩
        exact h4 g
end Go.Proofs.YtgomacijdadjpaaGreatDoor
