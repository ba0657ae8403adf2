/-
  OWN WORK. Stage 6: sums by limits, and moments: the loops.
-/
import Derived.Test.YtihnnmejkpddeaaGreatDoorJcJ
namespace Go.Proofs.YtihnnmejkpddeaaGreatDoor
open Go Go.Am

noncomputable def coF (u v x y : Int) : P2 := (rqA (x * v + y * u) (u * v), rqB (x * v + y * u) (u * v))
noncomputable def coL (u v : Int) (a b : List Int) : List P2 := List.zipWith (coF u v) a b
def bd0 (l : List Int) : Prop := ∀ x ∈ l, 0 ≤ x ∧ x ≤ 16384
def bdU (l : List Int) : Prop := ∀ x ∈ l, -16384 ≤ x ∧ x ≤ 16384
def lim1 (u : Int) : Prop := 1 ≤ u ∧ u ≤ 1000
theorem mul_bd {x v : Int} (hx : 0 ≤ x ∧ x ≤ 16384) (hv : lim1 v) : 0 ≤ x * v ∧ x * v ≤ 16384000 := by
  have l := Int.mul_nonneg hx.1 (show 0 ≤ v by have := hv.1; omega)
  have u : x * v ≤ 16384 * 1000 := Int.mul_le_mul hx.2 hv.2 (by have := hv.1; omega) (by decide)
  omega
theorem lim_mul {u v : Int} (hu : lim1 u) (hv : lim1 v) : 0 < u * v ∧ u * v ≤ 1000000 := by
  have l : 1 * 1 ≤ u * v := Int.mul_le_mul hu.1 hv.1 (by decide) (by have := hu.1; omega)
  have r : u * v ≤ 1000 * 1000 := Int.mul_le_mul hu.2 hv.2 (by have := hv.1; omega) (by decide)
  omega
theorem coF_ok {u v x y : Int} (hu : lim1 u) (hv : lim1 v) (hx : 0 ≤ x ∧ x ≤ 16384) (hy : 0 ≤ y ∧ y ≤ 16384) : okR (coF u v x y) := by
  obtain ⟨a1, a2⟩ := mul_bd hx hv
  obtain ⟨b1, b2⟩ := mul_bd hy hu
  obtain ⟨c1, c2⟩ := lim_mul hu hv
  exact rq_ok (by omega) (by omega) c1 c2
theorem coL_ok {u v : Int} (hu : lim1 u) (hv : lim1 v) : ∀ {a b : List Int}, bd0 a → bd0 b → ∀ y ∈ coL u v a b, okR y
  | [], _, _, _, y, h => by cases ‹List Int› <;> cases h
  | _ :: _, [], _, _, y, h => by cases h
  | x :: a, z :: b, h1, h2, y, h => by
    rcases List.mem_cons.1 (show y ∈ coF u v x z :: coL u v a b from h) with rfl | h
    · exact coF_ok hu hv (h1 x (.head _)) (h2 z (.head _))
    · exact coL_ok hu hv (fun w hw => h1 w (.tail _ hw)) (fun w hw => h2 w (.tail _ hw)) y h
theorem coL_len {u v : Int} {a b : List Int} {n : Nat} (ha : a.length = n) (hb : b.length = n) : (coL u v a b).length = n := by
  unfold coL
  rw [List.length_zipWith, ha, hb, Nat.min_self]
theorem cellsP_nil' {l : List P2} {j : Nat} (hj : j ≤ l.length) (h : cellsP (l.take j) = []) : j = 0 := by
  have := congrArg List.length h
  rw [cellsP_len, List.length_take, Nat.min_eq_left hj] at this
  simp at this
  omega
noncomputable def coV (n k k' : Nat) : Nat → Value → List Value := fun j w => [liP n k, slQ n k', ptN 2, w, goN n, goN j]
set_option maxRecDepth 100000 in
theorem co_loop (a b : List Int) (u v : Int) (n e row k e' row' k' : Nat) (ha : a.length = n) (hb : b.length = n) (h1 : n ≤ 65536) (ba : bd0 a) (bb : bd0 b) (hu : lim1 u) (hv : lim1 v) : ∀ (s : AAct) (h : AHeap), GrownW Tryz.prog (coC (a.map gi) (b.map gi) e row e' row' u v) 28 3 (coV n k k') (fun j => j) (fun j => cellsP ((coL u v a b).take j)) 0 ([0, 1, 5, 7, 10, 11].map s.tmp) h → s.n = 40 → s.marks = [] →
    J Tryz.prog (.loop (loopOf Tryz.prog 107 0)) s h (told 40 [0, 1, 5, 7, 10, 11] fun ex vs h' => ex = .exit 0 ∧ ((n = 0 ∧ vs = coV n k k' n nilS) ∨ (vs = coV n k k' n (slN 3 n n) ∧ h' = coD (a.map gi) (b.map gi) e row e' row' u v (cellsP (coL u v a b))))) := by
  intro s h hG hs hk
  have hl := coL_len (u := u) (v := v) ha hb
  have fac : ∀ j (hj : j < n), ((a.map gi)[0 + j * 1]? = some (gi (intAt (a.map gi) (0 + j * 1))) ∧ (b.map gi)[0 + j * 1]? = some (gi (intAt (b.map gi) (0 + j * 1)))) ∧ (inI64 (intAt (a.map gi) (0 + j * 1) * v) = true ∧ inI64 (intAt (b.map gi) (0 + j * 1) * u) = true ∧ inI64 (intAt (a.map gi) (0 + j * 1) * v + intAt (b.map gi) (0 + j * 1) * u) = true ∧ inI64 (u * v) = true ∧ ratB (intAt (a.map gi) (0 + j * 1) * v + intAt (b.map gi) (0 + j * 1) * u) (u * v) = true) ∧
      cellsP ((coL u v a b).take (j + 1)) = cellsP ((coL u v a b).take j) ++ [gi (rqA (intAt (a.map gi) (0 + j * 1) * v + intAt (b.map gi) (0 + j * 1) * u) (u * v)), gi (rqB (intAt (a.map gi) (0 + j * 1) * v + intAt (b.map gi) (0 + j * 1) * u) (u * v))] := fun j hj => by
    obtain ⟨f1, f2⟩ := first_at (l := a) (j := j) (by omega)
    obtain ⟨g1, g2⟩ := first_at (l := b) (j := j) (by omega)
    rw [f2, g2]
    rw [f2] at f1
    rw [g2] at g1
    obtain ⟨a1, a2⟩ := mul_bd (ba _ (List.getElem_mem (l := a) (n := j) (by omega))) hv
    obtain ⟨b1, b2⟩ := mul_bd (bb _ (List.getElem_mem (l := b) (n := j) (by omega))) hu
    obtain ⟨c1, c2⟩ := lim_mul hu hv
    refine ⟨⟨f1, g1⟩, ⟨inI64_small (by omega) (by omega), inI64_small (by omega) (by omega), inI64_small (by omega) (by omega), inI64_small (by omega) (by omega), ratB_of (inI64_small (by omega) (by omega)) (inI64_small (by omega) (by omega)) c1⟩, ?_⟩
    rw [cellsP_take (by omega)]
    have : (coL u v a b)[j]'(by omega) = coF u v (a[j]'(by omega)) (b[j]'(by omega)) := List.getElem_zipWith
    rw [this]; rfl
  refine growW_rule (C := coC (a.map gi) (b.map gi) e row e' row' u v) (el := 28) (rw := 3) globs_pos (by decide) (by decide) (fun x hx => by
      simp only [List.mem_cons, List.not_mem_nil, or_false] at hx
      rcases hx with rfl | rfl | rfl
      · exact flat_ints a
      · exact flat_ints b
      · rfl) (coV n k k') (fun j => j) (fun j => cellsP ((coL u v a b).take j)) n _ (fun j => cellsP_flat _) (fun j => by kernel_rfl) (fun j q d hd => by
      obtain rfl | rfl | rfl | rfl : d = 0 ∨ d = 1 ∨ d = 2 ∨ d = 3 := by omega
      all_goals kernel_rfl)
    (fun j w q hq => by
      match q, hq with
      | 0, _ => exact ⟨(0, liP n k), by simp [coV], by simp [named]⟩
      | 1, _ => exact ⟨(1, slQ n k'), by simp [coV], by simp [named]⟩
      | 2, _ => exact ⟨(5, ptN 2), by simp [coV], by simp [named]⟩) (fun j b q => ⟨(7, .slice (some ⟨b, 0, none⟩) q q), by simp [coV], by simp [named]⟩) ?_ ?_ ?_ ?_ s h hG hs hk
  · intro j hj hx g
    obtain ⟨⟨f1, f2⟩, ⟨i1, i2, i3, i4, i5⟩, et⟩ := fac j hj
    have j0 := cellsP_nil' (by omega) hx
    refine execC_ok mixed orcJf_ok askJf_ok (noLoops _) (Eq.mpr (co_bodyA _ _ n k k' e row e' row' j u v g _) ⟨fun hlt => ⟨hlt, f1, i1, hlt, f2, i2, i3, i4, i5, fun p b hb => ?_, .inr ⟨nG1 + 4, 1, rfl, by omega, ?_, ?_, ?_⟩⟩, fun hge => absurd (blt_false hge) (by omega)⟩)
    · match p, hb with
      | 0, hb => cases hb; show _ = _; kernel_rfl
      | 1, hb => cases hb; show _ = _; kernel_rfl
      | 2, hb => cases hb; show _ = _; kernel_rfl
    · intro hh
      have := cellsP_nil' (by omega) hh
      omega
    · rw [fwrap_nat (by omega), j0]; rfl
    · have hx : cellsP ((coL u v a b).take j) = [] := hx
      show _ = some (AObj.cells (cellsP ((coL u v a b).take (j + 1))) _ _ _)
      rw [et, hx]; show _ = _; kernel_rfl
  · intro j hj hx g
    obtain ⟨⟨f1, f2⟩, ⟨i1, i2, i3, i4, i5⟩, et⟩ := fac j hj
    refine execC_ok mixed orcJf_ok askJf_ok (noLoops _) (Eq.mpr (co_bodyD _ _ (cellsP ((coL u v a b).take j)) n k k' e row e' row' j j u v g _) ⟨fun hlt => ⟨hlt, f1, i1, hlt, f2, i2, i3, i4, i5, ble_noV (by omega), by rw [Nat.ble_eq]; omega, by rw [cellsP_len, List.length_take, Nat.min_eq_left (by omega)], fun p b hb => ?_, .inr ⟨nG1 + 5, 2, rfl, by omega, ?_, ?_, ?_⟩⟩, fun hge => absurd (blt_false hge) (by omega)⟩)
    · match p, hb with
      | 0, hb => cases hb; show _ = _; kernel_rfl
      | 1, hb => cases hb; show _ = _; kernel_rfl
      | 2, hb => cases hb; show _ = _; kernel_rfl
    · intro hh
      have := cellsP_nil' (by omega) hh
      omega
    · rw [fwrap_nat (by omega)]; rfl
    · show _ = some (AObj.cells (cellsP ((coL u v a b).take (j + 1))) _ _ _)
      rw [et]; show _ = _; kernel_rfl
  · intro hx g
    have j0 := cellsP_nil' (by omega) hx
    exact execC_ok mixed orcJf_ok askJf_ok (noLoops _) (Eq.mpr (co_bodyA _ _ n k k' e row e' row' n u v g _) ⟨fun hlt => absurd (blt_true hlt) (by omega), fun _ => ⟨rfl, .inl ⟨j0, rfl⟩⟩⟩)
  · intro hx g
    refine execC_ok mixed orcJf_ok askJf_ok (noLoops _) (Eq.mpr (co_bodyD _ _ (cellsP ((coL u v a b).take n)) n k k' e row e' row' n n u v g _) ⟨fun hlt => absurd (blt_true hlt) (by omega), fun _ => ⟨rfl, .inr ⟨rfl, ?_⟩⟩⟩)
    rw [List.take_of_length_le (by omega)]
noncomputable def coLo (a b : List Int) (u v : Int) (n e row k e' row' k' : Nat) : Loops Tryz.prog where
  body := fun _ => loopOf Tryz.prog 107 0
  spec := fun _ s h c => entry s 40 [(0, liP n k), (1, slQ n k'), (5, ptN 2), (7, nilS), (10, goN n), (11, goN 0)] (h.get (nG1 + 0) = some (.cells (a.map gi) e row true) ∧ h.get (nG1 + 1) = some (.cells (b.map gi) e' row' true) ∧ h.get (nG1 + 2) = some (.cells [gi u, gi v] 62 0 false) ∧ ((a.length = n ∧ b.length = n ∧ 0 < n ∧ n ≤ 65536) ∧ bd0 a ∧ bd0 b ∧ lim1 u ∧ lim1 v) ∧ ∀ g, c (.exit 0) (stOf 40 [(7, slN 3 n n)] g) (coD (a.map gi) (b.map gi) e row e' row' u v (cellsP (coL u v a b))))
  ok := fun i s h c q => by
    obtain ⟨h1, h2, h3, g0, g1, g2, ⟨⟨ha, hb, h0, hs⟩, ba, bb, hu, hv⟩, h5⟩ := entry_facts q
    refine J.of_told (co_loop a b u v n e row k e' row' k' ha hb hs ba bb hu hv s h ⟨fun q b hb => ?_, .inl ⟨rfl, ?_⟩⟩ h1 h2) ?_
    · match q, hb with
      | 0, hb => cases hb; exact g0
      | 1, hb => cases hb; exact g1
      | 2, hb => cases hb; exact g2
    · simp only [List.map_cons, List.map_nil]
      rw [h3 (0, liP n k) (by simp), h3 (1, slQ n k') (by simp), h3 (5, ptN 2) (by simp), h3 (7, nilS) (by simp), h3 (10, goN n) (by simp), h3 (11, goN 0) (by simp)]
      rfl
    · rintro ex vs h' g ⟨rfl, ⟨hn, _⟩ | ⟨rfl, rfl⟩⟩
      · omega
      · exact h5 (ov [(0, liP n k), (1, slQ n k'), (5, ptN 2), (10, goN n), (11, goN n)] g)
theorem co_run (a b : List Int) (u v : Int) (m e row k e' row' k' : Nat) (K : Value → AHeap → Prop) : callC Tryz.prog (exec Tryz.prog orcJf 10) (syOf []) askJf (coLo a b u v (m + 1) e row k e' row' k') 40 107 #[liP (m + 1) k, slQ (m + 1) k', .agg #[gi u, gi v]] (i2H a e row b e' row') K = ((loopOf Tryz.prog 107 0 = loopOf Tryz.prog 107 0 ∧ liP (m + 1) k = liP (m + 1) k ∧ slQ (m + 1) k' = slQ (m + 1) k' ∧ Value.pointer (some ⟨nG1 + 2, 0, none⟩) = ptN 2 ∧ nilS = nilS ∧ goN (m + 1) = goN (m + 1) ∧ gi 0 = goN 0 ∧ ((i2H a e row b e' row').push (.cells [gi u, gi v] 62 0 false)).get (nG1) = Option.some (.cells (List.map gi a) e row true) ∧ ((i2H a e row b e' row').push (.cells [gi u, gi v] 62 0 false)).get (nG1 + 1) = Option.some (.cells (List.map gi b) e' row' true) ∧ ((i2H a e row b e' row').push (.cells [gi u, gi v] 62 0 false)).get (nG1 + 2) = Option.some (.cells [gi u, gi v] 62 0 false) ∧ ((List.length a = (m + 1) ∧ List.length b = (m + 1) ∧ (0 : Nat) < (m + 1) ∧ ((m + 1) : Nat) ≤ 65536) ∧ bd0 a ∧ bd0 b ∧ lim1 u ∧ lim1 v) ∧ (∀ _ : Nat → Value, K (slN 3 (m + 1) (m + 1)) (coD (List.map gi a) (List.map gi b) e row e' row' u v (cellsP (coL u v a b)))))) := by kernel_rfl
end Go.Proofs.YtihnnmejkpddeaaGreatDoor
