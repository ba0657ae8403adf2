/-
  OWN WORK. Stage 6: sums and moments.
-/
import Derived.Test.YtihnnmejkpddeaaGreatDoorJcGI
import Derived.Test.YtihnnmejkpddeaaGreatDoorAmX
/-! (OWN WORK. Stage 6: the greatest ratio with its place known; rounds of sums by limits, and of moments.) -/
namespace Go.Proofs.YtihnnmejkpddeaaGreatDoor
open Go Go.Am
noncomputable abbrev grO (_ : Nat) (l : List P2) (_ : List Value) : Out := .plain (.tuple #[gi (idxB (eqP (mxG l)) l 0), rtV (mxG l)])
noncomputable def orcJf : Orc := orElse 106 (s1O tpT nonC grO) orcJe
set_option maxRecDepth 100000 in
theorem orcJf_ok : OrcOk Tryz.prog orcJf := by
  refine s1O_ok orcJe_ok (fun _ _ _ _ => rfl) ?_
  rintro l m k e row r hl h1 rfl
  refine callC_ok mixed orcJe_ok askJe_ok (Eq.mpr (gr_run l m e row k _) ⟨⟨cellsP_flat l, trivial⟩, okP hl h1, rfl, ⟨cellsP_flat l, trivial⟩, okP hl h1, rfl, rfl, ?_⟩)
  rw [decU]; rfl
noncomputable def askJf : Asks := asksV Tryz.prog.globals.size 106 (s1AY tpT nonC grO) askJe
theorem askJf_ok : AsksOk orcJf askJf := asksV_ok (s1A_ok fun _ _ _ h => ⟨h, rfl⟩) askJe_ok
noncomputable abbrev coC (c d : List Value) (e row e' row' : Nat) (u v : Int) : List Blk := [(c, e, row, true), (d, e', row', true), ([gi u, gi v], 62, 0, false)]
noncomputable abbrev coA (c d : List Value) (e row e' row' : Nat) (u v : Int) : AHeap := gC Tryz.prog (coC c d e row e' row' u v)
noncomputable abbrev coD (c d : List Value) (e row e' row' : Nat) (u v : Int) (r : List Value) : AHeap := gW Tryz.prog (coC c d e row e' row' u v) r 28 3
noncomputable abbrev slN (i n k : Nat) : Value := .slice (some ⟨Tryz.prog.globals.size + i, 0, none⟩) n k
theorem co_bodyA (c d : List Value) (n k k' e row e' row' j : Nat) (u v : Int) (g : Nat → Value) (Q : Exit → List Value → AHeap → Prop) : execC Tryz.prog (exec Tryz.prog orcJf 10) (syOf [(12, 1), (17, 2), (18, 3), (21, 33), (24, 2), (25, 3), (28, 33), (29, 33), (34, 33), (35, 7)]) askJf (noLoops _) 40 (loopOf Tryz.prog 107 0) (stOf 40 [(0, liP n k), (1, slQ n k'), (5, ptN 2), (7, nilS), (10, goN n), (11, goN j)] g) (coA c d e row e' row' u v) (told 40 [0, 1, 5, 7, 10, 11] Q) = (((Nat.blt j n = true → (Nat.blt j n = true ∧ c[(0 + (j * 1))]? = Option.some (gi (intAt c (0 + (j * 1)))) ∧ inI64 (intAt c (0 + (j * 1)) * v) = true ∧ Nat.blt j n = true ∧ d[(0 + (j * 1))]? = Option.some (gi (intAt d (0 + (j * 1)))) ∧ inI64 (intAt d (0 + (j * 1)) * u) = true ∧ inI64 ((intAt c (0 + (j * 1)) * v) + (intAt d (0 + (j * 1)) * u)) = true ∧ inI64 (u * v) = true ∧ ratB ((intAt c (0 + (j * 1)) * v) + (intAt d (0 + (j * 1)) * u)) (u * v) = true ∧ Q .normal [liP n k, slQ n k', ptN 2, Value.slice (some ⟨nG1 + 4, 0, none⟩) 1 1, goN n, gi (fwrap IntKind.i64 (Int.ofNat (j + 1)))] (((coA c d e row e' row' u v).push (.cells [gi (rqA ((intAt c (0 + (j * 1)) * v) + (intAt d (0 + (j * 1)) * u)) (u * v)), gi (rqB ((intAt c (0 + (j * 1)) * v) + (intAt d (0 + (j * 1)) * u)) (u * v))] 28 3 false)).push (.cells ([] ++ [gi (rqA ((intAt c (0 + (j * 1)) * v) + (intAt d (0 + (j * 1)) * u)) (u * v)), gi (rqB ((intAt c (0 + (j * 1)) * v) + (intAt d (0 + (j * 1)) * u)) (u * v))]) 28 3 false)))) ∧ (Nat.blt j n = false → Q (.exit 0) [liP n k, slQ n k', ptN 2, nilS, goN n, goN j] (coA c d e row e' row' u v)))) := by kernel_rfl
theorem co_bodyD (c d r : List Value) (n k k' e row e' row' j q : Nat) (u v : Int) (g : Nat → Value) (Q : Exit → List Value → AHeap → Prop) : execC Tryz.prog (exec Tryz.prog orcJf 10) (syOf [(12, 1), (17, 2), (18, 3), (21, 33), (24, 2), (25, 3), (28, 33), (29, 33), (34, 33), (35, 7), (37, 10)]) askJf (noLoops _) 40 (loopOf Tryz.prog 107 0) (stOf 40 [(0, liP n k), (1, slQ n k'), (5, ptN 2), (7, slN 3 q q), (10, goN n), (11, goN j)] g) (coD c d e row e' row' u v r) (told 40 [0, 1, 5, 7, 10, 11] Q) = (((Nat.blt j n = true → (Nat.blt j n = true ∧ c[(0 + (j * 1))]? = Option.some (gi (intAt c (0 + (j * 1)))) ∧ inI64 (intAt c (0 + (j * 1)) * v) = true ∧ Nat.blt j n = true ∧ d[(0 + (j * 1))]? = Option.some (gi (intAt d (0 + (j * 1)))) ∧ inI64 (intAt d (0 + (j * 1)) * u) = true ∧ inI64 ((intAt c (0 + (j * 1)) * v) + (intAt d (0 + (j * 1)) * u)) = true ∧ inI64 (u * v) = true ∧ ratB ((intAt c (0 + (j * 1)) * v) + (intAt d (0 + (j * 1)) * u)) (u * v) = true ∧ Nat.ble (q + 1) q = false ∧ Nat.ble (((2 * (q + 1)) + 256) * 16) 281474976710656 = true ∧ (q * 2) = List.length r ∧ Q .normal [liP n k, slQ n k', ptN 2, Value.slice (some ⟨nG1 + 5, 0, none⟩) (q + 1) (q + 1), goN n, gi (fwrap IntKind.i64 (Int.ofNat (j + 1)))] ((((coD c d e row e' row' u v r).push (.cells [gi (rqA ((intAt c (0 + (j * 1)) * v) + (intAt d (0 + (j * 1)) * u)) (u * v)), gi (rqB ((intAt c (0 + (j * 1)) * v) + (intAt d (0 + (j * 1)) * u)) (u * v))] 28 3 false)).set (nG1 + 3) (.dead)).push (.cells (r ++ [gi (rqA ((intAt c (0 + (j * 1)) * v) + (intAt d (0 + (j * 1)) * u)) (u * v)), gi (rqB ((intAt c (0 + (j * 1)) * v) + (intAt d (0 + (j * 1)) * u)) (u * v))]) 28 3 false)))) ∧ (Nat.blt j n = false → Q (.exit 0) [liP n k, slQ n k', ptN 2, slN 3 q q, goN n, goN j] (coD c d e row e' row' u v r)))) := by kernel_rfl
noncomputable abbrev moC (c d : List Value) (e row e' row' : Nat) : List Blk := [(c, e, row, true), (d, e', row', true)]
noncomputable abbrev moA (c d : List Value) (e row e' row' : Nat) : AHeap := gC Tryz.prog (moC c d e row e' row')
noncomputable abbrev moD (c d : List Value) (e row e' row' : Nat) (r : List Value) : AHeap := gW Tryz.prog (moC c d e row e' row') r 3 2
theorem mo_bodyA (c d : List Value) (n k k' e row e' row' j : Nat) (u : Int) (g : Nat → Value) (Q : Exit → List Value → AHeap → Prop) : execC Tryz.prog (exec Tryz.prog orcJf 10) (syOf [(12, 1), (18, 2), (19, 3), (23, 2), (24, 3), (25, 33), (26, 33)]) askJf (noLoops _) 40 (loopOf Tryz.prog 41 0) (stOf 30 [(0, liP n k), (1, slQ n k'), (2, gi u), (7, nilS), (8, goN j)] g) (moA c d e row e' row') (told 30 [0, 1, 2, 7, 8] Q) = (((Nat.blt j n = true → (Nat.blt j n = true ∧ c[(0 + (j * 1))]? = Option.some (gi (intAt c (0 + (j * 1)))) ∧ Nat.blt j n = true ∧ d[(0 + (j * 1))]? = Option.some (gi (intAt d (0 + (j * 1)))) ∧ inI64 (u * intAt d (0 + (j * 1))) = true ∧ inI64 (intAt c (0 + (j * 1)) - (u * intAt d (0 + (j * 1)))) = true ∧ d[(0 + (j * 1))]? = Option.some (gi (intAt d (0 + (j * 1)))) ∧ c[(0 + (j * 1))]? = Option.some (gi (intAt c (0 + (j * 1)))) ∧ Q .normal [liP n k, slQ n k', gi u, Value.slice (some ⟨nG1 + 3, 0, none⟩) 1 1, gi (fwrap IntKind.i64 (Int.ofNat (j + 1)))] (((moA c d e row e' row').push (.cells [gi (intAt c (0 + (j * 1)) - (u * intAt d (0 + (j * 1))))] 3 2 false)).push (.cells ([] ++ [gi (intAt c (0 + (j * 1)) - (u * intAt d (0 + (j * 1))))]) 3 2 false)))) ∧ (Nat.blt j n = false → Q (.exit 0) [liP n k, slQ n k', gi u, nilS, goN j] (moA c d e row e' row')))) := by kernel_rfl
theorem mo_bodyD (c d r : List Value) (n k k' e row e' row' j q : Nat) (u : Int) (g : Nat → Value) (Q : Exit → List Value → AHeap → Prop) : execC Tryz.prog (exec Tryz.prog orcJf 10) (syOf [(12, 1), (18, 2), (19, 3), (23, 2), (24, 3), (25, 33), (26, 33), (28, 10)]) askJf (noLoops _) 40 (loopOf Tryz.prog 41 0) (stOf 30 [(0, liP n k), (1, slQ n k'), (2, gi u), (7, slN 2 q q), (8, goN j)] g) (moD c d e row e' row' r) (told 30 [0, 1, 2, 7, 8] Q) = (((Nat.blt j n = true → (Nat.blt j n = true ∧ c[(0 + (j * 1))]? = Option.some (gi (intAt c (0 + (j * 1)))) ∧ Nat.blt j n = true ∧ d[(0 + (j * 1))]? = Option.some (gi (intAt d (0 + (j * 1)))) ∧ inI64 (u * intAt d (0 + (j * 1))) = true ∧ inI64 (intAt c (0 + (j * 1)) - (u * intAt d (0 + (j * 1)))) = true ∧ d[(0 + (j * 1))]? = Option.some (gi (intAt d (0 + (j * 1)))) ∧ c[(0 + (j * 1))]? = Option.some (gi (intAt c (0 + (j * 1)))) ∧ Nat.ble (q + 1) q = false ∧ Nat.ble (((2 * (q + 1)) + 256) * 8) 281474976710656 = true ∧ (q * 1) = List.length r ∧ Q .normal [liP n k, slQ n k', gi u, Value.slice (some ⟨nG1 + 4, 0, none⟩) (q + 1) (q + 1), gi (fwrap IntKind.i64 (Int.ofNat (j + 1)))] ((((moD c d e row e' row' r).push (.cells [gi (intAt c (0 + (j * 1)) - (u * intAt d (0 + (j * 1))))] 3 2 false)).set (nG1 + 2) (.dead)).push (.cells (r ++ [gi (intAt c (0 + (j * 1)) - (u * intAt d (0 + (j * 1))))]) 3 2 false)))) ∧ (Nat.blt j n = false → Q (.exit 0) [liP n k, slQ n k', gi u, slN 2 q q, goN j] (moD c d e row e' row' r)))) := by kernel_rfl
noncomputable abbrev pmH (c d : List Value) (e row : Nat) : AHeap := canonT [] (fun _ => 0) Tryz.prog.globals.size [(c, e, row, true), (d, 3, 2, false)]
theorem pm_body (c : List Value) (d : List Value) (n k k' e row j : Nat) (u : Int) (g : Nat → Value) (Q : Exit → List Value → AHeap → Prop) : execC Tryz.prog (exec Tryz.prog orcJf 10) (syOf [(27, 1), (29, 2), (30, 3), (33, 2), (34, 3), (37, 33), (38, 33), (39, 2), (10039, 4)]) askJf (noLoops _) 40 (loopOf Tryz.prog 37 0) (stOf 42 [(2, gi u), (9, slN 1 n k'), (24, liP n k), (25, goN n), (26, goN j)] g) (pmH c d e row) (told 42 [2, 9, 24, 25, 26] Q) = (((Nat.blt j n = true → (Nat.blt j n = true ∧ c[(0 + (j * 1))]? = Option.some (gi (intAt c (0 + (j * 1)))) ∧ Nat.blt j n = true ∧ d[(0 + (j * 1))]? = Option.some (gi (intAt d (0 + (j * 1)))) ∧ inI64 (u * intAt c (0 + (j * 1))) = true ∧ inI64 (intAt d (0 + (j * 1)) - (u * intAt c (0 + (j * 1)))) = true ∧ Nat.blt j n = true ∧ Nat.ble ((0 + (j * 1)) + List.length [gi (intAt d (0 + (j * 1)) - (u * intAt c (0 + (j * 1))))]) (List.length d) = true ∧ Q .normal [gi u, slN 1 n k', liP n k, goN n, gi (fwrap IntKind.i64 (Int.ofNat (j + 1)))] ((pmH c d e row).set (nG1 + 1) (.cells (splice d (0 + (j * 1)) [gi (intAt d (0 + (j * 1)) - (u * intAt c (0 + (j * 1))))]) 3 2 false)))) ∧ (Nat.blt j n = false → Q (.exit 0) [gi u, slN 1 n k', liP n k, goN n, goN j] (pmH c d e row)))) := by kernel_rfl
end Go.Proofs.YtihnnmejkpddeaaGreatDoor
/-! (OWN WORK. Stage 6: sums by limits, and moments: the loops.) -/
namespace Go.Proofs.YtihnnmejkpddeaaGreatDoor
open Go Go.Am
noncomputable def coF (u v x y : Int) : P2 := (rqA (x * v + y * u) (u * v), rqB (x * v + y * u) (u * v))
noncomputable def coL (u v : Int) (a b : List Int) : List P2 := List.zipWith (coF u v) a b
def bd0 (l : List Int) : Prop := ∀ x ∈ l, 0 ≤ x ∧ x ≤ 16384
def bdU (l : List Int) : Prop := ∀ x ∈ l, -16384 ≤ x ∧ x ≤ 16384
def lim1 (u : Int) : Prop := 1 ≤ u ∧ u ≤ 1000
theorem mul_bd {x v : Int} (hx : 0 ≤ x ∧ x ≤ 16384) (hv : lim1 v) : 0 ≤ x * v ∧ x * v ≤ 16384000 := by
  have l := Int.mul_nonneg hx.1 (show 0 ≤ v by have := hv.1; omega)
  have u : x * v ≤ 16384 * 1000 := Int.mul_le_mul hx.2 hv.2 (by have := hv.1; omega) (by decide)
  omega
theorem lim_mul {u v : Int} (hu : lim1 u) (hv : lim1 v) : 0 < u * v ∧ u * v ≤ 1000000 := by
  have l : 1 * 1 ≤ u * v := Int.mul_le_mul hu.1 hv.1 (by decide) (by have := hu.1; omega)
  have r : u * v ≤ 1000 * 1000 := Int.mul_le_mul hu.2 hv.2 (by have := hv.1; omega) (by decide)
  omega
theorem coL_len {u v : Int} {a b : List Int} {n : Nat} (ha : a.length = n) (hb : b.length = n) : (coL u v a b).length = n := by
  unfold coL
  rw [List.length_zipWith, ha, hb, Nat.min_self]
theorem cellsP_nil' {l : List P2} {j : Nat} (hj : j ≤ l.length) (h : cellsP (l.take j) = []) : j = 0 := by
  have := congrArg List.length h
  rw [cellsP_len, List.length_take, Nat.min_eq_left hj] at this
  simp at this
  omega
noncomputable def coV (n k k' : Nat) : Nat → Value → List Value := fun j w => [liP n k, slQ n k', ptN 2, w, goN n, goN j]
set_option maxRecDepth 100000 in
theorem co_loop (a b : List Int) (u v : Int) (n e row k e' row' k' : Nat) (ha : a.length = n) (hb : b.length = n) (h1 : n ≤ 65536) (ba : bd0 a) (bb : bd0 b) (hu : lim1 u) (hv : lim1 v) : ∀ (s : AAct) (h : AHeap), GrownW Tryz.prog (coC (a.map gi) (b.map gi) e row e' row' u v) 28 3 (coV n k k') (fun j => j) (fun j => cellsP ((coL u v a b).take j)) 0 ([0, 1, 5, 7, 10, 11].map s.tmp) h → s.n = 40 → s.marks = [] →
    J Tryz.prog (.loop (loopOf Tryz.prog 107 0)) s h (told 40 [0, 1, 5, 7, 10, 11] fun ex vs h' => ex = .exit 0 ∧ ((n = 0 ∧ vs = coV n k k' n nilS) ∨ (vs = coV n k k' n (slN 3 n n) ∧ h' = coD (a.map gi) (b.map gi) e row e' row' u v (cellsP (coL u v a b))))) := by
  intro s h hG hs hk
  have hl := coL_len (u := u) (v := v) ha hb
  have fac : ∀ j (hj : j < n), ((a.map gi)[0 + j * 1]? = some (gi (intAt (a.map gi) (0 + j * 1))) ∧ (b.map gi)[0 + j * 1]? = some (gi (intAt (b.map gi) (0 + j * 1)))) ∧ (inI64 (intAt (a.map gi) (0 + j * 1) * v) = true ∧ inI64 (intAt (b.map gi) (0 + j * 1) * u) = true ∧ inI64 (intAt (a.map gi) (0 + j * 1) * v + intAt (b.map gi) (0 + j * 1) * u) = true ∧ inI64 (u * v) = true ∧ ratB (intAt (a.map gi) (0 + j * 1) * v + intAt (b.map gi) (0 + j * 1) * u) (u * v) = true) ∧
      cellsP ((coL u v a b).take (j + 1)) = cellsP ((coL u v a b).take j) ++ [gi (rqA (intAt (a.map gi) (0 + j * 1) * v + intAt (b.map gi) (0 + j * 1) * u) (u * v)), gi (rqB (intAt (a.map gi) (0 + j * 1) * v + intAt (b.map gi) (0 + j * 1) * u) (u * v))] := fun j hj => by
    obtain ⟨f1, f2⟩ := first_at (l := a) (j := j) (by omega)
    obtain ⟨g1, g2⟩ := first_at (l := b) (j := j) (by omega)
    rw [f2, g2]
    rw [f2] at f1
    rw [g2] at g1
    obtain ⟨a1, a2⟩ := mul_bd (ba _ (List.getElem_mem (l := a) (n := j) (by omega))) hv
    obtain ⟨b1, b2⟩ := mul_bd (bb _ (List.getElem_mem (l := b) (n := j) (by omega))) hu
    obtain ⟨c1, c2⟩ := lim_mul hu hv
    refine ⟨⟨f1, g1⟩, ⟨inI64_small (by omega) (by omega), inI64_small (by omega) (by omega), inI64_small (by omega) (by omega), inI64_small (by omega) (by omega), ratB_of (inI64_small (by omega) (by omega)) (inI64_small (by omega) (by omega)) c1⟩, ?_⟩
    rw [cellsP_take (by omega)]
    have : (coL u v a b)[j]'(by omega) = coF u v (a[j]'(by omega)) (b[j]'(by omega)) := List.getElem_zipWith
    rw [this]; rfl
  refine growW_rule (C := coC (a.map gi) (b.map gi) e row e' row' u v) (el := 28) (rw := 3) globs_pos (by decide) (by decide) (fun x hx => by
      simp only [List.mem_cons, List.not_mem_nil, or_false] at hx
      rcases hx with rfl | rfl | rfl
      · exact flat_ints a
      · exact flat_ints b
      · rfl) (coV n k k') (fun j => j) (fun j => cellsP ((coL u v a b).take j)) n _ (fun j => cellsP_flat _) (fun j => by kernel_rfl) (fun j q d hd => by
      obtain rfl | rfl | rfl | rfl : d = 0 ∨ d = 1 ∨ d = 2 ∨ d = 3 := by omega
      all_goals kernel_rfl)
    (fun j w q hq => by
      match q, hq with
      | 0, _ => exact ⟨(0, liP n k), by simp [coV], by simp [named]⟩
      | 1, _ => exact ⟨(1, slQ n k'), by simp [coV], by simp [named]⟩
      | 2, _ => exact ⟨(5, ptN 2), by simp [coV], by simp [named]⟩) (fun j b q => ⟨(7, .slice (some ⟨b, 0, none⟩) q q), by simp [coV], by simp [named]⟩) ?_ ?_ ?_ ?_ s h hG hs hk
  · intro j hj hx g
    obtain ⟨⟨f1, f2⟩, ⟨i1, i2, i3, i4, i5⟩, et⟩ := fac j hj
    have j0 := cellsP_nil' (by omega) hx
    refine execC_ok mixed orcJf_ok askJf_ok (noLoops _) (Eq.mpr (co_bodyA _ _ n k k' e row e' row' j u v g _) ⟨fun hlt => ⟨hlt, f1, i1, hlt, f2, i2, i3, i4, i5, fun p b hb => ?_, .inr ⟨nG1 + 4, 1, rfl, by omega, ?_, ?_, ?_⟩⟩, fun hge => absurd (blt_false hge) (by omega)⟩)
    · match p, hb with
      | 0, hb => cases hb; show _ = _; kernel_rfl
      | 1, hb => cases hb; show _ = _; kernel_rfl
      | 2, hb => cases hb; show _ = _; kernel_rfl
    · intro hh
      have := cellsP_nil' (by omega) hh
      omega
    · rw [fwrap_nat (by omega), j0]; rfl
    · have hx : cellsP ((coL u v a b).take j) = [] := hx
      show _ = some (AObj.cells (cellsP ((coL u v a b).take (j + 1))) _ _ _)
      rw [et, hx]; show _ = _; kernel_rfl
  · intro j hj hx g
    obtain ⟨⟨f1, f2⟩, ⟨i1, i2, i3, i4, i5⟩, et⟩ := fac j hj
    refine execC_ok mixed orcJf_ok askJf_ok (noLoops _) (Eq.mpr (co_bodyD _ _ (cellsP ((coL u v a b).take j)) n k k' e row e' row' j j u v g _) ⟨fun hlt => ⟨hlt, f1, i1, hlt, f2, i2, i3, i4, i5, ble_noV (by omega), by rw [Nat.ble_eq]; omega, by rw [cellsP_len, List.length_take, Nat.min_eq_left (by omega)], fun p b hb => ?_, .inr ⟨nG1 + 5, 2, rfl, by omega, ?_, ?_, ?_⟩⟩, fun hge => absurd (blt_false hge) (by omega)⟩)
    · match p, hb with
      | 0, hb => cases hb; show _ = _; kernel_rfl
      | 1, hb => cases hb; show _ = _; kernel_rfl
      | 2, hb => cases hb; show _ = _; kernel_rfl
    · intro hh
      have := cellsP_nil' (by omega) hh
      omega
    · rw [fwrap_nat (by omega)]; rfl
    · show _ = some (AObj.cells (cellsP ((coL u v a b).take (j + 1))) _ _ _)
      rw [et]; show _ = _; kernel_rfl
  · intro hx g
    have j0 := cellsP_nil' (by omega) hx
    exact execC_ok mixed orcJf_ok askJf_ok (noLoops _) (Eq.mpr (co_bodyA _ _ n k k' e row e' row' n u v g _) ⟨fun hlt => absurd (blt_true hlt) (by omega), fun _ => ⟨rfl, .inl ⟨j0, rfl⟩⟩⟩)
  · intro hx g
    refine execC_ok mixed orcJf_ok askJf_ok (noLoops _) (Eq.mpr (co_bodyD _ _ (cellsP ((coL u v a b).take n)) n k k' e row e' row' n n u v g _) ⟨fun hlt => absurd (blt_true hlt) (by omega), fun _ => ⟨rfl, .inr ⟨rfl, ?_⟩⟩⟩)
    rw [List.take_of_length_le (by omega)]
noncomputable def coLo (a b : List Int) (u v : Int) (n e row k e' row' k' : Nat) : Loops Tryz.prog where
  body := fun _ => loopOf Tryz.prog 107 0
  spec := fun _ s h c => entry s 40 [(0, liP n k), (1, slQ n k'), (5, ptN 2), (7, nilS), (10, goN n), (11, goN 0)] (h.get (nG1 + 0) = some (.cells (a.map gi) e row true) ∧ h.get (nG1 + 1) = some (.cells (b.map gi) e' row' true) ∧ h.get (nG1 + 2) = some (.cells [gi u, gi v] 62 0 false) ∧ ((a.length = n ∧ b.length = n ∧ 0 < n ∧ n ≤ 65536) ∧ bd0 a ∧ bd0 b ∧ lim1 u ∧ lim1 v) ∧ ∀ g, c (.exit 0) (stOf 40 [(7, slN 3 n n)] g) (coD (a.map gi) (b.map gi) e row e' row' u v (cellsP (coL u v a b))))
  ok := fun i s h c q => by
    obtain ⟨h1, h2, h3, g0, g1, g2, ⟨⟨ha, hb, h0, hs⟩, ba, bb, hu, hv⟩, h5⟩ := entry_facts q
    refine J.of_told (co_loop a b u v n e row k e' row' k' ha hb hs ba bb hu hv s h ⟨fun q b hb => ?_, .inl ⟨rfl, ?_⟩⟩ h1 h2) ?_
    · match q, hb with
      | 0, hb => cases hb; exact g0
      | 1, hb => cases hb; exact g1
      | 2, hb => cases hb; exact g2
    · simp only [List.map_cons, List.map_nil]
      rw [h3 (0, liP n k) (by simp), h3 (1, slQ n k') (by simp), h3 (5, ptN 2) (by simp), h3 (7, nilS) (by simp), h3 (10, goN n) (by simp), h3 (11, goN 0) (by simp)]
      rfl
    · rintro ex vs h' g ⟨rfl, ⟨hn, _⟩ | ⟨rfl, rfl⟩⟩
      · omega
      · exact h5 (ov [(0, liP n k), (1, slQ n k'), (5, ptN 2), (10, goN n), (11, goN n)] g)
theorem co_run (a b : List Int) (u v : Int) (m e row k e' row' k' : Nat) (K : Value → AHeap → Prop) : callC Tryz.prog (exec Tryz.prog orcJf 10) (syOf []) askJf (coLo a b u v (m + 1) e row k e' row' k') 40 107 #[liP (m + 1) k, slQ (m + 1) k', .agg #[gi u, gi v]] (i2H a e row b e' row') K = ((loopOf Tryz.prog 107 0 = loopOf Tryz.prog 107 0 ∧ liP (m + 1) k = liP (m + 1) k ∧ slQ (m + 1) k' = slQ (m + 1) k' ∧ Value.pointer (some ⟨nG1 + 2, 0, none⟩) = ptN 2 ∧ nilS = nilS ∧ goN (m + 1) = goN (m + 1) ∧ gi 0 = goN 0 ∧ ((i2H a e row b e' row').push (.cells [gi u, gi v] 62 0 false)).get (nG1) = Option.some (.cells (List.map gi a) e row true) ∧ ((i2H a e row b e' row').push (.cells [gi u, gi v] 62 0 false)).get (nG1 + 1) = Option.some (.cells (List.map gi b) e' row' true) ∧ ((i2H a e row b e' row').push (.cells [gi u, gi v] 62 0 false)).get (nG1 + 2) = Option.some (.cells [gi u, gi v] 62 0 false) ∧ ((List.length a = (m + 1) ∧ List.length b = (m + 1) ∧ (0 : Nat) < (m + 1) ∧ ((m + 1) : Nat) ≤ 65536) ∧ bd0 a ∧ bd0 b ∧ lim1 u ∧ lim1 v) ∧ (∀ _ : Nat → Value, K (slN 3 (m + 1) (m + 1)) (coD (List.map gi a) (List.map gi b) e row e' row' u v (cellsP (coL u v a b)))))) := by kernel_rfl
end Go.Proofs.YtihnnmejkpddeaaGreatDoor
/-! (OWN WORK. Stage 6: moments: the loops of the reference and of the program.) -/
namespace Go.Proofs.YtihnnmejkpddeaaGreatDoor
open Go Go.Am
def limS (u : Int) : Prop := -1000 ≤ u ∧ u ≤ 1000
noncomputable def moL (u : Int) (a b : List Int) : List Int := List.zipWith (fun x y => x - u * y) a b
theorem mul_bdS {u y : Int} (hu : limS u) (hy : -16384 ≤ y ∧ y ≤ 16384) : -16384000 ≤ u * y ∧ u * y ≤ 16384000 := by
  have h : (u * y).natAbs ≤ 1000 * 16384 := by
    rw [Int.natAbs_mul]
    exact Nat.mul_le_mul (by have := hu.1; have := hu.2; omega) (by omega)
  omega
theorem moL_len {u : Int} {a b : List Int} {n : Nat} (ha : a.length = n) (hb : b.length = n) : (moL u a b).length = n := by
  unfold moL
  rw [List.length_zipWith, ha, hb, Nat.min_self]
theorem moL_at {u : Int} {a b : List Int} {n j : Nat} (ha : a.length = n) (hb : b.length = n) (hj : j < n) : (moL u a b)[j]'(by rw [moL_len ha hb]; exact hj) = a[j]'(by omega) - u * b[j]'(by omega) := List.getElem_zipWith
theorem map_take1 {l : List Int} {j : Nat} (hj : j < l.length) : (l.take (j + 1)).map gi = (l.take j).map gi ++ [gi l[j]] := by
  rw [List.take_add_one, List.getElem?_eq_getElem hj, List.map_append]; rfl
theorem map_nil' {l : List Int} {j : Nat} (hj : j ≤ l.length) (h : (l.take j).map gi = []) : j = 0 := by
  have := congrArg List.length h
  rw [List.length_map, List.length_take, Nat.min_eq_left hj] at this
  simpa using this
noncomputable def moV (n k k' : Nat) (u : Int) : Nat → Value → List Value := fun j w => [liP n k, slQ n k', gi u, w, goN j]
section
variable (a b : List Int) (u : Int) (n : Nat) (ha : a.length = n) (hb : b.length = n) (ba : bdU a) (bb : bdU b) (hu : limS u)
include ha hb ba bb hu
theorem mo_fac (j : Nat) (hj : j < n) : ((a.map gi)[0 + j * 1]? = some (gi (intAt (a.map gi) (0 + j * 1))) ∧ (b.map gi)[0 + j * 1]? = some (gi (intAt (b.map gi) (0 + j * 1)))) ∧ (inI64 (u * intAt (b.map gi) (0 + j * 1)) = true ∧ inI64 (intAt (a.map gi) (0 + j * 1) - u * intAt (b.map gi) (0 + j * 1)) = true) ∧
    intAt (a.map gi) (0 + j * 1) - u * intAt (b.map gi) (0 + j * 1) = (moL u a b)[j]'(by rw [moL_len ha hb]; exact hj) := by
  obtain ⟨f1, f2⟩ := first_at (l := a) (j := j) (by omega)
  obtain ⟨g1, g2⟩ := first_at (l := b) (j := j) (by omega)
  rw [f2, g2]
  rw [f2] at f1
  rw [g2] at g1
  have xa := ba _ (List.getElem_mem (l := a) (n := j) (by omega))
  obtain ⟨b1, b2⟩ := mul_bdS hu (bb _ (List.getElem_mem (l := b) (n := j) (by omega)))
  exact ⟨⟨f1, g1⟩, ⟨inI64_small (by omega) (by omega), inI64_small (by omega) (by omega)⟩, (moL_at ha hb hj).symm⟩
set_option maxRecDepth 100000 in
theorem mo_loop (e row k e' row' k' : Nat) (h1 : n ≤ 65536) : ∀ (s : AAct) (h : AHeap), GrownW Tryz.prog (moC (a.map gi) (b.map gi) e row e' row') 3 2 (moV n k k' u) (fun j => j) (fun j => ((moL u a b).take j).map gi) 0 ([0, 1, 2, 7, 8].map s.tmp) h → s.n = 30 → s.marks = [] →
    J Tryz.prog (.loop (loopOf Tryz.prog 41 0)) s h (told 30 [0, 1, 2, 7, 8] fun ex vs h' => ex = .exit 0 ∧ ((n = 0 ∧ vs = moV n k k' u n nilS) ∨ (vs = moV n k k' u n (slN 2 n n) ∧ h' = moD (a.map gi) (b.map gi) e row e' row' ((moL u a b).map gi)))) := by
  intro s h hG hs hk
  have hl := moL_len (u := u) ha hb
  refine growW_rule (C := moC (a.map gi) (b.map gi) e row e' row') (el := 3) (rw := 2) globs_pos (by decide) (by decide) (fun x hx => by
      simp only [List.mem_cons, List.not_mem_nil, or_false] at hx
      rcases hx with rfl | rfl
      · exact flat_ints a
      · exact flat_ints b) (moV n k k' u) (fun j => j) (fun j => ((moL u a b).take j).map gi) n _ (fun j => flat_ints _) (fun j => by kernel_rfl) (fun j q d hd => by
      obtain rfl | rfl | rfl | rfl : d = 0 ∨ d = 1 ∨ d = 2 ∨ d = 3 := by omega
      all_goals kernel_rfl)
    (fun j w q hq => by
      match q, hq with
      | 0, _ => exact ⟨(0, liP n k), by simp [moV], by simp [named]⟩
      | 1, _ => exact ⟨(1, slQ n k'), by simp [moV], by simp [named]⟩) (fun j b q => ⟨(7, .slice (some ⟨b, 0, none⟩) q q), by simp [moV], by simp [named]⟩) ?_ ?_ ?_ ?_ s h hG hs hk
  · intro j hj hx g
    obtain ⟨⟨f1, f2⟩, ⟨i1, i2⟩, et⟩ := mo_fac a b u n ha hb ba bb hu j hj
    have j0 := map_nil' (by omega) hx
    refine execC_ok mixed orcJf_ok askJf_ok (noLoops _) (Eq.mpr (mo_bodyA _ _ n k k' e row e' row' j u g _) ⟨fun hlt => ⟨hlt, f1, hlt, f2, i1, i2, f2, f1, fun p b hb => ?_, .inr ⟨nG1 + 3, 1, rfl, by omega, ?_, ?_, ?_⟩⟩, fun hge => absurd (blt_false hge) (by omega)⟩)
    · match p, hb with
      | 0, hb => cases hb; show _ = _; kernel_rfl
      | 1, hb => cases hb; show _ = _; kernel_rfl
    · intro hh
      have := map_nil' (by omega) hh
      omega
    · rw [fwrap_nat (by omega), j0]; rfl
    · show _ = some (AObj.cells (((moL u a b).take (j + 1)).map gi) _ _ _)
      have hx : ((moL u a b).take j).map gi = [] := hx
      rw [map_take1 (by omega), hx, ← et]; show _ = _; kernel_rfl
  · intro j hj hx g
    obtain ⟨⟨f1, f2⟩, ⟨i1, i2⟩, et⟩ := mo_fac a b u n ha hb ba bb hu j hj
    refine execC_ok mixed orcJf_ok askJf_ok (noLoops _) (Eq.mpr (mo_bodyD _ _ (((moL u a b).take j).map gi) n k k' e row e' row' j j u g _) ⟨fun hlt => ⟨hlt, f1, hlt, f2, i1, i2, f2, f1, ble_noV (by omega), by rw [Nat.ble_eq]; omega, by rw [List.length_map, List.length_take, Nat.min_eq_left (by omega)]; omega, fun p b hb => ?_, .inr ⟨nG1 + 4, 2, rfl, by omega, ?_, ?_, ?_⟩⟩, fun hge => absurd (blt_false hge) (by omega)⟩)
    · match p, hb with
      | 0, hb => cases hb; show _ = _; kernel_rfl
      | 1, hb => cases hb; show _ = _; kernel_rfl
    · intro hh
      have := map_nil' (by omega) hh
      omega
    · rw [fwrap_nat (by omega)]; rfl
    · show _ = some (AObj.cells (((moL u a b).take (j + 1)).map gi) _ _ _)
      rw [map_take1 (by omega), ← et]; show _ = _; kernel_rfl
  · intro hx g
    have j0 := map_nil' (by omega) hx
    exact execC_ok mixed orcJf_ok askJf_ok (noLoops _) (Eq.mpr (mo_bodyA _ _ n k k' e row e' row' n u g _) ⟨fun hlt => absurd (blt_true hlt) (by omega), fun _ => ⟨rfl, .inl ⟨j0, rfl⟩⟩⟩)
  · intro hx g
    refine execC_ok mixed orcJf_ok askJf_ok (noLoops _) (Eq.mpr (mo_bodyD _ _ (((moL u a b).take n).map gi) n k k' e row e' row' n n u g _) ⟨fun hlt => absurd (blt_true hlt) (by omega), fun _ => ⟨rfl, .inr ⟨rfl, ?_⟩⟩⟩)
    rw [List.take_of_length_le (by omega)]
end
noncomputable def moLo (a b : List Int) (u : Int) (n e row k e' row' k' : Nat) : Loops Tryz.prog where
  body := fun _ => loopOf Tryz.prog 41 0
  spec := fun _ s h c => entry s 30 [(0, liP n k), (1, slQ n k'), (2, gi u), (7, nilS), (8, goN 0)] (h.get (nG1 + 0) = some (.cells (a.map gi) e row true) ∧ h.get (nG1 + 1) = some (.cells (b.map gi) e' row' true) ∧ ((a.length = n ∧ b.length = n ∧ 0 < n ∧ n ≤ 65536) ∧ bdU a ∧ bdU b ∧ limS u) ∧ ∀ g, c (.exit 0) (stOf 30 [(7, slN 2 n n)] g) (moD (a.map gi) (b.map gi) e row e' row' ((moL u a b).map gi)))
  ok := fun i s h c q => by
    obtain ⟨h1, h2, h3, g0, g1, ⟨⟨ha, hb, h0, hs⟩, ba, bb, hu⟩, h5⟩ := entry_facts q
    refine J.of_told (mo_loop a b u n ha hb ba bb hu e row k e' row' k' hs s h ⟨fun q b hb => ?_, .inl ⟨rfl, ?_⟩⟩ h1 h2) ?_
    · match q, hb with
      | 0, hb => cases hb; exact g0
      | 1, hb => cases hb; exact g1
    · simp only [List.map_cons, List.map_nil]
      rw [h3 (0, liP n k) (by simp), h3 (1, slQ n k') (by simp), h3 (2, gi u) (by simp), h3 (7, nilS) (by simp), h3 (8, goN 0) (by simp)]
      rfl
    · rintro ex vs h' g ⟨rfl, ⟨hn, _⟩ | ⟨rfl, rfl⟩⟩
      · omega
      · exact h5 (ov [(0, liP n k), (1, slQ n k'), (2, gi u), (8, goN n)] g)
noncomputable def mixL (L a : List Int) (j : Nat) : List Int := L.take j ++ a.drop j
theorem mix_at {L a : List Int} {j : Nat} (hl : L.length = a.length) (hj : j < a.length) : (mixL L a j)[j]? = some a[j] := by
  unfold mixL
  rw [List.getElem?_append_right (by rw [List.length_take]; omega), List.length_take, Nat.min_eq_left (by omega), Nat.sub_self, List.getElem?_drop, Nat.add_zero, List.getElem?_eq_getElem hj]
theorem mix_len {L a : List Int} {j : Nat} (hl : L.length = a.length) (hj : j ≤ a.length) : (mixL L a j).length = a.length := by
  unfold mixL
  rw [List.length_append, List.length_take, List.length_drop, Nat.min_eq_left (by omega)]
  omega
theorem mix_splice {L a : List Int} {j : Nat} (hl : L.length = a.length) (hj : j < a.length) : splice ((mixL L a j).map gi) (0 + j * 1) [gi (L[j]'(by omega))] = (mixL L a (j + 1)).map gi := by
  have t : (L.take j).length = j := by rw [List.length_take, Nat.min_eq_left (by omega)]
  unfold splice mixL
  rw [show 0 + j * 1 = j by omega, ← List.map_take, ← List.map_drop, List.take_append_of_le_length (by omega), List.take_of_length_le (by omega), List.drop_append, t]
  rw [List.drop_of_length_le (by rw [t]; simp), List.nil_append, List.drop_drop, List.map_append, map_take1 (by omega), List.append_assoc]
  simp only [List.length_cons, List.length_nil]
  rw [show j + 1 - j = 1 by omega]
noncomputable abbrev pmV (n k k' : Nat) (u : Int) (at_ : Nat → Nat) (j : Nat) : List Value := [gi u, .slice (some ⟨at_ 1, 0, none⟩) n k', .slice (some ⟨at_ 0, 0, none⟩) n k, goN n, goN j]
noncomputable abbrev pmC (a b : List Int) (u : Int) (e row : Nat) (j : Nat) : List Blk := [(b.map gi, e, row, true), ((mixL (moL u a b) a j).map gi, 3, 2, false)]
set_option maxRecDepth 100000 in
theorem pm_loop (a b : List Int) (u : Int) (n e row k k' : Nat) (ha : a.length = n) (hb : b.length = n) (ba : bdU a) (bb : bdU b) (hu : limS u) (h1 : n ≤ 65536) (at₀ : Nat → Nat) (hnd : ((List.range 2).map at₀).Nodup) (hge : ∀ q, q < 2 → Tryz.prog.globals.size ≤ at₀ q) (hr₀ : ∀ j, amapM (renV Tryz.prog.globals.size ((List.range 2).map at₀)) (pmV n k k' u at₀ j) = some (pmV n k k' u (Tryz.prog.globals.size + ·) j)) : ∀ (s : AAct) (h : AHeap), Laid (pmC a b u e row 0) at₀ h → s.n = 42 → s.marks = [] → [2, 9, 24, 25, 26].map s.tmp = pmV n k k' u at₀ 0 →
    J Tryz.prog (.loop (loopOf Tryz.prog 37 0)) s h (told 42 [2, 9, 24, 25, 26] fun ex vs h' => ex = .exit 0 ∧ vs = pmV n k k' u (nG1 + ·) n ∧ h' = pmH (b.map gi) ((moL u a b).map gi) e row) := by
  intro s h hs hn hm hv
  have hl : (moL u a b).length = a.length := by rw [moL_len ha hb, ha]
  refine fold_rule (L := 2) (C := pmC a b u e row) globs_pos (by decide) (by decide) (fun _ => rfl) (fun j x hx => ?_) (V := pmV n k k' u) (I := fun _ => True) (m := n) trivial _ at₀ hnd hge hr₀ (fun j => by kernel_rfl)
    (fun at_ j q hq => ?_) ?_ ?_ s h hs hn hm hv
  · simp only [List.mem_cons, List.not_mem_nil, or_false] at hx
    rcases hx with rfl | rfl
    · exact flat_ints b
    · exact flat_ints _
  · match q, hq with
    | 0, _ => exact ⟨(24, .slice (some ⟨at_ 0, 0, none⟩) n k), by simp, by simp [named]⟩
    | 1, _ => exact ⟨(9, .slice (some ⟨at_ 1, 0, none⟩) n k'), by simp, by simp [named]⟩
  · intro j hj _ g
    obtain ⟨g1, g2⟩ := first_at (l := b) (j := j) (by omega)
    have hm' : j < (mixL (moL u a b) a j).length := by rw [mix_len hl (by omega)]; omega
    obtain ⟨f1, f2⟩ := first_at hm'
    have fe : (mixL (moL u a b) a j)[j] = a[j]'(by omega) := by
      have := mix_at hl (show j < a.length by omega)
      rw [List.getElem?_eq_getElem hm'] at this
      exact Option.some.inj this
    rw [fe] at f2
    have xa := ba _ (List.getElem_mem (l := a) (n := j) (by omega))
    obtain ⟨b1, b2⟩ := mul_bdS hu (bb _ (List.getElem_mem (l := b) (n := j) (by omega)))
    have sp := mix_splice hl (show j < a.length by omega)
    rw [moL_at ha hb hj] at sp
    refine execC_ok mixed orcJf_ok askJf_ok (noLoops _) (Eq.mpr (pm_body _ _ n k k' e row j u g _) ⟨fun hlt => ?_, fun hge => absurd (blt_false hge) (by omega)⟩)
    rw [f2] at f1
    rw [g2] at g1
    rw [g2, f2]
    refine ⟨hlt, g1, hlt, f1, inI64_small (by omega) (by omega), inI64_small (by omega) (by omega), hlt, ?_, trivial, ?_, ?_⟩
    · rw [Nat.ble_eq, List.length_map, mix_len hl (by omega)]; simp; omega
    · rw [fwrap_nat (by omega)]; rfl
    · intro q x hx
      match q, hx with
      | 0, hx => cases hx; show _ = _; kernel_rfl
      | 1, hx => cases hx; rw [sp]; show _ = _; kernel_rfl
  · intro _ g
    refine execC_ok mixed orcJf_ok askJf_ok (noLoops _) (Eq.mpr (pm_body _ _ n k k' e row n u g _) ⟨fun hlt => absurd (blt_true hlt) (by omega), fun _ => ⟨rfl, rfl, ?_⟩⟩)
    have : mixL (moL u a b) a n = moL u a b := by
      unfold mixL
      rw [List.take_of_length_le (by omega), List.drop_of_length_le (by omega), List.append_nil]
    rw [this]
end Go.Proofs.YtihnnmejkpddeaaGreatDoor
/-! (OWN WORK. Stage 6: copies, absolute values of lists, sums by limits and the reference's moments, carried out.) -/
namespace Go.Proofs.YtihnnmejkpddeaaGreatDoor
open Go Go.Am
noncomputable def syCl : FuncId → Sy := fun f => match Nat.beq f 110 with
  | true => syOf [(7, 16)]
  | false => syOf []
theorem clo_run (l : List Int) (m e row k : Nat) (K : Value → AHeap → Prop) : callR Tryz.prog orcJf syCl askJf 60 110 #[liP (m + 1) k] (canon Tryz.prog [(l.map gi, e, row)]) K = ((Nat.ble (0 + (m + 1)) (List.length (List.map gi l)) = true ∧ Nat.ble (((2 * (m + 1)) + 256) * 8) 281474976710656 = true ∧ List.all (List.take (m + 1) (List.drop 0 (List.map gi l))) Value.oneCell' = true ∧ K (Value.slice (some ⟨nG1 + 2, 0, none⟩) (m + 1) (m + 1)) ((((canon Tryz.prog [Prod.mk (List.map gi l) (Prod.mk e row)]).push (.cells [] 3 2 false)).set (nG1 + 1) (.dead)).push (.cells (List.take (m + 1) (List.drop 0 (List.map gi l))) 3 2 false)))) := by kernel_rfl
theorem rmo_run (a b : List Int) (u : Int) (m e row k e' row' k' : Nat) (K : Value → AHeap → Prop) : callC Tryz.prog (exec Tryz.prog orcJf 10) (syOf []) askJf (moLo a b u (m + 1) e row k e' row' k') 40 41 #[liP (m + 1) k, slQ (m + 1) k', gi u] (i2H a e row b e' row') K = ((loopOf Tryz.prog 41 0 = loopOf Tryz.prog 41 0 ∧ liP (m + 1) k = liP (m + 1) k ∧ slQ (m + 1) k' = slQ (m + 1) k' ∧ gi u = gi u ∧ nilS = nilS ∧ gi 0 = goN 0 ∧ (i2H a e row b e' row').get (nG1) = Option.some (.cells (List.map gi a) e row true) ∧ (i2H a e row b e' row').get (nG1 + 1) = Option.some (.cells (List.map gi b) e' row' true) ∧ ((List.length a = (m + 1) ∧ List.length b = (m + 1) ∧ (0 : Nat) < (m + 1) ∧ ((m + 1) : Nat) ≤ 65536) ∧ bdU a ∧ bdU b ∧ limS u) ∧ (∀ _ : Nat → Value, K (slN 2 (m + 1) (m + 1)) (moD (List.map gi a) (List.map gi b) e row e' row' (List.map gi (moL u a b)))))) := by kernel_rfl
end Go.Proofs.YtihnnmejkpddeaaGreatDoor
