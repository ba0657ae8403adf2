/-
  OWN WORK. Permutations, as the program makes them.
-/
import Derived.Test.YtmfepbkpojafnaaGreatDoorFnF
namespace Go.Proofs.YtmfepbkpojafnaaGreatDoor
open Go Go.Am

noncomputable def stepX (x : Int) : Int := (fwrap .i64 (fwrap .i64 (40692 * x) + 13)).tmod 2147483399
noncomputable def kX (x v : Int) : Int := (stepX x).tmod (fwrap .i64 (v + 1))
noncomputable abbrev at1 (v : Int) : Nat := 0 + v.toNat * 1
noncomputable abbrev HD (o : AObj) (c : List Value) : AHeap := ((emp Tryz.prog).push o).push (.cells c 3 2 false)
noncomputable abbrev slD (q : Nat) : Value := .slice (some ⟨Tryz.prog.globals.size + 1, 0, none⟩) q q
noncomputable abbrev nilS : Value := .slice none 0 0
noncomputable def swC (c : List Value) (v k : Int) : List Value := splice (splice c (at1 v) [gi (intAt c (at1 k))]) (at1 k) [gi (intAt c (at1 v))]

theorem fill_body (o : AObj) (c : List Value) (q j : Nat) (n : Int) (g : Nat → Value) (Q : Exit → List Value → AHeap → Prop) :
    execC Tryz.prog (exec Tryz.prog orcF 10) (syOf [(26, 1), (31, 2), (10031, 4)]) noAsks (noLoops _) 40 (loopOf Tryz.prog 10 0) (stOf 63 [(0, gi n), (1, goN q), (7, slD q), (24, goN q), (25, goN j)] g) (HD o c) (told 63 [0, 1, 7, 24, 25] Q) =
    ((Nat.blt j q = true → Nat.blt j q = true ∧ Nat.ble (0 + j * 1 + 1) c.length = true ∧ Q .normal [gi n, goN q, slD q, goN q, .int .i64 (fwrap .i64 (Int.ofNat (j + 1)))] (HD o (splice c (0 + j * 1) [goN j]))) ∧
     (Nat.blt j q = false → Q (.exit 0) [gi n, goN q, slD q, goN q, goN j] (HD o c))) := by kernel_rfl
theorem shuf_body (o : AObj) (c : List Value) (q : Nat) (x v : Int) (g : Nat → Value) (Q : Exit → List Value → AHeap → Prop) :
    execC Tryz.prog (exec Tryz.prog orcF 10) (syOf [(37, 1), (47, 6), (54, 2), (55, 3), (58, 2), (59, 3), (60, 2), (10060, 4), (61, 2), (10061, 4)]) noAsks (noLoops _) 40 (loopOf Tryz.prog 10 2) (stOf 63 [(7, slD q), (9, gi x), (10, gi v)] g) (HD o c) (told 63 [7, 9, 10] Q) =
    (((!ilt v 1) = true → fwrap .i64 (v + 1) ≠ 0 ∧ ahasIndex (kX x v) q = true ∧ c[at1 (kX x v)]? = some (gi (intAt c (at1 (kX x v)))) ∧ ahasIndex v q = true ∧ c[at1 v]? = some (gi (intAt c (at1 v))) ∧
        ahasIndex v q = true ∧ Nat.ble (at1 v + 1) c.length = true ∧ ahasIndex (kX x v) q = true ∧ Nat.ble (at1 (kX x v) + 1) (splice c (at1 v) [gi (intAt c (at1 (kX x v)))]).length = true ∧
        Q .normal [slD q, gi (stepX x), .int .i64 (fwrap .i64 (v - 1))] (HD o (swC c v (kX x v)))) ∧
     ((!ilt v 1) = false → Q (.exit 2) [slD q, gi x, gi v] (HD o c))) := by kernel_rfl
/-! What it comes to. -/
noncomputable def swapL (l : List Int) (a b : Nat) : List Int := (l.set a (l.getD b 0)).set b (l.getD a 0)
noncomputable def shuf : Nat → Int → List Int → List Int
  | 0, _, l => l
  | i + 1, x, l => shuf i (stepX x) (swapL l (i + 1) (kX x (Int.ofNat (i + 1))).toNat)
noncomputable def drawS (n : Int) (q : Nat) : List Int := shuf (q - 1) n ((List.range q).map Int.ofNat)
theorem stepX_range {x : Int} (h0 : 0 ≤ x) (h1 : x ≤ 2147483399) : 0 ≤ stepX x ∧ stepX x < 2147483399 := by
  unfold stepX
  have e1 : IntKind.wrap .i64 (40692 * x) = 40692 * x := wrap_in (by omega) (by omega)
  have e2 : IntKind.wrap .i64 (40692 * x + 13) = 40692 * x + 13 := wrap_in (by omega) (by omega)
  rw [fwrap_eq, fwrap_eq, e1, e2]
  exact ⟨Int.tmod_nonneg _ (by omega), Int.tmod_lt_of_pos _ (by omega)⟩
theorem next_nat {i : Nat} (hi : i < 65536) : fwrap .i64 (Int.ofNat (i + 1) + 1) = Int.ofNat (i + 2) := fwrap_nat (m := i + 2) (by omega)
theorem prev_nat {i : Nat} (hi : i < 65536) : fwrap .i64 (Int.ofNat (i + 1) - 1) = Int.ofNat i := by
  rw [fwrap_eq, wrap_in (by simp only [Int.ofNat_eq_natCast]; omega) (by simp only [Int.ofNat_eq_natCast]; omega)]
  simp only [Int.ofNat_eq_natCast]
  omega
theorem kX_nat {x : Int} {i : Nat} (h0 : 0 ≤ x) (h1 : x ≤ 2147483399) (hi : i < 65536) : ∃ k : Nat, kX x (Int.ofNat (i + 1)) = Int.ofNat k ∧ k < i + 2 := by
  unfold kX
  rw [next_nat hi]
  have hn := Int.tmod_nonneg (Int.ofNat (i + 2)) (stepX_range h0 h1).1
  have hl := Int.tmod_lt_of_pos (stepX x) (b := Int.ofNat (i + 2)) (by simp only [Int.ofNat_eq_natCast]; omega)
  refine ⟨((stepX x).tmod (Int.ofNat (i + 2))).toNat, ?_, ?_⟩
  · simp only [Int.ofNat_eq_natCast] at hn ⊢
    omega
  · simp only [Int.ofNat_eq_natCast] at hn hl ⊢
    omega
theorem at_map {l : List Int} {t : Nat} (ht : t < l.length) : (l.map gi)[0 + t * 1]? = some (gi (intAt (l.map gi) (0 + t * 1))) ∧ intAt (l.map gi) (0 + t * 1) = l.getD t 0 := by
  obtain ⟨h1, h2⟩ := first_at ht
  exact ⟨h1, by rw [h2]; simp [List.getD, ht]⟩
theorem splice_map {l : List Int} {t : Nat} {b : Int} (ht : t < l.length) : splice (l.map gi) (0 + t * 1) [gi b] = (l.set t b).map gi := by
  unfold splice
  rw [show 0 + t * 1 = t by omega, List.set_eq_take_append_cons_drop, if_pos ht]
  simp
theorem swC_eq {l : List Int} {a b : Nat} (ha : a < l.length) (hb : b < l.length) : swC (l.map gi) (Int.ofNat a) (Int.ofNat b) = (swapL l a b).map gi := by
  show splice (splice (l.map gi) (0 + a * 1) [gi (intAt (l.map gi) (0 + b * 1))]) (0 + b * 1) [gi (intAt (l.map gi) (0 + a * 1))] = _
  rw [(at_map ha).2, (at_map hb).2, splice_map ha, splice_map (by simpa using hb)]
  rfl
theorem swapL_length (l : List Int) (a b : Nat) : (swapL l a b).length = l.length := by simp [swapL]
theorem ahas_nat {i q : Nat} (h : i < q) : ahasIndex (Int.ofNat i) q = true := by
  show Nat.blt i q = true
  rw [Nat.blt_eq]
  exact h
def ShufC (c : List Value) (q : Nat) (x v : Int) (A B : Prop) : Prop :=
  ((!ilt v 1) = true → fwrap .i64 (v + 1) ≠ 0 ∧ ahasIndex (kX x v) q = true ∧ c[at1 (kX x v)]? = some (gi (intAt c (at1 (kX x v)))) ∧ ahasIndex v q = true ∧ c[at1 v]? = some (gi (intAt c (at1 v))) ∧
    Nat.ble (at1 v + 1) c.length = true ∧ Nat.ble (at1 (kX x v) + 1) (splice c (at1 v) [gi (intAt c (at1 (kX x v)))]).length = true ∧ A) ∧ ((!ilt v 1) = false → B)
set_option maxRecDepth 100000 in
theorem shuf_loop {f n t1 t2 t3 : Nat} {sl : Value} {Hf : List Value → AHeap} {q : Nat} (hq : q ≤ 256)
    (hb : ∀ c x v g (Q : Exit → List Value → AHeap → Prop), ShufC c q x v (Q .normal [sl, gi (stepX x), .int .i64 (fwrap .i64 (v - 1))] (Hf (swC c v (kX x v)))) (Q (.exit 2) [sl, gi x, gi v] (Hf c)) → J Tryz.prog (loopOf Tryz.prog f 2) (stOf n [(t1, sl), (t2, gi x), (t3, gi v)] g) (Hf c) (told n [t1, t2, t3] Q))
    (l : List Int) (hl : l.length = q) (x : Int) (h0 : 0 ≤ x) (h1 : x ≤ 2147483399) : ∀ a : AAct, a.n = n → a.marks = [] → [t1, t2, t3].map a.tmp = [sl, gi x, .int .i64 (fwrap .i64 (Int.ofNat q - 1))] →
    J Tryz.prog (.loop (loopOf Tryz.prog f 2)) a (Hf (l.map gi)) (told n [t1, t2, t3] fun e vs h => e = .exit 2 ∧ h = Hf ((shuf (q - 1) x l).map gi) ∧ ∃ y v, vs = [sl, gi y, gi v]) := by
  intro a hn hm hv
  refine loop_rule (fun m vs h => ∃ l' y v, l'.length = q ∧ 0 ≤ y ∧ y ≤ 2147483399 ∧ vs = [sl, gi y, gi v] ∧ h = Hf (l'.map gi) ∧ ((∃ i, v = Int.ofNat i ∧ m = i ∧ i < q ∧ shuf i y l' = shuf (q - 1) x l) ∨ (v = -1 ∧ m = 0 ∧ l' = shuf (q - 1) x l))) _ ?_ (q - 1) _ _ a ⟨l, x, fwrap .i64 (Int.ofNat q - 1), hl, h0, h1, rfl, rfl, ?_⟩ hn hm hv
  · rintro m vs h g ⟨l', y, v, hl', hy0, hy1, rfl, rfl, hc⟩
    refine hb _ y v g _ ⟨fun hge => ?_, fun hlt => ?_⟩
    · rcases hc with ⟨i, rfl, rfl, hi, hs⟩ | ⟨rfl, _, _⟩
      · cases m with
        | zero => exact absurd hge (by decide)
        | succ i =>
          obtain ⟨k, hk, hki⟩ := kX_nat (x := y) (i := i) hy0 hy1 (by omega)
          have hkl : k < l'.length := by omega
          have hil : i + 1 < l'.length := by omega
          rw [hk]
          refine ⟨by rw [next_nat (by omega)]; simp only [Int.ofNat_eq_natCast]; omega, ahas_nat (by omega), (at_map hkl).1, ahas_nat hi, (at_map hil).1, ?_, ?_, i, Nat.lt_succ_self i, swapL l' (i + 1) k, stepX y, Int.ofNat i, by rw [swapL_length, hl'], (stepX_range hy0 hy1).1, Int.le_of_lt (stepX_range hy0 hy1).2, by rw [prev_nat (by omega)], by rw [swC_eq hil hkl], .inl ⟨i, rfl, rfl, by omega, ?_⟩⟩
          · show Nat.ble (0 + (i + 1) * 1 + 1) _ = true
            rw [Nat.ble_eq, List.length_map]
            omega
          · show Nat.ble (0 + k * 1 + 1) (splice (l'.map gi) (0 + (i + 1) * 1) _).length = true
            rw [splice_map hil, Nat.ble_eq, List.length_map, List.length_set]
            omega
          · rw [← hs]
            simp only [shuf, hk]
            rfl
      · exact absurd hge (by decide)
    · rcases hc with ⟨i, rfl, rfl, hi, hs⟩ | ⟨rfl, _, hs⟩
      · cases m with
        | zero => exact ⟨rfl, by rw [← hs]; rfl, y, _, rfl⟩
        | succ i =>
          exfalso
          rw [ilt_eq] at hlt
          simp only [Int.ofNat_eq_natCast] at hlt
          simp at hlt
          omega
      · exact ⟨rfl, by rw [← hs], y, _, rfl⟩
  · cases q with
    | zero =>
      refine .inr ⟨by rw [fwrap_eq, wrap_in (by decide) (by decide)]; rfl, rfl, ?_⟩
      rfl
    | succ i => exact .inl ⟨i, prev_nat (by omega), rfl, Nat.lt_succ_self i, rfl⟩
end Go.Proofs.YtmfepbkpojafnaaGreatDoor
