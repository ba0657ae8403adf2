/-
  OWN WORK. Samples with others between them, by the reference: its loops.
-/
import Derived.Test.YtnlkkapeldhemaaGreatDoorRaE
namespace Go.Proofs.YtnlkkapeldhemaaGreatDoor
open Go Go.Am

noncomputable abbrev sqC (c : List Value) (e row : Nat) : List Blk := [(c, e, row, true)]
noncomputable def askSq : Asks := skipA 35 (skipA 99 askRi)
theorem askSq_ok : AsksOk orcRk askSq := skipA_ok (skipA_ok askRi_ok)
theorem sq_first (c : List Value) (n k e row st i q : Nat) (g : Nat → Value) (Q : Exit → List Value → AHeap → Prop) : execC Tryz.prog (exec Tryz.prog orcRk 10) (syOf [(28, 1), (34, 33), (37, 2), (38, 3), (39, 7), (40, 33), (44, 33), (45, 2), (46, 3), (47, 7), (48, 33), (49, 33), (51, 7), (52, 7)]) askSq (noLoops _) 40 (loopOf Tryz.prog 39 2) (stOf 64 [(0, liP n k), (1, goN st), (6, nilS), (7, goN i), (8, goN q)] g) (gC Tryz.prog (sqC c e row)) (told 64 [0, 1, 6, 7, 8] Q) = (((Nat.blt q st = true → (inI64 (Int.ofNat st - Int.ofNat q) = true ∧ Nat.blt i n = true ∧ c[(0 + (i * 1))]? = Option.some (gf (floatAt c (0 + (i * 1)))) ∧ inI64 (Int.ofNat (i + 1)) = true ∧ Nat.blt (i + 1) n = true ∧ c[(0 + ((i + 1) * 1))]? = Option.some (gf (floatAt c (0 + ((i + 1) * 1)))) ∧ ieq (smpE (floatAt c (0 + (i * 1)))) 0 = true ∧ c[(0 + ((i + 1) * 1))]? = Option.some (gf (floatAt c (0 + ((i + 1) * 1)))) ∧ inI64 ((Int.ofNat st - Int.ofNat q) * unitE (floatAt c (0 + (i * 1)))) = true ∧ ieq (smpE (floatAt c (0 + ((i + 1) * 1)))) 0 = true ∧ inI64 (Int.ofNat q * unitE (floatAt c (0 + ((i + 1) * 1)))) = true ∧ inI64 (((Int.ofNat st - Int.ofNat q) * unitE (floatAt c (0 + (i * 1)))) + (Int.ofNat q * unitE (floatAt c (0 + ((i + 1) * 1))))) = true ∧ ((ilt 0 (Int.ofNat st) && (!(ilt 16 (Int.ofNat st)))) && ((!(ilt (((Int.ofNat st - Int.ofNat q) * unitE (floatAt c (0 + (i * 1)))) + (Int.ofNat q * unitE (floatAt c (0 + ((i + 1) * 1))))) (-1073741824))) && (!(ilt 1073741824 (((Int.ofNat st - Int.ofNat q) * unitE (floatAt c (0 + (i * 1)))) + (Int.ofNat q * unitE (floatAt c (0 + ((i + 1) * 1))))))))) = true ∧ ((!(ilt (nearE (((Int.ofNat st - Int.ofNat q) * unitE (floatAt c (0 + (i * 1)))) + (Int.ofNat q * unitE (floatAt c (0 + ((i + 1) * 1))))) (Int.ofNat st)) (-16384))) && (!(ilt 16384 (nearE (((Int.ofNat st - Int.ofNat q) * unitE (floatAt c (0 + (i * 1)))) + (Int.ofNat q * unitE (floatAt c (0 + ((i + 1) * 1))))) (Int.ofNat st))))) = true ∧ Q .normal [liP n k, goN st, Value.slice (some ⟨N1 + 2, 0, none⟩) 1 1, goN i, gi (fwrap IntKind.i64 (Int.ofNat (q + 1)))] (((gC Tryz.prog (sqC c e row)).push (.cells [gf (sampleE (nearE (((Int.ofNat st - Int.ofNat q) * unitE (floatAt c (0 + (i * 1)))) + (Int.ofNat q * unitE (floatAt c (0 + ((i + 1) * 1))))) (Int.ofNat st)))] 69 2 false)).push (.cells ([] ++ [gf (sampleE (nearE (((Int.ofNat st - Int.ofNat q) * unitE (floatAt c (0 + (i * 1)))) + (Int.ofNat q * unitE (floatAt c (0 + ((i + 1) * 1))))) (Int.ofNat st)))]) 69 2 false)))) ∧ (Nat.blt q st = false → Q (.exit 2) [liP n k, goN st, nilS, goN i, goN q] (gC Tryz.prog (sqC c e row))))) := by kernel_rfl
theorem sq_next (c c' : List Value) (n k e row st i q m : Nat) (g : Nat → Value) (Q : Exit → List Value → AHeap → Prop) : execC Tryz.prog (exec Tryz.prog orcRk 10) (syOf [(28, 1), (34, 33), (37, 2), (38, 3), (39, 7), (40, 33), (44, 33), (45, 2), (46, 3), (47, 7), (48, 33), (49, 33), (51, 7), (52, 7), (54, 10)]) askSq (noLoops _) 40 (loopOf Tryz.prog 39 2) (stOf 64 [(0, liP n k), (1, goN st), (6, slO m m), (7, goN i), (8, goN q)] g) (gD Tryz.prog (sqC c e row) c' 69) (told 64 [0, 1, 6, 7, 8] Q) = (((Nat.blt q st = true → (inI64 (Int.ofNat st - Int.ofNat q) = true ∧ Nat.blt i n = true ∧ c[(0 + (i * 1))]? = Option.some (gf (floatAt c (0 + (i * 1)))) ∧ inI64 (Int.ofNat (i + 1)) = true ∧ Nat.blt (i + 1) n = true ∧ c[(0 + ((i + 1) * 1))]? = Option.some (gf (floatAt c (0 + ((i + 1) * 1)))) ∧ ieq (smpE (floatAt c (0 + (i * 1)))) 0 = true ∧ c[(0 + ((i + 1) * 1))]? = Option.some (gf (floatAt c (0 + ((i + 1) * 1)))) ∧ inI64 ((Int.ofNat st - Int.ofNat q) * unitE (floatAt c (0 + (i * 1)))) = true ∧ ieq (smpE (floatAt c (0 + ((i + 1) * 1)))) 0 = true ∧ inI64 (Int.ofNat q * unitE (floatAt c (0 + ((i + 1) * 1)))) = true ∧ inI64 (((Int.ofNat st - Int.ofNat q) * unitE (floatAt c (0 + (i * 1)))) + (Int.ofNat q * unitE (floatAt c (0 + ((i + 1) * 1))))) = true ∧ ((ilt 0 (Int.ofNat st) && (!(ilt 16 (Int.ofNat st)))) && ((!(ilt (((Int.ofNat st - Int.ofNat q) * unitE (floatAt c (0 + (i * 1)))) + (Int.ofNat q * unitE (floatAt c (0 + ((i + 1) * 1))))) (-1073741824))) && (!(ilt 1073741824 (((Int.ofNat st - Int.ofNat q) * unitE (floatAt c (0 + (i * 1)))) + (Int.ofNat q * unitE (floatAt c (0 + ((i + 1) * 1))))))))) = true ∧ ((!(ilt (nearE (((Int.ofNat st - Int.ofNat q) * unitE (floatAt c (0 + (i * 1)))) + (Int.ofNat q * unitE (floatAt c (0 + ((i + 1) * 1))))) (Int.ofNat st)) (-16384))) && (!(ilt 16384 (nearE (((Int.ofNat st - Int.ofNat q) * unitE (floatAt c (0 + (i * 1)))) + (Int.ofNat q * unitE (floatAt c (0 + ((i + 1) * 1))))) (Int.ofNat st))))) = true ∧ Nat.ble (m + 1) m = false ∧ Nat.ble (((2 * (m + 1)) + 256) * 4) 281474976710656 = true ∧ (m * 1) = List.length c' ∧ Q .normal [liP n k, goN st, Value.slice (some ⟨N1 + 3, 0, none⟩) (m + 1) (m + 1), goN i, gi (fwrap IntKind.i64 (Int.ofNat (q + 1)))] ((((gD Tryz.prog (sqC c e row) c' 69).push (.cells [gf (sampleE (nearE (((Int.ofNat st - Int.ofNat q) * unitE (floatAt c (0 + (i * 1)))) + (Int.ofNat q * unitE (floatAt c (0 + ((i + 1) * 1))))) (Int.ofNat st)))] 69 2 false)).set (N1 + 1) (.dead)).push (.cells (c' ++ [gf (sampleE (nearE (((Int.ofNat st - Int.ofNat q) * unitE (floatAt c (0 + (i * 1)))) + (Int.ofNat q * unitE (floatAt c (0 + ((i + 1) * 1))))) (Int.ofNat st)))]) 69 2 false)))) ∧ (Nat.blt q st = false → Q (.exit 2) [liP n k, goN st, slO m m, goN i, goN q] (gD Tryz.prog (sqC c e row) c' 69)))) := by kernel_rfl
noncomputable def sqX (l : List Nat) (st j : Nat) : List Nat := (stX (l.map unitE) st j).map sampleE
theorem sqX_length (l : List Nat) (st j : Nat) : (sqX l st j).length = j := by unfold sqX; rw [List.length_map, stX_length]
theorem sqX_nil {l : List Nat} {st j : Nat} (h : (sqX l st j).map gf = []) : j = 0 := by
  have := congrArg List.length h
  rw [List.length_map, sqX_length] at this
  exact this
theorem sqX_succ {l : List Nat} {st i q : Nat} (hq : q < st) : sqX l st (i * st + (q + 1)) = sqX l st (i * st + q) ++ [sampleE (nearE (stW (l.map unitE) st i q) (Int.ofNat st))] := by
  unfold sqX
  rw [stX_succ hq, List.map_append]; rfl
noncomputable def sqV (n k st i : Nat) : Nat → Value → List Value := fun q v => [liP n k, goN st, v, goN i, goN q]
theorem sqC_flat (l : List Nat) (e row : Nat) : ∀ b ∈ sqC (l.map gf) e row, b.1.all (flat 3) = true := by
  intro b hb
  obtain rfl := List.mem_singleton.1 hb
  exact flat_floats l
theorem unit_getD {l : List Nat} {i : Nat} (hi : i < l.length) : (l.map unitE).getD i 0 = unitE l[i] := by
  rw [List.getD_eq_getElem?_getD, List.getElem?_map, List.getElem?_eq_getElem hi]; rfl
set_option maxRecDepth 100000 in
theorem sq_in (l : List Nat) (n e row k st i : Nat) (hl : n ≤ l.length) (hle : n ≤ 65536) (hin : i + 1 < n) (h1 : 1 ≤ st) (h2 : st ≤ 16) (hok : validL (l.take n)) (hsz : (i + 1) * st ≤ 65536) : ∀ (a : AAct) (h : AHeap), GrownC Tryz.prog (sqC (l.map gf) e row) 69 (sqV n k st i) (fun q => (sqX l st (i * st + q)).map gf) 0 ([0, 1, 6, 7, 8].map a.tmp) h → a.n = 64 → a.marks = [] →
    J Tryz.prog (.loop (loopOf Tryz.prog 39 2)) a h (told 64 [0, 1, 6, 7, 8] fun ex vs h' => ex = .exit 2 ∧ vs = [liP n k, goN st, slO ((i + 1) * st) ((i + 1) * st), goN i, goN st] ∧ h' = gD Tryz.prog (sqC (l.map gf) e row) ((sqX l st ((i + 1) * st)).map gf) 69) := by
  intro a h hG ha hk
  have il : i < l.length := by omega
  have jl : i + 1 < l.length := by omega
  have v1 : smpE l[i] = 0 := hok _ (List.mem_of_getElem? (i := i) (by rw [List.getElem?_take, if_pos (by omega), List.getElem?_eq_getElem il]))
  have v2 : smpE l[i + 1] = 0 := hok _ (List.mem_of_getElem? (i := i + 1) (by rw [List.getElem?_take, if_pos (by omega), List.getElem?_eq_getElem jl]))
  have u1 := unit_getD il
  have u2 := unit_getD jl
  have e1 : okI ((l.map unitE).getD i 0) := by rw [u1]; exact (unit_ok v1).2.2
  have e2 : okI ((l.map unitE).getD (i + 1) 0) := by rw [u2]; exact (unit_ok v2).2.2
  obtain ⟨f1, f2⟩ := float_at (l := l) (j := i) il
  obtain ⟨f3, f4⟩ := float_at (l := l) (j := i + 1) jl
  have hw : ∀ q, q ≤ st → _ := fun q hq => stW_le (l := l.map unitE) (q := q) hq h2 e1 e2
  have hexp : (i + 1) * st = i * st + st := by rw [Nat.add_mul, Nat.one_mul]
  have m0 : ∀ q, q ≤ st → inI64 (Int.ofNat st - Int.ofNat q) = true := fun q hq => by
    rw [show Int.ofNat st - Int.ofNat q = Int.ofNat (st - q) by simp only [Int.ofNat_eq_natCast]; omega]; exact inI64_nat (by omega)
  have m1 : ∀ q, q ≤ st → inI64 ((Int.ofNat st - Int.ofNat q) * (l.map unitE).getD i 0) = true := fun q hq => by
    rw [show Int.ofNat st - Int.ofNat q = ((st - q : Nat) : Int) by simp only [Int.ofNat_eq_natCast]; omega]
    have := mulB (a := st - q) (by omega) e1
    exact inI64_small (by omega) (by omega)
  have m2 : ∀ q, q ≤ st → inI64 (Int.ofNat q * (l.map unitE).getD (i + 1) 0) = true := fun q hq => by
    have := mulB (a := q) (by omega) e2
    simp only [Int.ofNat_eq_natCast]
    exact inI64_small (by omega) (by omega)
  have m3 : ∀ q, q ≤ st → ((ilt 0 (Int.ofNat st) && (!(ilt 16 (Int.ofNat st)))) && ((!(ilt (stW (l.map unitE) st i q) (-1073741824))) && (!(ilt 1073741824 (stW (l.map unitE) st i q))))) = true := fun q hq => by
    have := hw q hq
    simp only [Bool.and_eq_true, ilt_dec, decide_eq_true_eq, Bool.not_eq_true', decide_eq_false_iff_not, Int.ofNat_eq_natCast]
    omega
  have m4 : ∀ q, q ≤ st → inI64 (stW (l.map unitE) st i q) = true := fun q hq => by
    have := hw q hq
    exact inI64_small (by omega) (by omega)
  have m5 : ∀ q, q ≤ st → (!ilt (nearE (stW (l.map unitE) st i q) (Int.ofNat st)) (-16384) && !ilt 16384 (nearE (stW (l.map unitE) st i q) (Int.ofNat st))) = true := fun q hq =>
    okB (near_ok (by omega) (hw q hq).1 (hw q hq).2)
  refine growC_rule (C := sqC (l.map gf) e row) (el := 69) globs_pos (by decide) (by decide) (sqC_flat l e row) (sqV n k st i) (fun q => (sqX l st (i * st + q)).map gf) st _ (fun j => flat_floats _) (fun j => by kernel_rfl) (fun j q d hd => by
      obtain rfl | rfl | rfl | rfl : d = 0 ∨ d = 1 ∨ d = 2 ∨ d = 3 := by omega
      all_goals kernel_rfl)
    (fun j v q hq => by match q, hq with | 0, _ => exact ⟨(0, liP n k), by simp [sqV], by simp [named]⟩) (fun j b q => ⟨(6, .slice (some ⟨b, 0, none⟩) q q), by simp [sqV], by simp [named]⟩) ?_ ?_ ?_ ?_ a h hG ha hk
  · intro q hq hx g
    refine execC_ok mixed orcRk_ok askSq_ok (noLoops _) (Eq.mpr (sq_first _ n k e row st i q g _) ⟨fun _ => ?_, fun hge => ?_⟩)
    · rw [f2, f4, ← u1, ← u2]
      refine ⟨m0 q (by omega), by rw [Nat.blt_eq]; omega, f2 ▸ f1, inI64_nat (by omega), by rw [Nat.blt_eq]; omega, f4 ▸ f3, by rw [v1]; rfl, f4 ▸ f3, m1 q (by omega), by rw [v2]; rfl, m2 q (by omega), m4 q (by omega), m3 q (by omega), m5 q (by omega), ?_⟩
      have h0 := sqX_nil hx
      refine ⟨fun p b hb => ?_, .inr ⟨N1 + 2, 1, rfl, by omega, ?_, ?_, ?_⟩⟩
      · match p, hb with
        | 0, hb => cases hb; rw [AHeap.get_push_ne (by kernel_rfl), AHeap.get_push_ne (by kernel_rfl)]; exact gC_get (q := 0) rfl
      · show (sqX l st (i * st + (q + 1))).map gf ≠ []
        rw [sqX_succ hq]; simp
      · show _ = sqV n k st i (q + 1) (.slice _ ((sqX l st (i * st + (q + 1))).map gf).length ((sqX l st (i * st + (q + 1))).map gf).length)
        rw [List.length_map, sqX_length, fwrap_nat (by omega), show i * st + (q + 1) = 1 by omega]; rfl
      · rw [AHeap.get_push_eq (by kernel_rfl)]
        show _ = some (AObj.cells ((sqX l st (i * st + (q + 1))).map gf) _ _ _)
        rw [sqX_succ hq, List.map_append, hx]; rfl
    · have := blt_false hge; omega
  · intro q hq hx g
    simp only [List.length_map, sqX_length]
    refine execC_ok mixed orcRk_ok askSq_ok (noLoops _) (Eq.mpr (sq_next _ _ n k e row st i q (i * st + q) g _) ⟨fun _ => ?_, fun hge => ?_⟩)
    · rw [f2, f4, ← u1, ← u2]
      refine ⟨m0 q (by omega), by rw [Nat.blt_eq]; omega, f2 ▸ f1, inI64_nat (by omega), by rw [Nat.blt_eq]; omega, f4 ▸ f3, by rw [v1]; rfl, f4 ▸ f3, m1 q (by omega), by rw [v2]; rfl, m2 q (by omega), m4 q (by omega), m3 q (by omega), m5 q (by omega), ble_false (by omega), by rw [Nat.ble_eq]; omega, by rw [List.length_map, sqX_length, Nat.mul_one], ?_⟩
      refine ⟨fun p b hb => ?_, .inr ⟨N1 + 3, 2, rfl, by omega, ?_, ?_, ?_⟩⟩
      · match p, hb with
        | 0, hb => cases hb; rw [AHeap.get_push_ne (by kernel_rfl), AHeap.get_set_neB (by kernel_rfl), AHeap.get_push_ne (by kernel_rfl)]; exact gD_get (q := 0) rfl
      · show (sqX l st (i * st + (q + 1))).map gf ≠ []
        rw [sqX_succ hq]; simp
      · show _ = sqV n k st i (q + 1) (.slice _ ((sqX l st (i * st + (q + 1))).map gf).length ((sqX l st (i * st + (q + 1))).map gf).length)
        rw [List.length_map, sqX_length, fwrap_nat (by omega)]; rfl
      · rw [AHeap.get_push_eq (by kernel_rfl)]
        show _ = some (AObj.cells ((sqX l st (i * st + (q + 1))).map gf) _ _ _)
        rw [sqX_succ hq, List.map_append]; rfl
    · have := blt_false hge; omega
  · intro hx g
    have := sqX_nil hx
    omega
  · intro hx g
    simp only [List.length_map, sqX_length]
    rw [← hexp]
    refine execC_ok mixed orcRk_ok askSq_ok (noLoops _) (Eq.mpr (sq_next _ _ n k e row st i st ((i + 1) * st) g _) ⟨fun hlt => ?_, fun _ => ⟨rfl, rfl, rfl⟩⟩)
    have := blt_true hlt; omega
def sqG (l : List Nat) (n e row k st i : Nat) (s0 : Value) (h : AHeap) : Prop := GrownC Tryz.prog (sqC (l.map gf) e row) 69 (sqV n k st i) (fun q => (sqX l st (i * st + q)).map gf) 0 [liP n k, goN st, s0, goN i, goN 0] h
noncomputable def sqLoops (l : List Nat) (n e row k st i : Nat) (s0 : Value) : Loops Tryz.prog where
  body := fun _ => loopOf Tryz.prog 39 2
  spec := fun _ a h c => entry a 64 [(0, liP n k), (1, goN st), (6, s0), (7, goN i), (8, goN 0)] (sqG l n e row k st i s0 h ∧ (n ≤ l.length ∧ n ≤ 65536 ∧ i + 1 < n ∧ 1 ≤ st ∧ st ≤ 16 ∧ validL (l.take n) ∧ (i + 1) * st ≤ 65536) ∧
    ∀ g m xs, m = (i + 1) * st → xs = sqX l st ((i + 1) * st) → c (.exit 2) (stOf 64 [(0, liP n k), (1, goN st), (6, slO m m), (7, goN i)] g) (gD Tryz.prog (sqC (l.map gf) e row) (xs.map gf) 69))
  ok := fun i' a h c q => by
    obtain ⟨h1, h2, h3, hG, ⟨p1, p2, p3, p4, p5, p6, p7⟩, h4⟩ := entry_facts q
    refine J.of_told (sq_in l n e row k st i p1 p2 p3 p4 p5 p6 p7 a h ?_ h1 h2) ?_
    · simp only [List.map_cons, List.map_nil]
      rw [h3 (0, liP n k) (by simp), h3 (1, goN st) (by simp), h3 (6, s0) (by simp), h3 (7, goN i) (by simp), h3 (8, goN 0) (by simp)]
      exact hG
    · rintro ex vs h' g ⟨rfl, rfl, rfl⟩
      refine cast ?_ (h4 (ov [(8, goN st)] g) _ _ rfl rfl)
      congr 1
end Go.Proofs.YtnlkkapeldhemaaGreatDoor
