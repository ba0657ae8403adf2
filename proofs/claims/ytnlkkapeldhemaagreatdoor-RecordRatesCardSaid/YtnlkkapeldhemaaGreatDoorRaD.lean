/-
  OWN WORK. Integers with others between them, by the program: its loops.
-/
import Derived.Test.YtnlkkapeldhemaaGreatDoorRaC
namespace Go.Proofs.YtnlkkapeldhemaaGreatDoor
open Go Go.Am

noncomputable abbrev neF : Value := .func (.func 100) #[] #[]
noncomputable abbrev stC (c : List Value) (e row : Nat) : List Blk := [(c, e, row, true), ([neF], 183, 0, false)]
noncomputable abbrev stP : Value := .pointer (some ⟨Tryz.prog.globals.size + 1, 0, none⟩)
noncomputable abbrev slT (n k : Nat) : Value := .slice (some ⟨Tryz.prog.globals.size + 2, 0, none⟩) n k
noncomputable def askRi : Asks := skipA 38 (skipA 34 askRg)
theorem askRi_ok : AsksOk orcRh askRi := skipA_ok (skipA_ok askRg_ok)
theorem st_first (c : List Value) (n k e row st i q : Nat) (g : Nat → Value) (Q : Exit → List Value → AHeap → Prop) : execC Tryz.prog (exec Tryz.prog orcRh 10) (syOf [(18, 1), (25, 33), (28, 33), (29, 2), (30, 3), (31, 33), (35, 2), (36, 3), (37, 33), (38, 33), (40, 7)]) askRi (noLoops _) 40 (loopOf Tryz.prog 99 2) (stOf 53 [(0, liP n k), (1, goN st), (5, stP), (7, nilS), (8, goN i), (16, goN st), (17, goN q)] g) (gC Tryz.prog (stC c e row)) (told 53 [0, 1, 5, 7, 8, 16, 17] Q) = (((Nat.blt q st = true → (inI64 (Int.ofNat st - Int.ofNat q) = true ∧ inI64 (Int.ofNat i - 1) = true ∧ ahasIndex (Int.ofNat i - 1) n = true ∧ c[(0 + (Int.toNat (Int.ofNat i - 1) * 1))]? = Option.some (gi (intAt c (0 + (Int.toNat (Int.ofNat i - 1) * 1)))) ∧ inI64 ((Int.ofNat st - Int.ofNat q) * intAt c (0 + (Int.toNat (Int.ofNat i - 1) * 1))) = true ∧ Nat.blt i n = true ∧ c[(0 + (i * 1))]? = Option.some (gi (intAt c (0 + (i * 1)))) ∧ inI64 (Int.ofNat q * intAt c (0 + (i * 1))) = true ∧ inI64 (((Int.ofNat st - Int.ofNat q) * intAt c (0 + (Int.toNat (Int.ofNat i - 1) * 1))) + (Int.ofNat q * intAt c (0 + (i * 1)))) = true ∧ ((ilt 0 (Int.ofNat st) && (!(ilt 16 (Int.ofNat st)))) && ((!(ilt (((Int.ofNat st - Int.ofNat q) * intAt c (0 + (Int.toNat (Int.ofNat i - 1) * 1))) + (Int.ofNat q * intAt c (0 + (i * 1)))) (-1073741824))) && (!(ilt 1073741824 (((Int.ofNat st - Int.ofNat q) * intAt c (0 + (Int.toNat (Int.ofNat i - 1) * 1))) + (Int.ofNat q * intAt c (0 + (i * 1)))))))) = true ∧ Q .normal [liP n k, goN st, stP, Value.slice (some ⟨N1 + 3, 0, none⟩) 1 1, goN i, goN st, gi (fwrap IntKind.i64 (Int.ofNat (q + 1)))] (((gC Tryz.prog (stC c e row)).push (.cells [gi (nearE (((Int.ofNat st - Int.ofNat q) * intAt c (0 + (Int.toNat (Int.ofNat i - 1) * 1))) + (Int.ofNat q * intAt c (0 + (i * 1)))) (Int.ofNat st))] 3 2 false)).push (.cells ([] ++ [gi (nearE (((Int.ofNat st - Int.ofNat q) * intAt c (0 + (Int.toNat (Int.ofNat i - 1) * 1))) + (Int.ofNat q * intAt c (0 + (i * 1)))) (Int.ofNat st))]) 3 2 false)))) ∧ (Nat.blt q st = false → Q (.exit 2) [liP n k, goN st, stP, nilS, goN i, goN st, goN q] (gC Tryz.prog (stC c e row))))) := by kernel_rfl
theorem st_next (c c' : List Value) (n k e row st i q m : Nat) (g : Nat → Value) (Q : Exit → List Value → AHeap → Prop) : execC Tryz.prog (exec Tryz.prog orcRh 10) (syOf [(18, 1), (25, 33), (28, 33), (29, 2), (30, 3), (31, 33), (35, 2), (36, 3), (37, 33), (38, 33), (40, 7), (42, 10)]) askRi (noLoops _) 40 (loopOf Tryz.prog 99 2) (stOf 53 [(0, liP n k), (1, goN st), (5, stP), (7, slT m m), (8, goN i), (16, goN st), (17, goN q)] g) (gD Tryz.prog (stC c e row) c' 3) (told 53 [0, 1, 5, 7, 8, 16, 17] Q) = (((Nat.blt q st = true → (inI64 (Int.ofNat st - Int.ofNat q) = true ∧ inI64 (Int.ofNat i - 1) = true ∧ ahasIndex (Int.ofNat i - 1) n = true ∧ c[(0 + (Int.toNat (Int.ofNat i - 1) * 1))]? = Option.some (gi (intAt c (0 + (Int.toNat (Int.ofNat i - 1) * 1)))) ∧ inI64 ((Int.ofNat st - Int.ofNat q) * intAt c (0 + (Int.toNat (Int.ofNat i - 1) * 1))) = true ∧ Nat.blt i n = true ∧ c[(0 + (i * 1))]? = Option.some (gi (intAt c (0 + (i * 1)))) ∧ inI64 (Int.ofNat q * intAt c (0 + (i * 1))) = true ∧ inI64 (((Int.ofNat st - Int.ofNat q) * intAt c (0 + (Int.toNat (Int.ofNat i - 1) * 1))) + (Int.ofNat q * intAt c (0 + (i * 1)))) = true ∧ ((ilt 0 (Int.ofNat st) && (!(ilt 16 (Int.ofNat st)))) && ((!(ilt (((Int.ofNat st - Int.ofNat q) * intAt c (0 + (Int.toNat (Int.ofNat i - 1) * 1))) + (Int.ofNat q * intAt c (0 + (i * 1)))) (-1073741824))) && (!(ilt 1073741824 (((Int.ofNat st - Int.ofNat q) * intAt c (0 + (Int.toNat (Int.ofNat i - 1) * 1))) + (Int.ofNat q * intAt c (0 + (i * 1)))))))) = true ∧ Nat.ble (m + 1) m = false ∧ Nat.ble (((2 * (m + 1)) + 256) * 8) 281474976710656 = true ∧ (m * 1) = List.length c' ∧ Q .normal [liP n k, goN st, stP, Value.slice (some ⟨N1 + 4, 0, none⟩) (m + 1) (m + 1), goN i, goN st, gi (fwrap IntKind.i64 (Int.ofNat (q + 1)))] ((((gD Tryz.prog (stC c e row) c' 3).push (.cells [gi (nearE (((Int.ofNat st - Int.ofNat q) * intAt c (0 + (Int.toNat (Int.ofNat i - 1) * 1))) + (Int.ofNat q * intAt c (0 + (i * 1)))) (Int.ofNat st))] 3 2 false)).set (N1 + 2) (.dead)).push (.cells (c' ++ [gi (nearE (((Int.ofNat st - Int.ofNat q) * intAt c (0 + (Int.toNat (Int.ofNat i - 1) * 1))) + (Int.ofNat q * intAt c (0 + (i * 1)))) (Int.ofNat st))]) 3 2 false)))) ∧ (Nat.blt q st = false → Q (.exit 2) [liP n k, goN st, stP, slT m m, goN i, goN st, goN q] (gD Tryz.prog (stC c e row) c' 3)))) := by kernel_rfl
theorem pred_nat (i : Nat) : Int.ofNat (i + 1) - 1 = Int.ofNat i := by simp
theorem floorE_ediv {a b : Int} (hb : 0 < b) : floorE a b = a / b := by
  unfold floorE
  rw [ilt_dec, Int.tdiv_eq_ediv, Int.tmod_eq_emod]
  have h1 := Int.emod_nonneg a (show b ≠ 0 by omega)
  have h2 := Int.emod_lt_of_pos a hb
  by_cases h : 0 ≤ a ∨ b ∣ a
  · rw [if_pos h, if_pos h, decide_eq_false (by omega)]; simp
  · rw [if_neg h, if_neg h, Int.sign_eq_one_of_pos hb, decide_eq_true (by omega)]; simp
theorem mulB {a : Nat} {u : Int} (ha : a ≤ 16) (hu : okI u) : -(16384 * (a : Int)) ≤ (a : Int) * u ∧ (a : Int) * u ≤ 16384 * (a : Int) := by
  unfold okI at hu
  have h1 : (a : Int) * u ≤ (a : Int) * 16384 := Int.mul_le_mul_of_nonneg_left hu.2 (by omega)
  have h2 : (a : Int) * (-16384) ≤ (a : Int) * u := Int.mul_le_mul_of_nonneg_left hu.1 (by omega)
  omega
theorem near_ok {a : Int} {b : Nat} (hb : 0 < b) (h1 : -(16384 * (b : Int)) ≤ a) (h2 : a ≤ 16384 * (b : Int)) : okI (nearE a b) := by
  unfold nearE okI
  rw [floorE_ediv (by omega)]
  refine ⟨(Int.le_ediv_iff_mul_le (by omega)).2 (by omega), ?_⟩
  have := (Int.ediv_lt_iff_lt_mul (a := 2 * a + (b : Int)) (b := 16385) (c := 2 * (b : Int)) (by omega)).2 (by omega)
  omega
/-- The sum whose quotient is rounded. -/
noncomputable def stW (l : List Int) (st i q : Nat) : Int := (Int.ofNat st - Int.ofNat q) * l.getD i 0 + Int.ofNat q * l.getD (i + 1) 0
noncomputable def stE (l : List Int) (st p : Nat) : Int := nearE (stW l st (p / st) (p % st)) (Int.ofNat st)
noncomputable def stX (l : List Int) (st j : Nat) : List Int := (List.range j).map (stE l st)
theorem stX_length (l : List Int) (st j : Nat) : (stX l st j).length = j := by simp [stX]
theorem stX_succ {l : List Int} {st i q : Nat} (hq : q < st) : stX l st (i * st + (q + 1)) = stX l st (i * st + q) ++ [nearE (stW l st i q) (Int.ofNat st)] := by
  rw [← Nat.add_assoc]
  unfold stX
  rw [List.range_succ, List.map_append]
  congr 1
  show [stE l st (i * st + q)] = _
  unfold stE
  rw [show (i * st + q) / st = i by rw [Nat.mul_comm, Nat.mul_add_div (by omega), Nat.div_eq_of_lt hq, Nat.add_zero], show (i * st + q) % st = q from Nat.mul_add_mod_of_lt hq]
theorem stX_nil {l : List Int} {st j : Nat} (h : (stX l st j).map gi = []) : j = 0 := by
  have := congrArg List.length h
  rw [List.length_map, stX_length] at this
  exact this
theorem stW_le {l : List Int} {st i q : Nat} (hq : q ≤ st) (hst : st ≤ 16) (h1 : okI (l.getD i 0)) (h2 : okI (l.getD (i + 1) 0)) : -(16384 * (st : Int)) ≤ stW l st i q ∧ stW l st i q ≤ 16384 * (st : Int) := by
  unfold stW
  rw [show Int.ofNat st - Int.ofNat q = ((st - q : Nat) : Int) by simp only [Int.ofNat_eq_natCast]; omega]
  have a1 := mulB (a := st - q) (by omega) h1
  have a2 := mulB (a := q) (by omega) h2
  simp only [Int.ofNat_eq_natCast]
  omega
noncomputable def stV (n k st i : Nat) : Nat → Value → List Value := fun q v => [liP n k, goN st, stP, v, goN (i + 1), goN st, goN q]
theorem stC_flat (l : List Int) (e row : Nat) : ∀ b ∈ stC (l.map gi) e row, b.1.all (flat 3) = true := by
  intro b hb
  simp only [List.mem_cons, List.not_mem_nil, or_false] at hb
  rcases hb with rfl | rfl
  · exact flat_ints l
  · rfl
set_option maxRecDepth 100000 in
theorem st_in (l : List Int) (n e row k st i : Nat) (hl : n ≤ l.length) (hle : n ≤ 65536) (hin : i + 1 < n) (h1 : 1 ≤ st) (h2 : st ≤ 16) (hok : okL (l.take n)) (hsz : (i + 1) * st ≤ 65536) : ∀ (a : AAct) (h : AHeap), GrownC Tryz.prog (stC (l.map gi) e row) 3 (stV n k st i) (fun q => (stX l st (i * st + q)).map gi) 0 ([0, 1, 5, 7, 8, 16, 17].map a.tmp) h → a.n = 53 → a.marks = [] →
    J Tryz.prog (.loop (loopOf Tryz.prog 99 2)) a h (told 53 [0, 1, 5, 7, 8, 16, 17] fun ex vs h' => ex = .exit 2 ∧ vs = [liP n k, goN st, stP, slT ((i + 1) * st) ((i + 1) * st), goN (i + 1), goN st, goN st] ∧ h' = gD Tryz.prog (stC (l.map gi) e row) ((stX l st ((i + 1) * st)).map gi) 3) := by
  intro a h hG ha hk
  have e1 : okI (l.getD i 0) := hok _ (List.mem_of_getElem? (i := i) (by rw [List.getElem?_take, if_pos (by omega), List.getElem?_eq_getElem (by omega), List.getD_eq_getElem?_getD, List.getElem?_eq_getElem (by omega)]; rfl))
  have e2 : okI (l.getD (i + 1) 0) := hok _ (List.mem_of_getElem? (i := i + 1) (by rw [List.getElem?_take, if_pos (by omega), List.getElem?_eq_getElem (by omega), List.getD_eq_getElem?_getD, List.getElem?_eq_getElem (by omega)]; rfl))
  obtain ⟨f1, f2⟩ := int_at (l := l) (j := i) (x := l.getD i 0) (by rw [List.getD_eq_getElem?_getD, List.getElem?_eq_getElem (by omega)]; rfl)
  obtain ⟨f3, f4⟩ := int_at (l := l) (j := i + 1) (x := l.getD (i + 1) 0) (by rw [List.getD_eq_getElem?_getD, List.getElem?_eq_getElem (by omega)]; rfl)
  have g1 : (l.map gi)[0 + Int.toNat (Int.ofNat i) * 1]? = _ := f1
  have g2 : intAt (l.map gi) (0 + Int.toNat (Int.ofNat i) * 1) = l.getD i 0 := f2
  have hw : ∀ q, q ≤ st → _ := fun q hq => stW_le (q := q) hq h2 e1 e2
  have hexp : (i + 1) * st = i * st + st := by rw [Nat.add_mul, Nat.one_mul]
  have m1 : ∀ q, q ≤ st → inI64 ((Int.ofNat st - Int.ofNat q) * l.getD i 0) = true := fun q hq => by
    rw [show Int.ofNat st - Int.ofNat q = ((st - q : Nat) : Int) by simp only [Int.ofNat_eq_natCast]; omega]
    have := mulB (a := st - q) (by omega) e1
    exact inI64_small (by omega) (by omega)
  have m2 : ∀ q, q ≤ st → inI64 (Int.ofNat q * l.getD (i + 1) 0) = true := fun q hq => by
    have := mulB (a := q) (by omega) e2
    simp only [Int.ofNat_eq_natCast]
    exact inI64_small (by omega) (by omega)
  have m3 : ∀ q, q ≤ st → ((ilt 0 (Int.ofNat st) && (!(ilt 16 (Int.ofNat st)))) && ((!(ilt (stW l st i q) (-1073741824))) && (!(ilt 1073741824 (stW l st i q))))) = true := fun q hq => by
    have := hw q hq
    simp only [Bool.and_eq_true, ilt_dec, decide_eq_true_eq, Bool.not_eq_true', decide_eq_false_iff_not, Int.ofNat_eq_natCast]
    omega
  refine growC_rule (C := stC (l.map gi) e row) (el := 3) globs_pos (by decide) (by decide) (stC_flat l e row) (stV n k st i) (fun q => (stX l st (i * st + q)).map gi) st _ (fun j => flat_ints _) (fun j => by kernel_rfl) (fun j q d hd => by
      obtain rfl | rfl | rfl | rfl : d = 0 ∨ d = 1 ∨ d = 2 ∨ d = 3 := by omega
      all_goals kernel_rfl)
    (fun j v q hq => by match q, hq with | 0, _ => exact ⟨(0, liP n k), by simp [stV], by simp [named]⟩ | 1, _ => exact ⟨(5, stP), by simp [stV], by simp [named]⟩) (fun j b q => ⟨(7, .slice (some ⟨b, 0, none⟩) q q), by simp [stV], by simp [named]⟩) ?_ ?_ ?_ ?_ a h hG ha hk
  · intro q hq hx g
    refine execC_ok mixed orcRh_ok askRi_ok (noLoops _) (Eq.mpr (st_first _ n k e row st (i + 1) q g _) ⟨fun _ => ?_, fun hge => ?_⟩)
    · rw [pred_nat, g2, f4]
      refine ⟨by rw [show Int.ofNat st - Int.ofNat q = Int.ofNat (st - q) by simp only [Int.ofNat_eq_natCast]; omega]; exact inI64_nat (by omega), inI64_nat (by omega), by show Nat.blt i n = true; rw [Nat.blt_eq]; omega, g2 ▸ g1, m1 q (by omega), by rw [Nat.blt_eq]; omega, f4 ▸ f3, m2 q (by omega), inI64_small (by have := hw q (by omega); unfold stW at this; omega) (by have := hw q (by omega); unfold stW at this; omega), m3 q (by omega), ?_⟩
      have h0 := stX_nil hx
      refine ⟨fun p b hb => ?_, .inr ⟨N1 + 3, 1, rfl, by omega, ?_, ?_, ?_⟩⟩
      · match p, hb with
        | 0, hb => cases hb; rw [AHeap.get_push_ne (by kernel_rfl), AHeap.get_push_ne (by kernel_rfl)]; exact gC_get (q := 0) rfl
        | 1, hb => cases hb; rw [AHeap.get_push_ne (by kernel_rfl), AHeap.get_push_ne (by kernel_rfl)]; exact gC_get (q := 1) rfl
      · show (stX l st (i * st + (q + 1))).map gi ≠ []
        rw [stX_succ hq]; simp
      · show _ = stV n k st i (q + 1) (.slice _ ((stX l st (i * st + (q + 1))).map gi).length ((stX l st (i * st + (q + 1))).map gi).length)
        rw [List.length_map, stX_length, fwrap_nat (by omega), show i * st + (q + 1) = 1 by omega]; rfl
      · rw [AHeap.get_push_eq (by kernel_rfl)]
        show _ = some (AObj.cells ((stX l st (i * st + (q + 1))).map gi) _ _ _)
        rw [stX_succ hq, List.map_append, hx]; rfl
    · have := blt_false hge; omega
  · intro q hq hx g
    simp only [List.length_map, stX_length]
    refine execC_ok mixed orcRh_ok askRi_ok (noLoops _) (Eq.mpr (st_next _ _ n k e row st (i + 1) q (i * st + q) g _) ⟨fun _ => ?_, fun hge => ?_⟩)
    · rw [pred_nat, g2, f4]
      refine ⟨by rw [show Int.ofNat st - Int.ofNat q = Int.ofNat (st - q) by simp only [Int.ofNat_eq_natCast]; omega]; exact inI64_nat (by omega), inI64_nat (by omega), by show Nat.blt i n = true; rw [Nat.blt_eq]; omega, g2 ▸ g1, m1 q (by omega), by rw [Nat.blt_eq]; omega, f4 ▸ f3, m2 q (by omega), inI64_small (by have := hw q (by omega); unfold stW at this; omega) (by have := hw q (by omega); unfold stW at this; omega), m3 q (by omega), ble_false (by omega), by rw [Nat.ble_eq]; omega, by rw [List.length_map, stX_length, Nat.mul_one], ?_⟩
      refine ⟨fun p b hb => ?_, .inr ⟨N1 + 4, 2, rfl, by omega, ?_, ?_, ?_⟩⟩
      · match p, hb with
        | 0, hb => cases hb; rw [AHeap.get_push_ne (by kernel_rfl), AHeap.get_set_neB (by kernel_rfl), AHeap.get_push_ne (by kernel_rfl)]; exact gD_get (q := 0) rfl
        | 1, hb => cases hb; rw [AHeap.get_push_ne (by kernel_rfl), AHeap.get_set_neB (by kernel_rfl), AHeap.get_push_ne (by kernel_rfl)]; exact gD_get (q := 1) rfl
      · show (stX l st (i * st + (q + 1))).map gi ≠ []
        rw [stX_succ hq]; simp
      · show _ = stV n k st i (q + 1) (.slice _ ((stX l st (i * st + (q + 1))).map gi).length ((stX l st (i * st + (q + 1))).map gi).length)
        rw [List.length_map, stX_length, fwrap_nat (by omega)]; rfl
      · rw [AHeap.get_push_eq (by kernel_rfl)]
        show _ = some (AObj.cells ((stX l st (i * st + (q + 1))).map gi) _ _ _)
        rw [stX_succ hq, List.map_append]; rfl
    · have := blt_false hge; omega
  · intro hx g
    have := stX_nil hx
    omega
  · intro hx g
    simp only [List.length_map, stX_length]
    rw [← hexp]
    refine execC_ok mixed orcRh_ok askRi_ok (noLoops _) (Eq.mpr (st_next _ _ n k e row st (i + 1) st ((i + 1) * st) g _) ⟨fun hlt => ?_, fun _ => ⟨rfl, rfl, rfl⟩⟩)
    have := blt_true hlt; omega
def stG (l : List Int) (n e row k st i : Nat) (s0 : Value) (h : AHeap) : Prop := GrownC Tryz.prog (stC (l.map gi) e row) 3 (stV n k st i) (fun q => (stX l st (i * st + q)).map gi) 0 [liP n k, goN st, stP, s0, goN (i + 1), goN st, goN 0] h
noncomputable def stLoops (l : List Int) (n e row k st i : Nat) (s0 : Value) : Loops Tryz.prog where
  body := fun _ => loopOf Tryz.prog 99 2
  spec := fun _ a h c => entry a 53 [(0, liP n k), (1, goN st), (5, stP), (7, s0), (8, goN (i + 1)), (16, goN st), (17, goN 0)] (stG l n e row k st i s0 h ∧ (n ≤ l.length ∧ n ≤ 65536 ∧ i + 1 < n ∧ 1 ≤ st ∧ st ≤ 16 ∧ okL (l.take n) ∧ (i + 1) * st ≤ 65536) ∧
    ∀ g m xs, m = (i + 1) * st → xs = stX l st ((i + 1) * st) → c (.exit 2) (stOf 53 [(0, liP n k), (1, goN st), (5, stP), (7, slT m m), (8, goN (i + 1))] g) (gD Tryz.prog (stC (l.map gi) e row) (xs.map gi) 3))
  ok := fun i' a h c q => by
    obtain ⟨h1, h2, h3, hG, ⟨p1, p2, p3, p4, p5, p6, p7⟩, h4⟩ := entry_facts q
    refine J.of_told (st_in l n e row k st i p1 p2 p3 p4 p5 p6 p7 a h ?_ h1 h2) ?_
    · simp only [List.map_cons, List.map_nil]
      rw [h3 (0, liP n k) (by simp), h3 (1, goN st) (by simp), h3 (5, stP) (by simp), h3 (7, s0) (by simp), h3 (8, goN (i + 1)) (by simp), h3 (16, goN st) (by simp), h3 (17, goN 0) (by simp)]
      exact hG
    · rintro ex vs h' g ⟨rfl, rfl, rfl⟩
      refine cast ?_ (h4 (ov [(16, goN st), (17, goN st)] g) _ _ rfl rfl)
      congr 1
theorem so_body (s0 : Value) (l : List Int) (n k e row st i : Nat) (h : AHeap) (g : Nat → Value) (Q : Exit → List Value → AHeap → Prop) : execC Tryz.prog (exec Tryz.prog orcRh 10) (syOf [(13, 1)]) askRi (stLoops l n e row k st i s0) 40 (loopOf Tryz.prog 99 0) (stOf 53 [(0, liP n k), (1, goN st), (5, stP), (7, s0), (8, goN (i + 1))] g) h (told 53 [0, 1, 5, 7, 8] Q) = (((Nat.blt (i + 1) n = true → (loopOf Tryz.prog 99 2 = loopOf Tryz.prog 99 2 ∧ liP n k = liP n k ∧ goN st = goN st ∧ stP = stP ∧ s0 = s0 ∧ goN (i + 1) = goN (i + 1) ∧ goN st = goN st ∧ gi 0 = goN 0 ∧ stG l n e row k st i s0 h ∧ ((n : Nat) ≤ List.length l ∧ (n : Nat) ≤ 65536 ∧ ((i + 1) : Nat) < n ∧ (1 : Nat) ≤ st ∧ (st : Nat) ≤ 16 ∧ okL (List.take n l) ∧ (((i + 1) * st) : Nat) ≤ 65536) ∧ (∀ _ : Nat → Value, (∀ y2 : Nat, (∀ y3 : List Int, (y2 = ((i + 1) * st) → (y3 = stX l st ((i + 1) * st) → Q .normal [liP n k, goN st, stP, slT y2 y2, gi (fwrap IntKind.i64 (Int.ofNat ((i + 1) + 1)))] (gD Tryz.prog (stC (List.map gi l) e row) (List.map gi y3) 3)))))))) ∧ (Nat.blt (i + 1) n = false → Q (.exit 0) [liP n k, goN st, stP, s0, goN (i + 1)] h))) := by kernel_rfl
theorem stC_src (c : List Value) (e row : Nat) : (gC Tryz.prog (stC c e row)).get N1 = some (.cells c e row true) := gC_get (P := Tryz.prog) (C := stC c e row) (q := 0) (b := (c, e, row, true)) rfl
theorem stD_src (c : List Value) (e row : Nat) (d : List Value) : (gD Tryz.prog (stC c e row) d 3).get N1 = some (.cells c e row true) := gD_get (P := Tryz.prog) (C := stC c e row) (q := 0) (b := (c, e, row, true)) rfl
noncomputable def soV (n k st : Nat) : Nat → Value → List Value := fun i v => [liP n k, goN st, stP, v, goN (i + 1)]
theorem stC_mul {i m st : Nat} (h : i ≤ m) : i * st ≤ m * st := Nat.mul_le_mul_right _ h
set_option maxRecDepth 100000 in
theorem so_loop (l : List Int) (n e row k st : Nat) (hl : n ≤ l.length) (hle : n ≤ 65536) (h0 : 1 ≤ n) (h1 : 1 ≤ st) (h2 : st ≤ 16) (hok : okL (l.take n)) (hsz : (n - 1) * st ≤ 65536) : ∀ (a : AAct) (h : AHeap), (∀ (q : Nat) b, (stC (l.map gi) e row)[q]? = some b → h.get (Tryz.prog.globals.size + q) = some (.cells b.1 b.2.1 b.2.2.1 b.2.2.2)) → a.n = 53 → a.marks = [] → [0, 1, 5, 7, 8].map a.tmp = [liP n k, goN st, stP, nilS, goN 1] →
    J Tryz.prog (.loop (loopOf Tryz.prog 99 0)) a h (told 53 [0, 1, 5, 7, 8] fun ex vs h' => ex = .exit 0 ∧ h'.get N1 = some (.cells (l.map gi) e row true) ∧ ((n = 1 ∧ vs = [liP n k, goN st, stP, nilS, goN n]) ∨ (1 < n ∧ vs = [liP n k, goN st, stP, slT ((n - 1) * st) ((n - 1) * st), goN n] ∧ h'.get (N1 + 2) = some (.cells ((stX l st ((n - 1) * st)).map gi) 3 2 false)))) := by
  intro a h hs ha hk hv
  refine growC_rule (C := stC (l.map gi) e row) (el := 3) globs_pos (by decide) (by decide) (stC_flat l e row) (soV n k st) (fun i => (stX l st (i * st)).map gi) (n - 1) _ (fun j => flat_ints _) (fun j => by kernel_rfl) (fun j q d hd => by
      obtain rfl | rfl | rfl | rfl : d = 0 ∨ d = 1 ∨ d = 2 ∨ d = 3 := by omega
      all_goals kernel_rfl)
    (fun j v q hq => by match q, hq with | 0, _ => exact ⟨(0, liP n k), by simp [soV], by simp [named]⟩ | 1, _ => exact ⟨(5, stP), by simp [soV], by simp [named]⟩) (fun j b q => ⟨(7, .slice (some ⟨b, 0, none⟩) q q), by simp [soV], by simp [named]⟩) ?_ ?_ ?_ ?_ a h ⟨hs, .inl ⟨by simp [stX], hv⟩⟩ ha hk
  · intro i hi hx g
    have hm := stC_mul (st := st) (show i + 1 ≤ n - 1 by omega)
    refine execC_ok mixed orcRh_ok askRi_ok (stLoops l n e row k st i nilS) (Eq.mpr (so_body nilS l n k e row st i _ g _) ⟨fun _ => ?_, fun hge => ?_⟩)
    · refine ⟨rfl, rfl, rfl, rfl, rfl, rfl, rfl, rfl, ⟨fun q b hb => gC_get hb, .inl ⟨hx, rfl⟩⟩, ⟨hl, hle, by omega, h1, h2, hok, by omega⟩, fun _ m xs em ex => ?_⟩
      subst em ex
      refine ⟨fun q b hb => gD_get hb, .inr ⟨N1 + 2, 0, rfl, by omega, ?_, ?_, gD_dst⟩⟩
      · intro hn
        have := stX_nil hn
        have := Nat.mul_pos (show 0 < i + 1 by omega) h1
        omega
      · show _ = soV n k st (i + 1) (.slice _ ((stX l st ((i + 1) * st)).map gi).length ((stX l st ((i + 1) * st)).map gi).length)
        rw [List.length_map, stX_length, fwrap_nat (by omega)]; rfl
    · have := blt_false hge; omega
  · intro i hi hx g
    have hm := stC_mul (st := st) (show i + 1 ≤ n - 1 by omega)
    simp only [List.length_map, stX_length]
    refine execC_ok mixed orcRh_ok askRi_ok (stLoops l n e row k st i (slT (i * st) (i * st))) (Eq.mpr (so_body (slT (i * st) (i * st)) l n k e row st i _ g _) ⟨fun _ => ?_, fun hge => ?_⟩)
    · refine ⟨rfl, rfl, rfl, rfl, rfl, rfl, rfl, rfl, ⟨fun q b hb => gD_get hb, .inr ⟨N1 + 2, 0, rfl, by omega, hx, ?_, gD_dst⟩⟩, ⟨hl, hle, by omega, h1, h2, hok, by omega⟩, fun _ m xs em ex => ?_⟩
      · show _ = stV n k st i 0 (.slice _ ((stX l st (i * st + 0)).map gi).length ((stX l st (i * st + 0)).map gi).length)
        rw [List.length_map, stX_length]; rfl
      · subst em ex
        refine ⟨fun q b hb => gD_get hb, .inr ⟨N1 + 2, 0, rfl, by omega, ?_, ?_, gD_dst⟩⟩
        · intro hn
          have := stX_nil hn
          have := Nat.mul_pos (show 0 < i + 1 by omega) h1
          omega
        · show _ = soV n k st (i + 1) (.slice _ ((stX l st ((i + 1) * st)).map gi).length ((stX l st ((i + 1) * st)).map gi).length)
          rw [List.length_map, stX_length, fwrap_nat (by omega)]; rfl
    · have := blt_false hge; omega
  · intro hx g
    have h3 := stX_nil hx
    have h4 : n = 1 := by
      by_cases hn : n = 1
      · exact hn
      · have := Nat.mul_pos (show 0 < n - 1 by omega) h1
        omega
    subst h4
    refine execC_ok mixed orcRh_ok askRi_ok (stLoops l 1 e row k st 0 nilS) (Eq.mpr (so_body nilS l 1 k e row st 0 _ g _) ⟨fun hlt => ?_, fun _ => ⟨rfl, stC_src _ _ _, .inl ⟨rfl, rfl⟩⟩⟩)
    have := blt_true hlt; omega
  · intro hx g
    simp only [List.length_map, stX_length]
    have h4 : 1 < n := by
      by_cases hn : n = 1
      · subst hn; exact absurd (by simp [stX]) hx
      · omega
    refine execC_ok mixed orcRh_ok askRi_ok (stLoops l n e row k st (n - 1) (slT ((n - 1) * st) ((n - 1) * st))) (Eq.mpr (so_body (slT ((n - 1) * st) ((n - 1) * st)) l n k e row st (n - 1) _ g _) ⟨fun hlt => ?_, fun _ => ⟨rfl, stD_src _ _ _ _, .inr ⟨h4, ?_, gD_dst⟩⟩⟩)
    · have := blt_true hlt; omega
    · rw [show n - 1 + 1 = n by omega]
def stH (c : List Value) (e row : Nat) (h : AHeap) : Prop := ∀ (q : Nat) b, (stC c e row)[q]? = some b → h.get (Tryz.prog.globals.size + q) = some (.cells b.1 b.2.1 b.2.2.1 b.2.2.2)
set_option maxRecDepth 100000 in
noncomputable def soLoops (l : List Int) (n e row k st : Nat) : Loops Tryz.prog where
  body := fun _ => loopOf Tryz.prog 99 0
  spec := fun _ a h c => entry a 53 [(0, liP n k), (1, goN st), (5, stP), (7, nilS), (8, goN 1)] (stH (l.map gi) e row h ∧ (n ≤ l.length ∧ n ≤ 65536 ∧ 1 ≤ n ∧ 1 ≤ st ∧ st ≤ 16 ∧ okL (l.take n) ∧ (n - 1) * st ≤ 65536 ∧ 1 < n) ∧
    (∀ g m xs, m = (n - 1) * st → xs = stX l st ((n - 1) * st) → c (.exit 0) (stOf 53 [(0, liP n k), (7, slO m m)] g) (gH2 Tryz.prog (l.map gi) e row (xs.map gi) 3)))
  ok := fun i' a h c q => by
    obtain ⟨h1, h2, h3, hG, ⟨p1, p2, p3, p4, p5, p6, p7, p8⟩, k2⟩ := entry_facts q
    refine J.of_toldR globs_pos (so_loop l n e row k st p1 p2 p3 p4 p5 p6 p7 a h hG h1 h2 ?_) ?_
    · simp only [List.map_cons, List.map_nil]
      rw [h3 (0, liP n k) (by simp), h3 (1, goN st) (by simp), h3 (5, stP) (by simp), h3 (7, nilS) (by simp), h3 (8, goN 1) (by simp)]
    · rintro ex vs h' ⟨rfl, hs, ⟨hn, rfl⟩ | ⟨hn, rfl, hd⟩⟩
      · omega
      · refine ⟨[0, 7], [liP n k, slT ((n - 1) * st) ((n - 1) * st)], [liP n k, slO ((n - 1) * st) ((n - 1) * st)], [(l.map gi, e, row, true), ((stX l st ((n - 1) * st)).map gi, 3, 2, false)], [N1, N1 + 2], by simp, rfl, by simp, by simp, ?_, by kernel_rfl, ?_, fun g => k2 g _ _ rfl rfl⟩
        · intro q b' i hb hi
          match q, hb, hi with
          | 0, hb, hi => cases hb; cases hi; exact ⟨hs, flat_ints l⟩
          | 1, hb, hi => cases hb; cases hi; exact ⟨hd, flat_ints _⟩
        · intro i hi
          simp only [List.mem_cons, List.not_mem_nil, or_false] at hi
          rcases hi with rfl | rfl
          · exact ⟨(0, liP n k), by simp, by simp [named]⟩
          · exact ⟨(7, slT ((n - 1) * st) ((n - 1) * st)), by simp, by simp [named]⟩
set_option maxRecDepth 100000 in
noncomputable def soLone (l : List Int) (n e row k st : Nat) : Loops Tryz.prog where
  body := fun _ => loopOf Tryz.prog 99 0
  spec := fun _ a h c => entry a 53 [(0, liP n k), (1, goN st), (5, stP), (7, nilS), (8, goN 1)] (stH (l.map gi) e row h ∧ (n ≤ l.length ∧ n ≤ 65536 ∧ 1 ≤ n ∧ 1 ≤ st ∧ st ≤ 16 ∧ okL (l.take n) ∧ (n - 1) * st ≤ 65536 ∧ n = 1) ∧
    (∀ g, c (.exit 0) (stOf 53 [(0, liP n k), (7, nilS)] g) (gH1 Tryz.prog (l.map gi) e row)))
  ok := fun i' a h c q => by
    obtain ⟨h1, h2, h3, hG, ⟨p1, p2, p3, p4, p5, p6, p7, p8⟩, k1⟩ := entry_facts q
    refine J.of_toldR globs_pos (so_loop l n e row k st p1 p2 p3 p4 p5 p6 p7 a h hG h1 h2 ?_) ?_
    · simp only [List.map_cons, List.map_nil]
      rw [h3 (0, liP n k) (by simp), h3 (1, goN st) (by simp), h3 (5, stP) (by simp), h3 (7, nilS) (by simp), h3 (8, goN 1) (by simp)]
    · rintro ex vs h' ⟨rfl, hs, ⟨hn, rfl⟩ | ⟨hn, rfl, hd⟩⟩
      · refine ⟨[0, 7], [liP n k, nilS], [liP n k, nilS], [(l.map gi, e, row, true)], [N1], by simp, rfl, by simp, by simp, ?_, by kernel_rfl, ?_, fun g => k1 g⟩
        · intro q b' i hb hi
          match q, hb, hi with
          | 0, hb, hi => cases hb; cases hi; exact ⟨hs, flat_ints l⟩
        · intro i hi
          obtain rfl := List.mem_singleton.1 hi
          exact ⟨(0, liP n k), by simp, by simp [named]⟩
      · omega
theorem st_run (l : List Int) (n k e row st : Nat) (K : Value → AHeap → Prop) : callC Tryz.prog (exec Tryz.prog orcRh 10) (syOf [(48, 33), (49, 2), (50, 3), (52, 10)]) askRi (soLoops l n e row k st) 40 99 #[liP n k, goN st, .agg #[neF]] (liH (l.map gi) e row) K = ((loopOf Tryz.prog 99 0 = loopOf Tryz.prog 99 0 ∧ liP n k = liP n k ∧ goN st = goN st ∧ Value.pointer (some ⟨N1 + 1, 0, none⟩) = stP ∧ nilS = nilS ∧ gi 1 = goN 1 ∧ stH (List.map gi l) e row ((liH (List.map gi l) e row).push (.cells [neF] 183 0 false)) ∧ ((n : Nat) ≤ List.length l ∧ (n : Nat) ≤ 65536 ∧ (1 : Nat) ≤ n ∧ (1 : Nat) ≤ st ∧ (st : Nat) ≤ 16 ∧ okL (List.take n l) ∧ (((n - 1) * st) : Nat) ≤ 65536 ∧ (1 : Nat) < n) ∧ (∀ _ : Nat → Value, (∀ y2 : Nat, (∀ y3 : List Int, (y2 = ((n - 1) * st) → (y3 = stX l st ((n - 1) * st) → (inI64 (Int.ofNat n - 1) = true ∧ ahasIndex (Int.ofNat n - 1) n = true ∧ (List.map gi l)[(0 + (Int.toNat (Int.ofNat n - 1) * 1))]? = Option.some (gi (intAt (List.map gi l) (0 + (Int.toNat (Int.ofNat n - 1) * 1)))) ∧ Nat.ble (y2 + 1) y2 = false ∧ Nat.ble (((2 * (y2 + 1)) + 256) * 8) 281474976710656 = true ∧ (y2 * 1) = List.length (List.map gi y3) ∧ K (Value.slice (some ⟨N1 + 3, 0, none⟩) (y2 + 1) (y2 + 1)) ((((gH2 Tryz.prog (List.map gi l) e row (List.map gi y3) 3).push (.cells [gi (intAt (List.map gi l) (0 + (Int.toNat (Int.ofNat n - 1) * 1)))] 3 2 false)).set (N1 + 1) (.dead)).push (.cells (List.map gi y3 ++ [gi (intAt (List.map gi l) (0 + (Int.toNat (Int.ofNat n - 1) * 1)))]) 3 2 false)))))))))) := by kernel_rfl
theorem st_one (l : List Int) (n k e row st : Nat) (K : Value → AHeap → Prop) : callC Tryz.prog (exec Tryz.prog orcRh 10) (syOf [(48, 33), (49, 2), (50, 3)]) askRi (soLone l n e row k st) 40 99 #[liP n k, goN st, .agg #[neF]] (liH (l.map gi) e row) K = ((loopOf Tryz.prog 99 0 = loopOf Tryz.prog 99 0 ∧ liP n k = liP n k ∧ goN st = goN st ∧ Value.pointer (some ⟨N1 + 1, 0, none⟩) = stP ∧ nilS = nilS ∧ gi 1 = goN 1 ∧ stH (List.map gi l) e row ((liH (List.map gi l) e row).push (.cells [neF] 183 0 false)) ∧ ((n : Nat) ≤ List.length l ∧ (n : Nat) ≤ 65536 ∧ (1 : Nat) ≤ n ∧ (1 : Nat) ≤ st ∧ (st : Nat) ≤ 16 ∧ okL (List.take n l) ∧ (((n - 1) * st) : Nat) ≤ 65536 ∧ n = 1) ∧ (∀ _ : Nat → Value, (inI64 (Int.ofNat n - 1) = true ∧ ahasIndex (Int.ofNat n - 1) n = true ∧ (List.map gi l)[(0 + (Int.toNat (Int.ofNat n - 1) * 1))]? = Option.some (gi (intAt (List.map gi l) (0 + (Int.toNat (Int.ofNat n - 1) * 1)))) ∧ K (Value.slice (some ⟨N1 + 2, 0, none⟩) 1 1) (((gH1 Tryz.prog (List.map gi l) e row).push (.cells [gi (intAt (List.map gi l) (0 + (Int.toNat (Int.ofNat n - 1) * 1)))] 3 2 false)).push (.cells ([] ++ [gi (intAt (List.map gi l) (0 + (Int.toNat (Int.ofNat n - 1) * 1)))]) 3 2 false)))))) := by kernel_rfl
noncomputable def stL (l : List Int) (st : Nat) : List Int := stX l st ((l.length - 1) * st) ++ [l.getD (l.length - 1) 0]
noncomputable def neB : Value → Bool := fun v => match v with
  | .agg x => match x.toList with
    | [.func (.func f) a b] => Nat.beq f 100 && (a.isEmpty && b.isEmpty)
    | _ => false
  | _ => false
theorem neB_some {v : Value} (h : neB v = true) : v = .agg #[neF] := by
  unfold neB at h
  split at h
  · rename_i x
    split at h
    · rename_i f a b hx
      simp only [Bool.and_eq_true, Nat.beq_eq, Array.isEmpty_iff] at h
      obtain ⟨rfl, rfl, rfl⟩ := h
      rw [show x = #[neF] by rw [← hx]]
    · cases h
  · cases h
open Classical in
noncomputable def stXO : List Int → List Value → Option Out := fun l r => match l, r with
  | [], _ => none
  | l, [.int .i64 st, f] => if neB f = true ∧ okL l ∧ 1 ≤ st ∧ st ≤ 16 ∧ (l.length - 1) * st.toNat ≤ 65535 then some (.fresh (slM (stL l st.toNat).length) ((stL l st.toNat).map gi) 3) else none
  | _, _ => none
noncomputable def stY : List Int → List Value → (Out → Prop) → Prop := fun l r K => match r with
  | [.int .i64 st, f] => neB f = true ∧ l ≠ [] ∧ okL l ∧ 1 ≤ st ∧ st ≤ 16 ∧ (l.length - 1) * st.toNat ≤ 65535 ∧ ∀ xs, xs = stL l st.toNat → K (.fresh (slM xs.length) (xs.map gi) 3)
  | _ => False
theorem stXO_some {l : List Int} {r : List Value} {o : Out} (h : stXO l r = some o) : l ≠ [] ∧ ∃ st : Nat, r = [goN st, .agg #[neF]] ∧ o = .fresh (slM (stL l st).length) ((stL l st).map gi) 3 ∧ okL l ∧ 1 ≤ st ∧ st ≤ 16 ∧ (l.length - 1) * st ≤ 65535 := by
  unfold stXO at h
  split at h
  · cases h
  · rename_i st f hne
    split at h
    · rename_i hc
      obtain ⟨c1, c2, c3, c4, c5⟩ := hc
      obtain ⟨a, rfl⟩ := Int.eq_ofNat_of_zero_le (show 0 ≤ st by omega)
      rw [neB_some c1]
      cases h
      exact ⟨hne, a, rfl, rfl, c2, by omega, by omega, c5⟩
    · cases h
  · cases h
theorem stY_ok (l : List Int) (r : List Value) (K : Out → Prop) (h : stY l r K) : ∃ o, stXO l r = some o ∧ K o := by
  unfold stY at h
  split at h
  · rename_i st f
    obtain ⟨c1, c0, c2, c3, c4, c5, h⟩ := h
    refine ⟨_, ?_, h _ rfl⟩
    cases l with
    | nil => exact absurd rfl c0
    | cons x l => exact if_pos ⟨c1, c2, c3, c4, c5⟩
  · exact h.elim
theorem stX_take {l : List Int} {n st : Nat} (hn : n ≤ l.length) (h1 : 1 ≤ st) : stX l st ((n - 1) * st) = stX (l.take n) st ((n - 1) * st) := by
  unfold stX
  refine List.map_congr_left fun p hp => ?_
  have hp : p < (n - 1) * st := by simpa using hp
  have hd : p / st < n - 1 := (Nat.div_lt_iff_lt_mul (by omega)).2 hp
  unfold stE stW
  generalize p / st = i at hd ⊢
  simp only [List.getD_eq_getElem?_getD, List.getElem?_take]
  rw [if_pos (by omega), if_pos (by omega)]
theorem stL_take {l : List Int} {n st : Nat} (hn : n ≤ l.length) (h0 : 0 < n) (h1 : 1 ≤ st) : stL (l.take n) st = stX l st ((n - 1) * st) ++ [l.getD (n - 1) 0] := by
  unfold stL
  rw [show (l.take n).length = n by rw [List.length_take]; omega, ← stX_take hn h1]
  simp only [List.getD_eq_getElem?_getD, List.getElem?_take]
  rw [if_pos (by omega)]
noncomputable def orcRj : Orc := orElse 99 (genO dI 65536 false stXO) orcRh
theorem stH_of (l : List Int) (e row : Nat) : stH (l.map gi) e row ((liH (l.map gi) e row).push (.cells [neF] 183 0 false)) := by
  intro q b hb
  match q, hb with
  | 0, hb => cases hb; rw [AHeap.get_push_ne (by kernel_rfl)]; rw [canon_get, if_pos (by omega), Nat.add_zero, Nat.sub_self]; rfl
  | 1, hb => cases hb; rw [AHeap.get_push_eq (by kernel_rfl)]
set_option maxRecDepth 100000 in
theorem orcRj_ok : OrcOk Tryz.prog orcRj := by
  refine genO_ok dI_some (fun _ => rfl) globs_pos orcRh_ok ?_ ?_ ?_ ?_
  · intro l r o h
    obtain ⟨_, st, rfl, rfl, _⟩ := stXO_some h
    exact ⟨names_sl _, flat_ints _⟩
  · intro r o h; exact absurd rfl (stXO_some h).1
  · intro r k o h; exact absurd rfl (stXO_some h).1
  · intro l off n r el row k o ho hw h0 h1 h2 h3 h
    obtain rfl := ho rfl
    rw [List.drop_zero] at h
    obtain ⟨_, st, rfl, rfl, c1, c2, c3, c4⟩ := stXO_some h
    have hlen : (l.take n).length = n := by rw [List.length_take]; omega
    rw [hlen] at c4
    have hn1 : n - 1 < l.length := by omega
    obtain ⟨f1, f2⟩ := int_at (l := l) (j := n - 1) (x := l.getD (n - 1) 0) (by rw [List.getD_eq_getElem?_getD, List.getElem?_eq_getElem hn1]; rfl)
    have hp : Int.ofNat n - 1 = Int.ofNat (n - 1) := by simp only [Int.ofNat_eq_natCast]; omega
    have g1 : (l.map gi)[0 + Int.toNat (Int.ofNat (n - 1)) * 1]? = _ := f1
    have g2 : intAt (l.map gi) (0 + Int.toNat (Int.ofNat (n - 1)) * 1) = l.getD (n - 1) 0 := f2
    rw [stL_take (by omega) h0 c2]
    by_cases hn : n = 1
    · refine callC_ok mixed orcRh_ok askRi_ok (Eq.mpr (st_one l n k el row st _) ⟨rfl, rfl, rfl, rfl, rfl, rfl, stH_of l el row, ⟨by omega, h2, h0, c2, c3, c1, by omega, hn⟩, fun _ => ?_⟩)
      rw [hp, g2]
      refine ⟨inI64_nat (by omega), by show Nat.blt (n - 1) n = true; rw [Nat.blt_eq]; omega, g2 ▸ g1, ?_⟩
      subst hn
      refine ⟨N1 + 2, ?_, ?_⟩
      · simp [stX, slM]
      · rw [AHeap.get_push_eq (by kernel_rfl)]; simp [stX]
    · refine callC_ok mixed orcRh_ok askRi_ok (Eq.mpr (st_run l n k el row st _) ⟨rfl, rfl, rfl, rfl, rfl, rfl, stH_of l el row, ⟨by omega, h2, h0, c2, c3, c1, by omega, by omega⟩, fun _ m xs em ex => ?_⟩)
      rw [hp, g2]
      refine ⟨inI64_nat (by omega), by show Nat.blt (n - 1) n = true; rw [Nat.blt_eq]; omega, g2 ▸ g1, ble_false (by omega), by rw [Nat.ble_eq]; omega, by rw [List.length_map, ex, stX_length, em, Nat.mul_one], ?_⟩
      refine ⟨N1 + 3, ?_, ?_⟩
      · show _ = Value.slice _ _ _
        rw [List.length_append, stX_length, em]; rfl
      · rw [AHeap.get_push_eq (by kernel_rfl), List.map_append, ex]; rfl
noncomputable def askRj : Asks := asksG 99 gi 65536 stY askRi
theorem askRj_ok : AsksOk orcRj askRj := asksG_ok (d := dI) (e := gi) (fun _ => rfl) stY_ok askRi_ok
end Go.Proofs.YtnlkkapeldhemaaGreatDoor
