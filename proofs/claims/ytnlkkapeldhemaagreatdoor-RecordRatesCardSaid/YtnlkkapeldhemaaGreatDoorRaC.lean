/-
  OWN WORK. Every so many samples, by the program and by the reference: their loops.
-/
import Derived.Test.YtnlkkapeldhemaaGreatDoorRaB
import Derived.Test.YtnlkkapeldhemaaGreatDoorTgK
namespace Go.Proofs.YtnlkkapeldhemaaGreatDoor
open Go Go.Am

theorem th_first (c : List Value) (n k e row st j : Nat) (g : Nat → Value) (Q : Exit → List Value → AHeap → Prop) : execC Tryz.prog (exec Tryz.prog orcRg 10) (syOf [(28, 1), (35, 2), (36, 3)]) askRg (noLoops _) 40 (loopOf Tryz.prog 34 0) (stOf 40 [(0, liP n k), (1, goN st), (9, nilS), (10, goN j)] g) (gH1 Tryz.prog c e row) (told 40 [0, 1, 9, 10] Q) = (((Nat.blt j n = true → (Nat.blt j n = true ∧ c[(0 + (j * 1))]? = Option.some (gf (floatAt c (0 + (j * 1)))) ∧ Q .normal [liP n k, goN st, Value.slice (some ⟨N1 + 2, 0, none⟩) 1 1, gi (fwrap IntKind.i64 (Int.ofNat (j + st)))] (((gH1 Tryz.prog c e row).push (.cells [gf (floatAt c (0 + (j * 1)))] 69 2 false)).push (.cells ([] ++ [gf (floatAt c (0 + (j * 1)))]) 69 2 false)))) ∧ (Nat.blt j n = false → Q (.exit 0) [liP n k, goN st, nilS, goN j] (gH1 Tryz.prog c e row)))) := by kernel_rfl
theorem th_next (c c' : List Value) (n k e row st j q : Nat) (g : Nat → Value) (Q : Exit → List Value → AHeap → Prop) : execC Tryz.prog (exec Tryz.prog orcRg 10) (syOf [(28, 1), (35, 2), (36, 3), (38, 10)]) askRg (noLoops _) 40 (loopOf Tryz.prog 34 0) (stOf 40 [(0, liP n k), (1, goN st), (9, slO q q), (10, goN j)] g) (gH2 Tryz.prog c e row c' 69) (told 40 [0, 1, 9, 10] Q) = (((Nat.blt j n = true → (Nat.blt j n = true ∧ c[(0 + (j * 1))]? = Option.some (gf (floatAt c (0 + (j * 1)))) ∧ Nat.ble (q + 1) q = false ∧ Nat.ble (((2 * (q + 1)) + 256) * 4) 281474976710656 = true ∧ (q * 1) = List.length c' ∧ Q .normal [liP n k, goN st, Value.slice (some ⟨N1 + 3, 0, none⟩) (q + 1) (q + 1), gi (fwrap IntKind.i64 (Int.ofNat (j + st)))] ((((gH2 Tryz.prog c e row c' 69).push (.cells [gf (floatAt c (0 + (j * 1)))] 69 2 false)).set (N1 + 1) (.dead)).push (.cells (c' ++ [gf (floatAt c (0 + (j * 1)))]) 69 2 false)))) ∧ (Nat.blt j n = false → Q (.exit 0) [liP n k, goN st, slO q q, goN j] (gH2 Tryz.prog c e row c' 69)))) := by kernel_rfl
theorem Th_first (c : List Value) (n k e row st j : Nat) (g : Nat → Value) (Q : Exit → List Value → AHeap → Prop) : execC Tryz.prog (exec Tryz.prog orcRg 10) (syOf [(13, 1), (20, 2), (21, 3)]) askRg (noLoops _) 40 (loopOf Tryz.prog 38 0) (stOf 25 [(0, liP n k), (1, goN st), (7, nilS), (8, goN j)] g) (gH1 Tryz.prog c e row) (told 25 [0, 1, 7, 8] Q) = (((Nat.blt j n = true → (Nat.blt j n = true ∧ c[(0 + (j * 1))]? = Option.some (gf (floatAt c (0 + (j * 1)))) ∧ Q .normal [liP n k, goN st, Value.slice (some ⟨N1 + 2, 0, none⟩) 1 1, gi (fwrap IntKind.i64 (Int.ofNat (j + st)))] (((gH1 Tryz.prog c e row).push (.cells [gf (floatAt c (0 + (j * 1)))] 69 2 false)).push (.cells ([] ++ [gf (floatAt c (0 + (j * 1)))]) 69 2 false)))) ∧ (Nat.blt j n = false → Q (.exit 0) [liP n k, goN st, nilS, goN j] (gH1 Tryz.prog c e row)))) := by kernel_rfl
theorem Th_next (c c' : List Value) (n k e row st j q : Nat) (g : Nat → Value) (Q : Exit → List Value → AHeap → Prop) : execC Tryz.prog (exec Tryz.prog orcRg 10) (syOf [(13, 1), (20, 2), (21, 3), (23, 10)]) askRg (noLoops _) 40 (loopOf Tryz.prog 38 0) (stOf 25 [(0, liP n k), (1, goN st), (7, slO q q), (8, goN j)] g) (gH2 Tryz.prog c e row c' 69) (told 25 [0, 1, 7, 8] Q) = (((Nat.blt j n = true → (Nat.blt j n = true ∧ c[(0 + (j * 1))]? = Option.some (gf (floatAt c (0 + (j * 1)))) ∧ Nat.ble (q + 1) q = false ∧ Nat.ble (((2 * (q + 1)) + 256) * 4) 281474976710656 = true ∧ (q * 1) = List.length c' ∧ Q .normal [liP n k, goN st, Value.slice (some ⟨N1 + 3, 0, none⟩) (q + 1) (q + 1), gi (fwrap IntKind.i64 (Int.ofNat (j + st)))] ((((gH2 Tryz.prog c e row c' 69).push (.cells [gf (floatAt c (0 + (j * 1)))] 69 2 false)).set (N1 + 1) (.dead)).push (.cells (c' ++ [gf (floatAt c (0 + (j * 1)))]) 69 2 false)))) ∧ (Nat.blt j n = false → Q (.exit 0) [liP n k, goN st, slO q q, goN j] (gH2 Tryz.prog c e row c' 69)))) := by kernel_rfl
noncomputable def cntT (n st fr : Nat) : Nat := (n + (st - 1) - fr) / st
noncomputable def thP (l : List Nat) (st fr j : Nat) : List Nat := (List.range j).map fun i => l.getD (fr + i * st) 0
noncomputable def thV (n k st fr : Nat) : Nat → Value → List Value := fun j v => [liP n k, goN st, v, goN (fr + j * st)]
theorem cntT_lt {n st fr j : Nat} (h1 : 1 ≤ st) (_ : fr ≤ st - 1) : j < cntT n st fr ↔ fr + j * st < n := by
  unfold cntT
  rw [Nat.lt_iff_add_one_le, Nat.le_div_iff_mul_le (by omega), Nat.add_mul]
  omega
theorem thP_length (l : List Nat) (st fr j : Nat) : (thP l st fr j).length = j := by simp [thP]
theorem thP_nil {l : List Nat} {st fr j : Nat} (h : (thP l st fr j).map gf = []) : j = 0 := by
  have := congrArg List.length h
  rw [List.length_map, thP_length] at this
  exact this
theorem thP_succ {l : List Nat} {st fr j : Nat} (h : fr + j * st < l.length) : thP l st fr (j + 1) = thP l st fr j ++ [l[fr + j * st]] := by
  simp [thP, List.range_succ, List.getElem?_eq_getElem h]
theorem thP_take {l : List Nat} {n st fr : Nat} (hn : n ≤ l.length) (h1 : 1 ≤ st) (h3 : fr ≤ st - 1) : thP l st fr (cntT n st fr) = thP (l.take n) st fr (cntT (l.take n).length st fr) := by
  rw [show (l.take n).length = n by rw [List.length_take]; omega]
  unfold thP
  refine List.map_congr_left fun i hi => ?_
  have hi := (cntT_lt h1 h3).1 (show i < cntT n st fr by simpa using hi)
  rw [List.getD_eq_getElem?_getD, List.getD_eq_getElem?_getD, List.getElem?_take, if_pos hi]
set_option maxRecDepth 100000 in
theorem th_loop (l : List Nat) (n e row k st fr : Nat) (hl : n ≤ l.length) (hle : n ≤ 65536) (h1 : 1 ≤ st) (h2 : st ≤ 16) (h3 : fr ≤ st - 1) : ∀ (a : AAct) (h : AHeap), h.get N1 = some (.cells (l.map gf) e row true) → a.n = 40 → a.marks = [] → [0, 1, 9, 10].map a.tmp = [liP n k, goN st, nilS, goN fr] →
    J Tryz.prog (.loop (loopOf Tryz.prog 34 0)) a h (told 40 [0, 1, 9, 10] fun ex vs h' => ex = .exit 0 ∧ ((cntT n st fr = 0 ∧ ∃ v, vs = [liP n k, goN st, nilS, v]) ∨ (0 < cntT n st fr ∧ ∃ v, vs = [liP n k, goN st, slO (cntT n st fr) (cntT n st fr), v] ∧ h'.get (N1 + 1) = some (.cells ((thP l st fr (cntT n st fr)).map gf) 69 2 false)))) := by
  intro a h hs ha hk hv
  refine grow_rule (el := 69) globs_pos (by decide) (by decide) (flat_floats l) (thV n k st fr) (fun j => (thP l st fr j).map gf) (cntT n st fr) _ (fun j => flat_floats _) (fun j => by kernel_rfl) (fun j b q hb => by rcases hb with rfl | rfl | rfl <;> kernel_rfl)
    (fun j v => ⟨(0, liP n k), by simp [thV], by simp [named]⟩) (fun j b q => ⟨(9, .slice (some ⟨b, 0, none⟩) q q), by simp [thV], by simp [named]⟩) ?_ ?_ ?_ ?_ a h ⟨hs, .inl ⟨rfl, by rw [hv]; unfold thV; rw [Nat.zero_mul, Nat.add_zero]⟩⟩ ha hk
  · intro j hj hx g
    obtain rfl : j = 0 := thP_nil hx
    have hi := (cntT_lt h1 h3).1 hj
    refine execC_ok mixed orcRg_ok askRg_ok (noLoops _) (Eq.mpr (th_first _ n k e row st (fr + 0 * st) g _) ⟨fun _ => ?_, fun hge => ?_⟩)
    · obtain ⟨f1, f2⟩ := float_at (l := l) (j := fr + 0 * st) (by omega)
      refine ⟨by rw [Nat.blt_eq]; exact hi, f1, ?_, .inr ⟨N1 + 2, .inr (.inl rfl), ?_, ?_, ?_⟩⟩
      · rw [AHeap.get_push_ne (by kernel_rfl), AHeap.get_push_ne (by kernel_rfl)]
        exact gH1_src _ _ _
      · simp [thP]
      · rw [List.length_map, thP_length, fwrap_nat (by omega), show fr + 0 * st + st = fr + (0 + 1) * st by omega]; rfl
      · rw [AHeap.get_push_eq (by kernel_rfl), f2]
        show _ = some (AObj.cells ((thP l st fr (0 + 1)).map gf) _ _ _)
        rw [thP_succ (by omega)]; rfl
    · have := blt_false hge; omega
  · intro j hj hx g
    have hi := (cntT_lt h1 h3).1 hj
    have hjs : j * st ≤ 65536 := by omega
    simp only [List.length_map, thP_length]
    refine execC_ok mixed orcRg_ok askRg_ok (noLoops _) (Eq.mpr (th_next _ _ n k e row st (fr + j * st) j g _) ⟨fun _ => ?_, fun hge => ?_⟩)
    · obtain ⟨f1, f2⟩ := float_at (l := l) (j := fr + j * st) (by omega)
      have hjle : j ≤ j * st := Nat.le_mul_of_pos_right _ (by omega)
      refine ⟨by rw [Nat.blt_eq]; exact hi, f1, ble_false (by omega), by rw [Nat.ble_eq]; omega, by rw [List.length_map, thP_length, Nat.mul_one], ?_, .inr ⟨N1 + 3, .inr (.inr rfl), ?_, ?_, ?_⟩⟩
      · rw [AHeap.get_push_ne (by kernel_rfl), AHeap.get_set_neB (by kernel_rfl), AHeap.get_push_ne (by kernel_rfl)]
        exact gH2_src _ _ _ _ _
      · simp [thP]
      · rw [List.length_map, thP_length, fwrap_nat (by omega), show fr + j * st + st = fr + (j + 1) * st by rw [Nat.add_mul]; omega]; rfl
      · rw [AHeap.get_push_eq (by kernel_rfl), f2]
        show _ = some (AObj.cells ((thP l st fr (j + 1)).map gf) _ _ _)
        rw [thP_succ (by omega), List.map_append]; rfl
    · have := blt_false hge; omega
  · intro hx g
    have h0 : cntT n st fr = 0 := thP_nil hx
    rw [h0]
    refine execC_ok mixed orcRg_ok askRg_ok (noLoops _) (Eq.mpr (th_first _ n k e row st (fr + 0 * st) g _) ⟨fun hlt => ?_, fun _ => ⟨rfl, .inl ⟨rfl, _, rfl⟩⟩⟩)
    have := (cntT_lt (n := n) (j := 0) h1 h3).2 (blt_true hlt)
    omega
  · intro hx g
    simp only [List.length_map, thP_length]
    refine execC_ok mixed orcRg_ok askRg_ok (noLoops _) (Eq.mpr (th_next _ _ n k e row st (fr + cntT n st fr * st) (cntT n st fr) g _) ⟨fun hlt => ?_, fun _ => ⟨rfl, .inr ⟨?_, _, rfl, gH2_dst _ _ _ _ _⟩⟩⟩)
    · have := (cntT_lt (n := n) (j := cntT n st fr) h1 h3).2 (blt_true hlt)
      omega
    · apply Nat.pos_of_ne_zero
      intro h0
      rw [h0] at hx
      exact hx rfl
set_option maxRecDepth 100000 in
theorem Th_loop (l : List Nat) (n e row k st fr : Nat) (hl : n ≤ l.length) (hle : n ≤ 65536) (h1 : 1 ≤ st) (h2 : st ≤ 16) (h3 : fr ≤ st - 1) : ∀ (a : AAct) (h : AHeap), h.get N1 = some (.cells (l.map gf) e row true) → a.n = 25 → a.marks = [] → [0, 1, 7, 8].map a.tmp = [liP n k, goN st, nilS, goN fr] →
    J Tryz.prog (.loop (loopOf Tryz.prog 38 0)) a h (told 25 [0, 1, 7, 8] fun ex vs h' => ex = .exit 0 ∧ ((cntT n st fr = 0 ∧ ∃ v, vs = [liP n k, goN st, nilS, v]) ∨ (0 < cntT n st fr ∧ ∃ v, vs = [liP n k, goN st, slO (cntT n st fr) (cntT n st fr), v] ∧ h'.get (N1 + 1) = some (.cells ((thP l st fr (cntT n st fr)).map gf) 69 2 false)))) := by
  intro a h hs ha hk hv
  refine grow_rule (el := 69) globs_pos (by decide) (by decide) (flat_floats l) (thV n k st fr) (fun j => (thP l st fr j).map gf) (cntT n st fr) _ (fun j => flat_floats _) (fun j => by kernel_rfl) (fun j b q hb => by rcases hb with rfl | rfl | rfl <;> kernel_rfl)
    (fun j v => ⟨(0, liP n k), by simp [thV], by simp [named]⟩) (fun j b q => ⟨(7, .slice (some ⟨b, 0, none⟩) q q), by simp [thV], by simp [named]⟩) ?_ ?_ ?_ ?_ a h ⟨hs, .inl ⟨rfl, by rw [hv]; unfold thV; rw [Nat.zero_mul, Nat.add_zero]⟩⟩ ha hk
  · intro j hj hx g
    obtain rfl : j = 0 := thP_nil hx
    have hi := (cntT_lt h1 h3).1 hj
    refine execC_ok mixed orcRg_ok askRg_ok (noLoops _) (Eq.mpr (Th_first _ n k e row st (fr + 0 * st) g _) ⟨fun _ => ?_, fun hge => ?_⟩)
    · obtain ⟨f1, f2⟩ := float_at (l := l) (j := fr + 0 * st) (by omega)
      refine ⟨by rw [Nat.blt_eq]; exact hi, f1, ?_, .inr ⟨N1 + 2, .inr (.inl rfl), ?_, ?_, ?_⟩⟩
      · rw [AHeap.get_push_ne (by kernel_rfl), AHeap.get_push_ne (by kernel_rfl)]
        exact gH1_src _ _ _
      · simp [thP]
      · rw [List.length_map, thP_length, fwrap_nat (by omega), show fr + 0 * st + st = fr + (0 + 1) * st by omega]; rfl
      · rw [AHeap.get_push_eq (by kernel_rfl), f2]
        show _ = some (AObj.cells ((thP l st fr (0 + 1)).map gf) _ _ _)
        rw [thP_succ (by omega)]; rfl
    · have := blt_false hge; omega
  · intro j hj hx g
    have hi := (cntT_lt h1 h3).1 hj
    have hjs : j * st ≤ 65536 := by omega
    simp only [List.length_map, thP_length]
    refine execC_ok mixed orcRg_ok askRg_ok (noLoops _) (Eq.mpr (Th_next _ _ n k e row st (fr + j * st) j g _) ⟨fun _ => ?_, fun hge => ?_⟩)
    · obtain ⟨f1, f2⟩ := float_at (l := l) (j := fr + j * st) (by omega)
      have hjle : j ≤ j * st := Nat.le_mul_of_pos_right _ (by omega)
      refine ⟨by rw [Nat.blt_eq]; exact hi, f1, ble_false (by omega), by rw [Nat.ble_eq]; omega, by rw [List.length_map, thP_length, Nat.mul_one], ?_, .inr ⟨N1 + 3, .inr (.inr rfl), ?_, ?_, ?_⟩⟩
      · rw [AHeap.get_push_ne (by kernel_rfl), AHeap.get_set_neB (by kernel_rfl), AHeap.get_push_ne (by kernel_rfl)]
        exact gH2_src _ _ _ _ _
      · simp [thP]
      · rw [List.length_map, thP_length, fwrap_nat (by omega), show fr + j * st + st = fr + (j + 1) * st by rw [Nat.add_mul]; omega]; rfl
      · rw [AHeap.get_push_eq (by kernel_rfl), f2]
        show _ = some (AObj.cells ((thP l st fr (j + 1)).map gf) _ _ _)
        rw [thP_succ (by omega), List.map_append]; rfl
    · have := blt_false hge; omega
  · intro hx g
    have h0 : cntT n st fr = 0 := thP_nil hx
    rw [h0]
    refine execC_ok mixed orcRg_ok askRg_ok (noLoops _) (Eq.mpr (Th_first _ n k e row st (fr + 0 * st) g _) ⟨fun hlt => ?_, fun _ => ⟨rfl, .inl ⟨rfl, _, rfl⟩⟩⟩)
    have := (cntT_lt (n := n) (j := 0) h1 h3).2 (blt_true hlt)
    omega
  · intro hx g
    simp only [List.length_map, thP_length]
    refine execC_ok mixed orcRg_ok askRg_ok (noLoops _) (Eq.mpr (Th_next _ _ n k e row st (fr + cntT n st fr * st) (cntT n st fr) g _) ⟨fun hlt => ?_, fun _ => ⟨rfl, .inr ⟨?_, _, rfl, gH2_dst _ _ _ _ _⟩⟩⟩)
    · have := (cntT_lt (n := n) (j := cntT n st fr) h1 h3).2 (blt_true hlt)
      omega
    · apply Nat.pos_of_ne_zero
      intro h0
      rw [h0] at hx
      exact hx rfl
noncomputable def thLoops (l : List Nat) (n e row k st fr : Nat) : Loops Tryz.prog where
  body := fun _ => loopOf Tryz.prog 34 0
  spec := fun _ a h c => entry a 40 [(0, liP n k), (1, goN st), (9, nilS), (10, goN fr)] (h.get N1 = some (.cells (l.map gf) e row true) ∧ (n ≤ l.length ∧ n ≤ 65536 ∧ 1 ≤ st ∧ st ≤ 16 ∧ fr ≤ st - 1) ∧
    (cntT n st fr = 0 → ∀ g h', c (.exit 0) (stOf 40 [(9, nilS)] g) h') ∧
    (0 < cntT n st fr → ∀ g h' m xs, m = cntT n st fr → xs = thP l st fr (cntT n st fr) → h'.get (N1 + 1) = some (.cells (xs.map gf) 69 2 false) → c (.exit 0) (stOf 40 [(9, slO m m)] g) h'))
  ok := fun i a h c q => by
    obtain ⟨h1, h2, h3, hs, ⟨hs1, hs2, hs3, hs4, hs5⟩, k1, k2⟩ := entry_facts q
    refine J.of_told (th_loop l n e row k st fr hs1 hs2 hs3 hs4 hs5 a h hs h1 h2 ?_) ?_
    · simp only [List.map_cons, List.map_nil]
      rw [h3 (0, liP n k) (by simp), h3 (1, goN st) (by simp), h3 (9, nilS) (by simp), h3 (10, goN fr) (by simp)]
    · rintro ex vs h' g ⟨rfl, ⟨hq, v, rfl⟩ | ⟨hq, v, rfl, hd⟩⟩
      · refine cast ?_ (k1 hq (ov [(0, liP n k), (1, goN st), (10, v)] g) h')
        congr 1
      · refine cast ?_ (k2 hq (ov [(0, liP n k), (1, goN st), (10, v)] g) h' _ _ rfl rfl hd)
        congr 1
noncomputable def ThLoops (l : List Nat) (n e row k st fr : Nat) : Loops Tryz.prog where
  body := fun _ => loopOf Tryz.prog 38 0
  spec := fun _ a h c => entry a 25 [(0, liP n k), (1, goN st), (7, nilS), (8, goN fr)] (h.get N1 = some (.cells (l.map gf) e row true) ∧ (n ≤ l.length ∧ n ≤ 65536 ∧ 1 ≤ st ∧ st ≤ 16 ∧ fr ≤ st - 1) ∧
    (cntT n st fr = 0 → ∀ g h', c (.exit 0) (stOf 25 [(7, nilS)] g) h') ∧
    (0 < cntT n st fr → ∀ g h' m xs, m = cntT n st fr → xs = thP l st fr (cntT n st fr) → h'.get (N1 + 1) = some (.cells (xs.map gf) 69 2 false) → c (.exit 0) (stOf 25 [(7, slO m m)] g) h'))
  ok := fun i a h c q => by
    obtain ⟨h1, h2, h3, hs, ⟨hs1, hs2, hs3, hs4, hs5⟩, k1, k2⟩ := entry_facts q
    refine J.of_told (Th_loop l n e row k st fr hs1 hs2 hs3 hs4 hs5 a h hs h1 h2 ?_) ?_
    · simp only [List.map_cons, List.map_nil]
      rw [h3 (0, liP n k) (by simp), h3 (1, goN st) (by simp), h3 (7, nilS) (by simp), h3 (8, goN fr) (by simp)]
    · rintro ex vs h' g ⟨rfl, ⟨hq, v, rfl⟩ | ⟨hq, v, rfl, hd⟩⟩
      · refine cast ?_ (k1 hq (ov [(0, liP n k), (1, goN st), (8, v)] g) h')
        congr 1
      · refine cast ?_ (k2 hq (ov [(0, liP n k), (1, goN st), (8, v)] g) h' _ _ rfl rfl hd)
        congr 1
theorem th_run (l : List Nat) (n k e row st fr : Nat) (K : Value → AHeap → Prop) : callC Tryz.prog (exec Tryz.prog orcRg 10) (syOf [(12, 7), (22, 32)]) askRg (thLoops l n e row k st fr) 40 34 #[liP n k, goN st, goN fr] (liH (l.map gf) e row) K = ((∃ x1 : List Nat, (List.map gf l = List.map gf x1 ∧ (0 : Nat) < n ∧ (n : Nat) ≤ List.length x1 ∧ (n : Nat) ≤ 1000000 ∧ (n : Nat) ≤ k ∧ (!(ieq (firstS [csE (List.take n x1), withinS (Int.ofNat st) 1 16, withinS (Int.ofNat fr) 0 (fwrap IntKind.i64 (Int.ofNat st - 1))]) 0)) = false ∧ loopOf Tryz.prog 34 0 = loopOf Tryz.prog 34 0 ∧ liP n k = liP n k ∧ goN st = goN st ∧ nilS = nilS ∧ goN fr = goN fr ∧ ((liH (List.map gf l) e row).push (.cells [csR (List.take n x1) [], gi (withinS (Int.ofNat st) 1 16), gi (withinS (Int.ofNat fr) 0 (fwrap IntKind.i64 (Int.ofNat st - 1)))] 29 2 false)).get (N1) = Option.some (.cells (List.map gf l) e row true) ∧ ((n : Nat) ≤ List.length l ∧ (n : Nat) ≤ 65536 ∧ (1 : Nat) ≤ st ∧ (st : Nat) ≤ 16 ∧ (fr : Nat) ≤ (st - 1)) ∧ (cntT n st fr = 0 → (∀ _ : Nat → Value, (∀ y3 : AHeap, K (Value.tuple #[nilS, gi 0]) y3))) ∧ ((0 : Nat) < cntT n st fr → (∀ _ : Nat → Value, (∀ y3 : AHeap, (∀ y4 : Nat, (∀ y5 : List Nat, (y4 = cntT n st fr → (y5 = thP l st fr (cntT n st fr) → (y3.get (N1 + 1) = Option.some (.cells (List.map gf y5) 69 2 false) → K (Value.tuple #[slO y4 y4, gi 0]) y3))))))))))) := by kernel_rfl
theorem th_bad (l : List Nat) (n k e row : Nat) (st fr : Int) (K : Value → Prop) : callC Tryz.prog (exec Tryz.prog orcRg 10) (syOf [(12, 7), (22, 31)]) askRg (noLoops _) 40 34 #[liP n k, gi st, gi fr] (liH (l.map gf) e row) (fun v _ => K v) = ((∃ x1 : List Nat, (List.map gf l = List.map gf x1 ∧ (0 : Nat) < n ∧ (n : Nat) ≤ List.length x1 ∧ (n : Nat) ≤ 1000000 ∧ (n : Nat) ≤ k ∧ (!(ieq (firstS [csE (List.take n x1), withinS st 1 16, withinS fr 0 (fwrap IntKind.i64 (st - 1))]) 0)) = true ∧ K (Value.tuple #[nilS, gi (firstS [csE (List.take n x1), withinS st 1 16, withinS fr 0 (fwrap IntKind.i64 (st - 1))])])))) := by kernel_rfl
theorem Th_run (l : List Nat) (n k e row st fr : Nat) (K : Value → AHeap → Prop) : callC Tryz.prog (exec Tryz.prog orcRg 10) (syOf []) askRg (ThLoops l n e row k st fr) 40 38 #[liP n k, goN st, goN fr] (liH (l.map gf) e row) K = ((loopOf Tryz.prog 38 0 = loopOf Tryz.prog 38 0 ∧ liP n k = liP n k ∧ goN st = goN st ∧ nilS = nilS ∧ goN fr = goN fr ∧ (liH (List.map gf l) e row).get (N1) = Option.some (.cells (List.map gf l) e row true) ∧ ((n : Nat) ≤ List.length l ∧ (n : Nat) ≤ 65536 ∧ (1 : Nat) ≤ st ∧ (st : Nat) ≤ 16 ∧ (fr : Nat) ≤ (st - 1)) ∧ (cntT n st fr = 0 → (∀ _ : Nat → Value, (∀ y2 : AHeap, K nilS y2))) ∧ ((0 : Nat) < cntT n st fr → (∀ _ : Nat → Value, (∀ y2 : AHeap, (∀ y3 : Nat, (∀ y4 : List Nat, (y3 = cntT n st fr → (y4 = thP l st fr (cntT n st fr) → (y2.get (N1 + 1) = Option.some (.cells (List.map gf y4) 69 2 false) → K (slO y3 y3) y2)))))))))) := by kernel_rfl
noncomputable def thE (l : List Nat) (st fr : Int) : Int := firstS [csE l, withinS st 1 16, withinS fr 0 (fwrap IntKind.i64 (st - 1))]
noncomputable def thL (l : List Nat) (st fr : Int) : List Nat := thP l st.toNat fr.toNat (cntT l.length st.toNat fr.toNat)
noncomputable def thN (l : List Nat) (st fr : Int) : Bool := (thL l st fr).isEmpty
noncomputable def thGood (xs : List Nat) : Out := match xs with
  | [] => .plain (.tuple #[nilS, gi 0])
  | x :: xs => .fresh (tupM [] (x :: xs).length [gi 0]) ((x :: xs).map gf) 69
noncomputable def ThGood (xs : List Nat) : Out := match xs with
  | [] => .plain nilS
  | x :: xs => .fresh (slM (x :: xs).length) ((x :: xs).map gf) 69
noncomputable def thOut (l : List Nat) (st fr : Int) : Out := bif ieq (thE l st fr) 0 then thGood (thL l st fr) else .plain (.tuple #[nilS, gi (thE l st fr)])
noncomputable def thX : List Nat → List Value → Option Out := fun l r => match r with
  | [.int .i64 st, .int .i64 fr] => some (thOut l st fr)
  | _ => none
noncomputable def thY (bb b2 : Bool) : List Nat → List Value → (Out → Prop) → Prop := fun l r K => match r with
  | [.int .i64 st, .int .i64 fr] => ieq (thE l st fr) 0 = bb ∧ Bool.rec (motive := fun _ => Prop) (K (.plain (.tuple #[nilS, gi (thE l st fr)])))
      (thN l st fr = b2 ∧ Bool.rec (motive := fun _ => Prop) (∀ xs, xs = thL l st fr → K (.fresh (tupM [] xs.length [gi 0]) (xs.map gf) 69)) (K (.plain (.tuple #[nilS, gi 0]))) b2) bb
  | _ => False
noncomputable def ThB (st fr : Int) : Bool := (!ilt st 1 && !ilt 16 st) && (!ilt fr 0 && ilt fr st)
noncomputable def ThX : List Nat → List Value → Option Out := fun l r => match r with
  | [.int .i64 st, .int .i64 fr] => bif ThB st fr then some (ThGood (thL l st fr)) else none
  | _ => none
noncomputable def ThY (b2 : Bool) : List Nat → List Value → (Out → Prop) → Prop := fun l r K => match r with
  | [.int .i64 st, .int .i64 fr] => ThB st fr = true ∧ thN l st fr = b2 ∧ Bool.rec (motive := fun _ => Prop) (∀ xs, xs = thL l st fr → K (.fresh (slM xs.length) (xs.map gf) 69)) (K (.plain nilS)) b2
  | _ => False
theorem thX_some {l : List Nat} {r : List Value} {o : Out} (h : thX l r = some o) : ∃ st fr, r = [gi st, gi fr] ∧ o = thOut l st fr := by
  unfold thX at h
  split at h
  · cases h; exact ⟨_, _, rfl, rfl⟩
  · cases h
theorem ThX_some {l : List Nat} {r : List Value} {o : Out} (h : ThX l r = some o) : ∃ st fr : Nat, r = [goN st, goN fr] ∧ o = ThGood (thP l st fr (cntT l.length st fr)) ∧ 1 ≤ st ∧ st ≤ 16 ∧ fr ≤ st - 1 := by
  unfold ThX at h
  split at h
  · rename_i st fr
    cases hc : ThB st fr with
    | false => rw [hc] at h; cases h
    | true =>
      rw [hc] at h
      cases h
      unfold ThB at hc
      simp only [Bool.and_eq_true, ilt_dec, Bool.not_eq_true', decide_eq_false_iff_not, decide_eq_true_eq] at hc
      obtain ⟨a, rfl⟩ := Int.eq_ofNat_of_zero_le (show 0 ≤ st by omega)
      obtain ⟨b, rfl⟩ := Int.eq_ofNat_of_zero_le (show 0 ≤ fr by omega)
      exact ⟨a, b, rfl, rfl, by omega, by omega, by omega⟩
  · cases h
theorem thY_ok (bb b2 : Bool) (l : List Nat) (r : List Value) (K : Out → Prop) (h : thY bb b2 l r K) : ∃ o, thX l r = some o ∧ K o := by
  unfold thY at h
  split at h
  · rename_i st fr
    refine ⟨_, rfl, ?_⟩
    unfold thOut
    rw [h.1]
    cases bb with
    | false => exact h.2
    | true =>
      obtain ⟨h1, h2, h3⟩ := h
      unfold thN at h2
      cases hx : thL l st fr with
      | nil =>
        rw [hx] at h2
        cases h2
        exact h3
      | cons x xs =>
        rw [hx] at h2
        cases h2
        exact h3 _ hx.symm
  · exact h.elim
theorem ThY_ok (b2 : Bool) (l : List Nat) (r : List Value) (K : Out → Prop) (h : ThY b2 l r K) : ∃ o, ThX l r = some o ∧ K o := by
  unfold ThY at h
  split at h
  · rename_i st fr
    refine ⟨ThGood (thL l st fr), ?_, ?_⟩
    · show (bif ThB st fr then some (ThGood (thL l st fr)) else none) = _
      rw [h.1]; rfl
    · obtain ⟨h1, h2, h3⟩ := h
      unfold thN at h2
      cases hx : thL l st fr with
      | nil =>
        rw [hx] at h2
        cases h2
        exact h3
      | cons x xs =>
        rw [hx] at h2
        cases h2
        exact h3 _ hx.symm
  · exact h.elim
theorem thE_zero {l : List Nat} {st fr : Int} (h : thE l st fr = 0) : csE l = 0 ∧ ∃ a b : Nat, st = a ∧ fr = b ∧ 1 ≤ a ∧ a ≤ 16 ∧ b ≤ a - 1 := by
  have h' := firstS_zero h
  have e2 := within_zero (h' (withinS st 1 16) (by simp))
  have e3 := h' (withinS fr 0 (fwrap IntKind.i64 (st - 1))) (by simp)
  rw [fwrap_small (by omega) (by omega)] at e3
  have e3 := within_zero e3
  obtain ⟨a, rfl⟩ := Int.eq_ofNat_of_zero_le (show 0 ≤ st by omega)
  obtain ⟨b, rfl⟩ := Int.eq_ofNat_of_zero_le e3.1
  exact ⟨h' _ (.head _), a, b, rfl, rfl, by omega, by omega, by omega⟩
theorem thGood_got {xs : List Nat} {m : Nat} {h' : AHeap} (hm : xs.length = m) (h0 : 0 < m) (hd : h'.get (N1 + 1) = some (.cells (xs.map gf) 69 2 false)) : (thGood xs).Got (.tuple #[slO m m, gi 0]) h' ∧ (ThGood xs).Got (slO m m) h' := by
  subst hm
  cases xs with
  | nil => simp at h0
  | cons x xs => exact ⟨⟨N1 + 1, rfl, hd⟩, ⟨N1 + 1, rfl, hd⟩⟩
theorem th_nil (st fr : Int) (K : Value → Prop) : callC Tryz.prog (exec Tryz.prog orcRg 40) (syOf [(22, 31)]) askRg (noLoops _) 40 34 #[nilS, gi st, gi fr] (emp Tryz.prog) (fun v _ => K v) = (((!(ieq (firstS [0, withinS st 1 16, withinS fr 0 (fwrap IntKind.i64 (st - 1))]) 0)) = true ∧ K (Value.tuple #[nilS, gi (firstS [0, withinS st 1 16, withinS fr 0 (fwrap IntKind.i64 (st - 1))])]))) := by kernel_rfl
theorem th_emp (k : Nat) (st fr : Int) (K : Value → Prop) : callC Tryz.prog (exec Tryz.prog orcRg 40) (syOf [(22, 31)]) askRg (noLoops _) 40 34 #[.slice (some ⟨0, 0, none⟩) 0 k, gi st, gi fr] (emp Tryz.prog) (fun v _ => K v) = (((!(ieq (firstS [0, withinS st 1 16, withinS fr 0 (fwrap IntKind.i64 (st - 1))]) 0)) = true ∧ K (Value.tuple #[nilS, gi (firstS [0, withinS st 1 16, withinS fr 0 (fwrap IntKind.i64 (st - 1))])]))) := by kernel_rfl
theorem th1_body (st fr : Nat) (g : Nat → Value) (h : AHeap) (Q : Exit → List Value → AHeap → Prop) : execC Tryz.prog (exec Tryz.prog orcRg 10) (syOf [(28, 32)]) askRg (noLoops _) 40 (loopOf Tryz.prog 34 0) (stOf 40 [(0, nilS), (1, goN st), (9, nilS), (10, goN fr)] g) h (told 40 [9] Q) = ((ilt (Int.ofNat fr) 0 = false ∧ Q (.exit 0) [nilS] h)) := by kernel_rfl
theorem th2_body (k : Nat) (st fr : Nat) (g : Nat → Value) (h : AHeap) (Q : Exit → List Value → AHeap → Prop) : execC Tryz.prog (exec Tryz.prog orcRg 10) (syOf [(28, 32)]) askRg (noLoops _) 40 (loopOf Tryz.prog 34 0) (stOf 40 [(0, .slice (some ⟨0, 0, none⟩) 0 k), (1, goN st), (9, nilS), (10, goN fr)] g) h (told 40 [9] Q) = ((ilt (Int.ofNat fr) 0 = false ∧ Q (.exit 0) [nilS] h)) := by kernel_rfl
set_option maxRecDepth 100000 in
theorem thn_body (s : Value) (hs : s = nilS ∨ ∃ k, s = .slice (some ⟨0, 0, none⟩) 0 k) (st fr : Nat) (g : Nat → Value) (h : AHeap) : J Tryz.prog (loopOf Tryz.prog 34 0) (stOf 40 [(0, s), (1, goN st), (9, nilS), (10, goN fr)] g) h (told 40 [9] fun ex vs _ => ex = .exit 0 ∧ vs = [nilS]) := by
  have hb : Nat.blt fr 0 = false := by
    cases hh : Nat.blt fr 0 with
    | false => rfl
    | true => have := blt_true hh; omega
  rcases hs with rfl | ⟨k, rfl⟩
  · exact execC_ok mixed orcRg_ok askRg_ok (noLoops _) (Eq.mpr (th1_body st fr g h _) ⟨hb, rfl, rfl⟩)
  · exact execC_ok mixed orcRg_ok askRg_ok (noLoops _) (Eq.mpr (th2_body k st fr g h _) ⟨hb, rfl, rfl⟩)
noncomputable def thnLoops (s : Value) (hs : s = nilS ∨ ∃ k, s = .slice (some ⟨0, 0, none⟩) 0 k) (st fr : Nat) : Loops Tryz.prog where
  body := fun _ => loopOf Tryz.prog 34 0
  spec := fun _ a h c => entry a 40 [(0, s), (1, goN st), (9, nilS), (10, goN fr)] (∀ g h', c (.exit 0) (stOf 40 [(9, nilS)] g) h')
  ok := fun i' a h c q => by
    obtain ⟨h1, h2, h3, h4⟩ := entry_facts q
    refine J.of_told (n := 40) (ts := [9]) (Out := fun ex vs _ => ex = .exit 0 ∧ vs = [nilS]) ?_ ?_
    · refine J.of_facts h1 h2 h3 fun g => J.loop ((thn_body s hs st fr g h).mono fun ex a' h' q => ?_)
      obtain ⟨q1, q2, rfl, q3⟩ := told_facts q
      simp only [onNormal, told, q1, q2]
      simpa using q3
    · rintro ex vs h' g ⟨rfl, rfl⟩
      exact h4 g h'
theorem Th1_body (st fr : Nat) (g : Nat → Value) (h : AHeap) (Q : Exit → List Value → AHeap → Prop) : execC Tryz.prog (exec Tryz.prog orcRg 10) (syOf [(13, 32)]) askRg (noLoops _) 40 (loopOf Tryz.prog 38 0) (stOf 25 [(0, nilS), (1, goN st), (7, nilS), (8, goN fr)] g) h (told 25 [7] Q) = ((ilt (Int.ofNat fr) 0 = false ∧ Q (.exit 0) [nilS] h)) := by kernel_rfl
theorem Th2_body (k : Nat) (st fr : Nat) (g : Nat → Value) (h : AHeap) (Q : Exit → List Value → AHeap → Prop) : execC Tryz.prog (exec Tryz.prog orcRg 10) (syOf [(13, 32)]) askRg (noLoops _) 40 (loopOf Tryz.prog 38 0) (stOf 25 [(0, .slice (some ⟨0, 0, none⟩) 0 k), (1, goN st), (7, nilS), (8, goN fr)] g) h (told 25 [7] Q) = ((ilt (Int.ofNat fr) 0 = false ∧ Q (.exit 0) [nilS] h)) := by kernel_rfl
set_option maxRecDepth 100000 in
theorem Thn_body (s : Value) (hs : s = nilS ∨ ∃ k, s = .slice (some ⟨0, 0, none⟩) 0 k) (st fr : Nat) (g : Nat → Value) (h : AHeap) : J Tryz.prog (loopOf Tryz.prog 38 0) (stOf 25 [(0, s), (1, goN st), (7, nilS), (8, goN fr)] g) h (told 25 [7] fun ex vs _ => ex = .exit 0 ∧ vs = [nilS]) := by
  have hb : Nat.blt fr 0 = false := by
    cases hh : Nat.blt fr 0 with
    | false => rfl
    | true => have := blt_true hh; omega
  rcases hs with rfl | ⟨k, rfl⟩
  · exact execC_ok mixed orcRg_ok askRg_ok (noLoops _) (Eq.mpr (Th1_body st fr g h _) ⟨hb, rfl, rfl⟩)
  · exact execC_ok mixed orcRg_ok askRg_ok (noLoops _) (Eq.mpr (Th2_body k st fr g h _) ⟨hb, rfl, rfl⟩)
noncomputable def ThnLoops (s : Value) (hs : s = nilS ∨ ∃ k, s = .slice (some ⟨0, 0, none⟩) 0 k) (st fr : Nat) : Loops Tryz.prog where
  body := fun _ => loopOf Tryz.prog 38 0
  spec := fun _ a h c => entry a 25 [(0, s), (1, goN st), (7, nilS), (8, goN fr)] (∀ g h', c (.exit 0) (stOf 25 [(7, nilS)] g) h')
  ok := fun i' a h c q => by
    obtain ⟨h1, h2, h3, h4⟩ := entry_facts q
    refine J.of_told (n := 25) (ts := [7]) (Out := fun ex vs _ => ex = .exit 0 ∧ vs = [nilS]) ?_ ?_
    · refine J.of_facts h1 h2 h3 fun g => J.loop ((Thn_body s hs st fr g h).mono fun ex a' h' q => ?_)
      obtain ⟨q1, q2, rfl, q3⟩ := told_facts q
      simp only [onNormal, told, q1, q2]
      simpa using q3
    · rintro ex vs h' g ⟨rfl, rfl⟩
      exact h4 g h'
theorem th_nilG (st fr : Nat) (K : Value → Prop) : callC Tryz.prog (exec Tryz.prog orcRg 40) (syOf [(22, 32)]) askRg (thnLoops nilS (.inl rfl) st fr) 40 34 #[nilS, goN st, goN fr] (emp Tryz.prog) (fun v _ => K v) = (((!(ieq (firstS [0, withinS (Int.ofNat st) 1 16, withinS (Int.ofNat fr) 0 (fwrap IntKind.i64 (Int.ofNat st - 1))]) 0)) = false ∧ loopOf Tryz.prog 34 0 = loopOf Tryz.prog 34 0 ∧ nilS = nilS ∧ goN st = goN st ∧ nilS = nilS ∧ goN fr = goN fr ∧ (∀ _ : Nat → Value, (∀ _ : AHeap, K (Value.tuple #[nilS, gi 0]))))) := by kernel_rfl
theorem th_empG (k st fr : Nat) (K : Value → Prop) : callC Tryz.prog (exec Tryz.prog orcRg 40) (syOf [(22, 32)]) askRg (thnLoops (.slice (some ⟨0, 0, none⟩) 0 k) (.inr ⟨k, rfl⟩) st fr) 40 34 #[.slice (some ⟨0, 0, none⟩) 0 k, goN st, goN fr] (emp Tryz.prog) (fun v _ => K v) = (((!(ieq (firstS [0, withinS (Int.ofNat st) 1 16, withinS (Int.ofNat fr) 0 (fwrap IntKind.i64 (Int.ofNat st - 1))]) 0)) = false ∧ loopOf Tryz.prog 34 0 = loopOf Tryz.prog 34 0 ∧ Value.slice (some ⟨0, 0, none⟩) 0 k = Value.slice (some ⟨0, 0, none⟩) 0 k ∧ goN st = goN st ∧ nilS = nilS ∧ goN fr = goN fr ∧ (∀ _ : Nat → Value, (∀ _ : AHeap, K (Value.tuple #[nilS, gi 0]))))) := by kernel_rfl
theorem Th_nilG (st fr : Nat) (K : Value → Prop) : callC Tryz.prog (exec Tryz.prog orcRg 40) (syOf []) askRg (ThnLoops nilS (.inl rfl) st fr) 40 38 #[nilS, goN st, goN fr] (emp Tryz.prog) (fun v _ => K v) = ((loopOf Tryz.prog 38 0 = loopOf Tryz.prog 38 0 ∧ nilS = nilS ∧ goN st = goN st ∧ nilS = nilS ∧ goN fr = goN fr ∧ (∀ _ : Nat → Value, (∀ _ : AHeap, K nilS)))) := by kernel_rfl
theorem Th_empG (k st fr : Nat) (K : Value → Prop) : callC Tryz.prog (exec Tryz.prog orcRg 40) (syOf []) askRg (ThnLoops (.slice (some ⟨0, 0, none⟩) 0 k) (.inr ⟨k, rfl⟩) st fr) 40 38 #[.slice (some ⟨0, 0, none⟩) 0 k, goN st, goN fr] (emp Tryz.prog) (fun v _ => K v) = ((loopOf Tryz.prog 38 0 = loopOf Tryz.prog 38 0 ∧ Value.slice (some ⟨0, 0, none⟩) 0 k = Value.slice (some ⟨0, 0, none⟩) 0 k ∧ goN st = goN st ∧ nilS = nilS ∧ goN fr = goN fr ∧ (∀ _ : Nat → Value, (∀ _ : AHeap, K nilS)))) := by kernel_rfl
noncomputable def orcRh : Orc := orElse 38 (genO dF 65536 false ThX) (orElse 34 (genO dF 65536 false thX) orcRg)
theorem thE_nil (st fr : Int) : firstS [0, withinS st 1 16, withinS fr 0 (fwrap IntKind.i64 (st - 1))] = thE [] st fr := by unfold thE; rw [csE_nil]
theorem cnt_nil {st fr : Nat} (h1 : 1 ≤ st) : cntT 0 st fr = 0 := by
  unfold cntT
  exact Nat.div_eq_of_lt (by omega)
theorem thOut_bad {l : List Nat} {st fr : Int} (h : thE l st fr ≠ 0) : thOut l st fr = .plain (.tuple #[nilS, gi (thE l st fr)]) := by
  unfold thOut; rw [ieq_ne h]; rfl
theorem thOut_good {l : List Nat} {st fr : Int} (h : thE l st fr = 0) : thOut l st fr = thGood (thL l st fr) := by
  unfold thOut; rw [h]; rfl
theorem thL_nil {st fr : Nat} (h1 : 1 ≤ st) : thL [] st fr = [] := by
  show thP [] st fr (cntT 0 st fr) = []
  rw [cnt_nil h1]; rfl
theorem thL_take {l : List Nat} {n st fr : Nat} (hn : n ≤ l.length) (h1 : 1 ≤ st) (h3 : fr ≤ st - 1) : thP l st fr (cntT n st fr) = thL (l.take n) st fr := thP_take hn h1 h3
theorem thL_cnt {l : List Nat} {n st fr : Nat} (hn : n ≤ l.length) (h1 : 1 ≤ st) (h3 : fr ≤ st - 1) : (thL (l.take n) st fr).length = cntT n st fr := by rw [← thL_take hn h1 h3, thP_length]
theorem thGood_ok (xs : List Nat) : (thGood xs).Ok ∧ (ThGood xs).Ok := by
  cases xs with
  | nil => exact ⟨rfl, rfl⟩
  | cons x xs => exact ⟨⟨names_tup rfl rfl, flat_floats _⟩, names_sl _, flat_floats _⟩
set_option maxRecDepth 100000 in
theorem orcRh_ok : OrcOk Tryz.prog orcRh := by
  refine genO_ok dF_some (fun _ => rfl) globs_pos (genO_ok dF_some (fun _ => rfl) globs_pos orcRg_ok ?_ ?_ ?_ ?_) ?_ ?_ ?_ ?_
  · intro l r o h
    obtain ⟨st, fr, rfl, rfl⟩ := thX_some h
    unfold thOut
    cases ieq (thE l st fr) 0 with
    | true => exact (thGood_ok _).1
    | false => rfl
  · intro r o h
    obtain ⟨st, fr, rfl, rfl⟩ := thX_some h
    by_cases hz : thE [] st fr = 0
    · obtain ⟨_, a, b, rfl, rfl, p1, p2, p3⟩ := thE_zero hz
      rw [thOut_good hz, thL_nil p1]
      exact callC_ok mixed orcRg_ok askRg_ok (Eq.mpr (th_nilG a b _) ⟨by rw [thE_nil (Int.ofNat a) (Int.ofNat b), show thE [] (Int.ofNat a) (Int.ofNat b) = 0 from hz]; rfl, rfl, rfl, rfl, rfl, rfl, fun _ _ => rfl⟩)
    · rw [thOut_bad hz]
      exact callC_ok mixed orcRg_ok askRg_ok (Eq.mpr (th_nil st fr _) ⟨by rw [thE_nil, ieq_ne hz]; rfl, by rw [thE_nil]⟩)
  · intro r k o h
    obtain ⟨st, fr, rfl, rfl⟩ := thX_some h
    by_cases hz : thE [] st fr = 0
    · obtain ⟨_, a, b, rfl, rfl, p1, p2, p3⟩ := thE_zero hz
      rw [thOut_good hz, thL_nil p1]
      exact callC_ok mixed orcRg_ok askRg_ok (Eq.mpr (th_empG k a b _) ⟨by rw [thE_nil (Int.ofNat a) (Int.ofNat b), show thE [] (Int.ofNat a) (Int.ofNat b) = 0 from hz]; rfl, rfl, rfl, rfl, rfl, rfl, fun _ _ => rfl⟩)
    · rw [thOut_bad hz]
      exact callC_ok mixed orcRg_ok askRg_ok (Eq.mpr (th_emp k st fr _) ⟨by rw [thE_nil, ieq_ne hz]; rfl, by rw [thE_nil]⟩)
  · intro l off n r el row k o ho hw h0 h1 h2 h3 h
    obtain rfl := ho rfl
    rw [List.drop_zero] at h
    obtain ⟨st, fr, rfl, rfl⟩ := thX_some h
    by_cases hz : thE (l.take n) st fr = 0
    · have hz' := hz
      obtain ⟨_, a, b, rfl, rfl, p1, p2, p3⟩ := thE_zero hz
      rw [thOut_good hz']
      refine callC_ok mixed orcRg_ok askRg_ok (Eq.mpr (th_run l n k el row a b _) ⟨l, rfl, h0, by omega, by omega, h3, ?_, rfl, rfl, rfl, rfl, rfl, ?_, ⟨by omega, h2, p1, p2, p3⟩, fun hc _ _ => ?_, fun hc _ y3 y4 y5 e4 e5 hy => ?_⟩)
      · show (!ieq (thE (l.take n) a b) 0) = false
        rw [hz]; rfl
      · rw [AHeap.get_push_ne (by kernel_rfl), canon_get, if_pos (Nat.le_refl _), Nat.sub_self]; rfl
      · have : thL (l.take n) a b = [] := by rw [← thL_take (by omega) p1 p3, hc]; rfl
        rw [this]; rfl
      · subst e4 e5
        rw [← thL_take (n := n) (by omega) p1 p3]
        exact (thGood_got (thP_length _ _ _ _) hc hy).1
    · rw [thOut_bad hz]
      exact callC_ok mixed orcRg_ok askRg_ok (Eq.mpr (th_bad l n k el row st fr _) ⟨l, rfl, h0, by omega, by omega, h3, by show (!ieq (thE (l.take n) st fr) 0) = true; rw [ieq_ne hz]; rfl, rfl⟩)
  · intro l r o h
    obtain ⟨st, fr, rfl, rfl, _⟩ := ThX_some h
    exact (thGood_ok _).2
  · intro r o h
    obtain ⟨st, fr, rfl, rfl, p1, p2, p3⟩ := ThX_some h
    rw [show ([] : List Nat).length = 0 from rfl, cnt_nil p1]
    exact callC_ok mixed orcRg_ok askRg_ok (Eq.mpr (Th_nilG st fr _) ⟨rfl, rfl, rfl, rfl, rfl, fun _ _ => rfl⟩)
  · intro r k o h
    obtain ⟨st, fr, rfl, rfl, p1, p2, p3⟩ := ThX_some h
    rw [show ([] : List Nat).length = 0 from rfl, cnt_nil p1]
    exact callC_ok mixed orcRg_ok askRg_ok (Eq.mpr (Th_empG k st fr _) ⟨rfl, rfl, rfl, rfl, rfl, fun _ _ => rfl⟩)
  · intro l off n r el row k o ho hw h0 h1 h2 h3 h
    obtain rfl := ho rfl
    rw [List.drop_zero] at h
    obtain ⟨st, fr, rfl, rfl, p1, p2, p3⟩ := ThX_some h
    rw [← thP_take (by omega) p1 p3]
    refine callC_ok mixed orcRg_ok askRg_ok (Eq.mpr (Th_run l n k el row st fr _) ⟨rfl, rfl, rfl, rfl, rfl, ?_, ⟨by omega, h2, p1, p2, p3⟩, fun hc _ _ => ?_, fun hc _ y3 y4 y5 e4 e5 hy => ?_⟩)
    · rw [canon_get, if_pos (Nat.le_refl _), Nat.sub_self]; rfl
    · rw [hc]; rfl
    · subst e4 e5
      exact (thGood_got (thP_length _ _ _ _) hc hy).2
end Go.Proofs.YtnlkkapeldhemaaGreatDoor
