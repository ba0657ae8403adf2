/-
  OWN WORK. The triggered record, by the reference: its loops.
-/
import Derived.Test.YtnlkkapeldhemaaGreatDoorTgC
import Derived.Test.YtnlkkapeldhemaaGreatDoorAm10
namespace Go.Proofs.YtnlkkapeldhemaaGreatDoor
open Go Go.Am

noncomputable abbrev fcv (c : List Value) : AObj := .cells c 69 2 false
noncomputable def askTs : Asks := skipA 29 askTa
theorem askTs_ok : AsksOk orcTb askTs := skipA_ok askTa_ok
theorem ri_first (c : List Value) (n k e row i an j : Nat) (g : Nat → Value) (Q : Exit → List Value → AHeap → Prop) : execC Tryz.prog (exec Tryz.prog orcTb 10) (syOf [(45, 33), (46, 1), (52, 2), (53, 3)]) askTs (noLoops _) 40 (loopOf Tryz.prog 32 2) (stOf 58 [(0, liP n k), (3, goN an), (11, goN i), (13, nilS), (14, goN j)] g) (gH1 Tryz.prog c e row) (told 58 [0, 3, 11, 13, 14] Q) = ((inI64 (Int.ofNat (i + an)) = true ∧ (Nat.blt j (i + an) = true → (Nat.blt j n = true ∧ c[(0 + (j * 1))]? = Option.some (gf (floatAt c (0 + (j * 1)))) ∧ Q .normal [liP n k, goN an, goN i, Value.slice (some ⟨N1 + 2, 0, none⟩) 1 1, gi (fwrap IntKind.i64 (Int.ofNat (j + 1)))] (((gH1 Tryz.prog c e row).push (.cells [gf (floatAt c (0 + (j * 1)))] 69 2 false)).push (.cells ([] ++ [gf (floatAt c (0 + (j * 1)))]) 69 2 false)))) ∧ (Nat.blt j (i + an) = false → Q (.exit 2) [liP n k, goN an, goN i, nilS, goN j] (gH1 Tryz.prog c e row)))) := by kernel_rfl
theorem ri_next (c c' : List Value) (n k e row i an j q : Nat) (g : Nat → Value) (Q : Exit → List Value → AHeap → Prop) : execC Tryz.prog (exec Tryz.prog orcTb 10) (syOf [(45, 33), (46, 1), (52, 2), (53, 3), (55, 10)]) askTs (noLoops _) 40 (loopOf Tryz.prog 32 2) (stOf 58 [(0, liP n k), (3, goN an), (11, goN i), (13, slO q q), (14, goN j)] g) (gH2 Tryz.prog c e row c' 69) (told 58 [0, 3, 11, 13, 14] Q) = ((inI64 (Int.ofNat (i + an)) = true ∧ (Nat.blt j (i + an) = true → (Nat.blt j n = true ∧ c[(0 + (j * 1))]? = Option.some (gf (floatAt c (0 + (j * 1)))) ∧ Nat.ble (q + 1) q = false ∧ Nat.ble (((2 * (q + 1)) + 256) * 4) 281474976710656 = true ∧ (q * 1) = List.length c' ∧ Q .normal [liP n k, goN an, goN i, Value.slice (some ⟨N1 + 3, 0, none⟩) (q + 1) (q + 1), gi (fwrap IntKind.i64 (Int.ofNat (j + 1)))] ((((gH2 Tryz.prog c e row c' 69).push (.cells [gf (floatAt c (0 + (j * 1)))] 69 2 false)).set (N1 + 1) (.dead)).push (.cells (c' ++ [gf (floatAt c (0 + (j * 1)))]) 69 2 false)))) ∧ (Nat.blt j (i + an) = false → Q (.exit 2) [liP n k, goN an, goN i, slO q q, goN j] (gH2 Tryz.prog c e row c' 69)))) := by kernel_rfl
noncomputable def riV (n k an i s : Nat) : Nat → Value → List Value := fun j v => [liP n k, goN an, goN i, v, goN (s + j)]
noncomputable def riX (l : List Nat) (s : Nat) : Nat → List Value := fun j => ((l.drop s).take j).map gf
theorem riX_length {l : List Nat} {s j : Nat} (h : s + j ≤ l.length) : (riX l s j).length = j := by simp [riX]; omega
theorem riX_succ {l : List Nat} {s j : Nat} (h : s + j < l.length) : riX l s (j + 1) = riX l s j ++ [gf l[s + j]] := by
  unfold riX
  rw [List.take_add_one, List.getElem?_drop, List.getElem?_eq_getElem h]
  simp
theorem riX_nil {l : List Nat} {s j : Nat} (h : s + j ≤ l.length) (hx : riX l s j = []) : j = 0 := by
  have := riX_length h
  rw [hx] at this
  exact this.symm
theorem N1_ne (k : Nat) : ¬ N1 = Tryz.prog.globals.size + (k + 1) := by unfold N1; omega
theorem ble_false {a b : Nat} (h : b < a) : Nat.ble a b = false := by
  cases hh : Nat.ble a b with
  | false => rfl
  | true => rw [Nat.ble_eq] at hh; omega
set_option maxRecDepth 100000 in
theorem ri_loop (l : List Nat) (n e row k i an s m : Nat) (hm : s + m = i + an) (hn : i + an ≤ n) (hl : n ≤ l.length) (hle : n ≤ 65536) : ∀ (a : AAct) (h : AHeap), h.get N1 = some (.cells (l.map gf) e row true) → a.n = 58 → a.marks = [] → [0, 3, 11, 13, 14].map a.tmp = [liP n k, goN an, goN i, nilS, goN s] → 0 < m →
    J Tryz.prog (.loop (loopOf Tryz.prog 32 2)) a h (told 58 [0, 3, 11, 13, 14] fun ex vs h' => ex = .exit 2 ∧ vs = [liP n k, goN an, goN i, slO m m, goN (s + m)] ∧ h'.get (N1 + 1) = some (.cells (riX l s m) 69 2 false)) := by
  intro a h hs ha hk hv h0
  refine grow_rule (el := 69) globs_pos (by decide) (by decide) (flat_floats l) (riV n k an i s) (riX l s) m _ (fun j => flat_floats _) (fun j => by kernel_rfl) (fun j b q hb => by rcases hb with rfl | rfl | rfl <;> kernel_rfl)
    (fun j v => ⟨(0, liP n k), by simp [riV], by simp [named]⟩) (fun j b q => ⟨(13, .slice (some ⟨b, 0, none⟩) q q), by simp [riV], by simp [named]⟩) ?_ ?_ ?_ ?_ a h ⟨hs, .inl ⟨rfl, hv⟩⟩ ha hk
  · intro j hj hx g
    obtain rfl : j = 0 := riX_nil (by omega) hx
    refine execC_ok mixed orcTb_ok askTs_ok (noLoops _) (Eq.mpr (ri_first _ n k e row i an (s + 0) g _) ⟨inI64_nat (by omega), fun hlt => ?_, fun hge => ?_⟩)
    · obtain ⟨h1, h2⟩ := float_at (l := l) (j := s + 0) (by omega)
      refine ⟨by rw [Nat.blt_eq]; omega, h1, ?_, .inr ⟨N1 + 2, .inr (.inl rfl), ?_, ?_, ?_⟩⟩
      · rw [AHeap.get_push, if_neg (by show ¬ N1 = (gH1 Tryz.prog _ _ _).n + 1; rw [gH1_n]; exact N1_ne 1), AHeap.get_push, if_neg (by rw [gH1_n]; exact N1_ne 0)]
        exact gH1_src _ _ _
      · rw [riX_succ (by omega)]; simp
      · rw [riX_length (by omega), fwrap_nat (by omega)]; rfl
      · rw [AHeap.get_push, if_pos (by rfl), h2, riX_succ (by omega)]; rfl
    · have := blt_false hge; omega
  · intro j hj hx g
    rw [riX_length (by omega)]
    refine execC_ok mixed orcTb_ok askTs_ok (noLoops _) (Eq.mpr (ri_next _ (riX l s j) n k e row i an (s + j) j g _) ⟨inI64_nat (by omega), fun hlt => ?_, fun hge => ?_⟩)
    · obtain ⟨h1, h2⟩ := float_at (l := l) (j := s + j) (by omega)
      refine ⟨by rw [Nat.blt_eq]; omega, h1, ble_false (by omega), by rw [Nat.ble_eq]; omega, by rw [riX_length (by omega)]; omega, ?_, .inr ⟨N1 + 3, .inr (.inr rfl), ?_, ?_, ?_⟩⟩
      · rw [AHeap.get_push, if_neg (by show ¬ N1 = (gH2 Tryz.prog _ _ _ _ _).n + 1; rw [gH2_n]; exact N1_ne 2), AHeap.get_set, if_neg (N1_ne 0), AHeap.get_push, if_neg (by rw [gH2_n]; exact N1_ne 1)]
        exact gH2_src _ _ _ _ _
      · rw [riX_succ (by omega)]; simp
      · rw [riX_length (by omega), fwrap_nat (by omega)]; rfl
      · rw [AHeap.get_push, if_pos (by rfl), h2, riX_succ (by omega)]
    · have := blt_false hge; omega
  · intro hx g
    have := riX_nil (by omega) hx
    omega
  · intro hx g
    rw [riX_length (by omega)]
    refine execC_ok mixed orcTb_ok askTs_ok (noLoops _) (Eq.mpr (ri_next _ (riX l s m) n k e row i an (s + m) m g _) ⟨inI64_nat (by omega), fun hlt => ?_, fun hge => ⟨rfl, rfl, gH2_dst _ _ _ _ _⟩⟩)
    have := blt_true hlt; omega
noncomputable def riLoops (l : List Nat) (n e row k i an s m : Nat) : Loops Tryz.prog where
  body := fun _ => loopOf Tryz.prog 32 2
  spec := fun _ a h c => entry a 58 [(0, liP n k), (3, goN an), (11, goN i), (13, nilS), (14, goN s)] (h.get N1 = some (.cells (l.map gf) e row true) ∧ (s + m = i + an ∧ i + an ≤ n ∧ n ≤ l.length ∧ n ≤ 65536 ∧ 0 < m) ∧
    ∀ g h', h'.get (N1 + 1) = some (.cells (riX l s m) 69 2 false) → c (.exit 2) (stOf 58 [(0, liP n k), (11, goN i), (13, slO m m)] g) h')
  ok := fun i' a h c q => by
    obtain ⟨h1, h2, h3, hs, ⟨hs1, hs2, hs3, hs4, hs5⟩, h4⟩ := entry_facts q
    refine J.of_told (ri_loop l n e row k i an s m hs1 hs2 hs3 hs4 a h hs h1 h2 ?_ hs5) ?_
    · simp only [List.map_cons, List.map_nil]
      rw [h3 (0, liP n k) (by simp), h3 (3, goN an) (by simp), h3 (11, goN i) (by simp), h3 (13, nilS) (by simp), h3 (14, goN s) (by simp)]
    · rintro ex vs h' g ⟨rfl, rfl, hg⟩
      refine cast ?_ (h4 (ov [(3, goN an), (14, goN (s + m))] g) h' hg)
      congr 1
theorem ro_body (l : List Nat) (n k e row bn an i s m : Nat) (lv : Int) (g : Nat → Value) (Q : Exit → List Value → AHeap → Prop) : execC Tryz.prog (exec Tryz.prog orcTb 10) (syOf [(19, 1), (24, 2), (25, 3), (26, 7), (32, 1), (36, 33), (38, 1), (41, 33)]) askTs (riLoops l n e row k i an s m) 40 (loopOf Tryz.prog 32 0) (stOf 58 [(0, liP n k), (1, gi lv), (2, goN bn), (3, goN an), (8, nilS), (9, gi 0), (10, gi 0), (11, goN i)] g) (gH1 Tryz.prog (l.map gf) e row) (told 58 [0, 1, 2, 3, 8, 9, 10, 11] Q) = (((Nat.blt i n = true → (Nat.blt i n = true ∧ (List.map gf l)[(0 + (i * 1))]? = Option.some (gf (floatAt (List.map gf l) (0 + (i * 1)))) ∧ ieq (smpE (floatAt (List.map gf l) (0 + (i * 1)))) 0 = true ∧ (ilt (if (fwrap IntKind.i64 (0 - unitE (floatAt (List.map gf l) (0 + (i * 1)))) : Int) > unitE (floatAt (List.map gf l) (0 + (i * 1))) then fwrap IntKind.i64 (0 - unitE (floatAt (List.map gf l) (0 + (i * 1)))) else unitE (floatAt (List.map gf l) (0 + (i * 1)))) lv = true → Q .normal [liP n k, gi lv, goN bn, goN an, nilS, gi 0, gi 0, gi (fwrap IntKind.i64 (Int.ofNat (i + 1)))] (gH1 Tryz.prog (List.map gf l) e row)) ∧ (ilt (if (fwrap IntKind.i64 (0 - unitE (floatAt (List.map gf l) (0 + (i * 1)))) : Int) > unitE (floatAt (List.map gf l) (0 + (i * 1))) then fwrap IntKind.i64 (0 - unitE (floatAt (List.map gf l) (0 + (i * 1)))) else unitE (floatAt (List.map gf l) (0 + (i * 1)))) lv = false → (inI64 (Int.ofNat n - Int.ofNat i) = true ∧ (ilt (Int.ofNat n - Int.ofNat i) (Int.ofNat an) = true → Q .ret [liP n k, gi lv, goN bn, goN an, nilS, gi 0, gi 16, goN i] (gH1 Tryz.prog (List.map gf l) e row)) ∧ (ilt (Int.ofNat n - Int.ofNat i) (Int.ofNat an) = false → (inI64 (Int.ofNat i - Int.ofNat bn) = true ∧ loopOf Tryz.prog 32 2 = loopOf Tryz.prog 32 2 ∧ liP n k = liP n k ∧ goN an = goN an ∧ goN i = goN i ∧ nilS = nilS ∧ gi (Int.ofNat i - Int.ofNat bn) = goN s ∧ AHeap.get (gH1 Tryz.prog (List.map gf l) e row) 8 = Option.some (.cells (List.map gf l) e row true) ∧ ((s + m) = (i + an) ∧ ((i + an) : Nat) ≤ n ∧ (n : Nat) ≤ List.length l ∧ (n : Nat) ≤ 65536 ∧ (0 : Nat) < m) ∧ (∀ y1 : Nat → Value, (∀ y2 : AHeap, (AHeap.get y2 9 = Option.some (.cells (riX l s m) 69 2 false) → Q .ret [liP n k, y1 1, y1 2, y1 3, slO m m, goN i, gi 0, goN i] y2))))))))) ∧ (Nat.blt i n = false → Q (.exit 0) [liP n k, gi lv, goN bn, goN an, nilS, gi 0, gi 0, goN i] (gH1 Tryz.prog (List.map gf l) e row)))) := by kernel_rfl
end Go.Proofs.YtnlkkapeldhemaaGreatDoor
