/-
  OWN WORK. Lists turned, padded, read; the rounds of the law.
-/
import Derived.Test.YthgojmebbhpbbaaGreatDoorKcA
/-! (OWN WORK. Kernels: rounds of the loops that turn, pad and read lists.) -/
namespace Go.Proofs.YthgojmebbhpbbaaGreatDoor
open Go Go.Am
theorem tu_first (c : List Value) (n k e row j : Nat) (g : Nat → Value) (Q : Exit → List Value → AHeap → Prop) : execC Tryz.prog (exec Tryz.prog orcKi 10) (syOf [(8, 1), (14, 33), (16, 33), (17, 2), (18, 3)]) (askKi 1) (noLoops _) 40 (loopOf Tryz.prog 23 0) (stOf 23 [(0, liP n k), (3, nilS), (6, goN n), (7, goN j)] g) (gH1 Tryz.prog c e row) (told 23 [0, 3, 6, 7] Q) = (((Nat.blt j n = true → (inI64 (Int.ofNat n - 1) = true ∧ inI64 ((Int.ofNat n - 1) - Int.ofNat j) = true ∧ ahasIndex ((Int.ofNat n - 1) - Int.ofNat j) n = true ∧ c[(0 + (Int.toNat ((Int.ofNat n - 1) - Int.ofNat j) * 1))]? = Option.some (gi (intAt c (0 + (Int.toNat ((Int.ofNat n - 1) - Int.ofNat j) * 1)))) ∧ Q .normal [liP n k, Value.slice (some ⟨nG1 + 2, 0, none⟩) 1 1, goN n, gi (fwrap IntKind.i64 (Int.ofNat (j + 1)))] (((gH1 Tryz.prog c e row).push (.cells [gi (intAt c (0 + (Int.toNat ((Int.ofNat n - 1) - Int.ofNat j) * 1)))] 3 2 false)).push (.cells ([] ++ [gi (intAt c (0 + (Int.toNat ((Int.ofNat n - 1) - Int.ofNat j) * 1)))]) 3 2 false)))) ∧ (Nat.blt j n = false → Q (.exit 0) [liP n k, nilS, goN n, goN j] (gH1 Tryz.prog c e row)))) := by kernel_rfl
theorem tu_next (c c' : List Value) (n k e row j q : Nat) (g : Nat → Value) (Q : Exit → List Value → AHeap → Prop) : execC Tryz.prog (exec Tryz.prog orcKi 10) (syOf [(8, 1), (14, 33), (16, 33), (17, 2), (18, 3), (20, 10)]) (askKi 1) (noLoops _) 40 (loopOf Tryz.prog 23 0) (stOf 23 [(0, liP n k), (3, slO q q), (6, goN n), (7, goN j)] g) (gH2 Tryz.prog c e row c' 3) (told 23 [0, 3, 6, 7] Q) = (((Nat.blt j n = true → (inI64 (Int.ofNat n - 1) = true ∧ inI64 ((Int.ofNat n - 1) - Int.ofNat j) = true ∧ ahasIndex ((Int.ofNat n - 1) - Int.ofNat j) n = true ∧ c[(0 + (Int.toNat ((Int.ofNat n - 1) - Int.ofNat j) * 1))]? = Option.some (gi (intAt c (0 + (Int.toNat ((Int.ofNat n - 1) - Int.ofNat j) * 1)))) ∧ Nat.ble (q + 1) q = false ∧ Nat.ble (((2 * (q + 1)) + 256) * 8) 281474976710656 = true ∧ (q * 1) = List.length c' ∧ Q .normal [liP n k, Value.slice (some ⟨nG1 + 3, 0, none⟩) (q + 1) (q + 1), goN n, gi (fwrap IntKind.i64 (Int.ofNat (j + 1)))] ((((gH2 Tryz.prog c e row c' 3).push (.cells [gi (intAt c (0 + (Int.toNat ((Int.ofNat n - 1) - Int.ofNat j) * 1)))] 3 2 false)).set (nG1 + 1) (.dead)).push (.cells (c' ++ [gi (intAt c (0 + (Int.toNat ((Int.ofNat n - 1) - Int.ofNat j) * 1)))]) 3 2 false)))) ∧ (Nat.blt j n = false → Q (.exit 0) [liP n k, slO q q, goN n, goN j] (gH2 Tryz.prog c e row c' 3)))) := by kernel_rfl
theorem in_first (c : List Value) (n k e row j : Nat) (g : Nat → Value) (Q : Exit → List Value → AHeap → Prop) : execC Tryz.prog (exec Tryz.prog orcKi 10) (syOf [(8, 1), (14, 2), (15, 3), (16, 7)]) (askKi 1) (noLoops _) 40 (loopOf Tryz.prog 24 0) (stOf 20 [(0, liP n k), (3, nilS), (4, goN j)] g) (gH1 Tryz.prog c e row) (told 20 [0, 3, 4] Q) = (((Nat.blt j n = true → (Nat.blt j n = true ∧ c[(0 + (j * 1))]? = Option.some (gf (floatAt c (0 + (j * 1)))) ∧ ieq (smpE (floatAt c (0 + (j * 1)))) 0 = true ∧ Q .normal [liP n k, Value.slice (some ⟨nG1 + 2, 0, none⟩) 1 1, gi (fwrap IntKind.i64 (Int.ofNat (j + 1)))] (((gH1 Tryz.prog c e row).push (.cells [gi (unitE (floatAt c (0 + (j * 1))))] 3 2 false)).push (.cells ([] ++ [gi (unitE (floatAt c (0 + (j * 1))))]) 3 2 false)))) ∧ (Nat.blt j n = false → Q (.exit 0) [liP n k, nilS, goN j] (gH1 Tryz.prog c e row)))) := by kernel_rfl
theorem in_next (c c' : List Value) (n k e row j q : Nat) (g : Nat → Value) (Q : Exit → List Value → AHeap → Prop) : execC Tryz.prog (exec Tryz.prog orcKi 10) (syOf [(8, 1), (14, 2), (15, 3), (16, 7), (18, 10)]) (askKi 1) (noLoops _) 40 (loopOf Tryz.prog 24 0) (stOf 20 [(0, liP n k), (3, slO q q), (4, goN j)] g) (gH2 Tryz.prog c e row c' 3) (told 20 [0, 3, 4] Q) = (((Nat.blt j n = true → (Nat.blt j n = true ∧ c[(0 + (j * 1))]? = Option.some (gf (floatAt c (0 + (j * 1)))) ∧ ieq (smpE (floatAt c (0 + (j * 1)))) 0 = true ∧ Nat.ble (q + 1) q = false ∧ Nat.ble (((2 * (q + 1)) + 256) * 8) 281474976710656 = true ∧ (q * 1) = List.length c' ∧ Q .normal [liP n k, Value.slice (some ⟨nG1 + 3, 0, none⟩) (q + 1) (q + 1), gi (fwrap IntKind.i64 (Int.ofNat (j + 1)))] ((((gH2 Tryz.prog c e row c' 3).push (.cells [gi (unitE (floatAt c (0 + (j * 1))))] 3 2 false)).set (nG1 + 1) (.dead)).push (.cells (c' ++ [gi (unitE (floatAt c (0 + (j * 1))))]) 3 2 false)))) ∧ (Nat.blt j n = false → Q (.exit 0) [liP n k, slO q q, goN j] (gH2 Tryz.prog c e row c' 3)))) := by kernel_rfl
theorem pa_first (c : List Value) (n k e row j b z : Nat) (g : Nat → Value) (Q : Exit → List Value → AHeap → Prop) : execC Tryz.prog (exec Tryz.prog orcKi 10) (syOf [(10, 1), (13, 2), (14, 3)]) (askKi 1) (noLoops _) 40 (loopOf Tryz.prog 26 0) (stOf 35 [(0, liP n k), (2, goN z), (7, nilS), (8, goN b), (9, goN j)] g) (gH1 Tryz.prog c e row) (told 35 [0, 2, 7, 8, 9] Q) = (((Nat.blt j b = true → (ahasIndex 0 n = true ∧ c[0]? = Option.some (gi (intAt c 0)) ∧ Q .normal [liP n k, goN z, Value.slice (some ⟨nG1 + 2, 0, none⟩) 1 1, goN b, gi (fwrap IntKind.i64 (Int.ofNat (j + 1)))] (((gH1 Tryz.prog c e row).push (.cells [gi (intAt c 0)] 3 2 false)).push (.cells ([] ++ [gi (intAt c 0)]) 3 2 false)))) ∧ (Nat.blt j b = false → Q (.exit 0) [liP n k, goN z, nilS, goN b, goN j] (gH1 Tryz.prog c e row)))) := by kernel_rfl
theorem pa_next (c c' : List Value) (n k e row j q b z : Nat) (g : Nat → Value) (Q : Exit → List Value → AHeap → Prop) : execC Tryz.prog (exec Tryz.prog orcKi 10) (syOf [(10, 1), (13, 2), (14, 3), (16, 10)]) (askKi 1) (noLoops _) 40 (loopOf Tryz.prog 26 0) (stOf 35 [(0, liP n k), (2, goN z), (7, slO q q), (8, goN b), (9, goN j)] g) (gH2 Tryz.prog c e row c' 3) (told 35 [0, 2, 7, 8, 9] Q) = (((Nat.blt j b = true → (ahasIndex 0 n = true ∧ c[0]? = Option.some (gi (intAt c 0)) ∧ Nat.ble (q + 1) q = false ∧ Nat.ble (((2 * (q + 1)) + 256) * 8) 281474976710656 = true ∧ (q * 1) = List.length c' ∧ Q .normal [liP n k, goN z, Value.slice (some ⟨nG1 + 3, 0, none⟩) (q + 1) (q + 1), goN b, gi (fwrap IntKind.i64 (Int.ofNat (j + 1)))] ((((gH2 Tryz.prog c e row c' 3).push (.cells [gi (intAt c 0)] 3 2 false)).set (nG1 + 1) (.dead)).push (.cells (c' ++ [gi (intAt c 0)]) 3 2 false)))) ∧ (Nat.blt j b = false → Q (.exit 0) [liP n k, goN z, slO q q, goN b, goN j] (gH2 Tryz.prog c e row c' 3)))) := by kernel_rfl
theorem pz_next (c c' : List Value) (n k e row j q b : Nat) (g : Nat → Value) (Q : Exit → List Value → AHeap → Prop) : execC Tryz.prog (exec Tryz.prog orcKi 10) (syOf [(23, 1), (28, 33), (29, 2), (30, 3), (32, 10)]) (askKi 1) (noLoops _) 40 (loopOf Tryz.prog 26 2) (stOf 35 [(0, liP n k), (7, slO q q), (21, goN b), (22, goN j)] g) (gH2 Tryz.prog c e row c' 3) (told 35 [0, 7, 21, 22] Q) = (((Nat.blt j b = true → (inI64 (Int.ofNat n - 1) = true ∧ ahasIndex (Int.ofNat n - 1) n = true ∧ c[(0 + (Int.toNat (Int.ofNat n - 1) * 1))]? = Option.some (gi (intAt c (0 + (Int.toNat (Int.ofNat n - 1) * 1)))) ∧ Nat.ble (q + 1) q = false ∧ Nat.ble (((2 * (q + 1)) + 256) * 8) 281474976710656 = true ∧ (q * 1) = List.length c' ∧ Q .normal [liP n k, Value.slice (some ⟨nG1 + 3, 0, none⟩) (q + 1) (q + 1), goN b, gi (fwrap IntKind.i64 (Int.ofNat (j + 1)))] ((((gH2 Tryz.prog c e row c' 3).push (.cells [gi (intAt c (0 + (Int.toNat (Int.ofNat n - 1) * 1)))] 3 2 false)).set (nG1 + 1) (.dead)).push (.cells (c' ++ [gi (intAt c (0 + (Int.toNat (Int.ofNat n - 1) * 1)))]) 3 2 false)))) ∧ (Nat.blt j b = false → Q (.exit 2) [liP n k, slO q q, goN b, goN j] (gH2 Tryz.prog c e row c' 3)))) := by kernel_rfl
end Go.Proofs.YthgojmebbhpbbaaGreatDoor
/-! (OWN WORK. Kernels: lists that are turned, padded, read: their loops.) -/
namespace Go.Proofs.YthgojmebbhpbbaaGreatDoor
open Go Go.Am
noncomputable def aP (f : Nat → Int) (j : Nat) : List Value := (List.range j).map fun i => gi (f i)
theorem aP_length (f : Nat → Int) (j : Nat) : (aP f j).length = j := by simp [aP]
theorem aP_nil {f : Nat → Int} {j : Nat} (h : aP f j = []) : j = 0 := by
 have := congrArg List.length h
 rw [aP_length] at this
 exact this
theorem aP_flat (f : Nat → Int) (j : Nat) : (aP f j).all (flat 3) = true := by
 rw [List.all_eq_true]
 intro x hx
 obtain ⟨i, _, rfl⟩ := List.mem_map.1 hx
 rfl
theorem aP_succ (f : Nat → Int) (j : Nat) : aP f (j + 1) = aP f j ++ [gi (f j)] := by
 unfold aP
 rw [List.range_succ, List.map_append, List.map_cons, List.map_nil]
theorem aP_list {f : Nat → Int} {L : List Int} (h : ∀ i (hi : i < L.length), f i = L[i]) : aP f L.length = L.map gi := by
 refine List.ext_getElem (by simp [aP]) fun i h1 h2 => ?_
 have hi : i < L.length := by simpa using h2
 simp [aP, h i hi]
theorem aP_rev (l : List Int) : aP (fun i => l.getD (l.length - 1 - i) 0) l.length = l.reverse.map gi := by
 have := aP_list (f := fun i => l.getD (l.length - 1 - i) 0) (L := l.reverse) fun i hi => by
  rw [List.length_reverse] at hi
  rw [List.getElem_reverse, List.getD_eq_getElem?_getD, List.getElem?_eq_getElem (by omega)]; rfl
 rwa [List.length_reverse] at this
theorem aP_units (l : List Nat) : aP (fun i => unitE (l.getD i 0)) l.length = (l.map unitE).map gi := by
 have := aP_list (f := fun i => unitE (l.getD i 0)) (L := l.map unitE) fun i hi => by
  rw [List.length_map] at hi
  rw [List.getElem_map, List.getD_eq_getElem?_getD, List.getElem?_eq_getElem hi]; rfl
 rwa [List.length_map] at this
theorem aP_rep (c : Int) (n : Nat) : aP (fun _ => c) n = (List.replicate n c).map gi := by
 have := aP_list (f := fun _ => c) (L := List.replicate n c) fun i hi => by rw [List.getElem_replicate]
 rwa [List.length_replicate] at this
noncomputable def tuV (n k : Nat) : Nat → Value → List Value := fun j v => [liP n k, v, goN n, goN j]
noncomputable abbrev tuF (l : List Int) (i : Nat) : Int := l.getD (l.length - 1 - i) 0
theorem rev_at {l : List Int} {n j : Nat} (hl : l.length = n) (hj : j < n) : Int.toNat (Int.ofNat n - 1 - Int.ofNat j) = n - 1 - j ∧ (l.map gi)[0 + (n - 1 - j) * 1]? = some (gi (intAt (l.map gi) (0 + (n - 1 - j) * 1))) ∧ intAt (l.map gi) (0 + (n - 1 - j) * 1) = tuF l j ∧ ahasIndex (Int.ofNat n - 1 - Int.ofNat j) n = true := by
 subst hl
 obtain ⟨f1, f2⟩ := gi_at (l := l) (j := l.length - 1 - j) (by omega)
 refine ⟨by simp only [Int.ofNat_eq_natCast]; omega, f1, ?_, ahas (by simp only [Int.ofNat_eq_natCast]; omega) (by simp only [Int.ofNat_eq_natCast]; omega)⟩
 rw [f2]
 unfold tuF
 rw [List.getD_eq_getElem?_getD, List.getElem?_eq_getElem (by omega)]; rfl
theorem in_n1 {n : Nat} (h : n ≤ 65536) : inI64 (Int.ofNat n - 1) = true := inI64_small (by simp only [Int.ofNat_eq_natCast]; omega) (by simp only [Int.ofNat_eq_natCast]; omega)
theorem in_n1j {n j : Nat} (h : n ≤ 65536) (hj : j ≤ 65536) : inI64 (Int.ofNat n - 1 - Int.ofNat j) = true := inI64_small (by simp only [Int.ofNat_eq_natCast]; omega) (by simp only [Int.ofNat_eq_natCast]; omega)
set_option maxRecDepth 100000 in
theorem tu_loop (l : List Int) (n e row k : Nat) (hl : l.length = n) (hle : n ≤ 65536) : ∀ (a : AAct) (h : AHeap), h.get nG1 = some (.cells (l.map gi) e row true) → a.n = 23 → a.marks = [] → [0, 3, 6, 7].map a.tmp = [liP n k, nilS, goN n, goN 0] →
  J Tryz.prog (.loop (loopOf Tryz.prog 23 0)) a h (told 23 [0, 3, 6, 7] fun ex vs h' => ex = .exit 0 ∧ ((n = 0 ∧ vs = [liP n k, nilS, goN n, goN n]) ∨ (0 < n ∧ vs = [liP n k, slO n n, goN n, goN n] ∧ h'.get (nG1 + 1) = some (.cells (aP (tuF l) n) 3 2 false)))) := by
 intro a h hs ha hk hv
 refine grow_rule (el := 3) globs_pos (by decide) (by decide) (flat_ints l) (tuV n k) (aP (tuF l)) n _ (aP_flat _) (fun j => by kernel_rfl) (fun j b q hb => by rcases hb with rfl | rfl | rfl <;> kernel_rfl)
  (fun j v => ⟨(0, liP n k), by simp [tuV], by simp [named]⟩) (fun j b q => ⟨(3, .slice (some ⟨b, 0, none⟩) q q), by simp [tuV], by simp [named]⟩) ?_ ?_ ?_ ?_ a h ⟨hs, .inl ⟨rfl, by rw [hv]; rfl⟩⟩ ha hk
 ·intro j hj hx g
  obtain rfl : j = 0 := aP_nil hx
  obtain ⟨f0, f1, f2, f3⟩ := rev_at hl hj
  refine execC_ok mixed orcKi_ok (askKi_ok 1) (noLoops _) (Eq.mpr (tu_first _ n k e row 0 g _) ⟨fun hlt => ?_, fun hge => ?_⟩)
  ·rw [f0]
   refine ⟨in_n1 hle, in_n1j hle (by omega), f3, f1, ?_, .inr ⟨nG1 + 2, .inr (.inl rfl), ?_, ?_, ?_⟩⟩
   ·rw [AHeap.get_push_ne (by kernel_rfl), AHeap.get_push_ne (by kernel_rfl)]
    exact gH1_src _ _ _
   ·intro h0; have := aP_nil h0; omega
   ·rw [aP_length]; exact rfl
   ·rw [AHeap.get_push_eq (by kernel_rfl), f2, aP_succ]; rfl
  ·have := blt_false hge; omega
 ·intro j hj hx g
  rw [aP_length]
  obtain ⟨f0, f1, f2, f3⟩ := rev_at hl hj
  refine execC_ok mixed orcKi_ok (askKi_ok 1) (noLoops _) (Eq.mpr (tu_next _ _ n k e row j j g _) ⟨fun hlt => ?_, fun hge => ?_⟩)
  ·rw [f0]
   refine ⟨in_n1 hle, in_n1j hle (by omega), f3, f1, ble_no (by omega), by rw [Nat.ble_eq]; omega, by rw [aP_length, Nat.mul_one], ?_, .inr ⟨nG1 + 3, .inr (.inr rfl), ?_, ?_, ?_⟩⟩
   ·rw [AHeap.get_push_ne (by kernel_rfl), AHeap.get_set_neB (by kernel_rfl), AHeap.get_push_ne (by kernel_rfl)]
    exact gH2_src _ _ _ _ _
   ·intro h0; have := aP_nil h0; omega
   ·rw [aP_length, fwrap_nat (by omega)]; exact rfl
   ·rw [AHeap.get_push_eq (by kernel_rfl), f2, aP_succ]
  ·have := blt_false hge; omega
 ·intro hx g
  obtain rfl : n = 0 := aP_nil hx
  exact execC_ok mixed orcKi_ok (askKi_ok 1) (noLoops _) (Eq.mpr (tu_first _ 0 k e row 0 g _) ⟨fun hlt => absurd (blt_true hlt) (by omega), fun _ => ⟨rfl, .inl ⟨rfl, rfl⟩⟩⟩)
 ·intro hx g
  rw [aP_length]
  refine execC_ok mixed orcKi_ok (askKi_ok 1) (noLoops _) (Eq.mpr (tu_next _ _ n k e row n n g _) ⟨fun hlt => absurd (blt_true hlt) (by omega), fun _ => ⟨rfl, .inr ⟨?_, rfl, gH2_dst _ _ _ _ _⟩⟩⟩)
  apply Nat.pos_of_ne_zero
  intro h0
  rw [h0] at hx
  exact hx rfl
noncomputable abbrev inF (l : List Nat) (i : Nat) : Int := unitE (l.getD i 0)
noncomputable def inV (n k : Nat) : Nat → Value → List Value := fun j v => [liP n k, v, goN j]
set_option maxRecDepth 100000 in
theorem in_loop (l : List Nat) (n e row k : Nat) (hl : l.length = n) (hle : n ≤ 65536) (hu : ∀ x ∈ l, smpE x = 0) : ∀ (a : AAct) (h : AHeap), h.get nG1 = some (.cells (l.map gf) e row true) → a.n = 20 → a.marks = [] → [0, 3, 4].map a.tmp = [liP n k, nilS, goN 0] →
  J Tryz.prog (.loop (loopOf Tryz.prog 24 0)) a h (told 20 [0, 3, 4] fun ex vs h' => ex = .exit 0 ∧ ((n = 0 ∧ vs = [liP n k, nilS, goN n]) ∨ (0 < n ∧ vs = [liP n k, slO n n, goN n] ∧ h'.get (nG1 + 1) = some (.cells (aP (inF l) n) 3 2 false)))) := by
 intro a h hs ha hk hv
 have at_ : ∀ {j : Nat}, j < n → (l.map gf)[0 + j * 1]? = some (gf (floatAt (l.map gf) (0 + j * 1))) ∧ ieq (smpE (floatAt (l.map gf) (0 + j * 1))) 0 = true ∧ unitE (floatAt (l.map gf) (0 + j * 1)) = inF l j := fun {j} hj => by
  obtain ⟨f1, f2⟩ := float_at (l := l) (j := j) (by omega)
  refine ⟨f1, ?_, ?_⟩
  ·rw [f2, hu _ (List.getElem_mem _)]; rfl
  ·rw [f2]
   unfold inF
   rw [List.getD_eq_getElem?_getD, List.getElem?_eq_getElem (by omega)]; rfl
 refine grow_rule (el := 3) globs_pos (by decide) (by decide) (flat_floats l) (inV n k) (aP (inF l)) n _ (aP_flat _) (fun j => by kernel_rfl) (fun j b q hb => by rcases hb with rfl | rfl | rfl <;> kernel_rfl)
  (fun j v => ⟨(0, liP n k), by simp [inV], by simp [named]⟩) (fun j b q => ⟨(3, .slice (some ⟨b, 0, none⟩) q q), by simp [inV], by simp [named]⟩) ?_ ?_ ?_ ?_ a h ⟨hs, .inl ⟨rfl, by rw [hv]; rfl⟩⟩ ha hk
 ·intro j hj hx g
  obtain rfl : j = 0 := aP_nil hx
  obtain ⟨f1, f2, f3⟩ := at_ hj
  refine execC_ok mixed orcKi_ok (askKi_ok 1) (noLoops _) (Eq.mpr (in_first _ n k e row 0 g _) ⟨fun hlt => ?_, fun hge => ?_⟩)
  ·refine ⟨hlt, f1, f2, ?_, .inr ⟨nG1 + 2, .inr (.inl rfl), ?_, ?_, ?_⟩⟩
   ·rw [AHeap.get_push_ne (by kernel_rfl), AHeap.get_push_ne (by kernel_rfl)]
    exact gH1_src _ _ _
   ·intro h0; have := aP_nil h0; omega
   ·rw [aP_length]; exact rfl
   ·rw [AHeap.get_push_eq (by kernel_rfl), f3, aP_succ]; rfl
  ·have := blt_false hge; omega
 ·intro j hj hx g
  rw [aP_length]
  obtain ⟨f1, f2, f3⟩ := at_ hj
  refine execC_ok mixed orcKi_ok (askKi_ok 1) (noLoops _) (Eq.mpr (in_next _ _ n k e row j j g _) ⟨fun hlt => ?_, fun hge => ?_⟩)
  ·refine ⟨hlt, f1, f2, ble_no (by omega), by rw [Nat.ble_eq]; omega, by rw [aP_length, Nat.mul_one], ?_, .inr ⟨nG1 + 3, .inr (.inr rfl), ?_, ?_, ?_⟩⟩
   ·rw [AHeap.get_push_ne (by kernel_rfl), AHeap.get_set_neB (by kernel_rfl), AHeap.get_push_ne (by kernel_rfl)]
    exact gH2_src _ _ _ _ _
   ·intro h0; have := aP_nil h0; omega
   ·rw [aP_length, fwrap_nat (by omega)]; exact rfl
   ·rw [AHeap.get_push_eq (by kernel_rfl), f3, aP_succ]
  ·have := blt_false hge; omega
 ·intro hx g
  obtain rfl : n = 0 := aP_nil hx
  exact execC_ok mixed orcKi_ok (askKi_ok 1) (noLoops _) (Eq.mpr (in_first _ 0 k e row 0 g _) ⟨fun hlt => absurd (blt_true hlt) (by omega), fun _ => ⟨rfl, .inl ⟨rfl, rfl⟩⟩⟩)
 ·intro hx g
  rw [aP_length]
  refine execC_ok mixed orcKi_ok (askKi_ok 1) (noLoops _) (Eq.mpr (in_next _ _ n k e row n n g _) ⟨fun hlt => absurd (blt_true hlt) (by omega), fun _ => ⟨rfl, .inr ⟨?_, rfl, gH2_dst _ _ _ _ _⟩⟩⟩)
  apply Nat.pos_of_ne_zero
  intro h0
  rw [h0] at hx
  exact hx rfl
noncomputable def paV (n k b z : Nat) : Nat → Value → List Value := fun j v => [liP n k, goN z, v, goN b, goN j]
set_option maxRecDepth 100000 in
theorem pa_loop (l : List Int) (n e row k b z : Nat) (hl : l.length = n) (hn : 1 ≤ n) (hle : b ≤ 65536) : ∀ (a : AAct) (h : AHeap), h.get nG1 = some (.cells (l.map gi) e row true) → a.n = 35 → a.marks = [] → [0, 2, 7, 8, 9].map a.tmp = [liP n k, goN z, nilS, goN b, goN 0] →
  J Tryz.prog (.loop (loopOf Tryz.prog 26 0)) a h (told 35 [0, 2, 7, 8, 9] fun ex vs h' => ex = .exit 0 ∧ h'.get nG1 = some (.cells (l.map gi) e row true) ∧ ((b = 0 ∧ vs = [liP n k, goN z, nilS, goN b, goN b]) ∨ (0 < b ∧ vs = [liP n k, goN z, slO b b, goN b, goN b] ∧ h'.get (nG1 + 1) = some (.cells (aP (fun _ => l.getD 0 0) b) 3 2 false)))) := by
 intro a h hs ha hk hv
 have at_ : ahasIndex 0 n = true ∧ (l.map gi)[0]? = some (gi (intAt (l.map gi) 0)) ∧ intAt (l.map gi) 0 = l.getD 0 0 := by
  obtain ⟨f1, f2⟩ := gi_at (l := l) (j := 0) (by omega)
  refine ⟨ahas (Int.le_refl 0) (by omega), f1, ?_⟩
  rw [show intAt (l.map gi) 0 = l[0]'(by omega) from f2, List.getD_eq_getElem?_getD, List.getElem?_eq_getElem (by omega)]; rfl
 obtain ⟨f0, f1, f2⟩ := at_
 refine grow_rule (el := 3) globs_pos (by decide) (by decide) (flat_ints l) (paV n k b z) (aP (fun _ => l.getD 0 0)) b _ (aP_flat _) (fun j => by kernel_rfl) (fun j b q hb => by rcases hb with rfl | rfl | rfl <;> kernel_rfl)
  (fun j v => ⟨(0, liP n k), by simp [paV], by simp [named]⟩) (fun j b q => ⟨(7, .slice (some ⟨b, 0, none⟩) q q), by simp [paV], by simp [named]⟩) ?_ ?_ ?_ ?_ a h ⟨hs, .inl ⟨rfl, by rw [hv]; rfl⟩⟩ ha hk
 ·intro j hj hx g
  obtain rfl : j = 0 := aP_nil hx
  refine execC_ok mixed orcKi_ok (askKi_ok 1) (noLoops _) (Eq.mpr (pa_first _ n k e row 0 b z g _) ⟨fun hlt => ?_, fun hge => ?_⟩)
  ·refine ⟨f0, f1, ?_, .inr ⟨nG1 + 2, .inr (.inl rfl), ?_, ?_, ?_⟩⟩
   ·rw [AHeap.get_push_ne (by kernel_rfl), AHeap.get_push_ne (by kernel_rfl)]
    exact gH1_src _ _ _
   ·intro h0; have := aP_nil h0; omega
   ·rw [aP_length]; exact rfl
   ·rw [AHeap.get_push_eq (by kernel_rfl), f2, aP_succ]; rfl
  ·have := blt_false hge; omega
 ·intro j hj hx g
  rw [aP_length]
  refine execC_ok mixed orcKi_ok (askKi_ok 1) (noLoops _) (Eq.mpr (pa_next _ _ n k e row j j b z g _) ⟨fun hlt => ?_, fun hge => ?_⟩)
  ·refine ⟨f0, f1, ble_no (by omega), by rw [Nat.ble_eq]; omega, by rw [aP_length, Nat.mul_one], ?_, .inr ⟨nG1 + 3, .inr (.inr rfl), ?_, ?_, ?_⟩⟩
   ·rw [AHeap.get_push_ne (by kernel_rfl), AHeap.get_set_neB (by kernel_rfl), AHeap.get_push_ne (by kernel_rfl)]
    exact gH2_src _ _ _ _ _
   ·intro h0; have := aP_nil h0; omega
   ·rw [aP_length, fwrap_nat (by omega)]; exact rfl
   ·rw [AHeap.get_push_eq (by kernel_rfl), f2, aP_succ]
  ·have := blt_false hge; omega
 ·intro hx g
  obtain rfl : b = 0 := aP_nil hx
  exact execC_ok mixed orcKi_ok (askKi_ok 1) (noLoops _) (Eq.mpr (pa_first _ n k e row 0 0 z g _) ⟨fun hlt => absurd (blt_true hlt) (by omega), fun _ => ⟨rfl, gH1_src _ _ _, .inl ⟨rfl, rfl⟩⟩⟩)
 ·intro hx g
  rw [aP_length]
  refine execC_ok mixed orcKi_ok (askKi_ok 1) (noLoops _) (Eq.mpr (pa_next _ _ n k e row b b b z g _) ⟨fun hlt => absurd (blt_true hlt) (by omega), fun _ => ⟨rfl, gH2_src _ _ _ _ _, .inr ⟨?_, rfl, gH2_dst _ _ _ _ _⟩⟩⟩)
  apply Nat.pos_of_ne_zero
  intro h0
  rw [h0] at hx
  exact hx rfl
noncomputable def pzV (n k b : Nat) : Nat → Value → List Value := fun j v => [liP n k, v, goN b, goN j]
set_option maxRecDepth 100000 in
theorem pz_loop (l : List Int) (X : List Value) (n e row k b p x : Nat) (hl : l.length = n) (hn : 1 ≤ n) (h1 : n ≤ 65536) (hp : X.length = p) (hp1 : 1 ≤ p) (hf : X.all (flat 3) = true) (hle : p + b ≤ 65536) (hx : x = 1 ∨ x = 2 ∨ x = 3) : ∀ (a : AAct) (h : AHeap), h.get nG1 = some (.cells (l.map gi) e row true) → h.get (nG1 + x) = some (.cells X 3 2 false) → a.n = 35 → a.marks = [] → [0, 7, 21, 22].map a.tmp = [liP n k, .slice (some ⟨nG1 + x, 0, none⟩) p p, goN b, goN 0] →
  J Tryz.prog (.loop (loopOf Tryz.prog 26 2)) a h (told 35 [0, 7, 21, 22] fun ex vs h' => ex = .exit 2 ∧ vs = [liP n k, slO (p + b) (p + b), goN b, goN b] ∧ h'.get (nG1 + 1) = some (.cells (X ++ aP (fun _ => l.getD (n - 1) 0) b) 3 2 false)) := by
 intro a h hs hd ha hk hv
 have hz : ∀ j, (X ++ aP (fun _ => l.getD (n - 1) 0) j).length = p + j := fun j => by rw [List.length_append, aP_length, hp]
 have hne : ∀ j, X ++ aP (fun _ => l.getD (n - 1) 0) j ≠ [] := fun j q => by have := hz j; rw [q] at this; simp at this; omega
 have at_ : Int.toNat (Int.ofNat n - 1) = n - 1 ∧ (l.map gi)[0 + (n - 1) * 1]? = some (gi (intAt (l.map gi) (0 + (n - 1) * 1))) ∧ intAt (l.map gi) (0 + (n - 1) * 1) = l.getD (n - 1) 0 ∧ ahasIndex (Int.ofNat n - 1) n = true := by
  subst hl
  obtain ⟨f1, f2⟩ := gi_at (l := l) (j := l.length - 1) (by omega)
  refine ⟨by simp only [Int.ofNat_eq_natCast]; omega, f1, ?_, ahas (by simp only [Int.ofNat_eq_natCast]; omega) (by simp only [Int.ofNat_eq_natCast]; omega)⟩
  rw [f2, List.getD_eq_getElem?_getD, List.getElem?_eq_getElem (by omega)]; rfl
 obtain ⟨f0, f1, f2, f3⟩ := at_
 refine grow_rule (el := 3) globs_pos (by decide) (by decide) (flat_ints l) (pzV n k b) (fun j => X ++ aP (fun _ => l.getD (n - 1) 0) j) b _ (fun j => by rw [List.all_append, hf, aP_flat]; rfl) (fun j => by kernel_rfl) (fun j b q hb => by rcases hb with rfl | rfl | rfl <;> kernel_rfl)
  (fun j v => ⟨(0, liP n k), by simp [pzV], by simp [named]⟩) (fun j b q => ⟨(7, .slice (some ⟨b, 0, none⟩) q q), by simp [pzV], by simp [named]⟩) (fun j _ q => absurd q (hne j)) ?_ (fun q => absurd q (hne b)) ?_ a h ⟨hs, .inr ⟨nG1 + x, ?_, hne 0, ?_, ?_⟩⟩ ha hk
 ·intro j hj _ g
  rw [hz]
  refine execC_ok mixed orcKi_ok (askKi_ok 1) (noLoops _) (Eq.mpr (pz_next _ _ n k e row j (p + j) b g _) ⟨fun hlt => ?_, fun hge => ?_⟩)
  ·rw [f0]
   refine ⟨in_n1 h1, f3, f1, ble_no (by omega), by rw [Nat.ble_eq]; omega, by rw [hz, Nat.mul_one], ?_, .inr ⟨nG1 + 3, .inr (.inr rfl), hne _, ?_, ?_⟩⟩
   ·rw [AHeap.get_push_ne (by kernel_rfl), AHeap.get_set_neB (by kernel_rfl), AHeap.get_push_ne (by kernel_rfl)]
    exact gH2_src _ _ _ _ _
   ·rw [hz, fwrap_nat (by omega)]; exact rfl
   ·rw [AHeap.get_push_eq (by kernel_rfl), f2]
    show _ = some (AObj.cells (X ++ aP (fun _ => l.getD (n - 1) 0) (j + 1)) _ _ _)
    rw [aP_succ, List.append_assoc]
  ·have := blt_false hge; omega
 ·intro _ g
  rw [hz]
  exact execC_ok mixed orcKi_ok (askKi_ok 1) (noLoops _) (Eq.mpr (pz_next _ _ n k e row b (p + b) b g _) ⟨fun hlt => absurd (blt_true hlt) (by omega), fun _ => ⟨rfl, rfl, gH2_dst _ _ _ _ _⟩⟩)
 ·rcases hx with rfl | rfl | rfl
  ·exact .inl rfl
  ·exact .inr (.inl rfl)
  ·exact .inr (.inr rfl)
 ·rw [hv, hz]; rfl
 ·rw [hd]
  show _ = some (AObj.cells (X ++ []) _ _ _)
  rw [List.append_nil]
end Go.Proofs.YthgojmebbhpbbaaGreatDoor
/-! (OWN WORK. Kernels: lists that are turned, padded, read, as known calls.) -/
namespace Go.Proofs.YthgojmebbhpbbaaGreatDoor
open Go Go.Am
noncomputable def tuL (l : List Int) (n e row k : Nat) : Loops Tryz.prog where
 body := fun _ => loopOf Tryz.prog 23 0
 spec := fun _ a h c => entry a 23 [(0, liP n k), (3, nilS), (6, goN n), (7, goN 0)] (h.get nG1 = some (.cells (l.map gi) e row true) ∧ (l.length = n ∧ 0 < n ∧ n ≤ 65536) ∧ ∀ g h', h'.get (nG1 + 1) = some (.cells (l.reverse.map gi) 3 2 false) → c (.exit 0) (stOf 23 [(3, slO n n)] g) h')
 ok := fun i a h c q => by
  obtain ⟨h1, h2, h3, g0, ⟨c1, c2, c3⟩, k1⟩ := entry_facts q
  refine J.of_told (tu_loop l n e row k c1 c3 a h g0 h1 h2 ?_) ?_
  ·simp only [List.map_cons, List.map_nil]
   rw [h3 (0, liP n k) (by simp), h3 (3, nilS) (by simp), h3 (6, goN n) (by simp), h3 (7, goN 0) (by simp)]
  ·rintro ex vs h' g ⟨rfl, ⟨h0, _⟩ | ⟨_, rfl, hg⟩⟩
   ·omega
   ·refine k1 (ov [(0, liP n k), (6, goN n), (7, goN n)] g) h' ?_
    rw [hg, ← c1, aP_rev]
noncomputable def inL (l : List Nat) (n e row k : Nat) : Loops Tryz.prog where
 body := fun _ => loopOf Tryz.prog 24 0
 spec := fun _ a h c => entry a 20 [(0, liP n k), (3, nilS), (4, goN 0)] (h.get nG1 = some (.cells (l.map gf) e row true) ∧ (l.length = n ∧ 0 < n ∧ n ≤ 65536 ∧ ∀ x ∈ l, smpE x = 0) ∧ ∀ g h', h'.get (nG1 + 1) = some (.cells ((l.map unitE).map gi) 3 2 false) → c (.exit 0) (stOf 20 [(3, slO n n)] g) h')
 ok := fun i a h c q => by
  obtain ⟨h1, h2, h3, g0, ⟨c1, c2, c3, c4⟩, k1⟩ := entry_facts q
  refine J.of_told (in_loop l n e row k c1 c3 c4 a h g0 h1 h2 ?_) ?_
  ·simp only [List.map_cons, List.map_nil]
   rw [h3 (0, liP n k) (by simp), h3 (3, nilS) (by simp), h3 (4, goN 0) (by simp)]
  ·rintro ex vs h' g ⟨rfl, ⟨h0, _⟩ | ⟨_, rfl, hg⟩⟩
   ·omega
   ·refine k1 (ov [(0, liP n k), (4, goN n)] g) h' ?_
    rw [hg, ← c1, aP_units]
noncomputable def paL (l : List Int) (X : List Value) (n e row k b z p x : Nat) : Loops Tryz.prog where
 body := fun i => loopOf Tryz.prog 26 (match i with | 0 => 0 | _ + 1 => 2)
 spec := fun i a h c => match i with
  | 0 => entry a 35 [(0, liP n k), (2, goN z), (7, nilS), (8, goN b), (9, goN 0)] (h.get nG1 = some (.cells (l.map gi) e row true) ∧ (l.length = n ∧ 1 ≤ n ∧ b ≤ 65536) ∧
    (b = 0 → ∀ g, c (.exit 0) (stOf 35 [(0, liP n k), (2, goN z), (7, nilS)] g) (gH1 Tryz.prog (l.map gi) e row)) ∧
    (0 < b → ∀ g, c (.exit 0) (stOf 35 [(0, liP n k), (2, goN z), (7, slO b b)] g) (gH2 Tryz.prog (l.map gi) e row (aP (fun _ => l.getD 0 0) b) 3)))
  | _ + 1 => entry a 35 [(0, liP n k), (7, .slice (some ⟨nG1 + x, 0, none⟩) p p), (21, goN z), (22, goN 0)] (h.get nG1 = some (.cells (l.map gi) e row true) ∧ h.get (nG1 + x) = some (.cells X 3 2 false) ∧ (l.length = n ∧ 1 ≤ n ∧ n ≤ 65536 ∧ X.length = p ∧ 1 ≤ p ∧ X.all (flat 3) = true ∧ p + z ≤ 65536 ∧ (x = 1 ∨ x = 2 ∨ x = 3)) ∧
    ∀ g h', h'.get (nG1 + 1) = some (.cells (X ++ aP (fun _ => l.getD (n - 1) 0) z) 3 2 false) → c (.exit 2) (stOf 35 [(7, slO (p + z) (p + z))] g) h')
 ok := fun i a h c q => by
  match i, q with
  | 0, q =>
   obtain ⟨h1, h2, h3, g0, ⟨c1, c2, c3⟩, k1, k2⟩ := entry_facts q
   refine J.of_toldR globs_pos (pa_loop l n e row k b z c1 c2 c3 a h g0 h1 h2 ?_) ?_
   ·simp only [List.map_cons, List.map_nil]
    rw [h3 (0, liP n k) (by simp), h3 (2, goN z) (by simp), h3 (7, nilS) (by simp), h3 (8, goN b) (by simp), h3 (9, goN 0) (by simp)]
   ·rintro ex vs h' ⟨rfl, hs, ⟨h0, rfl⟩ | ⟨h0, rfl, hg⟩⟩
    ·refine ⟨[0, 2, 7], [liP n k, goN z, nilS], [liP n k, goN z, nilS], [(l.map gi, e, row, true)], [nG1], by simp, rfl, by simp, by intro i hi; cases List.mem_singleton.1 hi; exact Nat.le_refl _, fun j b' i hb hi => ?_, by kernel_rfl, fun i hi => ?_, fun g => k1 h0 g⟩
     ·match j, hb, hi with
      | 0, hb, hi => cases hb; cases hi; exact ⟨hs, flat_ints l⟩
     ·cases List.mem_singleton.1 hi
      exact ⟨(0, liP n k), by simp, by simp [named, nG1]⟩
    ·refine ⟨[0, 2, 7], [liP n k, goN z, slO b b], [liP n k, goN z, slO b b], [(l.map gi, e, row, true), (aP (fun _ => l.getD 0 0) b, 3, 2, false)], [nG1, nG1 + 1], by simp, rfl, by simp, by intro i hi; simp only [List.mem_cons, List.not_mem_nil, or_false] at hi; rcases hi with rfl | rfl <;> (unfold nG1; omega), fun j b' i hb hi => ?_, by kernel_rfl, fun i hi => ?_, fun g => k2 h0 g⟩
     ·match j, hb, hi with
      | 0, hb, hi => cases hb; cases hi; exact ⟨hs, flat_ints l⟩
      | 1, hb, hi => cases hb; cases hi; exact ⟨hg, aP_flat _ _⟩
     ·simp only [List.mem_cons, List.not_mem_nil, or_false] at hi
      rcases hi with rfl | rfl
      ·exact ⟨(0, liP n k), by simp, by simp [named, nG1]⟩
      ·exact ⟨(7, slO b b), by simp, by simp [named, nG1]⟩
  | i + 1, q =>
   obtain ⟨h1, h2, h3, g0, g1, ⟨c1, c2, c3, c4, c5, c6, c7, c8⟩, k1⟩ := entry_facts q
   refine J.of_told (pz_loop l X n e row k z p x c1 c2 c3 c4 c5 c6 c7 c8 a h g0 g1 h1 h2 ?_) ?_
   ·simp only [List.map_cons, List.map_nil]
    rw [h3 (0, liP n k) (by simp), h3 (7, .slice (some ⟨nG1 + x, 0, none⟩) p p) (by simp), h3 (21, goN z) (by simp), h3 (22, goN 0) (by simp)]
   ·rintro ex vs h' g ⟨rfl, rfl, hg⟩
    exact k1 (ov [(0, liP n k), (21, goN z), (22, goN z)] g) h' hg
theorem tu_run (l : List Int) (m e row k : Nat) (K : Value → AHeap → Prop) : callC Tryz.prog (exec Tryz.prog orcKz 10) (syOf []) (askKz 1) (tuL l (m + 1) e row k) 20 23 #[liP (m + 1) k] (canon Tryz.prog [(l.map gi, e, row)]) K = ((loopOf Tryz.prog 23 0 = loopOf Tryz.prog 23 0 ∧ liP (m + 1) k = liP (m + 1) k ∧ nilS = nilS ∧ goN (m + 1) = goN (m + 1) ∧ gi 0 = goN 0 ∧ (canon Tryz.prog [Prod.mk (List.map gi l) (Prod.mk e row)]).get (nG1) = Option.some (.cells (List.map gi l) e row true) ∧ (List.length l = (m + 1) ∧ (0 : Nat) < (m + 1) ∧ ((m + 1) : Nat) ≤ 65536) ∧ (∀ _ : Nat → Value, (∀ y2 : AHeap, (y2.get (nG1 + 1) = Option.some (.cells (List.map gi (List.reverse l)) 3 2 false) → K (slO (m + 1) (m + 1)) y2))))) := by kernel_rfl
theorem in_run (l : List Nat) (m e row k : Nat) (K : Value → AHeap → Prop) : callC Tryz.prog (exec Tryz.prog orcKz 10) (syOf []) (askKz 1) (inL l (m + 1) e row k) 20 24 #[liP (m + 1) k] (canon Tryz.prog [(l.map gf, e, row)]) K = ((loopOf Tryz.prog 24 0 = loopOf Tryz.prog 24 0 ∧ liP (m + 1) k = liP (m + 1) k ∧ nilS = nilS ∧ gi 0 = goN 0 ∧ (canon Tryz.prog [Prod.mk (List.map gf l) (Prod.mk e row)]).get (nG1) = Option.some (.cells (List.map gf l) e row true) ∧ (List.length l = (m + 1) ∧ (0 : Nat) < (m + 1) ∧ ((m + 1) : Nat) ≤ 65536 ∧ (∀ y1 : Nat, (List.Mem y1 l → smpE y1 = 0))) ∧ (∀ _ : Nat → Value, (∀ y2 : AHeap, (y2.get (nG1 + 1) = Option.some (.cells (List.map gi (List.map unitE l)) 3 2 false) → K (slO (m + 1) (m + 1)) y2))))) := by kernel_rfl
theorem pa_run0 (l : List Int) (X : List Value) (m e row k z p : Nat) (K : Value → AHeap → Prop) : callC Tryz.prog (exec Tryz.prog orcKz 10) (syOf [(20, 16)]) (askKz 1) (paL l X (m + 1) e row k 0 z p 1) 20 26 #[liP (m + 1) k, goN 0, goN z] (canon Tryz.prog [(l.map gi, e, row)]) K = ((loopOf Tryz.prog 26 0 = loopOf Tryz.prog 26 0 ∧ liP (m + 1) k = liP (m + 1) k ∧ goN z = goN z ∧ nilS = nilS ∧ goN 0 = goN 0 ∧ gi 0 = goN 0 ∧ (canon Tryz.prog [Prod.mk (List.map gi l) (Prod.mk e row)]).get (nG1) = Option.some (.cells (List.map gi l) e row true) ∧ (List.length l = (m + 1) ∧ (1 : Nat) ≤ (m + 1) ∧ (0 : Nat) ≤ 65536) ∧ (0 = 0 → (∀ _ : Nat → Value, (Nat.ble (0 + (m + 1)) (List.length (List.map gi l)) = true ∧ Nat.ble (((2 * (m + 1)) + 256) * 8) 281474976710656 = true ∧ loopOf Tryz.prog 26 2 = loopOf Tryz.prog 26 2 ∧ liP (m + 1) k = liP (m + 1) k ∧ slO (m + 1) (m + 1) = slO p p ∧ goN z = goN z ∧ gi 0 = goN 0 ∧ ((gH1 Tryz.prog (List.map gi l) e row).push (.cells (List.take (m + 1) (List.drop 0 (List.map gi l))) 3 2 false)).get (nG1) = Option.some (.cells (List.map gi l) e row true) ∧ ((gH1 Tryz.prog (List.map gi l) e row).push (.cells (List.take (m + 1) (List.drop 0 (List.map gi l))) 3 2 false)).get (nG1 + 1) = Option.some (.cells X 3 2 false) ∧ (List.length l = (m + 1) ∧ (1 : Nat) ≤ (m + 1) ∧ ((m + 1) : Nat) ≤ 65536 ∧ List.length X = p ∧ (1 : Nat) ≤ p ∧ List.all X (flat 3) = true ∧ ((p + z) : Nat) ≤ 65536 ∧ (1 = 1 ∨ (1 = 2 ∨ 1 = 3))) ∧ (∀ _ : Nat → Value, (∀ y3 : AHeap, (y3.get (nG1 + 1) = Option.some (.cells (X ++ aP (fun x => l.getD (m + 1 - 1) 0) z) 3 2 false) → K (slO (p + z) (p + z)) y3)))))) ∧ ((0 : Nat) < 0 → (∀ _ : Nat → Value, (Nat.ble (0 + (m + 1)) (List.length (List.map gi l)) = true ∧ Nat.ble (((2 * (m + 1)) + 256) * 8) 281474976710656 = true ∧ List.all (List.take (m + 1) (List.drop 0 (List.map gi l))) Value.oneCell' = true ∧ loopOf Tryz.prog 26 2 = loopOf Tryz.prog 26 2 ∧ liP (m + 1) k = liP (m + 1) k ∧ Value.slice (some ⟨nG1 + 2, 0, none⟩) (m + 1) (m + 1) = slO p p ∧ goN z = goN z ∧ gi 0 = goN 0 ∧ (((gH2 Tryz.prog (List.map gi l) e row (aP (fun x => l.getD 0 0) 0) 3).set (nG1 + 1) (.dead)).push (.cells (List.take (m + 1) (List.drop 0 (List.map gi l))) 3 2 false)).get (nG1) = Option.some (.cells (List.map gi l) e row true) ∧ (((gH2 Tryz.prog (List.map gi l) e row (aP (fun x => l.getD 0 0) 0) 3).set (nG1 + 1) (.dead)).push (.cells (List.take (m + 1) (List.drop 0 (List.map gi l))) 3 2 false)).get (nG1 + 1) = Option.some (.cells X 3 2 false) ∧ (List.length l = (m + 1) ∧ (1 : Nat) ≤ (m + 1) ∧ ((m + 1) : Nat) ≤ 65536 ∧ List.length X = p ∧ (1 : Nat) ≤ p ∧ List.all X (flat 3) = true ∧ ((p + z) : Nat) ≤ 65536 ∧ (1 = 1 ∨ (1 = 2 ∨ 1 = 3))) ∧ (∀ _ : Nat → Value, (∀ y3 : AHeap, (y3.get (nG1 + 1) = Option.some (.cells (X ++ aP (fun x => l.getD (m + 1 - 1) 0) z) 3 2 false) → K (slO (p + z) (p + z)) y3)))))))) := by kernel_rfl
theorem pa_runS (l : List Int) (X : List Value) (m e row k b z p : Nat) (K : Value → AHeap → Prop) : callC Tryz.prog (exec Tryz.prog orcKz 10) (syOf [(20, 51)]) (askKz 1) (paL l X (m + 1) e row k (b + 1) z p 2) 20 26 #[liP (m + 1) k, goN (b + 1), goN z] (canon Tryz.prog [(l.map gi, e, row)]) K = ((loopOf Tryz.prog 26 0 = loopOf Tryz.prog 26 0 ∧ liP (m + 1) k = liP (m + 1) k ∧ goN z = goN z ∧ nilS = nilS ∧ goN (b + 1) = goN (b + 1) ∧ gi 0 = goN 0 ∧ (canon Tryz.prog [Prod.mk (List.map gi l) (Prod.mk e row)]).get (nG1) = Option.some (.cells (List.map gi l) e row true) ∧ (List.length l = (m + 1) ∧ (1 : Nat) ≤ (m + 1) ∧ ((b + 1) : Nat) ≤ 65536) ∧ ((b + 1) = 0 → (∀ _ : Nat → Value, False)) ∧ ((0 : Nat) < (b + 1) → (∀ _ : Nat → Value, ((0 : Nat) < (m + 1) ∧ ((0 + (m + 1)) : Nat) ≤ List.length (List.map gi l) ∧ ((0 + (b + 1)) : Nat) ≤ List.length (aP (fun x => l.getD 0 0) (b + 1)) ∧ Nat.ble ((b + 1) + (m + 1)) (b + 1) = false ∧ Nat.ble (((2 * ((b + 1) + (m + 1))) + 256) * 8) 281474976710656 = true ∧ List.all (List.take (m + 1) (List.drop 0 (List.map gi l))) Value.oneCell' = true ∧ loopOf Tryz.prog 26 2 = loopOf Tryz.prog 26 2 ∧ liP (m + 1) k = liP (m + 1) k ∧ Value.slice (some ⟨nG1 + 2, 0, none⟩) ((b + 1) + (m + 1)) ((b + 1) + (m + 1)) = Value.slice (some ⟨nG1 + 2, 0, none⟩) p p ∧ goN z = goN z ∧ gi 0 = goN 0 ∧ (((gH2 Tryz.prog (List.map gi l) e row (aP (fun x => l.getD 0 0) (b + 1)) 3).set (nG1 + 1) (.dead)).push (.cells (List.take (b + 1) (List.drop 0 (aP (fun x => l.getD 0 0) (b + 1))) ++ List.take (m + 1) (List.drop 0 (List.map gi l))) 3 2 false)).get (nG1) = Option.some (.cells (List.map gi l) e row true) ∧ (((gH2 Tryz.prog (List.map gi l) e row (aP (fun x => l.getD 0 0) (b + 1)) 3).set (nG1 + 1) (.dead)).push (.cells (List.take (b + 1) (List.drop 0 (aP (fun x => l.getD 0 0) (b + 1))) ++ List.take (m + 1) (List.drop 0 (List.map gi l))) 3 2 false)).get (nG1 + 2) = Option.some (.cells X 3 2 false) ∧ (List.length l = (m + 1) ∧ (1 : Nat) ≤ (m + 1) ∧ ((m + 1) : Nat) ≤ 65536 ∧ List.length X = p ∧ (1 : Nat) ≤ p ∧ List.all X (flat 3) = true ∧ ((p + z) : Nat) ≤ 65536 ∧ (2 = 1 ∨ (2 = 2 ∨ 2 = 3))) ∧ (∀ _ : Nat → Value, (∀ y3 : AHeap, (y3.get (nG1 + 1) = Option.some (.cells (X ++ aP (fun x => l.getD (m + 1 - 1) 0) z) 3 2 false) → K (slO (p + z) (p + z)) y3)))))))) := by kernel_rfl
end Go.Proofs.YthgojmebbhpbbaaGreatDoor
/-! (OWN WORK. Kernels: the entries of lists that are turned, padded, read; what a law asks of them.) -/
namespace Go.Proofs.YthgojmebbhpbbaaGreatDoor
open Go Go.Am
def tuC : List Int → List Value → Prop := fun l r => r = [] ∧ l ≠ []
noncomputable def tuO : List Int → List Value → Out := fun l _ => .fresh (slM l.length) (l.reverse.map gi) 3
def inC : List Nat → List Value → Prop := fun l r => (r = [] ∧ l ≠ []) ∧ ∀ x ∈ l, smpE x = 0
noncomputable def inO : List Nat → List Value → Out := fun l _ => .fresh (slM l.length) ((l.map unitE).map gi) 3
def paC : List Int → List Value → Prop := fun l r => l ≠ [] ∧ ∃ a b : Nat, r = [goN a, goN b] ∧ a + l.length + b ≤ 65536
noncomputable def paO : List Int → List Value → Out := fun l r => match r with
 | [.int .i64 (.ofNat a), .int .i64 (.ofNat b)] => .fresh (slM (a + l.length + b)) ((padL l a b).map gi) 3
 | _ => .plain nilS
noncomputable def orcSa : Orc := orElse 24 (lstI Tryz.prog.globals.size tF inC inO) (orElse 26 (lstI Tryz.prog.globals.size tI paC paO) (orElse 23 (lstI Tryz.prog.globals.size tI tuC tuO) orcKz))
theorem pad_cells (l : List Int) (a b : Nat) : ((List.replicate a (l.getD 0 0)).map gi ++ l.map gi) ++ aP (fun _ => l.getD (l.length - 1) 0) b = (padL l a b).map gi := by
 rw [aP_rep]
 unfold padL
 rw [List.map_append, List.map_append]
theorem one_ints (l : List Int) : (l.map gi).all Value.oneCell' = true := by
 rw [List.all_eq_true]
 intro x hx
 obtain ⟨z, _, rfl⟩ := List.mem_map.1 hx
 rfl
set_option maxRecDepth 100000 in
theorem pa_call (l : List Int) (a b m e row k : Nat) (hl : l.length = m + 1) (hs : a + l.length + b ≤ 65536) : CallJ Tryz.prog 26 #[liP (m + 1) k, goN a, goN b] (canon Tryz.prog [(l.map gi, e, row)]) (paO l [goN a, goN b]).Got := by
 have ht : List.take (m + 1) (List.drop 0 (l.map gi)) = l.map gi := by
  rw [List.drop_zero, List.take_of_length_le (by rw [List.length_map]; omega)]
 have h1 : Nat.ble (0 + (m + 1)) (l.map gi).length = true := by rw [Nat.ble_eq, List.length_map]; omega
 have fin : ∀ (h' : AHeap) (n : Nat), n = a + l.length + b → h'.get (nG1 + 1) = some (.cells ((padL l a b).map gi) 3 2 false) → (paO l [goN a, goN b]).Got (slO n n) h' := fun h' n hn hg => by
  subst hn
  exact ⟨nG1 + 1, rfl, hg⟩
 cases a with
 | zero =>
  refine callC_ok mixed orcKz_ok (askKz_ok 1) (Eq.mpr (pa_run0 l (l.map gi) m e row k b (m + 1) _) ⟨rfl, rfl, rfl, rfl, rfl, rfl, by kernel_rfl, ⟨hl, by omega, by omega⟩, fun _ _ => ⟨h1, by rw [Nat.ble_eq]; omega, rfl, rfl, rfl, rfl, rfl, ?_, ?_, ⟨hl, by omega, by omega, by rw [List.length_map, hl], by omega, flat_ints l, by omega, .inl rfl⟩, fun _ h' hg => ?_⟩, fun h0 => absurd h0 (Nat.lt_irrefl 0)⟩)
  ·rw [AHeap.get_push_ne (by kernel_rfl)]
   exact gH1_src _ _ _
  ·rw [AHeap.get_push_eq (by kernel_rfl), ht]
  ·refine fin h' (m + 1 + b) (by omega) ?_
   rw [hg, ← pad_cells, hl] <;> rfl
 | succ a =>
  refine callC_ok mixed orcKz_ok (askKz_ok 1) (Eq.mpr (pa_runS l ((List.replicate (a + 1) (l.getD 0 0)).map gi ++ l.map gi) m e row k a b (a + 1 + (m + 1)) _) ⟨rfl, rfl, rfl, rfl, rfl, rfl, by kernel_rfl, ⟨hl, by omega, by omega⟩, fun h => by omega, fun _ _ => ⟨by omega, by rw [List.length_map]; omega, by rw [aP_length]; omega, ble_no (by omega), by rw [Nat.ble_eq]; omega, by rw [ht]; exact one_ints l, rfl, rfl, rfl, rfl, rfl, ?_, ?_, ⟨hl, by omega, by omega, by simp; omega, by omega, by rw [List.all_append, flat_ints, flat_ints]; rfl, by omega, .inr (.inl rfl)⟩, fun _ h' hg => ?_⟩⟩)
  ·rw [AHeap.get_push_ne (by kernel_rfl), AHeap.get_set_neB (by kernel_rfl)]
   exact gH2_src _ _ _ _ _
  ·rw [AHeap.get_push_eq (by kernel_rfl), ht, List.drop_zero, List.take_of_length_le (by rw [aP_length]; omega), aP_rep]
  ·refine fin h' (a + 1 + (m + 1) + b) (by omega) ?_
   rw [hg, ← pad_cells, hl] <;> rfl
set_option maxRecDepth 100000 in
theorem orcSa_ok : OrcOk Tryz.prog orcSa := by
 refine lstI_ok globs_pos (lstI_ok globs_pos (lstI_ok globs_pos orcKz_ok (fun l r _ => ⟨names_sl _, flat_ints _⟩) (fun r h => absurd rfl h.2) (fun r k h => absurd rfl h.2) fun l r m e row k h hl h1 => ?_) (fun l r h => ?_) (fun r h => absurd rfl h.1) (fun r k h => absurd rfl h.1) fun l r m e row k h hl h1 => ?_) (fun l r _ => ⟨names_sl _, flat_ints _⟩) (fun r h => absurd rfl h.1.2) (fun r k h => absurd rfl h.1.2) fun l r m e row k h hl h1 => ?_
 ·obtain ⟨rfl, _⟩ := h
  refine callC_ok mixed orcKz_ok (askKz_ok 1) (Eq.mpr (tu_run l m e row k _) ⟨rfl, rfl, rfl, rfl, rfl, by kernel_rfl, ⟨hl, by omega, h1⟩, fun _ h' hg => ?_⟩)
  unfold tuO
  rw [hl]
  exact ⟨nG1 + 1, rfl, hg⟩
 ·obtain ⟨_, a, b, rfl, _⟩ := h
  exact ⟨names_sl _, flat_ints _⟩
 ·obtain ⟨_, a, b, rfl, hs⟩ := h
  exact pa_call l a b m e row k hl hs
 ·obtain ⟨⟨rfl, _⟩, hu⟩ := h
  refine callC_ok mixed orcKz_ok (askKz_ok 1) (Eq.mpr (in_run l m e row k _) ⟨rfl, rfl, rfl, rfl, by kernel_rfl, ⟨hl, by omega, h1, hu⟩, fun _ h' hg => ?_⟩)
  unfold inO
  rw [hl]
  exact ⟨nG1 + 1, rfl, hg⟩
noncomputable def tuVY (l : List Int) (r : List Value) (K : Out → Prop) : Prop := r = [] ∧ ∃ m, l.length = m + 1 ∧ K (.fresh (slM (m + 1)) (l.reverse.map gi) 3)
theorem tuVY_ok (l : List Int) (r : List Value) (K : Out → Prop) (h : tuVY l r K) : ∃ o, ifX tuC tuO l r = some o ∧ K o := by
 obtain ⟨rfl, m, hm, hk⟩ := h
 refine ⟨_, if_pos ⟨rfl, fun q => by rw [q] at hm; simp at hm⟩, ?_⟩
 unfold tuO
 rw [hm]; exact hk
noncomputable def inVY (l : List Nat) (r : List Value) (K : Out → Prop) : Prop := r = [] ∧ ∃ (L : List Int) (m : Nat), (l = L.map sampleE ∧ (∀ u ∈ L, Bd 16384 u) ∧ L.length = m + 1) ∧ K (.fresh (slM (m + 1)) (L.map gi) 3)
theorem inVY_ok (l : List Nat) (r : List Value) (K : Out → Prop) (h : inVY l r K) : ∃ o, ifX inC inO l r = some o ∧ K o := by
 obtain ⟨rfl, L, m, ⟨rfl, h1, h2⟩, hk⟩ := h
 refine ⟨_, if_pos ⟨⟨rfl, fun q => by have := congrArg List.length q; rw [List.length_map, h2] at this; simp at this⟩, fun x hx => ?_⟩, ?_⟩
 ·unfold inO
  rw [units_made h1, List.length_map, h2]; exact hk
 ·obtain ⟨u, hu, rfl⟩ := List.mem_map.1 hx
  exact smp_made (h1 u hu)
noncomputable def paVY (l : List Int) (r : List Value) (K : Out → Prop) : Prop := ∃ a b m q : Nat, (r = [goN a, goN b] ∧ l.length = m + 1 ∧ a + (m + 1) + b = q + 1 ∧ q + 1 ≤ 65536) ∧ K (.fresh (slM (q + 1)) ((padL l a b).map gi) 3)
theorem paVY_ok (l : List Int) (r : List Value) (K : Out → Prop) (h : paVY l r K) : ∃ o, ifX paC paO l r = some o ∧ K o := by
 obtain ⟨a, b, m, q, ⟨rfl, hm, hq, h1⟩, hk⟩ := h
 refine ⟨_, if_pos ⟨fun q => by rw [q] at hm; simp at hm, a, b, rfl, by omega⟩, ?_⟩
 show K (.fresh (slM (a + l.length + b)) _ _)
 rw [hm, hq]; exact hk
noncomputable def askSt : Asks :=
 overA 11 (asks2 Tryz.prog.globals.size 11 tF tI (flZY wtsE sqW) noA)
 (overA 8 (asks2 Tryz.prog.globals.size 8 tF tI (flZY List.reverse sumW) noA)
 (overA 12 (asksT' Tryz.prog.globals.size 12 tI (wVY true) noA)
 (overA 22 (asksT' Tryz.prog.globals.size 22 tI mdZY noA)
 (asksT' Tryz.prog.globals.size 24 tF inVY (asksT' Tryz.prog.globals.size 26 tI paVY (asksT' Tryz.prog.globals.size 23 tI tuVY (askKz 1)))))))
end Go.Proofs.YthgojmebbhpbbaaGreatDoor
/-! (OWN WORK. Stays: rounds of the law's loops.) -/
namespace Go.Proofs.YthgojmebbhpbbaaGreatDoor
open Go Go.Am
theorem sa_first (ck cl cn : List Value) (ek rk el rl en rn nk kk n kl : Nat) (c : Int) (j : Nat) (g : Nat → Value) (Q : Exit → List Value → AHeap → Prop) : execC Tryz.prog (exec Tryz.prog orcKz 10) (syOf [(71, 1)]) (askKz 1) (noLoops _) 40 (loopOf Tryz.prog 4 0) (stOf 381 [(0, slX nG1 nk kk), (1, slX (nG1 + 1) n kl), (5, ptP (nG1 + 2)), (7, gi c), (8, nilS), (9, nilS), (69, goN n), (70, goN j)] g) (canonT [] (fun _ => 0) Tryz.prog.globals.size [(ck, ek, rk, true), (cl, el, rl, true), (cn, en, rn, false)]) (told 381 [0, 1, 5, 7, 8, 9, 69, 70] Q) = (((Nat.blt j n = true → Q .normal [slX nG1 nk kk, slX (nG1 + 1) n kl, ptP (nG1 + 2), gi c, Value.slice (some ⟨nG1 + 4, 0, none⟩) 1 1, nilS, goN n, gi (fwrap IntKind.i64 (Int.ofNat (j + 1)))] (((gC Tryz.prog [(ck, ek, rk, true), (cl, el, rl, true), (cn, en, rn, false)]).push (.cells [gi c] 3 2 false)).push (.cells ([] ++ [gi c]) 3 2 false))) ∧ (Nat.blt j n = false → Q (.exit 0) [slX nG1 nk kk, slX (nG1 + 1) n kl, ptP (nG1 + 2), gi c, nilS, nilS, goN n, goN j] (gC Tryz.prog [(ck, ek, rk, true), (cl, el, rl, true), (cn, en, rn, false)])))) := by kernel_rfl
theorem sa_next (ck cl cn : List Value) (ek rk el rl en rn nk kk n kl : Nat) (c : Int) (j : Nat) (cs : List Value) (q : Nat) (g : Nat → Value) (Q : Exit → List Value → AHeap → Prop) : execC Tryz.prog (exec Tryz.prog orcKz 10) (syOf [(71, 1), (75, 10)]) (askKz 1) (noLoops _) 40 (loopOf Tryz.prog 4 0) (stOf 381 [(0, slX nG1 nk kk), (1, slX (nG1 + 1) n kl), (5, ptP (nG1 + 2)), (7, gi c), (8, slX (nG1 + 3) q q), (9, nilS), (69, goN n), (70, goN j)] g) (canonT [] (fun _ => 0) Tryz.prog.globals.size [(ck, ek, rk, true), (cl, el, rl, true), (cn, en, rn, false), (cs, 3, 2, false)]) (told 381 [0, 1, 5, 7, 8, 9, 69, 70] Q) = (((Nat.blt j n = true → (Nat.ble (q + 1) q = false ∧ Nat.ble (((2 * (q + 1)) + 256) * 8) 281474976710656 = true ∧ (q * 1) = List.length cs ∧ Q .normal [slX nG1 nk kk, slX (nG1 + 1) n kl, ptP (nG1 + 2), gi c, Value.slice (some ⟨nG1 + 5, 0, none⟩) (q + 1) (q + 1), nilS, goN n, gi (fwrap IntKind.i64 (Int.ofNat (j + 1)))] ((((gC Tryz.prog [(ck, ek, rk, true), (cl, el, rl, true), (cn, en, rn, false), (cs, 3, 2, false)]).push (.cells [gi c] 3 2 false)).set (nG1 + 3) (.dead)).push (.cells (cs ++ [gi c]) 3 2 false)))) ∧ (Nat.blt j n = false → Q (.exit 0) [slX nG1 nk kk, slX (nG1 + 1) n kl, ptP (nG1 + 2), gi c, slX (nG1 + 3) q q, nilS, goN n, goN j] (gC Tryz.prog [(ck, ek, rk, true), (cl, el, rl, true), (cn, en, rn, false), (cs, 3, 2, false)])))) := by kernel_rfl
theorem sb_first (ck cl cn : List Value) (ek rk el rl en rn nk kk n kl : Nat) (c : Int) (j : Nat) (m : Nat) (cs : List Value) (g : Nat → Value) (Q : Exit → List Value → AHeap → Prop) : execC Tryz.prog (exec Tryz.prog orcKz 10) (syOf [(80, 1), (81, 2), (82, 3)]) (askKz 1) (noLoops _) 40 (loopOf Tryz.prog 4 2) (stOf 381 [(0, slX nG1 nk kk), (1, slX (nG1 + 1) n kl), (5, ptP (nG1 + 2)), (7, gi c), (8, slX (nG1 + 3) m m), (9, nilS), (77, slX (nG1 + 1) n kl), (78, goN n), (79, goN j)] g) (canonT [] (fun _ => 0) Tryz.prog.globals.size [(ck, ek, rk, true), (cl, el, rl, true), (cn, en, rn, false), (cs, 3, 2, false)]) (told 381 [0, 1, 5, 7, 8, 9, 77, 78, 79] Q) = (((Nat.blt j n = true → (Nat.blt j n = true ∧ cl[(0 + (j * 1))]? = Option.some (Value.int .i8 (intAt cl (0 + (j * 1)))) ∧ Q .normal [slX nG1 nk kk, slX (nG1 + 1) n kl, ptP (nG1 + 2), gi c, slX (nG1 + 3) m m, Value.slice (some ⟨nG1 + 5, 0, none⟩) 1 1, slX (nG1 + 1) n kl, goN n, gi (fwrap IntKind.i64 (Int.ofNat (j + 1)))] (((gC Tryz.prog [(ck, ek, rk, true), (cl, el, rl, true), (cn, en, rn, false), (cs, 3, 2, false)]).push (.cells [gi (Int.tmod (fwrap IntKind.i64 (intAt cl (0 + (j * 1)))) 31)] 3 2 false)).push (.cells ([] ++ [gi (Int.tmod (fwrap IntKind.i64 (intAt cl (0 + (j * 1)))) 31)]) 3 2 false)))) ∧ (Nat.blt j n = false → Q (.exit 2) [slX nG1 nk kk, slX (nG1 + 1) n kl, ptP (nG1 + 2), gi c, slX (nG1 + 3) m m, nilS, slX (nG1 + 1) n kl, goN n, goN j] (gC Tryz.prog [(ck, ek, rk, true), (cl, el, rl, true), (cn, en, rn, false), (cs, 3, 2, false)])))) := by kernel_rfl
theorem sb_next (ck cl cn : List Value) (ek rk el rl en rn nk kk n kl : Nat) (c : Int) (j : Nat) (m q : Nat) (cs cw : List Value) (g : Nat → Value) (Q : Exit → List Value → AHeap → Prop) : execC Tryz.prog (exec Tryz.prog orcKz 10) (syOf [(80, 1), (81, 2), (82, 3), (88, 10)]) (askKz 1) (noLoops _) 40 (loopOf Tryz.prog 4 2) (stOf 381 [(0, slX nG1 nk kk), (1, slX (nG1 + 1) n kl), (5, ptP (nG1 + 2)), (7, gi c), (8, slX (nG1 + 3) m m), (9, slX (nG1 + 4) q q), (77, slX (nG1 + 1) n kl), (78, goN n), (79, goN j)] g) (canonT [] (fun _ => 0) Tryz.prog.globals.size [(ck, ek, rk, true), (cl, el, rl, true), (cn, en, rn, false), (cs, 3, 2, false), (cw, 3, 2, false)]) (told 381 [0, 1, 5, 7, 8, 9, 77, 78, 79] Q) = (((Nat.blt j n = true → (Nat.blt j n = true ∧ cl[(0 + (j * 1))]? = Option.some (Value.int .i8 (intAt cl (0 + (j * 1)))) ∧ Nat.ble (q + 1) q = false ∧ Nat.ble (((2 * (q + 1)) + 256) * 8) 281474976710656 = true ∧ (q * 1) = List.length cw ∧ Q .normal [slX nG1 nk kk, slX (nG1 + 1) n kl, ptP (nG1 + 2), gi c, slX (nG1 + 3) m m, Value.slice (some ⟨nG1 + 6, 0, none⟩) (q + 1) (q + 1), slX (nG1 + 1) n kl, goN n, gi (fwrap IntKind.i64 (Int.ofNat (j + 1)))] ((((gC Tryz.prog [(ck, ek, rk, true), (cl, el, rl, true), (cn, en, rn, false), (cs, 3, 2, false), (cw, 3, 2, false)]).push (.cells [gi (Int.tmod (fwrap IntKind.i64 (intAt cl (0 + (j * 1)))) 31)] 3 2 false)).set (nG1 + 4) (.dead)).push (.cells (cw ++ [gi (Int.tmod (fwrap IntKind.i64 (intAt cl (0 + (j * 1)))) 31)]) 3 2 false)))) ∧ (Nat.blt j n = false → Q (.exit 2) [slX nG1 nk kk, slX (nG1 + 1) n kl, ptP (nG1 + 2), gi c, slX (nG1 + 3) m m, slX (nG1 + 4) q q, slX (nG1 + 1) n kl, goN n, goN j] (gC Tryz.prog [(ck, ek, rk, true), (cl, el, rl, true), (cn, en, rn, false), (cs, 3, 2, false), (cw, 3, 2, false)])))) := by kernel_rfl
theorem sc_body (ck cn cw cx : List Value) (ek rk en rn nk kk m : Nat) (by_ s : Int) (n j : Nat) (g : Nat → Value) (Q : Exit → List Value → AHeap → Prop) : execC Tryz.prog (exec Tryz.prog orcKz 10) (syOf [(149, 1), (151, 2), (152, 3), (155, 33), (160, 33), (162, 33), (163, 2), (164, 3), (165, 32)]) (askKz 1) (noLoops _) 40 (loopOf Tryz.prog 4 4) (stOf 381 [(0, slX nG1 nk kk), (5, ptP (nG1 + 1)), (9, slX (nG1 + 2) m m), (16, slX (nG1 + 3) n n), (17, gi by_), (19, gi s), (146, slX (nG1 + 3) n n), (147, goN n), (148, goN j)] g) (canonT [] (fun _ => 0) Tryz.prog.globals.size [(ck, ek, rk, true), (cn, en, rn, false), (cw, 3, 2, false), (cx, 3, 2, false)]) (told 381 [0, 5, 9, 16, 17, 19, 146, 147, 148] Q) = (((Nat.blt j n = true → (Nat.blt j n = true ∧ cx[(0 + (j * 1))]? = Option.some (gi (intAt cx (0 + (j * 1)))) ∧ inI64 (s + intAt cx (0 + (j * 1))) = true ∧ inI64 (Int.ofNat n - 1) = true ∧ inI64 ((Int.ofNat n - 1) - Int.ofNat j) = true ∧ ahasIndex ((Int.ofNat n - 1) - Int.ofNat j) n = true ∧ cx[(0 + (Int.toNat ((Int.ofNat n - 1) - Int.ofNat j) * 1))]? = Option.some (gi (intAt cx (0 + (Int.toNat ((Int.ofNat n - 1) - Int.ofNat j) * 1)))) ∧ (!(ieq (intAt cx (0 + (j * 1))) (intAt cx (0 + (Int.toNat ((Int.ofNat n - 1) - Int.ofNat j) * 1))))) = false ∧ Q .normal [slX nG1 nk kk, ptP (nG1 + 1), slX (nG1 + 2) m m, slX (nG1 + 3) n n, gi by_, gi (s + intAt cx (0 + (j * 1))), slX (nG1 + 3) n n, goN n, gi (fwrap IntKind.i64 (Int.ofNat (j + 1)))] (gC Tryz.prog [(ck, ek, rk, true), (cn, en, rn, false), (cw, 3, 2, false), (cx, 3, 2, false)]))) ∧ (Nat.blt j n = false → Q (.exit 4) [slX nG1 nk kk, ptP (nG1 + 1), slX (nG1 + 2) m m, slX (nG1 + 3) n n, gi by_, gi s, slX (nG1 + 3) n n, goN n, goN j] (gC Tryz.prog [(ck, ek, rk, true), (cn, en, rn, false), (cw, 3, 2, false), (cx, 3, 2, false)])))) := by kernel_rfl
theorem sd_body (ck cn cw cx : List Value) (ek rk en rn nk kk m : Nat) (ct cb : List Value) (q p j : Nat) (g : Nat → Value) (Q : Exit → List Value → AHeap → Prop) : execC Tryz.prog (exec Tryz.prog orcKz 10) (syOf [(238, 1), (240, 2), (241, 3), (246, 2), (10246, 4)]) (askKz 1) (noLoops _) 40 (loopOf Tryz.prog 4 6) (stOf 381 [(0, slX nG1 nk kk), (5, ptP (nG1 + 1)), (9, slX (nG1 + 2) m m), (22, slX (nG1 + 3) q q), (27, slX (nG1 + 4) p p), (28, gi 0), (29, slX (nG1 + 5) m m), (235, slX (nG1 + 2) m m), (236, goN m), (237, goN j)] g) (canonT [] (fun _ => 0) Tryz.prog.globals.size [(ck, ek, rk, true), (cn, en, rn, false), (cw, 3, 2, false), (ct, 50, 2, false), (cb, 50, 2, false), (cx, 3, 2, false)]) (told 381 [0, 5, 9, 22, 27, 28, 29, 235, 236, 237] Q) = (((Nat.blt j m = true → (Nat.blt j m = true ∧ cw[(0 + (j * 1))]? = Option.some (gi (intAt cw (0 + (j * 1)))) ∧ Nat.blt j m = true ∧ Nat.ble ((0 + (j * 1)) + List.length [gi (IntKind.wrap .i64 (0 - intAt cw (0 + (j * 1))))]) (List.length cx) = true ∧ Q .normal [slX nG1 nk kk, ptP (nG1 + 1), slX (nG1 + 2) m m, slX (nG1 + 3) q q, slX (nG1 + 4) p p, gi 0, slX (nG1 + 5) m m, slX (nG1 + 2) m m, goN m, gi (fwrap IntKind.i64 (Int.ofNat (j + 1)))] ((gC Tryz.prog [(ck, ek, rk, true), (cn, en, rn, false), (cw, 3, 2, false), (ct, 50, 2, false), (cb, 50, 2, false), (cx, 3, 2, false)]).set (nG1 + 5) (.cells (splice cx (0 + (j * 1)) [gi (IntKind.wrap .i64 (0 - intAt cw (0 + (j * 1))))]) 3 2 false)))) ∧ (Nat.blt j m = false → Q (.exit 6) [slX nG1 nk kk, ptP (nG1 + 1), slX (nG1 + 2) m m, slX (nG1 + 3) q q, slX (nG1 + 4) p p, gi 0, slX (nG1 + 5) m m, slX (nG1 + 2) m m, goN m, goN j] (gC Tryz.prog [(ck, ek, rk, true), (cn, en, rn, false), (cw, 3, 2, false), (ct, 50, 2, false), (cb, 50, 2, false), (cx, 3, 2, false)])))) := by kernel_rfl
theorem se_body (ck cn cw cx : List Value) (ek rk en rn nk kk m : Nat) (ct : List Value) (q n j : Nat) (g : Nat → Value) (Q : Exit → List Value → AHeap → Prop) : execC Tryz.prog (exec Tryz.prog orcKz 10) (syOf [(282, 1), (284, 2), (285, 3), (289, 2), (290, 3), (291, 7), (292, 33), (294, 1), (297, 32)]) (askKz 1) (noLoops _) 40 (loopOf Tryz.prog 4 8) (stOf 381 [(0, slX nG1 nk kk), (5, ptP (nG1 + 1)), (9, slX (nG1 + 2) m m), (22, slX (nG1 + 3) q q), (279, slX (nG1 + 4) n n), (280, goN n), (281, goN j)] g) (canonT [] (fun _ => 0) Tryz.prog.globals.size [(ck, ek, rk, true), (cn, en, rn, false), (cw, 3, 2, false), (ct, 50, 2, false), (cx, 3, 2, false)]) (told 381 [0, 5, 9, 22, 279, 280, 281] Q) = (((Nat.blt j n = true → (Nat.blt j n = true ∧ cx[(0 + (j * 1))]? = Option.some (gi (intAt cx (0 + (j * 1)))) ∧ Nat.blt j q = true ∧ ct[(0 + (j * 1))]? = Option.some (gf (floatAt ct (0 + (j * 1)))) ∧ ieq (smpE (floatAt ct (0 + (j * 1)))) 0 = true ∧ inI64 (intAt cx (0 + (j * 1)) + unitE (floatAt ct (0 + (j * 1)))) = true ∧ ((!(ieq (intAt cx (0 + (j * 1)) + unitE (floatAt ct (0 + (j * 1)))) 0)) = true → ((!(ieq (intAt cx (0 + (j * 1)) + unitE (floatAt ct (0 + (j * 1)))) 1)) = false ∧ Q .normal [slX nG1 nk kk, ptP (nG1 + 1), slX (nG1 + 2) m m, slX (nG1 + 3) q q, slX (nG1 + 4) n n, goN n, gi (fwrap IntKind.i64 (Int.ofNat (j + 1)))] (gC Tryz.prog [(ck, ek, rk, true), (cn, en, rn, false), (cw, 3, 2, false), (ct, 50, 2, false), (cx, 3, 2, false)]))) ∧ ((!(ieq (intAt cx (0 + (j * 1)) + unitE (floatAt ct (0 + (j * 1)))) 0)) = false → Q .normal [slX nG1 nk kk, ptP (nG1 + 1), slX (nG1 + 2) m m, slX (nG1 + 3) q q, slX (nG1 + 4) n n, goN n, gi (fwrap IntKind.i64 (Int.ofNat (j + 1)))] (gC Tryz.prog [(ck, ek, rk, true), (cn, en, rn, false), (cw, 3, 2, false), (ct, 50, 2, false), (cx, 3, 2, false)])))) ∧ (Nat.blt j n = false → Q (.exit 8) [slX nG1 nk kk, ptP (nG1 + 1), slX (nG1 + 2) m m, slX (nG1 + 3) q q, slX (nG1 + 4) n n, goN n, goN j] (gC Tryz.prog [(ck, ek, rk, true), (cn, en, rn, false), (cw, 3, 2, false), (ct, 50, 2, false), (cx, 3, 2, false)])))) := by kernel_rfl
end Go.Proofs.YthgojmebbhpbbaaGreatDoor
