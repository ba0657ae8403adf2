/-
  OWN WORK. The numbers in a stream, by the program and by the reference: their loops.
-/
import Derived.Test.YtphhcoiclkfimaaGreatDoorStF
import Derived.Test.YtphhcoiclkfimaaGreatDoorAm13
namespace Go.Proofs.YtphhcoiclkfimaaGreatDoor
open Go Go.Am

noncomputable abbrev bC (c : List Value) (e : TypeId) (row : Nat) : List Blk := [(c, e, row, true)]
noncomputable abbrev liQ (off n k : Nat) : Value := .slice (some ⟨Tryz.prog.globals.size, off, none⟩) n k
noncomputable def rdE (a b : Int) : Int := fwrap IntKind.i64 (fwrap IntKind.i16 (IntKind.wrap .u16 (Int.ofNat (HOr.hOr (Int.toNat (IntKind.wrap .u16 (fwrap IntKind.u16 a * 256) % 65536)) (Int.toNat (fwrap IntKind.u16 b % 65536))))))
theorem ru_first (c : List Value) (off n k e row i : Nat) (g : Nat → Value) (Q : Exit → List Value → AHeap → Prop) : execC Tryz.prog (exec Tryz.prog orcSd 10) (syOf [(7, 33), (10, 1), (15, 2), (16, 3), (21, 33), (22, 2), (23, 3), (30, 7)]) askSd (noLoops _) 40 (loopOf Tryz.prog 71 0) (stOf 34 [(0, liQ off n k), (3, nilS), (4, goN i)] g) (gC Tryz.prog (bC c e row)) (told 34 [0, 3, 4] Q) = ((inI64 (Int.ofNat (i + 1)) = true ∧ (Nat.blt (i + 1) n = true → (Nat.blt i n = true ∧ c[(off + (i * 1))]? = Option.some (Value.int .u8 (intAt c (off + (i * 1)))) ∧ inI64 (Int.ofNat (i + 1)) = true ∧ Nat.blt (i + 1) n = true ∧ c[(off + ((i + 1) * 1))]? = Option.some (Value.int .u8 (intAt c (off + ((i + 1) * 1)))) ∧ ((!(ilt (rdE (intAt c (off + (i * 1))) (intAt c (off + ((i + 1) * 1)))) (-65536))) && (!(ilt 65536 (rdE (intAt c (off + (i * 1))) (intAt c (off + ((i + 1) * 1))))))) = true ∧ Q .normal [liQ off n k, Value.slice (some ⟨N1 + 2, 0, none⟩) 1 1, gi (fwrap IntKind.i64 (Int.ofNat (i + 2)))] (((gC Tryz.prog (bC c e row)).push (.cells [gf (sampleE (rdE (intAt c (off + (i * 1))) (intAt c (off + ((i + 1) * 1)))))] 48 2 false)).push (.cells ([] ++ [gf (sampleE (rdE (intAt c (off + (i * 1))) (intAt c (off + ((i + 1) * 1)))))]) 48 2 false)))) ∧ (Nat.blt (i + 1) n = false → Q (.exit 0) [liQ off n k, nilS, goN i] (gC Tryz.prog (bC c e row))))) := by kernel_rfl
theorem ru_next (c c' : List Value) (off n k e row i m : Nat) (g : Nat → Value) (Q : Exit → List Value → AHeap → Prop) : execC Tryz.prog (exec Tryz.prog orcSd 10) (syOf [(7, 33), (10, 1), (15, 2), (16, 3), (21, 33), (22, 2), (23, 3), (30, 7), (32, 10)]) askSd (noLoops _) 40 (loopOf Tryz.prog 71 0) (stOf 34 [(0, liQ off n k), (3, slO m m), (4, goN i)] g) (gD Tryz.prog (bC c e row) c' 48) (told 34 [0, 3, 4] Q) = ((inI64 (Int.ofNat (i + 1)) = true ∧ (Nat.blt (i + 1) n = true → (Nat.blt i n = true ∧ c[(off + (i * 1))]? = Option.some (Value.int .u8 (intAt c (off + (i * 1)))) ∧ inI64 (Int.ofNat (i + 1)) = true ∧ Nat.blt (i + 1) n = true ∧ c[(off + ((i + 1) * 1))]? = Option.some (Value.int .u8 (intAt c (off + ((i + 1) * 1)))) ∧ ((!(ilt (rdE (intAt c (off + (i * 1))) (intAt c (off + ((i + 1) * 1)))) (-65536))) && (!(ilt 65536 (rdE (intAt c (off + (i * 1))) (intAt c (off + ((i + 1) * 1))))))) = true ∧ Nat.ble (m + 1) m = false ∧ Nat.ble (((2 * (m + 1)) + 256) * 4) 281474976710656 = true ∧ (m * 1) = List.length c' ∧ Q .normal [liQ off n k, Value.slice (some ⟨N1 + 3, 0, none⟩) (m + 1) (m + 1), gi (fwrap IntKind.i64 (Int.ofNat (i + 2)))] ((((gD Tryz.prog (bC c e row) c' 48).push (.cells [gf (sampleE (rdE (intAt c (off + (i * 1))) (intAt c (off + ((i + 1) * 1)))))] 48 2 false)).set (N1 + 1) (.dead)).push (.cells (c' ++ [gf (sampleE (rdE (intAt c (off + (i * 1))) (intAt c (off + ((i + 1) * 1)))))]) 48 2 false)))) ∧ (Nat.blt (i + 1) n = false → Q (.exit 0) [liQ off n k, slO m m, goN i] (gD Tryz.prog (bC c e row) c' 48)))) := by kernel_rfl
noncomputable def dec16 (a b : Int) : Int := if 32768 ≤ 256 * a + b then 256 * a + b - 65536 else 256 * a + b
theorem or_add {x y : Nat} (hy : y < 256) : (x * 256) ||| y = x * 256 + y := by
  have := Nat.shiftLeft_add_eq_or_of_lt (i := 8) (b := y) (by omega) x
  rw [Nat.shiftLeft_eq, show (2 : Nat) ^ 8 = 256 by decide] at this
  exact this.symm
theorem rdE_eq {a b : Int} (ha : inB a) (hb : inB b) : rdE a b = dec16 a b := by
  obtain ⟨x, rfl⟩ := Int.eq_ofNat_of_zero_le ha.1
  obtain ⟨y, rfl⟩ := Int.eq_ofNat_of_zero_le hb.1
  unfold inB at ha hb
  unfold rdE dec16
  have e1 : IntKind.wrap .u16 (fwrap IntKind.u16 (x : Int) * 256) = ((x * 256 : Nat) : Int) := by
    rw [← fwrap_eq, u16_mod, u16_mod]; omega
  have e2 : (((x * 256 : Nat) : Int) % 65536).toNat = x * 256 := by omega
  have e3 : (fwrap IntKind.u16 (y : Int) % 65536).toNat = y := by rw [u16_mod]; omega
  rw [e1, e2, e3, or_add (by omega), ← fwrap_eq, u16_mod]
  have e4 : ∀ z : Int, fwrap IntKind.i16 z = if 32768 ≤ z % 65536 then z % 65536 - 65536 else z % 65536 := fun z => by
    rw [fwrap_eq]
    simp [IntKind.wrap, IntKind.bits, IntKind.signed]
  rw [e4]
  have e5 : Int.ofNat (x * 256 + y) % 65536 % 65536 = 256 * (x : Int) + y := by simp only [Int.ofNat_eq_natCast]; omega
  rw [e5]
  split <;> exact fwrap_small (by omega) (by omega)
theorem dec16_le {a b : Int} (ha : inB a) (hb : inB b) : -32768 ≤ dec16 a b ∧ dec16 a b ≤ 32767 := by
  unfold inB at ha hb
  unfold dec16
  split <;> omega
noncomputable def rdU (L : List Int) (j : Nat) : List Int := (List.range j).map fun q => dec16 (L.getD (2 * q) 0) (L.getD (2 * q + 1) 0)
theorem rdU_length (L : List Int) (j : Nat) : (rdU L j).length = j := by simp [rdU]
theorem rdU_succ (L : List Int) (j : Nat) : rdU L (j + 1) = rdU L j ++ [dec16 (L.getD (2 * j) 0) (L.getD (2 * j + 1) 0)] := by simp [rdU, List.range_succ]
theorem getD_in {L : List Int} (h : ∀ x ∈ L, inB x) (i : Nat) : inB (L.getD i 0) := by
  rw [List.getD_eq_getElem?_getD]
  cases hi : L[i]? with
  | none => exact ⟨by decide, by decide⟩
  | some u => exact h _ (List.mem_of_getElem? hi)
noncomputable def rdF (L : List Int) (j : Nat) : List Value := ((rdU L j).map sampleE).map gf
theorem rdF_length (L : List Int) (j : Nat) : (rdF L j).length = j := by simp [rdF, rdU_length]
theorem rdF_succ (L : List Int) (j : Nat) : rdF L (j + 1) = rdF L j ++ [gf (sampleE (dec16 (L.getD (2 * j) 0) (L.getD (2 * j + 1) 0)))] := by simp [rdF, rdU_succ]
/-- A byte of a part of a block. -/
theorem byte_part {l : List Int} {off n i : Nat} (h : off + n ≤ l.length) (hi : i < n) : (l.map gb)[off + i * 1]? = some (Value.int .u8 (intAt (l.map gb) (off + i * 1))) ∧ intAt (l.map gb) (off + i * 1) = ((l.drop off).take n).getD i 0 := by
  have e : ((l.drop off).take n).getD i 0 = l[off + i] := by
    rw [List.getD_eq_getElem?_getD, List.getElem?_take, if_pos hi, List.getElem?_drop, List.getElem?_eq_getElem (by omega)]; rfl
  have h1 : (l.map gb)[off + i * 1]? = some (gb l[off + i]) := by rw [Nat.mul_one, List.getElem?_map, List.getElem?_eq_getElem (by omega)]; rfl
  have h2 : intAt (l.map gb) (off + i * 1) = l[off + i] := by unfold intAt; rw [h1]
  exact ⟨by rw [h2]; exact h1, by rw [h2, e]⟩
theorem bC_flat (l : List Int) (e row : Nat) : ∀ b ∈ bC (l.map gb) e row, b.1.all (flat 3) = true := by
  intro b hb
  obtain rfl := List.mem_singleton.1 hb
  exact flat_bytes l
noncomputable def ruV (off n k : Nat) : Nat → Value → List Value := fun j v => [liQ off n k, v, goN (2 * j)]
theorem smpW_in {u : Int} (h : -32768 ≤ u ∧ u ≤ 32767) : (!ilt u (-65536) && !ilt 65536 u) = true := by
  simp only [Bool.and_eq_true, ilt_dec, Bool.not_eq_true', decide_eq_false_iff_not]
  omega
set_option maxRecDepth 100000 in
theorem ru_loop (l : List Int) (off n e row k : Nat) (hl : off + n ≤ l.length) (hle : n ≤ 1000000) (hb : ∀ x ∈ (l.drop off).take n, inB x) : ∀ (a : AAct) (h : AHeap), GrownC Tryz.prog (bC (l.map gb) e row) 48 (ruV off n k) (fun j => rdF ((l.drop off).take n) j) 0 ([0, 3, 4].map a.tmp) h → a.n = 34 → a.marks = [] →
    J Tryz.prog (.loop (loopOf Tryz.prog 71 0)) a h (told 34 [0, 3, 4] fun ex vs h' => ex = .exit 0 ∧ ((n / 2 = 0 ∧ vs = [liQ off n k, nilS, goN (2 * (n / 2))] ∧ h' = gC Tryz.prog (bC (l.map gb) e row)) ∨ (0 < n / 2 ∧ vs = [liQ off n k, slO (n / 2) (n / 2), goN (2 * (n / 2))] ∧ h' = gD Tryz.prog (bC (l.map gb) e row) (rdF ((l.drop off).take n) (n / 2)) 48))) := by
  intro a h hG ha hk
  have len0 : ∀ j, rdF ((l.drop off).take n) j = [] → j = 0 := fun j hx => by
    have := congrArg List.length hx
    rw [rdF_length] at this
    exact this
  refine growC_rule (C := bC (l.map gb) e row) (el := 48) globs_pos (by decide) (by decide) (bC_flat l e row) (ruV off n k) (fun j => rdF ((l.drop off).take n) j) (n / 2) _ (fun j => flat_floats _) (fun j => by kernel_rfl) (fun j q d hd => by
      obtain rfl | rfl | rfl | rfl : d = 0 ∨ d = 1 ∨ d = 2 ∨ d = 3 := by omega
      all_goals kernel_rfl)
    (fun j v q hq => by match q, hq with | 0, _ => exact ⟨(0, liQ off n k), by simp [ruV], by simp [named]⟩) (fun j b q => ⟨(3, .slice (some ⟨b, 0, none⟩) q q), by simp [ruV], by simp [named]⟩) ?_ ?_ ?_ ?_ a h hG ha hk
  · intro j hj hx g
    obtain rfl := len0 j hx
    refine execC_ok mixed orcSd_ok askSd_ok (noLoops _) (Eq.mpr (ru_first _ off n k e row (2 * 0) g _) ⟨inI64_nat (by omega), fun _ => ?_, fun hge => ?_⟩)
    · obtain ⟨a1, a2⟩ := byte_part (i := 2 * 0) hl (by omega)
      obtain ⟨b1, b2⟩ := byte_part (i := 2 * 0 + 1) hl (by omega)
      have i1 := getD_in hb (2 * 0)
      have i2 := getD_in hb (2 * 0 + 1)
      rw [a2, b2, rdE_eq i1 i2]
      refine ⟨by rw [Nat.blt_eq]; omega, a2 ▸ a1, inI64_nat (by omega), by rw [Nat.blt_eq]; omega, b2 ▸ b1, smpW_in (dec16_le i1 i2), fun p b hb' => ?_, .inr ⟨N1 + 2, 1, rfl, by omega, fun hx => absurd (len0 _ hx) (by omega), ?_, ?_⟩⟩
      · match p, hb' with
        | 0, hb' => cases hb'; rw [AHeap.get_push_ne (by kernel_rfl), AHeap.get_push_ne (by kernel_rfl)]; exact gC_get (q := 0) rfl
      · show _ = ruV off n k (0 + 1) (.slice _ (rdF ((l.drop off).take n) (0 + 1)).length (rdF ((l.drop off).take n) (0 + 1)).length)
        rw [rdF_length, fwrap_nat (by omega)]; rfl
      · rw [AHeap.get_push_eq (by kernel_rfl)]
        show _ = some (AObj.cells (rdF ((l.drop off).take n) (0 + 1)) _ _ _)
        rw [rdF_succ]; rfl
    · have := blt_false hge; omega
  · intro j hj hx g
    show J _ _ (stOf 34 ([0, 3, 4].zip (ruV off n k j (slO (rdF ((l.drop off).take n) j).length (rdF ((l.drop off).take n) j).length))) g) _ _
    rw [rdF_length]
    refine execC_ok mixed orcSd_ok askSd_ok (noLoops _) (Eq.mpr (ru_next _ _ off n k e row (2 * j) j g _) ⟨inI64_nat (by omega), fun _ => ?_, fun hge => ?_⟩)
    · obtain ⟨a1, a2⟩ := byte_part (i := 2 * j) hl (by omega)
      obtain ⟨b1, b2⟩ := byte_part (i := 2 * j + 1) hl (by omega)
      have i1 := getD_in hb (2 * j)
      have i2 := getD_in hb (2 * j + 1)
      rw [a2, b2, rdE_eq i1 i2]
      refine ⟨by rw [Nat.blt_eq]; omega, a2 ▸ a1, inI64_nat (by omega), by rw [Nat.blt_eq]; omega, b2 ▸ b1, smpW_in (dec16_le i1 i2), ble_false' (by omega), by rw [Nat.ble_eq]; omega, by rw [rdF_length]; omega, fun p b hb' => ?_, .inr ⟨N1 + 3, 2, rfl, by omega, fun hx => absurd (len0 _ hx) (by omega), ?_, ?_⟩⟩
      · match p, hb' with
        | 0, hb' => cases hb'; rw [AHeap.get_push_ne (by kernel_rfl), AHeap.get_set_neB (by kernel_rfl), AHeap.get_push_ne (by kernel_rfl)]; exact gD_get (q := 0) rfl
      · show _ = ruV off n k (j + 1) (.slice _ (rdF ((l.drop off).take n) (j + 1)).length (rdF ((l.drop off).take n) (j + 1)).length)
        rw [rdF_length, fwrap_nat (by omega)]; rfl
      · rw [AHeap.get_push_eq (by kernel_rfl)]
        show _ = some (AObj.cells (rdF ((l.drop off).take n) (j + 1)) _ _ _)
        rw [rdF_succ]
    · have := blt_false hge; omega
  · intro hx g
    have h0 := len0 _ hx
    refine execC_ok mixed orcSd_ok askSd_ok (noLoops _) (Eq.mpr (ru_first _ off n k e row (2 * (n / 2)) g _) ⟨inI64_nat (by omega), fun hlt => ?_, fun _ => ⟨rfl, .inl ⟨h0, rfl, rfl⟩⟩⟩)
    have := blt_true hlt; omega
  · intro hx g
    have h0 : 0 < n / 2 := Nat.pos_of_ne_zero fun h0 => hx (by show rdF _ _ = []; rw [h0]; rfl)
    show J _ _ (stOf 34 ([0, 3, 4].zip (ruV off n k (n / 2) (slO (rdF ((l.drop off).take n) (n / 2)).length (rdF ((l.drop off).take n) (n / 2)).length))) g) _ _
    rw [rdF_length]
    refine execC_ok mixed orcSd_ok askSd_ok (noLoops _) (Eq.mpr (ru_next _ _ off n k e row (2 * (n / 2)) (n / 2) g _) ⟨inI64_nat (by omega), fun hlt => ?_, fun _ => ⟨rfl, .inr ⟨h0, rfl, rfl⟩⟩⟩)
    have := blt_true hlt; omega
end Go.Proofs.YtphhcoiclkfimaaGreatDoor
