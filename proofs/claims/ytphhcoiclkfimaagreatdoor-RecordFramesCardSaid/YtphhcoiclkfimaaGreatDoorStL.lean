/-
  OWN WORK. The samples of a stream, by the reference: Unpack.
-/
import Derived.Test.YtphhcoiclkfimaaGreatDoorStK
namespace Go.Proofs.YtphhcoiclkfimaaGreatDoor
open Go Go.Am

noncomputable def urLoops (l : List Int) (n e row k : Nat) (X : Int) (m t : Nat) : Loops Tryz.prog where
  body := fun _ => loopOf Tryz.prog 33 0
  spec := fun _ a h c => entry a 80 [(0, liP n k), (2, nilS), (3, gi 0), (4, gi X), (7, nilS), (8, goN 0)] (h.get N1 = some (.cells (l.map gb) e row true) ∧ X = Int.ofNat m ∧ (n ≤ l.length ∧ n ≤ 1000000 ∧ 6 + 2 * m ≤ n ∧ t ≤ m ∧ (∀ j : Nat, j < t → okW (puE ((l.take n).drop 6) j)) ∧ (t < m → okW (puE ((l.take n).drop 6) t) → False) ∧ ∀ x : Int, List.Mem x (l.take n) → inB x) ∧
    (t = m → t = 0 → ∀ g, c (.exit 0) (stOf 80 [(0, liP n k), (2, nilS), (3, gi 0), (4, goN m), (7, nilS), (8, goN t)] g) (gC Tryz.prog (bC (l.map gb) e row))) ∧
    (t = m → 0 < t → ∀ g, c (.exit 0) (stOf 80 [(0, liP n k), (2, nilS), (3, gi 0), (4, goN m), (7, slO t t), (8, goN t)] g) (gD Tryz.prog (bC (l.map gb) e row) (rdF ((l.take n).drop 6) t) 48)) ∧
    (t < m → t = 0 → ∀ g, c .ret (stOf 80 [(0, liP n k), (2, nilS), (3, gi 3), (4, goN m), (7, nilS), (8, goN t)] g) (gC Tryz.prog (bC (l.map gb) e row))) ∧
    (t < m → 0 < t → ∀ g, c .ret (stOf 80 [(0, liP n k), (2, nilS), (3, gi 3), (4, goN m), (7, slO t t), (8, goN t)] g) (gD Tryz.prog (bC (l.map gb) e row) (rdF ((l.take n).drop 6) t) 48)))
  ok := fun i a h c q => by
    obtain ⟨h1, h2, h3, g0, rfl, ⟨hs1, hs2, hs3, hs4, hs5, hs6, hs7⟩, k1, k2, k3, k4⟩ := entry_facts q
    refine J.of_told (ur_loop l n e row k m t hs1 hs2 hs3 hs4 hs5 hs6 hs7 a h ⟨fun q b hb => ?_, .inl ⟨rfl, ?_⟩⟩ h1 h2) ?_
    · match q, hb with
      | 0, hb => cases hb; exact g0
    · simp only [List.map_cons, List.map_nil]
      rw [h3 (0, liP n k) (by simp), h3 (2, nilS) (by simp), h3 (3, gi 0) (by simp), h3 (4, gi (Int.ofNat m)) (by simp), h3 (7, nilS) (by simp), h3 (8, goN 0) (by simp)]
      rfl
    · rintro ex vs h' g (⟨ht, rfl, ⟨h0, rfl, rfl⟩ | ⟨h0, rfl, rfl⟩⟩ | ⟨ht, rfl, ⟨h0, rfl, rfl⟩ | ⟨h0, rfl, rfl⟩⟩)
      · exact k1 ht h0 g
      · exact k2 ht h0 g
      · exact k3 ht h0 g
      · exact k4 ht h0 g
noncomputable def cntR (a b : Int) : Int := fwrap IntKind.i64 (fwrap IntKind.i64 (256 * fwrap IntKind.i64 a) + fwrap IntKind.i64 b)
theorem ur_run (l : List Int) (n e row k m t : Nat) (K : Value → AHeap → Prop) : callC Tryz.prog (exec Tryz.prog orcSj 10) (syOf [(12, 1), (15, 1), (17, 19), (18, 36), (19, 1), (21, 2), (22, 3), (26, 2), (27, 3), (35, 1), (38, 33), (42, 19), (43, 7), (45, 36), (48, 23), (49, 36), (50, 1), (52, 1)]) askSj (urLoops l n e row k (cntR (intAt (l.map gb) 4) (intAt (l.map gb) 5)) m t) 60 33 #[liP n k] (liH (l.map gb) e row) K = (((ilt 400000 (Int.ofNat n) = true → K (Value.tuple #[nilS, gi 26]) (liH (List.map gb l) e row)) ∧ (ilt 400000 (Int.ofNat n) = false → ((ilt (Int.ofNat n) 14 = true → K (Value.tuple #[nilS, gi 28]) (liH (List.map gb l) e row)) ∧ (ilt (Int.ofNat n) 14 = false → ((0 : Int) ≤ 4 ∧ (4 : Int) ≤ Int.ofNat k ∧ (0 : Nat) < k ∧ (n : Nat) ≤ k ∧ (∃ x1 : List Int, (List.map gb l = List.map (Value.int IntKind.u8) x1 ∧ (0 : Nat) < 4 ∧ (4 : Nat) ≤ List.length x1 ∧ ((!(mgB x1)) = true → K (Value.tuple #[nilS, gi 1]) (liH (List.map gb l) e row)) ∧ ((!(mgB x1)) = false → (ahasIndex 4 n = true ∧ (List.map gb l)[4]? = Option.some (Value.int .u8 (intAt (List.map gb l) 4)) ∧ ahasIndex 5 n = true ∧ (List.map gb l)[5]? = Option.some (Value.int .u8 (intAt (List.map gb l) 5)) ∧ ((!(ieq (Int.ofNat n) (fwrap IntKind.i64 (14 + fwrap IntKind.i64 (2 * cntR (intAt (List.map gb l) 4) (intAt (List.map gb l) 5)))))) = true → K (Value.tuple #[nilS, gi 2]) (liH (List.map gb l) e row)) ∧ ((!(ieq (Int.ofNat n) (fwrap IntKind.i64 (14 + fwrap IntKind.i64 (2 * cntR (intAt (List.map gb l) 4) (intAt (List.map gb l) 5)))))) = false → (inI64 (Int.ofNat n - 8) = true ∧ (0 : Int) ≤ (Int.ofNat n - 8) ∧ ((Int.ofNat n - 8) : Int) ≤ Int.ofNat k ∧ (0 : Nat) < k ∧ (n : Nat) ≤ k ∧ (∃ x2 : List Int, (List.map gb l = List.map gb x2 ∧ (0 : Nat) < Int.toNat (Int.ofNat n - 8) ∧ (Int.toNat (Int.ofNat n - 8) : Nat) ≤ List.length x2 ∧ (Int.toNat (Int.ofNat n - 8) : Nat) ≤ 1000000 ∧ (Int.toNat (Int.ofNat n - 8) : Nat) ≤ k ∧ in8 0 0 0 0 0 0 0 0 ∧ (∀ y3 : Int, (List.Mem y3 (List.take (Int.toNat (Int.ofNat n - 8)) x2) → inB y3)) ∧ (∀ y3 : Int, (∀ y4 : Int, (∀ y5 : Int, (∀ y6 : Int, (∀ y7 : Int, (∀ y8 : Int, (∀ y9 : Int, (∀ y10 : Int, ([y3, y4, y5, y6, y7, y8, y9, y10] = slK (List.take (Int.toNat (Int.ofNat n - 8)) x2) 0 0 0 0 0 0 0 0 → (∃ x11 : List Int, (([] ++ ([gb y3, gb y4, gb y5, gb y6, gb y7, gb y8, gb y9, gb y10] ++ [])) = List.map (Value.int IntKind.u8) x11 ∧ (0 : Nat) < 8 ∧ (8 : Nat) ≤ List.length x11 ∧ (0 : Int) ≤ (Int.ofNat n - 8) ∧ ((Int.ofNat n - 8) : Int) ≤ Int.ofNat n ∧ ((Int.ofNat n - 8) : Int) < Int.ofNat k ∧ (Nat.beq row 0 || Nat.beq row 2) = true ∧ (∃ x12 : List Int, (List.map gb l = List.map (Value.int IntKind.u8) x12 ∧ (0 : Nat) < (n - Int.toNat (Int.ofNat n - 8)) ∧ (((0 + (Int.toNat (Int.ofNat n - 8) * 1)) + (n - Int.toNat (Int.ofNat n - 8))) : Nat) ≤ List.length x12 ∧ ((!(BEq.beq (ByteArray.toList (strB (List.take 8 (List.drop 0 x11)))) (ByteArray.toList (strB (List.take (n - Int.toNat (Int.ofNat n - 8)) (List.drop (0 + (Int.toNat (Int.ofNat n - 8) * 1)) x12)))))) = true → K (Value.tuple #[nilS, gi 27]) (((liH (List.map gb l) e row).push (.cells [Value.int .u8 0, Value.int .u8 0, Value.int .u8 0, Value.int .u8 0, Value.int .u8 0, Value.int .u8 0, Value.int .u8 0, Value.int .u8 0] 47 0 false)).set (N1 + 1) (.cells ([] ++ ([gb y3, gb y4, gb y5, gb y6, gb y7, gb y8, gb y9, gb y10] ++ [])) 47 0 false))) ∧ ((!(BEq.beq (ByteArray.toList (strB (List.take 8 (List.drop 0 x11)))) (ByteArray.toList (strB (List.take (n - Int.toNat (Int.ofNat n - 8)) (List.drop (0 + (Int.toNat (Int.ofNat n - 8) * 1)) x12)))))) = false → ((ilt 4096 (cntR (intAt (List.map gb l) 4) (intAt (List.map gb l) 5)) = true → K (Value.tuple #[nilS, gi 5]) (((liH (List.map gb l) e row).push (.cells [Value.int .u8 0, Value.int .u8 0, Value.int .u8 0, Value.int .u8 0, Value.int .u8 0, Value.int .u8 0, Value.int .u8 0, Value.int .u8 0] 47 0 false)).set (N1 + 1) (.cells ([] ++ ([gb y3, gb y4, gb y5, gb y6, gb y7, gb y8, gb y9, gb y10] ++ [])) 47 0 false))) ∧ (ilt 4096 (cntR (intAt (List.map gb l) 4) (intAt (List.map gb l) 5)) = false → (loopOf Tryz.prog 33 0 = loopOf Tryz.prog 33 0 ∧ liP n k = liP n k ∧ nilS = nilS ∧ gi 0 = gi 0 ∧ gi (cntR (intAt (List.map gb l) 4) (intAt (List.map gb l) 5)) = gi (cntR (intAt (List.map gb l) 4) (intAt (List.map gb l) 5)) ∧ nilS = nilS ∧ gi 0 = goN 0 ∧ (((liH (List.map gb l) e row).push (.cells [Value.int .u8 0, Value.int .u8 0, Value.int .u8 0, Value.int .u8 0, Value.int .u8 0, Value.int .u8 0, Value.int .u8 0, Value.int .u8 0] 47 0 false)).set (N1 + 1) (.cells ([] ++ ([gb y3, gb y4, gb y5, gb y6, gb y7, gb y8, gb y9, gb y10] ++ [])) 47 0 false)).get (N1) = Option.some (.cells (List.map gb l) e row true) ∧ cntR (intAt (List.map gb l) 4) (intAt (List.map gb l) 5) = Int.ofNat m ∧ ((n : Nat) ≤ List.length l ∧ (n : Nat) ≤ 1000000 ∧ ((6 + (2 * m)) : Nat) ≤ n ∧ (t : Nat) ≤ m ∧ (∀ y13 : Nat, ((y13 : Nat) < t → okW (puE (List.drop 6 (List.take n l)) y13))) ∧ ((t : Nat) < m → (okW (puE (List.drop 6 (List.take n l)) t) → False)) ∧ (∀ y13 : Int, (List.Mem y13 (List.take n l) → inB y13))) ∧ (t = m → (t = 0 → (∀ _ : Nat → Value, K (Value.tuple #[nilS, gi 0]) (gC Tryz.prog (bC (List.map gb l) e row))))) ∧ (t = m → ((0 : Nat) < t → (∀ _ : Nat → Value, K (Value.tuple #[slO t t, gi 0]) (gD Tryz.prog (bC (List.map gb l) e row) (rdF (List.drop 6 (List.take n l)) t) 48)))) ∧ ((t : Nat) < m → (t = 0 → (∀ _ : Nat → Value, K (Value.tuple #[nilS, gi 3]) (gC Tryz.prog (bC (List.map gb l) e row))))) ∧ ((t : Nat) < m → ((0 : Nat) < t → (∀ _ : Nat → Value, K (Value.tuple #[nilS, gi 3]) (gD Tryz.prog (bC (List.map gb l) e row) (rdF (List.drop 6 (List.take n l)) t) 48))))))))))))))))))))))))))))))))))) := by kernel_rfl
theorem cntR_eq {a b : Int} (ha : inB a) (hb : inB b) : cntR a b = 256 * a + b := by
  unfold inB at ha hb
  unfold cntR
  rw [fwrap_small (x := a) (by omega) (by omega), fwrap_small (x := b) (by omega) (by omega), fwrap_small (x := 256 * a) (by omega) (by omega), fwrap_small (by omega) (by omega)]
theorem str_list (A : List Int) : ByteArray.toList (strB A) = A.map fun x => UInt8.ofNat x.toNat := by
  rw [ByteArray.toList_eq]; rfl
theorem u8_inj {x y : Int} (hx : inB x) (hy : inB y) (h : UInt8.ofNat x.toNat = UInt8.ofNat y.toNat) : x = y := by
  unfold inB at hx hy
  have := congrArg UInt8.toNat h
  rw [UInt8.toNat_ofNat', UInt8.toNat_ofNat'] at this
  omega
theorem str_inj : ∀ {A B : List Int}, (∀ x ∈ A, inB x) → (∀ x ∈ B, inB x) → (A.map fun x => UInt8.ofNat x.toNat) = (B.map fun x => UInt8.ofNat x.toNat) → A = B
  | [], [], _, _, _ => rfl
  | [], _ :: _, _, _, h => by cases h
  | _ :: _, [], _, _, h => by cases h
  | a :: A, b :: B, hA, hB, h => by
    rw [List.map_cons, List.map_cons] at h
    injection h with h1 h2
    rw [u8_inj (hA a (.head _)) (hB b (.head _)) h1, str_inj (fun x hx => hA x (.tail _ hx)) (fun x hx => hB x (.tail _ hx)) h2]
theorem str_same {A B : List Int} (hA : ∀ x ∈ A, inB x) (hB : ∀ x ∈ B, inB x) : BEq.beq (ByteArray.toList (strB A)) (ByteArray.toList (strB B)) = decide (A = B) := by
  by_cases h : A = B
  · subst h
    rw [beq_self_eq_true, decide_eq_true rfl]
  · rw [decide_eq_false h]
    cases hb : BEq.beq (ByteArray.toList (strB A)) (ByteArray.toList (strB B)) with
    | false => rfl
    | true =>
      have := eq_of_beq hb
      rw [str_list, str_list] at this
      exact absurd (str_inj hA hB this) h
theorem slK_in (l : List Int) : ∀ x ∈ slK l 0 0 0 0 0 0 0 0, inB x := by
  intro x hx
  unfold slK at hx
  simp only [List.mem_cons, List.not_mem_nil, or_false] at hx
  have h0 : inB 0 := by unfold inB; omega
  rcases hx with rfl | rfl | rfl | rfl | rfl | rfl | rfl | rfl <;> exact slF_in _ _ h0
theorem first_bad (Q : Nat → Prop) : ∀ m, ∃ t, t ≤ m ∧ (∀ j, j < t → Q j) ∧ (t < m → ¬ Q t)
  | 0 => ⟨0, Nat.le_refl _, fun j hj => absurd hj (by omega), fun h => absurd h (by omega)⟩
  | m + 1 => by
    obtain ⟨t, h1, h2, h3⟩ := first_bad Q m
    by_cases hm : t < m
    · exact ⟨t, by omega, h2, fun _ => h3 hm⟩
    · obtain rfl : t = m := by omega
      by_cases hq : Q t
      · refine ⟨t + 1, Nat.le_refl _, fun j hj => ?_, fun h => absurd h (by omega)⟩
        by_cases hj' : j = t
        · rw [hj']; exact hq
        · exact h2 j (by omega)
      · exact ⟨t, by omega, h2, fun _ => hq⟩
theorem smps_03 : ∀ us : List Int, (∀ u ∈ us, -65536 ≤ u ∧ u ≤ 65536) → ((∀ u ∈ us, okW u) → smpsE (us.map sampleE) = 0) ∧ ((∃ u ∈ us, ¬ okW u) → smpsE (us.map sampleE) = 3)
  | [], _ => ⟨fun _ => rfl, fun ⟨u, hu, _⟩ => by cases hu⟩
  | u :: us, hb => by
    obtain ⟨i1, i2⟩ := smps_03 us fun x hx => hb x (.tail _ hx)
    have e : smpsE ((u :: us).map sampleE) = bif ieq (smpE (sampleE u)) 0 then smpsE (us.map sampleE) else smpE (sampleE u) := rfl
    obtain ⟨b1, b2⟩ := hb u (.head _)
    rw [e, smp_sample b1 b2]
    by_cases hu : okW u
    · rw [if_pos (show -16384 ≤ u ∧ u ≤ 16384 from hu)]
      refine ⟨fun h => i1 fun x hx => h x (.tail _ hx), fun ⟨x, hx, hn⟩ => i2 ?_⟩
      rcases List.mem_cons.1 hx with rfl | hx
      · exact absurd hu hn
      · exact ⟨x, hx, hn⟩
    · rw [if_neg (show ¬ (-16384 ≤ u ∧ u ≤ 16384) from hu)]
      exact ⟨fun h => absurd (h u (.head _)) hu, fun _ => rfl⟩
theorem csE_big {l : List Nat} (h : 4096 < l.length) : csE l = 5 := by
  unfold csE whenS
  rw [ilt_dec, decide_eq_true (by simp only [Int.ofNat_eq_natCast]; omega)]; rfl
theorem csE_small {l : List Nat} (h : l.length ≤ 4096) : csE l = smpsE l := by
  unfold csE whenS
  rw [ilt_dec, decide_eq_false (by simp only [Int.ofNat_eq_natCast]; omega)]
  show (bif ieq (smpsE l) 0 then 0 else smpsE l) = smpsE l
  cases hz : ieq (smpsE l) 0 with
  | false => rfl
  | true =>
    rw [ieq_dec] at hz
    exact (of_decide_eq_true hz).symm
theorem rdU_mem {S : List Int} {m : Nat} {u : Int} : u ∈ rdU S m ↔ ∃ j, j < m ∧ u = puE S j := by
  unfold rdU
  rw [List.mem_map]
  constructor
  · rintro ⟨j, hj, rfl⟩
    exact ⟨j, by simpa using hj, rfl⟩
  · rintro ⟨j, hj, rfl⟩
    exact ⟨j, by simpa using hj, rfl⟩
set_option maxRecDepth 100000 in
theorem ur_call (l : List Int) (n k e row : Nat) (h0 : 0 < n) (h1 : n ≤ l.length) (h2 : n ≤ 1000000) (hk : n ≤ k) (hw : row = 0 ∨ row = 2) (hb : ∀ x ∈ l.take n, inB x) : CallJ Tryz.prog 33 #[liP n k] (liH (l.map gb) e row) (unOut (l.take n)).Got := by
  have hs : (l.take n).length = n := by rw [List.length_take]; omega
  have hrow : (Nat.beq row 0 || Nat.beq row 2) = true := by rcases hw with rfl | rfl <;> rfl
  obtain ⟨t, t1, t2, t3⟩ := first_bad (fun j => okW (puE ((l.take n).drop 6) j)) (cntN (l.take n))
  have bad : ∀ x, x ≠ 0 → ckE (l.take n) = x → (unOut (l.take n)) = .plain (.tuple #[nilS, gi x]) := fun x hx hc => by
    have hne : ckE (l.take n) ≠ 0 := by rw [hc]; exact hx
    rw [unOut_bad (by rw [unE_ck hne]; exact hne), unE_ck hne, hc]
  refine callC_ok mixed orcSj_ok askSj_ok (Eq.mpr (ur_run l n e row k (cntN (l.take n)) t _) ⟨fun c1 => ?_, fun c1 => ⟨fun c2 => ?_, fun c2 => ?_⟩⟩)
  · rw [bad 26 (by decide) (by unfold ckE; rw [hs, c1]; rfl)]; rfl
  · rw [bad 28 (by decide) (by unfold ckE; rw [hs, c1, c2]; rfl)]; rfl
  · have hn : 14 ≤ n := by
      rw [ilt_dec] at c2
      have := of_decide_eq_false c2
      simp only [Int.ofNat_eq_natCast] at this; omega
    have hn2 : n ≤ 400000 := by
      rw [ilt_dec] at c1
      have := of_decide_eq_false c1
      simp only [Int.ofNat_eq_natCast] at this; omega
    have hm := mgB_take (l := l) (n := n) (by omega)
    refine ⟨by omega, by simp only [Int.ofNat_eq_natCast]; omega, by omega, hk, l, rfl, by omega, by omega, fun c3 => ?_, fun c3 => ?_⟩
    · rw [← hm] at c3
      rw [bad 1 (by decide) (by unfold ckE; rw [hs, c1, c2, c3]; rfl)]; rfl
    · rw [← hm] at c3
      obtain ⟨a1, a2⟩ := byte_i (i := 4) h1 (by omega)
      obtain ⟨b1, b2⟩ := byte_i (i := 5) h1 (by omega)
      have i4 := getD_in hb 4
      have i5 := getD_in hb 5
      have hR : cntR (intAt (l.map gb) 4) (intAt (l.map gb) 5) = cntE (l.take n) := by rw [a2, b2, cntR_eq i4 i5]; rfl
      have hE : 0 ≤ cntE (l.take n) ∧ cntE (l.take n) ≤ 65535 := by
        unfold cntE
        unfold inB at i4 i5
        omega
      rw [hR]
      have hc : fwrap IntKind.i64 (14 + fwrap IntKind.i64 (2 * cntE (l.take n))) = 14 + 2 * cntE (l.take n) := by
        rw [fwrap_small (x := 2 * cntE (l.take n)) (by omega) (by omega), fwrap_small (by omega) (by omega)]
      rw [hc]
      refine ⟨by show Nat.blt 4 n = true; rw [Nat.blt_eq]; omega, a1, by show Nat.blt 5 n = true; rw [Nat.blt_eq]; omega, b1, fun c4 => ?_, fun c4 => ?_⟩
      · rw [bad 2 (by decide) (by unfold ckE; rw [hs, c1, c2, c3, c4]; rfl)]; rfl
      · have e8 : Int.ofNat n - 8 = ((n - 8 : Nat) : Int) := by simp only [Int.ofNat_eq_natCast]; omega
        have t8 : (Int.ofNat n - 8).toNat = n - 8 := by omega
        have hsub : ∀ x ∈ l.take (n - 8), inB x := fun x hx => hb x (by
          rw [show l.take (n - 8) = (l.take n).take (n - 8) by rw [List.take_take, Nat.min_eq_left (by omega)]] at hx
          exact List.mem_of_mem_take hx)
        refine ⟨inI64_small (by omega) (by omega), by omega, by rw [e8]; simp only [Int.ofNat_eq_natCast]; omega, by omega, hk, l, rfl, by rw [t8]; omega, by rw [t8]; omega, by rw [t8]; omega, by rw [t8]; omega, in8_zero, fun x hx => hsub x (by rw [t8] at hx; exact hx), fun y0 y1 y2 y3 y4 y5 y6 y7 hy => ⟨[y0, y1, y2, y3, y4, y5, y6, y7], rfl, by omega, by show 8 ≤ 8; omega, by omega, by omega, by rw [e8]; simp only [Int.ofNat_eq_natCast]; omega, hrow, l, rfl, by rw [t8]; omega, by rw [t8]; omega, ?_⟩⟩
        rw [t8] at hy
        have hD : List.take (n - (Int.ofNat n - 8).toNat) (List.drop (0 + (Int.ofNat n - 8).toNat * 1) l) = (l.take n).drop (n - 8) := by
          rw [t8, List.drop_take, Nat.mul_one, Nat.zero_add]
        have hY : ∀ x ∈ [y0, y1, y2, y3, y4, y5, y6, y7], inB x := by rw [hy]; exact slK_in _
        have hS : BEq.beq (ByteArray.toList (strB (List.take 8 (List.drop 0 [y0, y1, y2, y3, y4, y5, y6, y7])))) (ByteArray.toList (strB (List.take (n - (Int.ofNat n - 8).toNat) (List.drop (0 + (Int.ofNat n - 8).toNat * 1) l)))) = slB (l.take n) := by
          rw [hD, show List.take 8 (List.drop 0 [y0, y1, y2, y3, y4, y5, y6, y7]) = [y0, y1, y2, y3, y4, y5, y6, y7] from rfl, str_same hY (fun x hx => hb x (List.mem_of_mem_drop hx)), hy]
          unfold slB
          rw [hs, List.take_take, Nat.min_eq_left (by omega)]
          exact decide_eq_decide.2 eq_comm
        rw [hS]
        refine ⟨fun c5 => ?_, fun c5 => ?_⟩
        · rw [bad 27 (by decide) (by unfold ckE; rw [hs, c1, c2, c3, c4, c5]; rfl)]; rfl
        · have ck : ckE (l.take n) = 0 := by unfold ckE; rw [hs, c1, c2, c3, c4, c5]; rfl
          obtain ⟨e1, e2⟩ := cntN_eq ck
          rw [hs] at e1
          generalize hm : cntN (l.take n) = m at e1 e2 t1 t3 ⊢
          have hlen : (unL (l.take n)).length = m := by rw [unL_length, hm]
          have hus : ∀ u ∈ rdU ((l.take n).drop 6) m, -65536 ≤ u ∧ u ≤ 65536 := fun u hu => by
            obtain ⟨j, _, rfl⟩ := rdU_mem.1 hu
            have := dec16_le (a := ((l.take n).drop 6).getD (2 * j) 0) (b := ((l.take n).drop 6).getD (2 * j + 1) 0) (getD_in (fun x hx => hb x (List.mem_of_mem_drop hx)) _) (getD_in (fun x hx => hb x (List.mem_of_mem_drop hx)) _)
            unfold puE
            omega
          obtain ⟨g1, g2⟩ := smps_03 _ hus
          have hL : (rdU ((l.take n).drop 6) m).map sampleE = unL (l.take n) := by unfold unL; rw [hm]
          rw [hL] at g1 g2
          rw [e2]
          refine ⟨fun c6 => ?_, fun c6 => ?_⟩
          · rw [ilt_dec] at c6
            have c6 := of_decide_eq_true c6
            have h5 : unE (l.take n) = 5 := by rw [unE_cs ck]; exact csE_big (by omega)
            rw [unOut_bad (by rw [h5]; decide), h5]; rfl
          · rw [ilt_dec] at c6
            have c6 := of_decide_eq_false c6
            have hU : unE (l.take n) = smpsE (unL (l.take n)) := by rw [unE_cs ck]; exact csE_small (by omega)
            have good : t = m → unE (l.take n) = 0 := fun ht => by
              rw [hU]
              exact g1 fun u hu => by
                obtain ⟨j, hj, rfl⟩ := rdU_mem.1 hu
                exact t2 j (by omega)
            have worse : t < m → unOut (l.take n) = .plain (.tuple #[nilS, gi 3]) := fun ht => by
              have h3 : unE (l.take n) = 3 := by
                rw [hU]
                exact g2 ⟨_, rdU_mem.2 ⟨t, ht, rfl⟩, t3 ht⟩
              rw [unOut_bad (by rw [h3]; decide), h3]
            refine ⟨rfl, rfl, rfl, rfl, rfl, rfl, rfl, ?_, rfl, ⟨h1, h2, by omega, t1, t2, t3, hb⟩, fun ht hz _ => ?_, fun ht hz _ => ?_, fun ht hz _ => ?_, fun ht hz _ => ?_⟩
            · rw [AHeap.get_set_neB (by kernel_rfl), AHeap.get_push_ne (by kernel_rfl), canon_get, if_pos (Nat.le_refl _), Nat.sub_self]; rfl
            · rw [unOut_nil (good ht) (by omega)]; rfl
            · rw [unOut_good (good ht) (by omega)]
              refine ⟨N1 + 1, by rw [hlen, ← ht]; rfl, ?_⟩
              have : rdF ((l.take n).drop 6) t = (unL (l.take n)).map gf := by unfold rdF; rw [ht, hL]
              rw [← this]
              exact gD_dst
            · rw [worse ht]; rfl
            · rw [worse ht]; rfl
theorem ur_nil : (call Tryz.prog orcSj 60 33 #[nilS] (emp Tryz.prog)).map (·.1) = some (.tuple #[nilS, gi 28]) := by kernel_rfl
theorem ur_emp (k : Nat) : (call Tryz.prog orcSj 60 33 #[.slice (some ⟨0, 0, none⟩) 0 k] (emp Tryz.prog)).map (·.1) = some (.tuple #[nilS, gi 28]) := by kernel_rfl
noncomputable def orcSl : Orc := orElse 33 (genO dB 1000000 false uqX) orcSj
set_option maxRecDepth 100000 in
theorem orcSl_ok : OrcOk Tryz.prog orcSl := by
  refine genO_ok dB_some (fun _ => rfl) globs_pos orcSj_ok ?_ ?_ ?_ ?_
  · intro L r o h
    obtain ⟨rfl, _, rfl⟩ := uqX_some h
    unfold unOut
    cases ieq (unE L) 0 with
    | false => rfl
    | true =>
      cases unB L with
      | true => rfl
      | false => exact ⟨names_tup rfl rfl, flat_floats _⟩
  · intro r o h
    obtain ⟨rfl, _, rfl⟩ := uqX_some h
    rw [unOut_none]
    exact CallJ.of_call mixed orcSj_ok ur_nil fun _ => rfl
  · intro r k o h
    obtain ⟨rfl, _, rfl⟩ := uqX_some h
    rw [unOut_none]
    exact CallJ.of_call mixed orcSj_ok (ur_emp k) fun _ => rfl
  · intro l off n r el row k o ho hw h0 h1 h2 h3 h
    obtain rfl := ho rfl
    rw [List.drop_zero] at h
    obtain ⟨rfl, hb, rfl⟩ := uqX_some h
    exact ur_call l n k el row h0 (by omega) h2 h3 hw hb
noncomputable def askUr (b1 b2 b3 b4 : Bool) : Asks := asksG 33 gb 1000000 (uqY b3 b4) (skipA 76 (askUn b1 b2))
theorem askUr_ok (b1 b2 b3 b4 : Bool) : AsksOk orcSl (askUr b1 b2 b3 b4) := asksG_ok (d := dB) (e := gb) (fun _ => rfl) (uqY_ok b3 b4) (skipA_ok (askUn_ok b1 b2))
end Go.Proofs.YtphhcoiclkfimaaGreatDoor
