/-
  OWN WORK. The errors of a stream, by the program.
-/
import Derived.Test.YtphhcoiclkfimaaGreatDoorStH
namespace Go.Proofs.YtphhcoiclkfimaaGreatDoor
open Go Go.Am

noncomputable def orcIa : Orc := inlO Tryz.prog 80 10 orcSg
theorem orcIa_ok : OrcOk Tryz.prog orcIa := inlO_ok mixed orcSg_ok
noncomputable def askIa : Asks := asksI Tryz.prog 80 10 orcSg (syOf [(4, 2), (5, 3), (9, 2), (10, 3)]) askSg askSg
theorem askIa_ok : AsksOk orcIa askIa := asksI_ok askSg_ok askSg_ok
noncomputable def orcIb : Orc := inlO Tryz.prog 70 10 orcIa
theorem orcIb_ok : OrcOk Tryz.prog orcIb := inlO_ok mixed orcIa_ok
noncomputable def askIb : Asks := asksI Tryz.prog 70 10 orcIa (syOf [(9, 33), (13, 23), (14, 37), (19, 19), (20, 7), (21, 15)]) askIa askIa
theorem askIb_ok : AsksOk orcIb askIb := asksI_ok askIa_ok askIa_ok
noncomputable def cntW (a b : Int) : Int := IntKind.wrap .i64 (Int.ofNat (HOr.hOr (Int.toNat (IntKind.wrap .i64 (fwrap IntKind.i64 a * 256) % 18446744073709551616)) (Int.toNat (fwrap IntKind.i64 b % 18446744073709551616))))
/-- The first bytes of a stream. -/
noncomputable def mgB (s : List Int) : Bool := BEq.beq (ByteArray.toList (strB (List.take 4 (List.drop 0 s)))) (ByteArray.toList (ByteArray.mk #[(67 : UInt8), (82 : UInt8), (85 : UInt8), (49 : UInt8)]))
theorem ck_run (l : List Int) (n e row k : Nat) (K : Value → AHeap → Prop) : callC Tryz.prog (exec Tryz.prog orcIb 10) (syOf [(6, 1), (10, 1), (13, 19), (14, 36), (15, 1), (20, 7), (23, 1), (27, 7), (28, 1)]) askIb (noLoops _) 40 79 #[liP n k] (liH (l.map gb) e row) K = (((ilt 400000 (Int.ofNat n) = true → K (gi 26) (liH (List.map gb l) e row)) ∧ (ilt 400000 (Int.ofNat n) = false → ((ilt (Int.ofNat n) 14 = true → K (gi 28) (liH (List.map gb l) e row)) ∧ (ilt (Int.ofNat n) 14 = false → ((0 : Int) ≤ 4 ∧ (4 : Int) ≤ Int.ofNat k ∧ (0 : Nat) < k ∧ (n : Nat) ≤ k ∧ (∃ x1 : List Int, (List.map gb l = List.map (Value.int IntKind.u8) x1 ∧ (0 : Nat) < 4 ∧ (4 : Nat) ≤ List.length x1 ∧ ((!(mgB x1)) = true → K (gi 1) (liH (List.map gb l) e row)) ∧ ((!(mgB x1)) = false → (ahasIndex 4 n = true ∧ (List.map gb l)[4]? = Option.some (Value.int .u8 (intAt (List.map gb l) 4)) ∧ ahasIndex 5 n = true ∧ (List.map gb l)[5]? = Option.some (Value.int .u8 (intAt (List.map gb l) 5)) ∧ ((!(ieq (Int.ofNat n) (fwrap IntKind.i64 (14 + fwrap IntKind.i64 (2 * cntW (intAt (List.map gb l) 4) (intAt (List.map gb l) 5)))))) = true → K (gi 2) (liH (List.map gb l) e row)) ∧ ((!(ieq (Int.ofNat n) (fwrap IntKind.i64 (14 + fwrap IntKind.i64 (2 * cntW (intAt (List.map gb l) 4) (intAt (List.map gb l) 5)))))) = false → (inI64 (Int.ofNat n - 8) = true ∧ (0 : Int) ≤ (Int.ofNat n - 8) ∧ ((Int.ofNat n - 8) : Int) ≤ Int.ofNat n ∧ ((Int.ofNat n - 8) : Int) < Int.ofNat k ∧ (Nat.beq row 0 || Nat.beq row 2) = true ∧ (∃ x2 : List Int, (List.map gb l = List.map (Value.int IntKind.u8) x2 ∧ (8 : Nat) ≤ (n - Int.toNat (Int.ofNat n - 8)) ∧ (((0 + (Int.toNat (Int.ofNat n - 8) * 1)) + 8) : Nat) ≤ List.length x2 ∧ (0 : Int) ≤ (Int.ofNat n - 8) ∧ ((Int.ofNat n - 8) : Int) ≤ Int.ofNat k ∧ (0 : Nat) < k ∧ (n : Nat) ≤ k ∧ (∃ x3 : List Int, (List.map gb l = List.map gb x3 ∧ (0 : Nat) < Int.toNat (Int.ofNat n - 8) ∧ (Int.toNat (Int.ofNat n - 8) : Nat) ≤ List.length x3 ∧ (Int.toNat (Int.ofNat n - 8) : Nat) ≤ 1000000 ∧ (Int.toNat (Int.ofNat n - 8) : Nat) ≤ k ∧ (∀ y4 : Int, (∀ y5 : Int, (∀ y6 : Int, (∀ y7 : Int, (∀ y8 : Int, (∀ y9 : Int, (∀ y10 : Int, (∀ y11 : Int, ([y4, y5, y6, y7, y8, y9, y10, y11] = slK (List.take (Int.toNat (Int.ofNat n - 8)) x3) 0 0 0 0 0 0 0 0 → (Value.agg (Array.mk (List.take 8 (List.drop 0 ([] ++ ([Value.int .u8 (Option.getD (x2[((0 + (Int.toNat (Int.ofNat n - 8) * 1)) + 0)]?) 0), Value.int .u8 (Option.getD (x2[((0 + (Int.toNat (Int.ofNat n - 8) * 1)) + 1)]?) 0), Value.int .u8 (Option.getD (x2[((0 + (Int.toNat (Int.ofNat n - 8) * 1)) + 2)]?) 0), Value.int .u8 (Option.getD (x2[((0 + (Int.toNat (Int.ofNat n - 8) * 1)) + 3)]?) 0), Value.int .u8 (Option.getD (x2[((0 + (Int.toNat (Int.ofNat n - 8) * 1)) + 4)]?) 0), Value.int .u8 (Option.getD (x2[((0 + (Int.toNat (Int.ofNat n - 8) * 1)) + 5)]?) 0), Value.int .u8 (Option.getD (x2[((0 + (Int.toNat (Int.ofNat n - 8) * 1)) + 6)]?) 0), Value.int .u8 (Option.getD (x2[((0 + (Int.toNat (Int.ofNat n - 8) * 1)) + 7)]?) 0)] ++ []))))) = Value.agg (Array.mk (List.take 8 (List.drop 0 ([] ++ ([Value.int .u8 (Option.getD (x2[((0 + (Int.toNat (Int.ofNat n - 8) * 1)) + 0)]?) 0), Value.int .u8 (Option.getD (x2[((0 + (Int.toNat (Int.ofNat n - 8) * 1)) + 1)]?) 0), Value.int .u8 (Option.getD (x2[((0 + (Int.toNat (Int.ofNat n - 8) * 1)) + 2)]?) 0), Value.int .u8 (Option.getD (x2[((0 + (Int.toNat (Int.ofNat n - 8) * 1)) + 3)]?) 0), Value.int .u8 (Option.getD (x2[((0 + (Int.toNat (Int.ofNat n - 8) * 1)) + 4)]?) 0), Value.int .u8 (Option.getD (x2[((0 + (Int.toNat (Int.ofNat n - 8) * 1)) + 5)]?) 0), Value.int .u8 (Option.getD (x2[((0 + (Int.toNat (Int.ofNat n - 8) * 1)) + 6)]?) 0), Value.int .u8 (Option.getD (x2[((0 + (Int.toNat (Int.ofNat n - 8) * 1)) + 7)]?) 0)] ++ []))))) ∧ ((!(ieq (Option.getD (x2[((0 + (Int.toNat (Int.ofNat n - 8) * 1)) + 0)]?) 0) y4 && (ieq (Option.getD (x2[((0 + (Int.toNat (Int.ofNat n - 8) * 1)) + 1)]?) 0) y5 && (ieq (Option.getD (x2[((0 + (Int.toNat (Int.ofNat n - 8) * 1)) + 2)]?) 0) y6 && (ieq (Option.getD (x2[((0 + (Int.toNat (Int.ofNat n - 8) * 1)) + 3)]?) 0) y7 && (ieq (Option.getD (x2[((0 + (Int.toNat (Int.ofNat n - 8) * 1)) + 4)]?) 0) y8 && (ieq (Option.getD (x2[((0 + (Int.toNat (Int.ofNat n - 8) * 1)) + 5)]?) 0) y9 && (ieq (Option.getD (x2[((0 + (Int.toNat (Int.ofNat n - 8) * 1)) + 6)]?) 0) y10 && (ieq (Option.getD (x2[((0 + (Int.toNat (Int.ofNat n - 8) * 1)) + 7)]?) 0) y11 && true))))))))) = true → K (gi 27) ((((liH (List.map gb l) e row).push (.cells [Value.int .u8 0, Value.int .u8 0, Value.int .u8 0, Value.int .u8 0, Value.int .u8 0, Value.int .u8 0, Value.int .u8 0, Value.int .u8 0] 47 0 false)).push (.cells [Value.int .u8 0, Value.int .u8 0, Value.int .u8 0, Value.int .u8 0, Value.int .u8 0, Value.int .u8 0, Value.int .u8 0, Value.int .u8 0] 47 0 false)).set (N1 + 2) (.cells ([] ++ ([Value.int .u8 (Option.getD (x2[((0 + (Int.toNat (Int.ofNat n - 8) * 1)) + 0)]?) 0), Value.int .u8 (Option.getD (x2[((0 + (Int.toNat (Int.ofNat n - 8) * 1)) + 1)]?) 0), Value.int .u8 (Option.getD (x2[((0 + (Int.toNat (Int.ofNat n - 8) * 1)) + 2)]?) 0), Value.int .u8 (Option.getD (x2[((0 + (Int.toNat (Int.ofNat n - 8) * 1)) + 3)]?) 0), Value.int .u8 (Option.getD (x2[((0 + (Int.toNat (Int.ofNat n - 8) * 1)) + 4)]?) 0), Value.int .u8 (Option.getD (x2[((0 + (Int.toNat (Int.ofNat n - 8) * 1)) + 5)]?) 0), Value.int .u8 (Option.getD (x2[((0 + (Int.toNat (Int.ofNat n - 8) * 1)) + 6)]?) 0), Value.int .u8 (Option.getD (x2[((0 + (Int.toNat (Int.ofNat n - 8) * 1)) + 7)]?) 0)] ++ [])) 47 0 false))) ∧ ((!(ieq (Option.getD (x2[((0 + (Int.toNat (Int.ofNat n - 8) * 1)) + 0)]?) 0) y4 && (ieq (Option.getD (x2[((0 + (Int.toNat (Int.ofNat n - 8) * 1)) + 1)]?) 0) y5 && (ieq (Option.getD (x2[((0 + (Int.toNat (Int.ofNat n - 8) * 1)) + 2)]?) 0) y6 && (ieq (Option.getD (x2[((0 + (Int.toNat (Int.ofNat n - 8) * 1)) + 3)]?) 0) y7 && (ieq (Option.getD (x2[((0 + (Int.toNat (Int.ofNat n - 8) * 1)) + 4)]?) 0) y8 && (ieq (Option.getD (x2[((0 + (Int.toNat (Int.ofNat n - 8) * 1)) + 5)]?) 0) y9 && (ieq (Option.getD (x2[((0 + (Int.toNat (Int.ofNat n - 8) * 1)) + 6)]?) 0) y10 && (ieq (Option.getD (x2[((0 + (Int.toNat (Int.ofNat n - 8) * 1)) + 7)]?) 0) y11 && true))))))))) = false → K (gi 0) ((((liH (List.map gb l) e row).push (.cells [Value.int .u8 0, Value.int .u8 0, Value.int .u8 0, Value.int .u8 0, Value.int .u8 0, Value.int .u8 0, Value.int .u8 0, Value.int .u8 0] 47 0 false)).push (.cells [Value.int .u8 0, Value.int .u8 0, Value.int .u8 0, Value.int .u8 0, Value.int .u8 0, Value.int .u8 0, Value.int .u8 0, Value.int .u8 0] 47 0 false)).set (N1 + 2) (.cells ([] ++ ([Value.int .u8 (Option.getD (x2[((0 + (Int.toNat (Int.ofNat n - 8) * 1)) + 0)]?) 0), Value.int .u8 (Option.getD (x2[((0 + (Int.toNat (Int.ofNat n - 8) * 1)) + 1)]?) 0), Value.int .u8 (Option.getD (x2[((0 + (Int.toNat (Int.ofNat n - 8) * 1)) + 2)]?) 0), Value.int .u8 (Option.getD (x2[((0 + (Int.toNat (Int.ofNat n - 8) * 1)) + 3)]?) 0), Value.int .u8 (Option.getD (x2[((0 + (Int.toNat (Int.ofNat n - 8) * 1)) + 4)]?) 0), Value.int .u8 (Option.getD (x2[((0 + (Int.toNat (Int.ofNat n - 8) * 1)) + 5)]?) 0), Value.int .u8 (Option.getD (x2[((0 + (Int.toNat (Int.ofNat n - 8) * 1)) + 6)]?) 0), Value.int .u8 (Option.getD (x2[((0 + (Int.toNat (Int.ofNat n - 8) * 1)) + 7)]?) 0)] ++ [])) 47 0 false))))))))))))))))))))))))))))) := by kernel_rfl
theorem cntW_eq {a b : Int} (ha : inB a) (hb : inB b) : cntW a b = 256 * a + b := by
  obtain ⟨x, rfl⟩ := Int.eq_ofNat_of_zero_le ha.1
  obtain ⟨y, rfl⟩ := Int.eq_ofNat_of_zero_le hb.1
  unfold inB at ha hb
  unfold cntW
  rw [fwrap_small (by omega) (by omega), fwrap_small (by omega) (by omega), wrap_small (x := (x : Int) * 256) (by omega) (by omega), show ((x : Int) * 256 % 18446744073709551616).toNat = x * 256 by omega, show ((y : Int) % 18446744073709551616).toNat = y by omega, or_add (by omega)]
  rw [show Int.ofNat (x * 256 + y) = 256 * (x : Int) + y by simp only [Int.ofNat_eq_natCast]; omega]
  exact wrap_small (by omega) (by omega)
noncomputable def cntE (s : List Int) : Int := 256 * s.getD 4 0 + s.getD 5 0
noncomputable def slB (s : List Int) : Bool := decide (s.drop (s.length - 8) = slK (s.take (s.length - 8)) 0 0 0 0 0 0 0 0)
noncomputable def ckE (s : List Int) : Int := bif ilt 400000 (Int.ofNat s.length) then 26 else bif ilt (Int.ofNat s.length) 14 then 28 else bif !mgB s then 1 else bif !(ieq (Int.ofNat s.length) (14 + 2 * cntE s)) then 2 else bif !slB s then 27 else 0
theorem eight : ∀ {D : List Int}, D.length = 8 → D = [D.getD 0 0, D.getD 1 0, D.getD 2 0, D.getD 3 0, D.getD 4 0, D.getD 5 0, D.getD 6 0, D.getD 7 0]
  | [_, _, _, _, _, _, _, _], _ => rfl
theorem same8 (a0 a1 a2 a3 a4 a5 a6 a7 y0 y1 y2 y3 y4 y5 y6 y7 : Int) : (ieq a0 y0 && (ieq a1 y1 && (ieq a2 y2 && (ieq a3 y3 && (ieq a4 y4 && (ieq a5 y5 && (ieq a6 y6 && (ieq a7 y7 && true)))))))) = decide ([a0, a1, a2, a3, a4, a5, a6, a7] = [y0, y1, y2, y3, y4, y5, y6, y7]) := by
  rw [Bool.eq_iff_iff]
  simp [ieq_dec]
theorem mgB_take {l : List Int} {n : Nat} (h : 4 ≤ n) : mgB (l.take n) = mgB l := by
  unfold mgB
  rw [List.drop_zero, List.drop_zero, List.take_take, Nat.min_eq_left h]
theorem getD_take {l : List Int} {n i : Nat} (h : i < n) : (l.take n).getD i 0 = l.getD i 0 := by
  rw [List.getD_eq_getElem?_getD, List.getD_eq_getElem?_getD, List.getElem?_take, if_pos h]
theorem getD_drop {l : List Int} {n i : Nat} : (l.drop n).getD i 0 = l.getD (n + i) 0 := by
  rw [List.getD_eq_getElem?_getD, List.getD_eq_getElem?_getD, List.getElem?_drop]
theorem byte_i {l : List Int} {n i : Nat} (h : n ≤ l.length) (hi : i < n) : (l.map gb)[i]? = some (Value.int .u8 (intAt (l.map gb) i)) ∧ intAt (l.map gb) i = (l.take n).getD i 0 := by
  have := byte_part (l := l) (off := 0) (n := n) (i := i) (by omega) hi
  rw [Nat.zero_add, Nat.mul_one, List.drop_zero] at this
  exact this
set_option maxRecDepth 100000 in
theorem ck_call (l : List Int) (n k e row : Nat) (h1 : n ≤ l.length) (hk : n ≤ k) (hw : row = 0 ∨ row = 2) (hb : ∀ x ∈ l.take n, inB x) : CallJ Tryz.prog 79 #[liP n k] (liH (l.map gb) e row) (fun v _ => v = gi (ckE (l.take n))) := by
  have hs : (l.take n).length = n := by rw [List.length_take]; omega
  have hrow : (Nat.beq row 0 || Nat.beq row 2) = true := by rcases hw with rfl | rfl <;> rfl
  refine callC_ok mixed orcIb_ok askIb_ok (Eq.mpr (ck_run l n e row k _) ⟨fun c1 => ?_, fun c1 => ⟨fun c2 => ?_, fun c2 => ?_⟩⟩)
  · unfold ckE; rw [hs, c1]; rfl
  · unfold ckE; rw [hs, c1, c2]; rfl
  · have hn : 14 ≤ n := by
      rw [ilt_dec] at c2
      have := of_decide_eq_false c2
      simp only [Int.ofNat_eq_natCast] at this; omega
    have hn2 : n ≤ 400000 := by
      rw [ilt_dec] at c1
      have := of_decide_eq_false c1
      simp only [Int.ofNat_eq_natCast] at this; omega
    have hm := mgB_take (l := l) (n := n) (by omega)
    refine ⟨by omega, by simp only [Int.ofNat_eq_natCast]; omega, by omega, hk, l, rfl, by omega, by omega, fun c3 => ?_, fun c3 => ?_⟩
    · rw [← hm] at c3
      unfold ckE; rw [hs, c1, c2, c3]; rfl
    · rw [← hm] at c3
      obtain ⟨a1, a2⟩ := byte_i (i := 4) h1 (by omega)
      obtain ⟨b1, b2⟩ := byte_i (i := 5) h1 (by omega)
      have i4 := getD_in hb 4
      have i5 := getD_in hb 5
      have hc : fwrap IntKind.i64 (14 + fwrap IntKind.i64 (2 * cntW (intAt (l.map gb) 4) (intAt (l.map gb) 5))) = 14 + 2 * cntE (l.take n) := by
        rw [a2, b2, cntW_eq i4 i5]
        unfold cntE
        unfold inB at i4 i5
        rw [fwrap_small (x := 2 * (256 * (l.take n).getD 4 0 + (l.take n).getD 5 0)) (by omega) (by omega), fwrap_small (by omega) (by omega)]
      rw [hc]
      refine ⟨by show Nat.blt 4 n = true; rw [Nat.blt_eq]; omega, a1, by show Nat.blt 5 n = true; rw [Nat.blt_eq]; omega, b1, fun c4 => ?_, fun c4 => ?_⟩
      · unfold ckE; rw [hs, c1, c2, c3, c4]; rfl
      · have e8 : Int.ofNat n - 8 = ((n - 8 : Nat) : Int) := by simp only [Int.ofNat_eq_natCast]; omega
        have t8 : (Int.ofNat n - 8).toNat = n - 8 := by omega
        refine ⟨inI64_small (by omega) (by omega), by omega, by omega, by rw [e8]; simp only [Int.ofNat_eq_natCast]; omega, hrow, l, rfl, by rw [t8]; omega, by rw [t8]; omega, by omega, by rw [e8]; simp only [Int.ofNat_eq_natCast]; omega, by omega, hk, l, rfl, by rw [t8]; omega, by rw [t8]; omega, by rw [t8]; omega, by rw [t8]; omega, fun y0 y1 y2 y3 y4 y5 y6 y7 hy => ?_⟩
        rw [t8] at hy
        have hD : ((l.take n).drop (n - 8)).length = 8 := by rw [List.length_drop, hs]; omega
        have hq : ∀ q, q < 8 → Option.getD (l[(0 + (Int.toNat (Int.ofNat n - 8) * 1)) + q]?) 0 = ((l.take n).drop (n - 8)).getD q 0 := fun q hq => by
          rw [t8, getD_drop, getD_take (by omega), List.getD_eq_getElem?_getD]
          congr 2
          omega
        have hS : (ieq (Option.getD (l[(0 + (Int.toNat (Int.ofNat n - 8) * 1)) + 0]?) 0) y0 && (ieq (Option.getD (l[(0 + (Int.toNat (Int.ofNat n - 8) * 1)) + 1]?) 0) y1 && (ieq (Option.getD (l[(0 + (Int.toNat (Int.ofNat n - 8) * 1)) + 2]?) 0) y2 && (ieq (Option.getD (l[(0 + (Int.toNat (Int.ofNat n - 8) * 1)) + 3]?) 0) y3 && (ieq (Option.getD (l[(0 + (Int.toNat (Int.ofNat n - 8) * 1)) + 4]?) 0) y4 && (ieq (Option.getD (l[(0 + (Int.toNat (Int.ofNat n - 8) * 1)) + 5]?) 0) y5 && (ieq (Option.getD (l[(0 + (Int.toNat (Int.ofNat n - 8) * 1)) + 6]?) 0) y6 && (ieq (Option.getD (l[(0 + (Int.toNat (Int.ofNat n - 8) * 1)) + 7]?) 0) y7 && true)))))))) = slB (l.take n) := by
          rw [hq 0 (by omega), hq 1 (by omega), hq 2 (by omega), hq 3 (by omega), hq 4 (by omega), hq 5 (by omega), hq 6 (by omega), hq 7 (by omega), same8, ← eight hD, hy]
          unfold slB
          rw [hs, List.take_take, Nat.min_eq_left (by omega)]
        rw [hS]
        refine ⟨rfl, fun c5 => ?_, fun c5 => ?_⟩
        · unfold ckE; rw [hs, c1, c2, c3, c4, c5]; rfl
        · unfold ckE; rw [hs, c1, c2, c3, c4, c5]; rfl
theorem ck_nil : (call Tryz.prog orcSg 60 79 #[nilS] (emp Tryz.prog)).map (·.1) = some (gi 28) := by kernel_rfl
theorem ck_emp (k : Nat) : (call Tryz.prog orcSg 60 79 #[.slice (some ⟨0, 0, none⟩) 0 k] (emp Tryz.prog)).map (·.1) = some (gi 28) := by kernel_rfl
open Classical in
noncomputable def ckX : List Int → List Value → Option Out := fun L r => match r with
  | [] => if ∀ x ∈ L, inB x then some (.plain (gi (ckE L))) else none
  | _ => none
theorem ckX_ok {L : List Int} (h : ∀ x ∈ L, inB x) : ckX L [] = some (.plain (gi (ckE L))) := if_pos h
theorem ckX_some {L : List Int} {r : List Value} {o : Out} (h : ckX L r = some o) : r = [] ∧ (∀ x ∈ L, inB x) ∧ o = .plain (gi (ckE L)) := by
  unfold ckX at h
  split at h
  · split at h
    · rename_i hb; cases h; exact ⟨rfl, hb, rfl⟩
    · cases h
  · cases h
noncomputable def ckY : List Int → List Value → (Out → Prop) → Prop := fun L r K => match r with
  | [] => (∀ x : Int, List.Mem x L → inB x) ∧ K (.plain (gi (ckE L)))
  | _ => False
theorem ckY_ok (L : List Int) (r : List Value) (K : Out → Prop) (h : ckY L r K) : ∃ o, ckX L r = some o ∧ K o := by
  unfold ckY at h
  split at h
  · exact ⟨_, ckX_ok h.1, h.2⟩
  · exact h.elim
noncomputable def orcSh : Orc := orElse 79 (genO dB 1000000 false ckX) orcSg
set_option maxRecDepth 100000 in
theorem orcSh_ok : OrcOk Tryz.prog orcSh := by
  refine genO_ok dB_some (fun _ => rfl) globs_pos orcSg_ok ?_ ?_ ?_ ?_
  · intro L r o h
    obtain ⟨rfl, _, rfl⟩ := ckX_some h
    rfl
  · intro r o h
    obtain ⟨rfl, _, rfl⟩ := ckX_some h
    exact CallJ.of_call mixed orcSg_ok ck_nil fun _ => rfl
  · intro r k o h
    obtain ⟨rfl, _, rfl⟩ := ckX_some h
    exact CallJ.of_call mixed orcSg_ok (ck_emp k) fun _ => rfl
  · intro l off n r el row k o ho hw h0 h1 h2 h3 h
    obtain rfl := ho rfl
    rw [List.drop_zero] at h
    obtain ⟨rfl, hb, rfl⟩ := ckX_some h
    exact ck_call l n k el row (by omega) h3 hw hb
noncomputable def askSh : Asks := asksG 79 gb 1000000 ckY askSg
theorem askSh_ok : AsksOk orcSh askSh := asksG_ok (d := dB) (e := gb) (fun _ => rfl) ckY_ok askSg_ok
/-! counted: in place again -/
noncomputable def orcSi : Orc := inlO Tryz.prog 80 10 orcSh
theorem orcSi_ok : OrcOk Tryz.prog orcSi := inlO_ok mixed orcSh_ok
noncomputable def askSi : Asks := asksI Tryz.prog 80 10 orcSh (syOf [(4, 2), (5, 3), (9, 2), (10, 3)]) askSh askSh
theorem askSi_ok : AsksOk orcSi askSi := asksI_ok askSh_ok askSh_ok
end Go.Proofs.YtphhcoiclkfimaaGreatDoor
