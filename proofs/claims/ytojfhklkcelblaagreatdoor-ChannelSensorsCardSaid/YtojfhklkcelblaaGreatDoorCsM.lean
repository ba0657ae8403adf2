/-
  OWN WORK. Quotients that are rounded; intervals.
-/
import Derived.Test.YtojfhklkcelblaaGreatDoorCsH
import Derived.Test.YtojfhklkcelblaaGreatDoorAm16
import Derived.Test.YtojfhklkcelblaaGreatDoorCdE
/-! Quotients that are rounded; intervals. -/
namespace Go.Proofs.YtojfhklkcelblaaGreatDoor
open Go Go.Am

theorem floor_run (a b : Int) (K : Value → Prop) : callC Tryz.prog (exec Tryz.prog orcTd 10) (syOf [(8, 35), (11, 6), (12, 1), (14, 33)]) noAsks (noLoops _) 20 107 #[gi a, gi b] (emp Tryz.prog) (fun v _ => K v) = (((b = 0 → False) ∧ (b = 0 → False) ∧ (ilt (Int.tmod a b) 0 = true → (inI64 (IntKind.wrap .i64 (Int.tdiv a b) - 1) = true ∧ K (gi (IntKind.wrap .i64 (Int.tdiv a b) - 1)))) ∧ (ilt (Int.tmod a b) 0 = false → K (gi (IntKind.wrap .i64 (Int.tdiv a b)))))) := by kernel_rfl
theorem Floor_run (a b : Int) (K : Value → Prop) : callC Tryz.prog (exec Tryz.prog orcTd 10) (syOf [(8, 35), (11, 33), (13, 1), (15, 33)]) noAsks (noLoops _) 20 72 #[gi a, gi b] (emp Tryz.prog) (fun v _ => K v) = (((b = 0 → False) ∧ inI64 (IntKind.wrap .i64 (Int.tdiv a b) * b) = true ∧ (ilt a (IntKind.wrap .i64 (Int.tdiv a b) * b) = true → (inI64 (IntKind.wrap .i64 (Int.tdiv a b) - 1) = true ∧ K (gi (IntKind.wrap .i64 (Int.tdiv a b) - 1)))) ∧ (ilt a (IntKind.wrap .i64 (Int.tdiv a b) * b) = false → K (gi (IntKind.wrap .i64 (Int.tdiv a b)))))) := by kernel_rfl
noncomputable def floorE (a b : Int) : Int := bif ilt (a.tmod b) 0 then a.tdiv b - 1 else a.tdiv b
theorem wrap_small {x : Int} (h1 : -4611686018427387904 ≤ x) (h2 : x ≤ 4611686018427387904) : IntKind.wrap .i64 x = x := by
  rw [← fwrap_eq]; exact fwrap_mid h1 h2
theorem tdiv_small {a b : Int} (h1 : -4611686018427387904 ≤ a) (h2 : a ≤ 4611686018427387904) : -4611686018427387904 ≤ a.tdiv b ∧ a.tdiv b ≤ 4611686018427387904 := by
  have := Int.natAbs_tdiv_le_natAbs a b
  omega
theorem inI64_small {x : Int} (h1 : -4611686018427387905 ≤ x) (h2 : x ≤ 4611686018427387905) : inI64 x = true := by
  cases x with
  | ofNat m => exact inI64_nat (by simp only [Int.ofNat_eq_natCast] at h2; omega)
  | negSucc m =>
    show Nat.blt m 9223372036854775808 = true
    rw [Nat.blt_eq]; omega
theorem floor_same (a b : Int) : ilt a (a.tdiv b * b) = ilt (a.tmod b) 0 := by
  rw [ilt_say, ilt_say]
  congr 1
  have := Int.tmod_def a b
  rw [Int.mul_comm] at this
  rw [eq_iff_iff]
  constructor <;> intro h <;> omega
noncomputable def small (a : Int) : Bool := !ilt a (-1099511627776) && !ilt 1099511627776 a
theorem small_le {a : Int} (h : small a = true) : -1099511627776 ≤ a ∧ a ≤ 1099511627776 := by
  unfold small at h
  rw [ilt_say, ilt_say] at h
  simp at h
  omega
noncomputable def floorL : List Value → Option (Bool × Value)
  | [.int .i64 a, .int .i64 b] => some (ilt 0 b && small a, gi (floorE a b))
  | _ => none
theorem floorL_some {l : List Value} {v : Value} (h : floorL l = some (true, v)) : ∃ a b, l = [gi a, gi b] ∧ v = gi (floorE a b) ∧ 0 < b ∧ -1099511627776 ≤ a ∧ a ≤ 1099511627776 := by
  unfold floorL at h
  split at h
  · rename_i a b
    injection h with h
    injection h with h1 h2
    rw [Bool.and_eq_true, ilt_say] at h1
    obtain ⟨h3, h4⟩ := small_le h1.2
    exact ⟨a, b, rfl, h2.symm, by simpa using h1.1, h3, h4⟩
  · cases h
noncomputable def orcRc : Orc := orElse 72 (condO floorL) (orElse 107 (condO floorL) orcTd)
set_option maxRecDepth 100000 in
theorem orcRc_ok : OrcOk Tryz.prog orcRc := by
  refine condO_ok (fun l v h => ?_) (condO_ok (fun l v h => ?_) orcTd_ok)
  · obtain ⟨a, b, rfl, rfl, hb, h1, h2⟩ := floorL_some h
    obtain ⟨t1, t2⟩ := tdiv_small (a := a) (b := b) (by omega) (by omega)
    have w := wrap_small t1 t2
    have hm : a.tdiv b * b = a - a.tmod b := by
      have := Int.tmod_def a b
      rw [Int.mul_comm] at this
      omega
    have hr : (a.tmod b).natAbs ≤ a.natAbs := by rw [Int.natAbs_tmod]; exact Nat.mod_le _ _
    refine ⟨rfl, rfl, callC_ok mixed orcTd_ok (noAsks_ok _) (Eq.mpr (Floor_run a b _) ?_)⟩
    rw [w, floor_same]
    refine ⟨fun h => by omega, inI64_small (by rw [hm]; omega) (by rw [hm]; omega), fun hc => ⟨inI64_small (by omega) (by omega), ?_⟩, fun hc => ?_⟩
    · unfold floorE; rw [hc]; rfl
    · unfold floorE; rw [hc]; rfl
  · obtain ⟨a, b, rfl, rfl, hb, h1, h2⟩ := floorL_some h
    obtain ⟨t1, t2⟩ := tdiv_small (a := a) (b := b) (by omega) (by omega)
    have w := wrap_small t1 t2
    refine ⟨rfl, rfl, callC_ok mixed orcTd_ok (noAsks_ok _) (Eq.mpr (floor_run a b _) ?_)⟩
    rw [w]
    refine ⟨fun h => by omega, fun h => by omega, fun hc => ⟨inI64_small (by omega) (by omega), ?_⟩, fun hc => ?_⟩
    · unfold floorE; rw [hc]; rfl
    · unfold floorE; rw [hc]; rfl
noncomputable def askRc : Asks := asksF 72 floorL (asksF 107 floorL askTd)
theorem askRc_ok : AsksOk orcRc askRc := asksF_ok (asksF_ok askTd_ok)
theorem up_run (a b : Int) (K : Value → Prop) : callC Tryz.prog (exec Tryz.prog orcRc 10) (syOf [(8, 7)]) askRc (noLoops _) 20 108 #[gi a, gi b] (emp Tryz.prog) (fun v _ => K v) = (((ilt 0 b && small (IntKind.wrap .i64 (0 - a))) = true ∧ K (gi (IntKind.wrap .i64 (0 - floorE (IntKind.wrap .i64 (0 - a)) b))))) := by kernel_rfl
theorem Ceil_run (a b : Int) (K : Value → Prop) : callC Tryz.prog (exec Tryz.prog orcRc 10) (syOf [(8, 7)]) askRc (noLoops _) 20 73 #[gi a, gi b] (emp Tryz.prog) (fun v _ => K v) = (((ilt 0 b && small (fwrap IntKind.i64 (0 - a))) = true ∧ K (gi (fwrap IntKind.i64 (0 - floorE (fwrap IntKind.i64 (0 - a)) b))))) := by kernel_rfl
theorem intv_run (a b l h : Int) (K : Value → Prop) : callC Tryz.prog (exec Tryz.prog orcRc 10) (syOf []) askRc (noLoops _) 20 74 #[.agg #[gi a, gi b], gi l, gi h] (emp Tryz.prog) (fun v _ => K v) = (([gi a, gi b][1]? = Option.some (gi b) ∧ [gi a, gi b][0]? = Option.some (gi a) ∧ [gi a, gi b][1]? = Option.some (gi b) ∧ [gi a, gi b][1]? = Option.some (gi b) ∧ [gi a, gi b][0]? = Option.some (gi a) ∧ K (gi (firstS [withinS a l h, withinS b l h, whenS (ilt b a) 11])))) := by kernel_rfl
theorem Intv_run (a b l h : Int) (K : Value → Prop) : callC Tryz.prog (exec Tryz.prog orcRc 10) (syOf []) askRc (noLoops _) 20 68 #[.agg #[gi a, gi b], gi l, gi h] (emp Tryz.prog) (fun v _ => K v) = (([gi a, gi b][1]? = Option.some (gi b) ∧ [gi a, gi b][0]? = Option.some (gi a) ∧ [gi a, gi b][1]? = Option.some (gi b) ∧ [gi a, gi b][1]? = Option.some (gi b) ∧ [gi a, gi b][0]? = Option.some (gi a) ∧ K (gi (firstS [withinS a l h, withinS b l h, whenS (ilt b a) 11])))) := by kernel_rfl
theorem prod_run (a b c d : Int) (K : Value → Prop) : callC Tryz.prog (exec Tryz.prog orcRc 10) (syOf [(13, 33), (18, 33), (23, 33), (28, 33)]) askRc (noLoops _) 20 109 #[.agg #[gi a, gi b], .agg #[gi c, gi d]] (emp Tryz.prog) (fun v _ => K v) = ((inI64 (a * c) = true ∧ inI64 (a * d) = true ∧ inI64 (b * c) = true ∧ inI64 (b * d) = true ∧ K (Value.agg (Array.mk (List.take 2 (List.drop 0 ([] ++ ([gi (if ((b * d) : Int) < (if ((b * c) : Int) < (if ((a * d) : Int) < (a * c) then (a * d) else (a * c)) then (b * c) else (if ((a * d) : Int) < (a * c) then (a * d) else (a * c))) then (b * d) else (if ((b * c) : Int) < (if ((a * d) : Int) < (a * c) then (a * d) else (a * c)) then (b * c) else (if ((a * d) : Int) < (a * c) then (a * d) else (a * c)))), gi (if ((b * d) : Int) > (if ((b * c) : Int) > (if ((a * d) : Int) > (a * c) then (a * d) else (a * c)) then (b * c) else (if ((a * d) : Int) > (a * c) then (a * d) else (a * c))) then (b * d) else (if ((b * c) : Int) > (if ((a * d) : Int) > (a * c) then (a * d) else (a * c)) then (b * c) else (if ((a * d) : Int) > (a * c) then (a * d) else (a * c))))] ++ [])))))))) := by kernel_rfl
end Go.Proofs.YtojfhklkcelblaaGreatDoor
/-! Quotients rounded up, intervals, products: known for all numbers that are small. -/
namespace Go.Proofs.YtojfhklkcelblaaGreatDoor
open Go Go.Am

theorem small_of {a : Int} (h1 : -1099511627776 ≤ a) (h2 : a ≤ 1099511627776) : small a = true := by
  unfold small
  rw [ilt_say, ilt_say]
  simp
  omega
theorem floorE_le {a b : Int} (h1 : -1099511627776 ≤ a) (h2 : a ≤ 1099511627776) : -1099511627777 ≤ floorE a b ∧ floorE a b ≤ 1099511627776 := by
  have := Int.natAbs_tdiv_le_natAbs a b
  unfold floorE
  cases ilt (a.tmod b) 0 <;> simp only [cond_true, cond_false] <;> omega
noncomputable def ceilE (a b : Int) : Int := 0 - floorE (0 - a) b
noncomputable def ceilL : List Value → Option (Bool × Value)
  | [.int .i64 a, .int .i64 b] => some (ilt 0 b && small a, gi (ceilE a b))
  | _ => none
theorem ceilL_some {l : List Value} {v : Value} (h : ceilL l = some (true, v)) : ∃ a b, l = [gi a, gi b] ∧ v = gi (ceilE a b) ∧ ilt 0 b = true ∧ -1099511627776 ≤ a ∧ a ≤ 1099511627776 := by
  unfold ceilL at h
  split at h
  · rename_i a b
    injection h with h
    injection h with h1 h2
    rw [Bool.and_eq_true] at h1
    obtain ⟨h3, h4⟩ := small_le h1.2
    exact ⟨a, b, rfl, h2.symm, h1.1, h3, h4⟩
  · cases h
noncomputable def orcRd : Orc := orElse 73 (condO ceilL) (orElse 108 (condO ceilL) orcRc)
set_option maxRecDepth 100000 in
theorem orcRd_ok : OrcOk Tryz.prog orcRd := by
  refine condO_ok (fun l v h => ?_) (condO_ok (fun l v h => ?_) orcRc_ok)
  · obtain ⟨a, b, rfl, rfl, hb, h1, h2⟩ := ceilL_some h
    have w : fwrap IntKind.i64 (0 - a) = 0 - a := fwrap_mid (by omega) (by omega)
    obtain ⟨f1, f2⟩ := floorE_le (a := 0 - a) (b := b) (by omega) (by omega)
    refine ⟨rfl, rfl, callC_ok mixed orcRc_ok askRc_ok (Eq.mpr (Ceil_run a b _) ?_)⟩
    rw [w, fwrap_mid (by omega) (by omega), hb, small_of (by omega) (by omega)]
    exact ⟨rfl, rfl⟩
  · obtain ⟨a, b, rfl, rfl, hb, h1, h2⟩ := ceilL_some h
    have w : IntKind.wrap .i64 (0 - a) = 0 - a := wrap_small (by omega) (by omega)
    obtain ⟨f1, f2⟩ := floorE_le (a := 0 - a) (b := b) (by omega) (by omega)
    refine ⟨rfl, rfl, callC_ok mixed orcRc_ok askRc_ok (Eq.mpr (up_run a b _) ?_)⟩
    rw [w, wrap_small (by omega) (by omega), hb, small_of (by omega) (by omega)]
    exact ⟨rfl, rfl⟩
noncomputable def intvE (a b l h : Int) : Int := firstS [withinS a l h, withinS b l h, whenS (ilt b a) 11]
noncomputable def intvL : List Value → Option Value
  | [.agg a, .int .i64 l, .int .i64 h] => match a.toList with
    | [.int .i64 x, .int .i64 y] => some (gi (intvE x y l h))
    | _ => none
  | _ => none
theorem intvL_some {l : List Value} {v : Value} (h : intvL l = some v) : ∃ x y l' h', l = [.agg #[gi x, gi y], gi l', gi h'] ∧ v = gi (intvE x y l' h') := by
  unfold intvL at h
  split at h
  · rename_i a l' h'
    split at h
    · rename_i x y ha
      cases h
      obtain rfl : a = #[gi x, gi y] := by rw [← ha]
      exact ⟨x, y, l', h', rfl, rfl⟩
    · cases h
  · cases h
noncomputable def orcRe : Orc := orElse 68 (flatSpec intvL) (orElse 74 (flatSpec intvL) orcRd)
set_option maxRecDepth 100000 in
theorem orcRe_ok : OrcOk Tryz.prog orcRe := by
  refine flatSpec_ok (fun l v h => ?_) (flatSpec_ok (fun l v h => ?_) orcRd_ok)
  · obtain ⟨x, y, l', h', rfl, rfl⟩ := intvL_some h
    exact ⟨rfl, rfl, callC_ok mixed orcRc_ok askRc_ok (Eq.mpr (Intv_run x y l' h' _) ⟨rfl, rfl, rfl, rfl, rfl, rfl⟩)⟩
  · obtain ⟨x, y, l', h', rfl, rfl⟩ := intvL_some h
    exact ⟨rfl, rfl, callC_ok mixed orcRc_ok askRc_ok (Eq.mpr (intv_run x y l' h' _) ⟨rfl, rfl, rfl, rfl, rfl, rfl⟩)⟩
noncomputable def tiny (a : Int) : Bool := !ilt a (-1048576) && !ilt 1048576 a
theorem tiny_le {a : Int} (h : tiny a = true) : -1048576 ≤ a ∧ a ≤ 1048576 := by
  unfold tiny at h
  rw [ilt_say, ilt_say] at h
  simp at h
  omega
theorem tiny_of {a : Int} (h1 : -1048576 ≤ a) (h2 : a ≤ 1048576) : tiny a = true := by
  unfold tiny
  rw [ilt_say, ilt_say]
  simp
  omega
theorem tiny_mul {a b : Int} (ha : tiny a = true) (hb : tiny b = true) : -1099511627776 ≤ a * b ∧ a * b ≤ 1099511627776 := by
  obtain ⟨a1, a2⟩ := tiny_le ha
  obtain ⟨b1, b2⟩ := tiny_le hb
  have h : (a * b).natAbs ≤ 1048576 * 1048576 := by
    rw [Int.natAbs_mul]
    exact Nat.mul_le_mul (by omega) (by omega)
  omega
noncomputable def mnI (x y : Int) : Int := if y < x then y else x
noncomputable def mxI (x y : Int) : Int := if y > x then y else x
noncomputable def mn4 (p q r s : Int) : Int := mnI (mnI (mnI p q) r) s
noncomputable def mx4 (p q r s : Int) : Int := mxI (mxI (mxI p q) r) s
noncomputable def prodL : List Value → Option (Bool × Value)
  | [.agg x, .agg y] => match x.toList, y.toList with
    | [.int .i64 a, .int .i64 b], [.int .i64 c, .int .i64 d] => some (tiny a && tiny b && (tiny c && tiny d), .agg #[gi (mn4 (a * c) (a * d) (b * c) (b * d)), gi (mx4 (a * c) (a * d) (b * c) (b * d))])
    | _, _ => none
  | _ => none
theorem prodL_some {l : List Value} {v : Value} (h : prodL l = some (true, v)) : ∃ a b c d, l = [.agg #[gi a, gi b], .agg #[gi c, gi d]] ∧ v = .agg #[gi (mn4 (a * c) (a * d) (b * c) (b * d)), gi (mx4 (a * c) (a * d) (b * c) (b * d))] ∧ tiny a = true ∧ tiny b = true ∧ tiny c = true ∧ tiny d = true := by
  unfold prodL at h
  split at h
  · rename_i x y
    split at h
    · rename_i a b c d hx hy
      injection h with h
      injection h with h1 h2
      rw [Bool.and_eq_true, Bool.and_eq_true, Bool.and_eq_true] at h1
      obtain rfl : x = #[gi a, gi b] := by rw [← hx]
      obtain rfl : y = #[gi c, gi d] := by rw [← hy]
      exact ⟨a, b, c, d, rfl, h2.symm, h1.1.1, h1.1.2, h1.2.1, h1.2.2⟩
    · cases h
  · cases h
noncomputable def orcRf : Orc := orElse 109 (condO prodL) (orElse 53 (flatSpec nameC) orcRe)
set_option maxRecDepth 100000 in
theorem orcRf_ok : OrcOk Tryz.prog orcRf := by
  refine condO_ok (fun l v h => ?_) (flatSpec_ok (fun l v h => ?_) orcRe_ok)
  · obtain ⟨a, b, c, d, rfl, rfl, ha, hb, hc, hd⟩ := prodL_some h
    have i1 := tiny_mul ha hc
    have i2 := tiny_mul ha hd
    have i3 := tiny_mul hb hc
    have i4 := tiny_mul hb hd
    exact ⟨rfl, rfl, callC_ok mixed orcRc_ok askRc_ok (Eq.mpr (prod_run a b c d _) ⟨inI64_small (by omega) (by omega), inI64_small (by omega) (by omega), inI64_small (by omega) (by omega), inI64_small (by omega) (by omega), rfl⟩)⟩
  · unfold nameC at h
    split at h
    · rename_i s
      cases h
      exact ⟨rfl, rfl, callC_ok mixed orcCm_ok (noAsks_ok _) (Eq.mpr (CheckName_run s _) rfl)⟩
    · cases h
noncomputable def askRf : Asks := asksF 109 prodL (skipA 53 (skipA 68 (skipA 74 (asksF 73 ceilL (asksF 108 ceilL askRc)))))
theorem askRf_ok : AsksOk orcRf askRf := asksF_ok (skipA_ok (skipA_ok (skipA_ok (asksF_ok (asksF_ok askRc_ok)))))
theorem cs_run1 (s : ByteArray) (sc x y : Int) (K : Value → Prop) : callC Tryz.prog (exec Tryz.prog orcRf 10) (syOf []) askRf (noLoops _) 20 24 #[.agg #[.string s, gi sc, gi x, gi y]] (emp Tryz.prog) (fun v _ => K v) = ((Value.agg #[gi x, gi y] = Value.agg #[gi x, gi y] ∧ [Value.string s, gi sc, gi x, gi y][1]? = Option.some (gi sc) ∧ Value.agg #[gi x, gi y] = Value.agg #[gi x, gi y] ∧ [Value.string s, gi sc, gi x, gi y][1]? = Option.some (gi sc) ∧ Value.agg #[gi x, gi y] = Value.agg #[gi x, gi y] ∧ K (gi (firstS [whenS (!(nameS s)) 8, withinS sc 1 16384, intvE x y 1 4000])))) := by kernel_rfl
theorem CS_run1 (s : ByteArray) (sc x y : Int) (K : Value → Prop) : callC Tryz.prog (exec Tryz.prog orcRf 10) (syOf []) askRf (noLoops _) 20 17 #[.agg #[.string s, gi sc, gi x, gi y]] (emp Tryz.prog) (fun v _ => K v) = ((Value.agg #[gi x, gi y] = Value.agg #[gi x, gi y] ∧ [Value.string s, gi sc, gi x, gi y][1]? = Option.some (gi sc) ∧ Value.agg #[gi x, gi y] = Value.agg #[gi x, gi y] ∧ K (gi (firstS [whenS (!(nameS s)) 8, withinS sc 1 16384, intvE x y 1 4000])))) := by kernel_rfl
theorem CM_run (x : Int) (K : Value → Prop) : callC Tryz.prog (exec Tryz.prog orcRf 10) (syOf []) askRf (noLoops _) 20 20 #[gi x] (emp Tryz.prog) (fun v _ => K v) = (K (gi (withinS x 1 16384))) := by kernel_rfl
theorem cz_run (l : List Nat) (n e row k : Nat) (z : Int) (K : Value → Prop) : callC Tryz.prog (exec Tryz.prog orcRf 10) (syOf [(6, 7)]) askRf (noLoops _) 20 58 #[liP n k, gi z] (liH (l.map gf) e row) (fun v _ => K v) = ((∃ x1 : List Nat, (List.map gf l = List.map gf x1 ∧ (0 : Nat) < n ∧ (n : Nat) ≤ List.length x1 ∧ (n : Nat) ≤ 1000000 ∧ (n : Nat) ≤ k ∧ K (gi (firstS [csE (List.take n x1), withinS z 1 64, whenS (ilt (Int.ofNat n) z) 16]))))) := by kernel_rfl
theorem CZ_run (l : List Nat) (n e row k : Nat) (z : Int) (K : Value → Prop) : callC Tryz.prog (exec Tryz.prog orcRf 10) (syOf [(6, 7)]) askRf (noLoops _) 20 18 #[liP n k, gi z] (liH (l.map gf) e row) (fun v _ => K v) = ((∃ x1 : List Nat, (List.map gf l = List.map gf x1 ∧ (0 : Nat) < n ∧ (n : Nat) ≤ List.length x1 ∧ (n : Nat) ≤ 1000000 ∧ (n : Nat) ≤ k ∧ K (gi (firstS [csE (List.take n x1), withinS z 1 64, whenS (ilt (Int.ofNat n) z) 16]))))) := by kernel_rfl
end Go.Proofs.YtojfhklkcelblaaGreatDoor
/-! The checks of a sensor and of the samples that are its offset; runs of offsets. -/
namespace Go.Proofs.YtojfhklkcelblaaGreatDoor
open Go Go.Am

noncomputable def sensE (s : ByteArray) (sc x y : Int) : Int := firstS [whenS (!(nameS s)) 8, withinS sc 1 16384, intvE x y 1 4000]
noncomputable def sensL : List Value → Option Value
  | [.agg a] => match a.toList with
    | [.string s, .int .i64 sc, .int .i64 x, .int .i64 y] => some (gi (sensE s sc x y))
    | _ => none
  | _ => none
theorem sensL_some {l : List Value} {v : Value} (h : sensL l = some v) : ∃ s sc x y, l = [.agg #[.string s, gi sc, gi x, gi y]] ∧ v = gi (sensE s sc x y) := by
  unfold sensL at h
  split at h
  · rename_i a
    split at h
    · rename_i s sc x y ha
      cases h
      obtain rfl : a = #[.string s, gi sc, gi x, gi y] := by rw [← ha]
      exact ⟨s, sc, x, y, rfl, rfl⟩
    · cases h
  · cases h
noncomputable def measL : List Value → Option Value
  | [.int .i64 x] => some (gi (withinS x 1 16384))
  | _ => none
noncomputable def orcRg : Orc := orElse 20 (flatSpec measL) (orElse 17 (flatSpec sensL) (orElse 24 (flatSpec sensL) orcRf))
set_option maxRecDepth 100000 in
theorem orcRg_ok : OrcOk Tryz.prog orcRg := by
  refine flatSpec_ok (fun l v h => ?_) (flatSpec_ok (fun l v h => ?_) (flatSpec_ok (fun l v h => ?_) orcRf_ok))
  · unfold measL at h
    split at h
    · rename_i x
      cases h
      exact ⟨rfl, rfl, callC_ok mixed orcRf_ok askRf_ok (Eq.mpr (CM_run x _) rfl)⟩
    · cases h
  · obtain ⟨s, sc, x, y, rfl, rfl⟩ := sensL_some h
    exact ⟨rfl, rfl, callC_ok mixed orcRf_ok askRf_ok (Eq.mpr (CS_run1 s sc x y _) ⟨rfl, rfl, rfl, rfl⟩)⟩
  · obtain ⟨s, sc, x, y, rfl, rfl⟩ := sensL_some h
    exact ⟨rfl, rfl, callC_ok mixed orcRf_ok askRf_ok (Eq.mpr (cs_run1 s sc x y _) ⟨rfl, rfl, rfl, rfl, rfl, rfl⟩)⟩
noncomputable def askRg : Asks := skipA 20 (skipA 17 (skipA 24 askRf))
theorem askRg_ok : AsksOk orcRg askRg := skipA_ok (skipA_ok (skipA_ok askRf_ok))
noncomputable def zeroE (l : List Nat) (z : Int) : Int := firstS [csE l, withinS z 1 64, whenS (ilt (Int.ofNat l.length) z) 16]
def intT : List Value → Bool
  | [.int .i64 _] => true
  | _ => false
theorem intT_some {r : List Value} (h : intT r = true) : ∃ z, r = [gi z] := by
  unfold intT at h
  split at h
  · exact ⟨_, rfl⟩
  · cases h
noncomputable def zeroR : List Nat → List Value → Value := fun l r => match r with
  | [.int .i64 z] => gi (zeroE l z)
  | _ => gi 0
theorem cz_nil (z : Int) (K : Value → Prop) : callC Tryz.prog (exec Tryz.prog orcRg 10) (syOf []) askRg (noLoops _) 20 58 #[nilS, gi z] (emp Tryz.prog) (fun v _ => K v) = (K (gi (firstS [0, withinS z 1 64, whenS (ilt 0 z) 16]))) := by kernel_rfl
theorem cz_emp (z : Int) (k : Nat) (K : Value → Prop) : callC Tryz.prog (exec Tryz.prog orcRg 10) (syOf []) askRg (noLoops _) 20 58 #[.slice (some ⟨0, 0, none⟩) 0 k, gi z] (emp Tryz.prog) (fun v _ => K v) = (K (gi (firstS [0, withinS z 1 64, whenS (ilt 0 z) 16]))) := by kernel_rfl
theorem CZ_nil (z : Int) (K : Value → Prop) : callC Tryz.prog (exec Tryz.prog orcRg 10) (syOf []) askRg (noLoops _) 20 18 #[nilS, gi z] (emp Tryz.prog) (fun v _ => K v) = (K (gi (firstS [0, withinS z 1 64, whenS (ilt 0 z) 16]))) := by kernel_rfl
theorem CZ_emp (z : Int) (k : Nat) (K : Value → Prop) : callC Tryz.prog (exec Tryz.prog orcRg 10) (syOf []) askRg (noLoops _) 20 18 #[.slice (some ⟨0, 0, none⟩) 0 k, gi z] (emp Tryz.prog) (fun v _ => K v) = (K (gi (firstS [0, withinS z 1 64, whenS (ilt 0 z) 16]))) := by kernel_rfl
end Go.Proofs.YtojfhklkcelblaaGreatDoor
/-! The samples that are the offset: their checks, known for all samples; runs of offsets. -/
namespace Go.Proofs.YtojfhklkcelblaaGreatDoor
open Go Go.Am

theorem zeroE_nil (z : Int) : zeroE [] z = firstS [0, withinS z 1 64, whenS (ilt 0 z) 16] := by
  unfold zeroE
  rw [csE_nil]; rfl
theorem zeroE_take {l : List Nat} {n : Nat} (h : n ≤ l.length) (z : Int) : zeroE (l.take n) z = firstS [csE (l.take n), withinS z 1 64, whenS (ilt (Int.ofNat n) z) 16] := by
  unfold zeroE
  rw [show (l.take n).length = n by rw [List.length_take]; omega]
noncomputable def orcRh : Orc := orElse 18 (sliceO dF 1000000 intT zeroR) (orElse 58 (sliceO dF 1000000 intT zeroR) orcRg)
theorem zeroR_flat (l : List Nat) (r : List Value) (h : intT r = true) : flat 3 (zeroR l r) = true := by
  obtain ⟨z, rfl⟩ := intT_some h
  rfl
set_option maxRecDepth 100000 in
theorem orcRh_ok : OrcOk Tryz.prog orcRh := by
  refine sliceO_ok dF_some (fun _ => rfl) globs_pos (sliceO_ok dF_some (fun _ => rfl) globs_pos orcRg_ok zeroR_flat ?_ ?_ ?_) zeroR_flat ?_ ?_ ?_
  · intro r h; obtain ⟨z, rfl⟩ := intT_some h; exact callC_ok mixed orcRg_ok askRg_ok (Eq.mpr (cz_nil z _) (congrArg gi (zeroE_nil z).symm))
  · intro r k h; obtain ⟨z, rfl⟩ := intT_some h; exact callC_ok mixed orcRg_ok askRg_ok (Eq.mpr (cz_emp z k _) (congrArg gi (zeroE_nil z).symm))
  · intro l n r el row k h0 h1 h2 h3 h
    obtain ⟨z, rfl⟩ := intT_some h
    exact callC_ok mixed orcRf_ok askRf_ok (Eq.mpr (cz_run l n el row k z _) ⟨l, rfl, h0, h1, h2, h3, congrArg gi (zeroE_take h1 z).symm⟩)
  · intro r h; obtain ⟨z, rfl⟩ := intT_some h; exact callC_ok mixed orcRg_ok askRg_ok (Eq.mpr (CZ_nil z _) (congrArg gi (zeroE_nil z).symm))
  · intro r k h; obtain ⟨z, rfl⟩ := intT_some h; exact callC_ok mixed orcRg_ok askRg_ok (Eq.mpr (CZ_emp z k _) (congrArg gi (zeroE_nil z).symm))
  · intro l n r el row k h0 h1 h2 h3 h
    obtain ⟨z, rfl⟩ := intT_some h
    exact callC_ok mixed orcRf_ok askRf_ok (Eq.mpr (CZ_run l n el row k z _) ⟨l, rfl, h0, h1, h2, h3, congrArg gi (zeroE_take h1 z).symm⟩)
noncomputable def askRh : Asks := asksO 18 gf 1000000 intT zeroR (asksO 58 gf 1000000 intT zeroR askRg)
theorem askRh_ok : AsksOk orcRh askRh := asksO_ok (d := dF) (e := gf) (fun _ => rfl) (asksO_ok (d := dF) (e := gf) (fun _ => rfl) askRg_ok)
noncomputable def offN (l : List Nat) (z : Int) : X4 := bif ieq (zeroE l z) 0 then exA (l.take z.toNat) else ⟨0, 0, 0, 0⟩
theorem of_run (l : List Nat) (n e row k : Nat) (z : Int) (K : Value → Prop) : callC Tryz.prog (exec Tryz.prog orcRh 10) (syOf [(11, 7), (13, 1), (19, 19), (20, 7)]) askRh (noLoops _) 20 13 #[liP n k, gi z] (liH (l.map gf) e row) (fun v _ => K v) = ((∃ x1 : List Nat, (List.map gf l = List.map gf x1 ∧ (0 : Nat) < n ∧ (n : Nat) ≤ List.length x1 ∧ (n : Nat) ≤ 1000000 ∧ (n : Nat) ≤ k ∧ ((!(ieq (zeroE (List.take n x1) z) 0)) = true → K (Value.tuple #[Value.agg (Array.mk (List.take 2 (List.drop 0 ([] ++ ([gi 0, gi 0] ++ []))))), zeroR (List.take n x1) [gi z]])) ∧ ((!(ieq (zeroE (List.take n x1) z) 0)) = false → ((0 : Int) ≤ z ∧ (z : Int) ≤ Int.ofNat k ∧ (0 : Nat) < k ∧ (n : Nat) ≤ k ∧ (∃ x2 : List Nat, (List.map gf l = List.map gf x2 ∧ (Nat.beq row 0 || Nat.beq row 2) = true ∧ (0 : Nat) < Int.toNat z ∧ (Int.toNat z : Nat) ≤ List.length x2 ∧ (Int.toNat z : Nat) ≤ 1000000 ∧ (Int.toNat z : Nat) ≤ k ∧ (∀ y3 : X4, (∀ y4 : Int, (y3 = exA (List.take (Int.toNat z) x2) → (y4 = exE (List.take (Int.toNat z) x2) → K (Value.tuple #[Value.agg (Array.mk (List.take 2 (List.drop 0 ([] ++ ([gi (X4.lo y3), gi (X4.hi y3)] ++ []))))), gi y4])))))))))))) := by kernel_rfl
theorem of_nil (z : Int) (K : Value → Prop) : callC Tryz.prog (exec Tryz.prog orcRh 10) (syOf [(13, 1), (19, 19), (20, 7)]) askRh (noLoops _) 20 13 #[nilS, gi z] (emp Tryz.prog) (fun v _ => K v) = ((((!(ieq (zeroE [] z) 0)) = true → K (Value.tuple #[Value.agg (Array.mk (List.take 2 (List.drop 0 ([] ++ ([gi 0, gi 0] ++ []))))), zeroR [] [gi z]])) ∧ ((!(ieq (zeroE [] z) 0)) = false → False))) := by kernel_rfl
theorem of_emp (z : Int) (k : Nat) (K : Value → Prop) : callC Tryz.prog (exec Tryz.prog orcRh 10) (syOf [(13, 1), (19, 19), (20, 7)]) askRh (noLoops _) 20 13 #[.slice (some ⟨0, 0, none⟩) 0 k, gi z] (emp Tryz.prog) (fun v _ => K v) = ((((!(ieq (zeroE [] z) 0)) = true → K (Value.tuple #[Value.agg (Array.mk (List.take 2 (List.drop 0 ([] ++ ([gi 0, gi 0] ++ []))))), zeroR [] [gi z]])) ∧ ((!(ieq (zeroE [] z) 0)) = false → ((0 : Int) ≤ z ∧ (z : Int) ≤ Int.ofNat k ∧ (0 : Nat) < k ∧ (0 : Nat) ≤ k ∧ Int.toNat z = 0 ∧ (∀ y1 : X4, (∀ y2 : Int, (y1 = exA [] → (y2 = 12 → K (Value.tuple #[Value.agg (Array.mk (List.take 2 (List.drop 0 ([] ++ ([gi (X4.lo y1), gi (X4.hi y1)] ++ []))))), gi y2]))))))))) := by kernel_rfl
theorem Of_run (l : List Nat) (n e row k : Nat) (z : Int) (K : Value → Prop) : callC Tryz.prog (exec Tryz.prog orcRh 10) (syOf [(10, 19), (11, 7)]) askRh (noLoops _) 20 21 #[liP n k, gi z] (liH (l.map gf) e row) (fun v _ => K v) = (((0 : Int) ≤ z ∧ (z : Int) ≤ Int.ofNat k ∧ (0 : Nat) < k ∧ (n : Nat) ≤ k ∧ (∃ x1 : List Nat, (List.map gf l = List.map gf x1 ∧ (Nat.beq row 0 || Nat.beq row 2) = true ∧ (0 : Nat) < Int.toNat z ∧ (Int.toNat z : Nat) ≤ List.length x1 ∧ (Int.toNat z : Nat) ≤ 65536 ∧ (Int.toNat z : Nat) ≤ k ∧ ieq (csE (List.take (Int.toNat z) x1)) 0 = true ∧ (∀ y2 : X4, (∀ y3 : Int, (y2 = exA (List.take (Int.toNat z) x1) → (y3 = exE (List.take (Int.toNat z) x1) → K (Value.agg (Array.mk (List.take 2 (List.drop 0 ([] ++ ([gi (X4.lo y2), gi (X4.hi y2)] ++ [])))))))))))))) := by kernel_rfl
end Go.Proofs.YtojfhklkcelblaaGreatDoor
