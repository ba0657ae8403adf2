/-
  OWN WORK. Rounded quotients, samples of integers, units.
-/
import Derived.Test.YthgojmebbhpbbaaGreatDoorKaE
import Derived.Test.YthgojmebbhpbbaaGreatDoorAmFs
/-! (OWN WORK. Kernels: quotients that are rounded, samples of integers, places in a record.) -/
namespace Go.Proofs.YthgojmebbhpbbaaGreatDoor
open Go Go.Am Ieee
theorem floor_run (a b : Int) (K : Value → Prop) : callC Tryz.prog (exec Tryz.prog orcKd 10) (syOf [(8, 35), (11, 6), (12, 1), (14, 33)]) noAsks (noLoops _) 20 115 #[gi a, gi b] (emp Tryz.prog) (fun v _ => K v) = (((b = 0 → False) ∧ (b = 0 → False) ∧ (ilt (Int.tmod a b) 0 = true → (inI64 (IntKind.wrap .i64 (Int.tdiv a b) - 1) = true ∧ K (gi (IntKind.wrap .i64 (Int.tdiv a b) - 1)))) ∧ (ilt (Int.tmod a b) 0 = false → K (gi (IntKind.wrap .i64 (Int.tdiv a b)))))) := by kernel_rfl
theorem Floor_run (a b : Int) (K : Value → Prop) : callC Tryz.prog (exec Tryz.prog orcKd 10) (syOf [(8, 35), (11, 33), (13, 1), (15, 33)]) noAsks (noLoops _) 20 105 #[gi a, gi b] (emp Tryz.prog) (fun v _ => K v) = (((b = 0 → False) ∧ inI64 (IntKind.wrap .i64 (Int.tdiv a b) * b) = true ∧ (ilt a (IntKind.wrap .i64 (Int.tdiv a b) * b) = true → (inI64 (IntKind.wrap .i64 (Int.tdiv a b) - 1) = true ∧ K (gi (IntKind.wrap .i64 (Int.tdiv a b) - 1)))) ∧ (ilt a (IntKind.wrap .i64 (Int.tdiv a b) * b) = false → K (gi (IntKind.wrap .i64 (Int.tdiv a b)))))) := by kernel_rfl
theorem sample_run (u : Int) (K : Value → Prop) : callC Tryz.prog (exec Tryz.prog orcKd 10) (syOf [(5, 12)]) noAsks (noLoops _) 20 101 #[gi u] (emp Tryz.prog) (fun v _ => K v) = ((Option.isSome (floatBits BinOp.quo FloatKind.f32 (Ieee.Format.nearest (FloatKind.format FloatKind.f32) (Decidable.decide ((u : Int) < 0)) (Int.natAbs u) 0) 1098907648) = true ∧ K (gf (Option.getD (floatBits BinOp.quo FloatKind.f32 (Ieee.Format.nearest (FloatKind.format FloatKind.f32) (Decidable.decide ((u : Int) < 0)) (Int.natAbs u) 0) 1098907648) 0)))) := by kernel_rfl
theorem Sample_run (u : Int) (K : Value → Prop) : callC Tryz.prog (exec Tryz.prog orcKd 10) (syOf [(5, 12)]) noAsks (noLoops _) 20 64 #[gi u] (emp Tryz.prog) (fun v _ => K v) = ((Option.isSome (floatBits BinOp.quo FloatKind.f32 (Ieee.Format.nearest (FloatKind.format FloatKind.f32) (Decidable.decide ((u : Int) < 0)) (Int.natAbs u) 0) 1098907648) = true ∧ K (gf (Option.getD (floatBits BinOp.quo FloatKind.f32 (Ieee.Format.nearest (FloatKind.format FloatKind.f32) (Decidable.decide ((u : Int) < 0)) (Int.natAbs u) 0) 1098907648) 0)))) := by kernel_rfl
noncomputable def floorE (a b : Int) : Int := bif ilt (a.tmod b) 0 then a.tdiv b - 1 else a.tdiv b
theorem wrap_small {x : Int} (h1 : -4611686018427387904 ≤ x) (h2 : x ≤ 4611686018427387904) : IntKind.wrap .i64 x = x := by
 rw [← fwrap_eq]; exact fwrap_mid h1 h2
theorem tdiv_small {a b : Int} (h1 : -4611686018427387904 ≤ a) (h2 : a ≤ 4611686018427387904) : -4611686018427387904 ≤ a.tdiv b ∧ a.tdiv b ≤ 4611686018427387904 := by
 have := Int.natAbs_tdiv_le_natAbs a b
 omega
theorem inI64_small {x : Int} (h1 : -4611686018427387905 ≤ x) (h2 : x ≤ 4611686018427387905) : inI64 x = true := by
 cases x with
 | ofNat m => exact inI64_nat (by simp only [Int.ofNat_eq_natCast] at h2; omega)
 | negSucc m =>
  show Nat.blt m 9223372036854775808 = true
  rw [Nat.blt_eq]; omega
theorem floor_same (a b : Int) : ilt a (a.tdiv b * b) = ilt (a.tmod b) 0 := by
 rw [ilt_say, ilt_say]
 congr 1
 have := Int.tmod_def a b
 rw [Int.mul_comm] at this
 rw [eq_iff_iff]
 constructor <;> intro h <;> omega
noncomputable def small (a : Int) : Bool := !ilt a (-1099511627776) && !ilt 1099511627776 a
theorem small_le {a : Int} (h : small a = true) : -1099511627776 ≤ a ∧ a ≤ 1099511627776 := by
 unfold small at h
 rw [ilt_say, ilt_say] at h
 simp at h
 omega
noncomputable def floorL : List Value → Option (Bool × Value)
 | [.int .i64 a, .int .i64 b] => some (ilt 0 b && small a, gi (floorE a b))
 | _ => none
theorem floorL_some {l : List Value} {v : Value} (h : floorL l = some (true, v)) : ∃ a b, l = [gi a, gi b] ∧ v = gi (floorE a b) ∧ 0 < b ∧ -1099511627776 ≤ a ∧ a ≤ 1099511627776 := by
 unfold floorL at h
 split at h
 ·rename_i a b
  injection h with h
  injection h with h1 h2
  rw [Bool.and_eq_true, ilt_say] at h1
  obtain ⟨h3, h4⟩ := small_le h1.2
  exact ⟨a, b, rfl, h2.symm, by simpa using h1.1, h3, h4⟩
 ·cases h
noncomputable def orcKe : Orc := orElse 105 (condO floorL) (orElse 115 (condO floorL) orcKd)
set_option maxRecDepth 100000 in
theorem orcKe_ok : OrcOk Tryz.prog orcKe := by
 refine condO_ok (fun l v h => ?_) (condO_ok (fun l v h => ?_) orcKd_ok)
 ·obtain ⟨a, b, rfl, rfl, hb, h1, h2⟩ := floorL_some h
  obtain ⟨t1, t2⟩ := tdiv_small (a := a) (b := b) (by omega) (by omega)
  have w := wrap_small t1 t2
  have hm : a.tdiv b * b = a - a.tmod b := by
   have := Int.tmod_def a b
   rw [Int.mul_comm] at this
   omega
  have hr : (a.tmod b).natAbs ≤ a.natAbs := by rw [Int.natAbs_tmod]; exact Nat.mod_le _ _
  refine ⟨rfl, rfl, callC_ok mixed orcKd_ok (noAsks_ok _) (Eq.mpr (Floor_run a b _) ?_)⟩
  rw [w, floor_same]
  refine ⟨fun h => by omega, inI64_small (by rw [hm]; omega) (by rw [hm]; omega), fun hc => ⟨inI64_small (by omega) (by omega), ?_⟩, fun hc => ?_⟩
  ·unfold floorE; rw [hc]; rfl
  ·unfold floorE; rw [hc]; rfl
 ·obtain ⟨a, b, rfl, rfl, hb, h1, h2⟩ := floorL_some h
  obtain ⟨t1, t2⟩ := tdiv_small (a := a) (b := b) (by omega) (by omega)
  have w := wrap_small t1 t2
  refine ⟨rfl, rfl, callC_ok mixed orcKd_ok (noAsks_ok _) (Eq.mpr (floor_run a b _) ?_)⟩
  rw [w]
  refine ⟨fun h => by omega, fun h => by omega, fun hc => ⟨inI64_small (by omega) (by omega), ?_⟩, fun hc => ?_⟩
  ·unfold floorE; rw [hc]; rfl
  ·unfold floorE; rw [hc]; rfl
noncomputable def askKe (n : Nat) : Asks := asksF 105 floorL (asksF 115 floorL (askKd n))
theorem askKe_ok (n : Nat) : AsksOk orcKe (askKe n) := asksF_ok (asksF_ok (askKd_ok n))
theorem near_run (a b : Int) (K : Value → Prop) : callC Tryz.prog (exec Tryz.prog orcKe 10) (syOf [(6, 33), (8, 33), (10, 33), (11, 7)]) (askKe 1) (noLoops _) 20 100 #[gi a, gi b] (emp Tryz.prog) (fun v _ => K v) = ((inI64 (2 * a) = true ∧ inI64 ((2 * a) + b) = true ∧ inI64 (2 * b) = true ∧ (ilt 0 (2 * b) && small ((2 * a) + b)) = true ∧ K (gi (floorE ((2 * a) + b) (2 * b))))) := by kernel_rfl
theorem Round_run (a b : Int) (K : Value → Prop) : callC Tryz.prog (exec Tryz.prog orcKe 10) (syOf [(6, 33), (8, 33), (10, 33), (11, 7)]) (askKe 1) (noLoops _) 20 56 #[gi a, gi b] (emp Tryz.prog) (fun v _ => K v) = ((inI64 (2 * a) = true ∧ inI64 ((2 * a) + b) = true ∧ inI64 (2 * b) = true ∧ (ilt 0 (2 * b) && small ((2 * a) + b)) = true ∧ K (gi (floorE ((2 * a) + b) (2 * b))))) := by kernel_rfl
noncomputable def nearE (a b : Int) : Int := floorE (2 * a + b) (2 * b)
noncomputable def nearL : List Value → Option (Bool × Value)
 | [.int .i64 a, .int .i64 b] => some ((ilt 0 b && !ilt 1048576 b) && (!ilt a (-274877906944) && !ilt 274877906944 a), gi (nearE a b))
 | _ => none
theorem nearL_some {l : List Value} {v : Value} (h : nearL l = some (true, v)) : ∃ a b, l = [gi a, gi b] ∧ v = gi (nearE a b) ∧ 0 < b ∧ b ≤ 1048576 ∧ -274877906944 ≤ a ∧ a ≤ 274877906944 := by
 unfold nearL at h
 split at h
 ·rename_i a b
  injection h with h
  injection h with h1 h2
  simp only [Bool.and_eq_true, ilt_say, decide_eq_true_eq, Bool.not_eq_true', decide_eq_false_iff_not] at h1
  exact ⟨a, b, rfl, h2.symm, h1.1.1, by omega, by omega, by omega⟩
 ·cases h
noncomputable def smI (u : Int) : Option Nat := floatBits BinOp.quo FloatKind.f32 (Ieee.Format.nearest (FloatKind.format FloatKind.f32) (Decidable.decide ((u : Int) < 0)) (Int.natAbs u) 0) 1098907648
noncomputable def sampleE (u : Int) : Nat := (smI u).getD 0
noncomputable def smpI : List Value → Option (Bool × Value)
 | [.int .i64 u] => some (!ilt u (-16384) && !ilt 16384 u, gf (sampleE u))
 | _ => none
theorem smI_some {u : Int} (h1 : -16384 ≤ u) (h2 : u ≤ 16384) : ∃ b, smI u = some b ∧ fin32 b ∧ rv single (b % 2 ^ 31) = u.natAbs * 2 ^ 145 ∧ (b / 2 ^ 31 % 2 == 1) = decide (u < 0) :=
 sample_fin (decide (u < 0)) (n := u.natAbs) (by omega)
theorem smpI_some {l : List Value} {v : Value} (h : smpI l = some (true, v)) : ∃ u, l = [gi u] ∧ v = gf (sampleE u) ∧ -16384 ≤ u ∧ u ≤ 16384 := by
 unfold smpI at h
 split at h
 ·rename_i u
  injection h with h
  injection h with h1 h2
  simp only [Bool.and_eq_true, ilt_say, Bool.not_eq_true', decide_eq_false_iff_not] at h1
  exact ⟨u, rfl, h2.symm, by omega, by omega⟩
 ·cases h
noncomputable def orcKf : Orc := orElse 64 (condO smpI) (orElse 101 (condO smpI) (orElse 56 (condO nearL) (orElse 100 (condO nearL) orcKe)))
set_option maxRecDepth 100000 in
theorem orcKf_ok : OrcOk Tryz.prog orcKf := by
 refine condO_ok (fun l v h => ?_) (condO_ok (fun l v h => ?_) (condO_ok (fun l v h => ?_) (condO_ok (fun l v h => ?_) orcKe_ok)))
 ·obtain ⟨u, rfl, rfl, h1, h2⟩ := smpI_some h
  obtain ⟨b, hb, _⟩ := smI_some h1 h2
  exact ⟨rfl, rfl, callC_ok mixed orcKd_ok (noAsks_ok _) (Eq.mpr (Sample_run u _) ⟨by rw [show floatBits _ _ _ _ = some b from hb]; rfl, rfl⟩)⟩
 ·obtain ⟨u, rfl, rfl, h1, h2⟩ := smpI_some h
  obtain ⟨b, hb, _⟩ := smI_some h1 h2
  exact ⟨rfl, rfl, callC_ok mixed orcKd_ok (noAsks_ok _) (Eq.mpr (sample_run u _) ⟨by rw [show floatBits _ _ _ _ = some b from hb]; rfl, rfl⟩)⟩
 ·obtain ⟨a, b, rfl, rfl, h1, h2, h3, h4⟩ := nearL_some h
  refine ⟨rfl, rfl, callC_ok mixed orcKe_ok (askKe_ok 1) (Eq.mpr (Round_run a b _) ⟨inI64_small (by omega) (by omega), inI64_small (by omega) (by omega), inI64_small (by omega) (by omega), ?_, rfl⟩)⟩
  unfold small
  simp only [Bool.and_eq_true, ilt_say, decide_eq_true_eq, Bool.not_eq_true', decide_eq_false_iff_not]
  omega
 ·obtain ⟨a, b, rfl, rfl, h1, h2, h3, h4⟩ := nearL_some h
  refine ⟨rfl, rfl, callC_ok mixed orcKe_ok (askKe_ok 1) (Eq.mpr (near_run a b _) ⟨inI64_small (by omega) (by omega), inI64_small (by omega) (by omega), inI64_small (by omega) (by omega), ?_, rfl⟩)⟩
  unfold small
  simp only [Bool.and_eq_true, ilt_say, decide_eq_true_eq, Bool.not_eq_true', decide_eq_false_iff_not]
  omega
noncomputable def askKf (n : Nat) : Asks := asksF 64 smpI (asksF 101 smpI (asksF 56 nearL (asksF 100 nearL (askKe n))))
theorem askKf_ok (n : Nat) : AsksOk orcKf (askKf n) := asksF_ok (asksF_ok (asksF_ok (asksF_ok (askKe_ok n))))
noncomputable def ne32 (x y : Nat) : Bool := Ieee.single.order x y != some .eq
theorem cut_pow {r N e f : Nat} (h : 16 * (r * 2 ^ e) = N * 2 ^ f) (hf : f = 149 + e) : r = N * 2 ^ 145 := by
 subst hf
 rw [Nat.pow_add 2 149 e, ← Nat.mul_assoc, ← Nat.mul_assoc] at h
 have := Nat.eq_of_mul_eq_mul_right (Nat.two_pow_pos e) h
 omega
end Go.Proofs.YthgojmebbhpbbaaGreatDoor
/-! (OWN WORK. Kernels: the integers of a record by the program; places, limits.) -/
namespace Go.Proofs.YthgojmebbhpbbaaGreatDoor
open Go Go.Am
noncomputable def atE (i n : Int) : Int := if ((if (i : Int) > 0 then i else 0) : Int) < (n - 1) then (if (i : Int) > 0 then i else 0) else (n - 1)
theorem at_run (i n : Int) (K : Value → Prop) : callC Tryz.prog (exec Tryz.prog orcKf 10) (syOf [(6, 33)]) noAsks (noLoops _) 20 55 #[gi i, gi n] (emp Tryz.prog) (fun v _ => K v) = ((inI64 (n - 1) = true ∧ K (gi (atE i n)))) := by kernel_rfl
theorem cu_run (u : Int) (K : Value → Prop) : callC Tryz.prog (exec Tryz.prog orcKf 10) (syOf []) noAsks (noLoops _) 20 106 #[gi u] (emp Tryz.prog) (fun v _ => K v) = (K (gi (withinS u (-16384) 16384))) := by kernel_rfl
theorem unit_run' (x : Nat) (K : Value → AHeap → Prop) : callC Tryz.prog (exec Tryz.prog orcKf 10) (syOf [(4, 12), (5, 13)]) noAsks (noLoops _) 20 75 #[gf x] (emp Tryz.prog) K =
 ((floatBits .mul .f32 s16 x).isSome = true ∧ (floatToIntVal .f32 (mulE x) .i64).isSome = true ∧ K (gi (unitE x)) (emp Tryz.prog)) := by kernel_rfl
noncomputable def atL : List Value → Option (Bool × Value)
 | [.int .i64 i, .int .i64 n] => some (ilt 0 n && small n, gi (atE i n))
 | _ => none
noncomputable def uoL : List Value → Option Value
 | [.int .i64 u] => some (gi (withinS u (-16384) 16384))
 | _ => none
noncomputable def orcKg : Orc := orElse 75 (condO unitS) (orElse 106 (flatSpec uoL) (orElse 55 (condO atL) orcKf))
set_option maxRecDepth 100000 in
theorem orcKg_ok : OrcOk Tryz.prog orcKg := by
 refine condO_ok (fun l v h => ?_) (flatSpec_ok (fun l v h => ?_) (condO_ok (fun l v h => ?_) orcKf_ok))
 ·unfold unitS at h
  split at h
  ·rename_i x
   injection h with h
   injection h with h1 h2
   subst h2
   rw [ieq_dec] at h1
   obtain ⟨k1, k2, _⟩ := unit_ok (x := x) (by simpa using h1)
   exact ⟨rfl, rfl, callC_ok mixed orcKf_ok (noAsks_ok _) (Eq.mpr (unit_run' _ _) ⟨k1, k2, rfl⟩)⟩
  ·cases h
 ·unfold uoL at h
  split at h
  ·rename_i u
   cases h
   exact ⟨rfl, rfl, callC_ok mixed orcKf_ok (noAsks_ok _) (Eq.mpr (cu_run u _) rfl)⟩
  ·cases h
 ·unfold atL at h
  split at h
  ·rename_i i n
   injection h with h
   injection h with h1 h2
   subst h2
   rw [Bool.and_eq_true, ilt_say] at h1
   obtain ⟨h3, h4⟩ := small_le h1.2
   exact ⟨rfl, rfl, callC_ok mixed orcKf_ok (noAsks_ok _) (Eq.mpr (at_run i n _) ⟨inI64_small (by omega) (by omega), rfl⟩)⟩
  ·cases h
noncomputable def askKg (n : Nat) : Asks := asksF 75 unitS (skipA 106 (asksF 55 atL (askKf n)))
theorem askKg_ok (n : Nat) : AsksOk orcKg (askKg n) := asksF_ok (skipA_ok (asksF_ok (askKf_ok n)))
noncomputable abbrev uqF : Value := .func (.func 75) #[] #[]
theorem mq_body (c c' : List Value) (n k m j e row : Nat) (g : Nat → Value) (Q : Exit → List Value → AHeap → Prop) :
  execC Tryz.prog (exec Tryz.prog orcKg 10) (syOf [(14, 1), (15, 2), (16, 3), (20, 7), (22, 17)]) (askKg 1) (noLoops _) 40 (loopOf Tryz.prog 125 0) (stOf 25 [(1, uqF), (5, slO j m), (11, liP n k), (12, goN n), (13, goN j)] g) (MH c e row c') (told 25 [1, 5, 11, 12, 13] Q) =
  ((Nat.blt j n = true → Nat.blt j n = true ∧ c[0 + j * 1]? = some (.float .f32 (floatAt c (0 + j * 1))) ∧ ieq (smpE (floatAt c (0 + j * 1))) 0 = true ∧ Nat.ble (j + 1) m = true ∧ Nat.ble (0 + j * 1 + 1) c'.length = true ∧
   Q .normal [uqF, slO (j + 1) m, liP n k, goN n, .int .i64 (fwrap .i64 (Int.ofNat (j + 1)))] (((MH c e row c').push (.cells [gi (unitE (floatAt c (0 + j * 1)))] 3 2 false)).set (nG1 + 1) (.cells (splice c' (0 + j * 1) [gi (unitE (floatAt c (0 + j * 1)))]) 3 2 false))) ∧
   (Nat.blt j n = false → Q (.exit 0) [uqF, slO j m, liP n k, goN n, goN j] (MH c e row c'))) := by kernel_rfl
set_option maxRecDepth 100000 in
theorem mq_loop (l : List Nat) (n e row k : Nat) (h₀ : AHeap) (hn : n ≤ l.length) (hl : n ≤ 65536) (hval : ∀ x ∈ l.take n, smpE x = 0) (hs : h₀.get nG1 = some (.cells (l.map gf) e row true)) (hd : h₀.get (nG1 + 1) = some (.cells ((dstL l n 0).map gi) 3 2 false)) :
  ∀ a : AAct, a.n = 25 → a.marks = [] → [1, 5, 11, 12, 13].map a.tmp = [uqF, slO 0 n, liP n k, goN n, goN 0] →
  J Tryz.prog (.loop (loopOf Tryz.prog 125 0)) a h₀ (told 25 [1, 5, 11, 12, 13] fun ex vs h => ex = .exit 0 ∧ vs = [uqF, slO n n, liP n k, goN n, goN n] ∧ h.get (nG1 + 1) = some (.cells (((l.take n).map unitE).map gi) 3 2 false)) := by
 intro a ha hm hv
 refine loop_rule (fun m vs h => ∃ j, j ≤ n ∧ m = n - j ∧ vs = [uqF, slO j n, liP n k, goN n, goN j] ∧ h.get nG1 = some (.cells (l.map gf) e row true) ∧ h.get (nG1 + 1) = some (.cells ((dstL l n j).map gi) 3 2 false)) _ ?_ n _ _ a ⟨0, Nat.zero_le _, rfl, rfl, hs, hd⟩ ha hm hv
 rintro m vs h g ⟨j, hj, rfl, rfl, hs, hd⟩
 refine J.reheap (es := fun _ => 0) (vs₂ := [uqF, slO j n, liP n k, goN n, goN j]) (B := [(l.map gf, e, row, true), ((dstL l n j).map gi, 3, 2, false)]) (ids := [nG1, nG1 + 1]) globs_pos (by decide) (by decide) rfl (by simp) (by simp) ?_ (by kernel_rfl) ?_ fun g' => ?_
 ·intro q b i hb hi
  match q, hb, hi with
  | 0, hb, hi => cases hb; cases hi; exact ⟨hs, flat_floats l⟩
  | 1, hb, hi => cases hb; cases hi; exact ⟨hd, flat_ints _⟩
 ·intro i hi
  simp only [List.mem_cons, List.not_mem_nil, or_false] at hi
  rcases hi with rfl | rfl
  ·exact ⟨(11, liP n k), by simp, by simp [named]⟩
  ·exact ⟨(5, slO j n), by simp, by simp [named]⟩
 ·refine execC_ok mixed orcKg_ok (askKg_ok 1) (noLoops _) (Eq.mpr (mq_body _ _ n k n j e row g' _) ?_)
  refine ⟨fun hlt => ?_, fun hge => ?_⟩
  ·have hj' := blt_true hlt
   have hjl : j < l.length := by omega
   obtain ⟨h1, h2⟩ := float_at hjl
   have hv : smpE l[j] = 0 := hval _ (List.mem_of_getElem? (i := j) (by rw [List.getElem?_take, if_pos hj', List.getElem?_eq_getElem hjl]))
   rw [h2]
   refine ⟨hlt, h2 ▸ h1, by rw [hv]; rfl, by rw [Nat.ble_eq]; omega, by rw [Nat.ble_eq, List.length_map, dstL_length hj hn]; omega, n - (j + 1), by omega, j + 1, hj', rfl, by rw [fwrap_nat (by omega)], ?_, ?_⟩
   ·rw [AHeap.get_set, if_neg (by omega), AHeap.get_push, if_neg (by rw [MH_n]; omega)]
    exact MH_src _ _ _ _
   ·rw [AHeap.get_set, if_pos rfl, splice_map (by rw [dstL_length hj hn]; exact hj'), dstL_set hj' hn hjl]
  ·have hge := blt_false hge
   obtain rfl : j = n := by omega
   refine ⟨rfl, rfl, ?_⟩
   rw [← dstL_end]
   exact MH_dst _ _ _ _
noncomputable def mqLoops (l : List Nat) (n e row k : Nat) : Loops Tryz.prog where
 body := fun _ => loopOf Tryz.prog 125 0
 spec := fun _ a h c => entry a 25 [(1, uqF), (5, slO 0 n), (11, liP n k), (12, goN n), (13, goN 0)] (h = mkH (l.map gf) e row (List.replicate n (gi 0)) ∧ (n ≤ l.length ∧ n ≤ 65536 ∧ ∀ x ∈ l.take n, smpE x = 0) ∧
  ∀ g h', h'.get (nG1 + 1) = some (.cells (((l.take n).map unitE).map gi) 3 2 false) → c (.exit 0) (stOf 25 [(5, slO n n)] g) h')
 ok := fun i a h c q => by
  obtain ⟨h1, h2, h3, rfl, ⟨hs1, hs2, hs3⟩, h4⟩ := entry_facts q
  refine J.of_told (mq_loop l n e row k _ hs1 hs2 hs3 ?_ ?_ a h1 h2 ?_) ?_
  ·rw [AHeap.get_push, if_neg (by rw [canon_n]; simp)]
   rw [canon_get, if_pos (Nat.le_refl _), Nat.sub_self]; rfl
  ·rw [AHeap.get_push, if_pos (by rw [canon_n]; rfl)]
   simp [dstL]
  ·simp only [List.map_cons, List.map_nil]
   rw [h3 (1, uqF) (by simp), h3 (5, slO 0 n) (by simp), h3 (11, liP n k) (by simp), h3 (12, goN n) (by simp), h3 (13, goN 0) (by simp)]
  ·rintro ex vs h' g ⟨rfl, rfl, hg⟩
   exact h4 (ov [(1, uqF), (11, liP n k), (12, goN n), (13, goN n)] g) h' hg
theorem mq_run (l : List Nat) (n e row k : Nat) (K : Value → AHeap → Prop) : callC Tryz.prog (exec Tryz.prog orcKg 10) (syOf [(10, 18)]) (askKg 1) (mqLoops l n e row k) 20 125 #[liP n k, uqF] (liH (l.map gf) e row) K =
 (Nat.ble 0 n = true ∧ Nat.ble n 65536 = true ∧ loopOf Tryz.prog 125 0 = loopOf Tryz.prog 125 0 ∧ uqF = uqF ∧ slO 0 n = slO 0 n ∧ liP n k = liP n k ∧ goN n = goN n ∧ goN 0 = goN 0 ∧
  mkH (l.map gf) e row (List.replicate n (gi 0)) = mkH (l.map gf) e row (List.replicate n (gi 0)) ∧ (n ≤ l.length ∧ n ≤ 65536 ∧ ∀ x ∈ l.take n, smpE x = 0) ∧
  ∀ (_ : Nat → Value) (h' : AHeap), h'.get (nG1 + 1) = some (.cells (((l.take n).map unitE).map gi) 3 2 false) → K (slO n n) h') := by kernel_rfl
noncomputable def uqT : List Value → Bool
 | [.func (.func f) a b] => Nat.beq f 75 && a.isEmpty && b.isEmpty
 | _ => false
theorem uqT_some {r : List Value} (h : uqT r = true) : r = [uqF] := by
 unfold uqT at h
 split at h
 ·simp only [Bool.and_eq_true, Nat.beq_eq, Array.isEmpty_iff] at h
  obtain ⟨⟨rfl, rfl⟩, rfl⟩ := h
  rfl
 ·cases h
noncomputable def orcKh : Orc := orElse 125 (mapO dF 65536 (fun n => n) uqT unX 3) orcKg
set_option maxRecDepth 100000 in
theorem orcKh_ok : OrcOk Tryz.prog orcKh := by
 refine mapO_ok dF_some (fun _ => rfl) orcKg_ok (fun l xs h => by obtain ⟨_, rfl⟩ := unX_some h; exact flat_ints _) fun l n r xs el row k h0 h1 h2 ht hx => ?_
 obtain rfl := uqT_some ht
 obtain ⟨hv, rfl⟩ := unX_some hx
 exact callC_ok mixed orcKg_ok (askKg_ok 1) (Eq.mpr (mq_run l n el row k _) ⟨by rw [Nat.ble_eq]; omega, by rw [Nat.ble_eq]; omega, rfl, rfl, rfl, rfl, rfl, rfl, rfl, ⟨h1, h2, hv⟩, fun _ h' hg => ⟨_, rfl, hg⟩⟩)
noncomputable def askKh (n : Nat) : Asks := asksM 125 gf 65536 (fun n => n) uqT validL unitsL 3 (askKg n)
theorem askKh_ok (n : Nat) : AsksOk orcKh (askKh n) := asksM_ok (d := dF) (e := gf) (fun _ => rfl) (fun _ => unX_ok) (askKg_ok n)
theorem unq_run (l : List Nat) (n e row k : Nat) (K : Value → AHeap → Prop) : callC Tryz.prog (exec Tryz.prog orcKh 10) (syOf [(4, 7)]) (askKh 1) (noLoops _) 20 90 #[liP n k] (liH (l.map gf) e row) K =
 (∃ l' : List Nat, l.map gf = l'.map gf ∧ 0 < n ∧ n ≤ l'.length ∧ n ≤ 65536 ∧ validL (l'.take n) ∧ K (.slice (some ⟨(liH (l.map gf) e row).n, 0, none⟩) n n) ((liH (l.map gf) e row).push (.cells (unitsL (l'.take n)) 3 2 false))) := by kernel_rfl
noncomputable def orcKi : Orc := orElse 90 (mapO dF 65536 (fun n => n) noT unX 3) orcKh
set_option maxRecDepth 100000 in
theorem orcKi_ok : OrcOk Tryz.prog orcKi := by
 refine mapO_ok dF_some (fun _ => rfl) orcKh_ok (fun l xs h => by obtain ⟨_, rfl⟩ := unX_some h; exact flat_ints _) fun l n r xs el row k h0 h1 h2 ht hx => ?_
 obtain rfl := noT_some ht
 obtain ⟨hv, rfl⟩ := unX_some hx
 exact callC_ok mixed orcKh_ok (askKh_ok 1) (Eq.mpr (unq_run l n el row k _) ⟨l, rfl, h0, h1, h2, hv, _, rfl, by rw [AHeap.get_push, if_pos rfl]⟩)
noncomputable def askKi (n : Nat) : Asks := asksM 90 gf 65536 (fun n => n) noT validL unitsL 3 (askKh n)
theorem askKi_ok (n : Nat) : AsksOk orcKi (askKi n) := asksM_ok (d := dF) (e := gf) (fun _ => rfl) (fun _ => unX_ok) (askKh_ok n)
end Go.Proofs.YthgojmebbhpbbaaGreatDoor
/-! (OWN WORK. Kernels: bodies.) -/
namespace Go.Proofs.YthgojmebbhpbbaaGreatDoor
open Go Go.Am
noncomputable abbrev ptP (i : Nat) : Value := .pointer (some ⟨i, 0, none⟩)
noncomputable abbrev slX (i n k : Nat) : Value := .slice (some ⟨i, 0, none⟩) n k
noncomputable def syFil : FuncId → Sy := fun f => match Nat.beq f 136 with
 | true => syOf [(19, 33), (21, 33), (26, 33), (30, 50)]
 | false => syOf []
noncomputable def syFb : Sy := syOf [(36, 1), (50, 2), (51, 3), (52, 33), (53, 33), (57, 7), (60, 1), (63, 7), (65, 17)]
noncomputable abbrev filB (l : List Value) (e row : Nat) (W : List Value) (m : Nat) (d v : Int) (u : List Value) (n : Nat) (c : List Value) : List Blk := [(l, e, row, true), ([slX (nG1 + 2) m m, gi d, gi v], 103, 0, false), (W, 3, 2, false), ([slX (nG1 + 4) n n], 23, 0, false), (u, 3, 2, false), (c, 50, 2, false)]
theorem md_first (c : List Value) (n k e row j : Nat) (g : Nat → Value) (Q : Exit → List Value → AHeap → Prop) : execC Tryz.prog (exec Tryz.prog orcKi 10) (syOf [(8, 1), (14, 2), (15, 3), (16, 7)]) (askKi 1) (noLoops _) 40 (loopOf Tryz.prog 22 0) (stOf 20 [(0, liP n k), (3, nilS), (4, goN j)] g) (gH1 Tryz.prog c e row) (told 20 [0, 3, 4] Q) = (((Nat.blt j n = true → (Nat.blt j n = true ∧ c[(0 + (j * 1))]? = Option.some (gi (intAt c (0 + (j * 1)))) ∧ ((!(ilt (intAt c (0 + (j * 1))) (-16384))) && (!(ilt 16384 (intAt c (0 + (j * 1)))))) = true ∧ Q .normal [liP n k, Value.slice (some ⟨nG1 + 2, 0, none⟩) 1 1, gi (fwrap IntKind.i64 (Int.ofNat (j + 1)))] (((gH1 Tryz.prog c e row).push (.cells [gf (sampleE (intAt c (0 + (j * 1))))] 50 2 false)).push (.cells ([] ++ [gf (sampleE (intAt c (0 + (j * 1))))]) 50 2 false)))) ∧ (Nat.blt j n = false → Q (.exit 0) [liP n k, nilS, goN j] (gH1 Tryz.prog c e row)))) := by kernel_rfl
theorem md_next (c c' : List Value) (n k e row j q : Nat) (g : Nat → Value) (Q : Exit → List Value → AHeap → Prop) : execC Tryz.prog (exec Tryz.prog orcKi 10) (syOf [(8, 1), (14, 2), (15, 3), (16, 7), (18, 10)]) (askKi 1) (noLoops _) 40 (loopOf Tryz.prog 22 0) (stOf 20 [(0, liP n k), (3, slO q q), (4, goN j)] g) (gH2 Tryz.prog c e row c' 50) (told 20 [0, 3, 4] Q) = (((Nat.blt j n = true → (Nat.blt j n = true ∧ c[(0 + (j * 1))]? = Option.some (gi (intAt c (0 + (j * 1)))) ∧ ((!(ilt (intAt c (0 + (j * 1))) (-16384))) && (!(ilt 16384 (intAt c (0 + (j * 1)))))) = true ∧ Nat.ble (q + 1) q = false ∧ Nat.ble (((2 * (q + 1)) + 256) * 4) 281474976710656 = true ∧ (q * 1) = List.length c' ∧ Q .normal [liP n k, Value.slice (some ⟨nG1 + 3, 0, none⟩) (q + 1) (q + 1), gi (fwrap IntKind.i64 (Int.ofNat (j + 1)))] ((((gH2 Tryz.prog c e row c' 50).push (.cells [gf (sampleE (intAt c (0 + (j * 1))))] 50 2 false)).set (nG1 + 1) (.dead)).push (.cells (c' ++ [gf (sampleE (intAt c (0 + (j * 1))))]) 50 2 false)))) ∧ (Nat.blt j n = false → Q (.exit 0) [liP n k, slO q q, goN j] (gH2 Tryz.prog c e row c' 50)))) := by kernel_rfl
end Go.Proofs.YthgojmebbhpbbaaGreatDoor
