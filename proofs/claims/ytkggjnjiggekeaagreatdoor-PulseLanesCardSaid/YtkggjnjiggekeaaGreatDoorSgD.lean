/-
  OWN WORK. Quotients that are rounded down, as known calls.
-/
import Derived.Test.YtkggjnjiggekeaaGreatDoorSgC
namespace Go.Proofs.YtkggjnjiggekeaaGreatDoor
open Go Go.Am

theorem floor_run (a b : Int) (K : Value → Prop) : callC Tryz.prog (exec Tryz.prog orcCm 10) (syOf [(8, 35), (11, 6), (12, 1), (14, 33)]) noAsks (noLoops _) 20 121 #[gi a, gi b] (emp Tryz.prog) (fun v _ => K v) = (((b = 0 → False) ∧ (b = 0 → False) ∧ (ilt (Int.tmod a b) 0 = true → (inI64 (IntKind.wrap .i64 (Int.tdiv a b) - 1) = true ∧ K (gi (IntKind.wrap .i64 (Int.tdiv a b) - 1)))) ∧ (ilt (Int.tmod a b) 0 = false → K (gi (IntKind.wrap .i64 (Int.tdiv a b)))))) := by kernel_rfl
theorem Floor_run (a b : Int) (K : Value → Prop) : callC Tryz.prog (exec Tryz.prog orcCm 10) (syOf [(8, 35), (11, 33), (13, 1), (15, 33)]) noAsks (noLoops _) 20 74 #[gi a, gi b] (emp Tryz.prog) (fun v _ => K v) = (((b = 0 → False) ∧ inI64 (IntKind.wrap .i64 (Int.tdiv a b) * b) = true ∧ (ilt a (IntKind.wrap .i64 (Int.tdiv a b) * b) = true → (inI64 (IntKind.wrap .i64 (Int.tdiv a b) - 1) = true ∧ K (gi (IntKind.wrap .i64 (Int.tdiv a b) - 1)))) ∧ (ilt a (IntKind.wrap .i64 (Int.tdiv a b) * b) = false → K (gi (IntKind.wrap .i64 (Int.tdiv a b)))))) := by kernel_rfl
noncomputable def floorE (a b : Int) : Int := bif ilt (a.tmod b) 0 then a.tdiv b - 1 else a.tdiv b
theorem wrap_small {x : Int} (h1 : -4611686018427387904 ≤ x) (h2 : x ≤ 4611686018427387904) : IntKind.wrap .i64 x = x := by
  rw [← fwrap_eq]; exact fwrap_mid h1 h2
theorem tdiv_small {a b : Int} (h1 : -4611686018427387904 ≤ a) (h2 : a ≤ 4611686018427387904) : -4611686018427387904 ≤ a.tdiv b ∧ a.tdiv b ≤ 4611686018427387904 := by
  have := Int.natAbs_tdiv_le_natAbs a b
  omega
theorem inI64_small {x : Int} (h1 : -4611686018427387905 ≤ x) (h2 : x ≤ 4611686018427387905) : inI64 x = true := by
  cases x with
  | ofNat m => exact inI64_nat (by simp only [Int.ofNat_eq_natCast] at h2; omega)
  | negSucc m =>
    show Nat.blt m 9223372036854775808 = true
    rw [Nat.blt_eq]; omega
theorem floor_same (a b : Int) : ilt a (a.tdiv b * b) = ilt (a.tmod b) 0 := by
  rw [ilt_say, ilt_say]
  congr 1
  have := Int.tmod_def a b
  rw [Int.mul_comm] at this
  rw [eq_iff_iff]
  constructor <;> intro h <;> omega
noncomputable def small (a : Int) : Bool := !ilt a (-1099511627776) && !ilt 1099511627776 a
theorem small_le {a : Int} (h : small a = true) : -1099511627776 ≤ a ∧ a ≤ 1099511627776 := by
  unfold small at h
  rw [ilt_say, ilt_say] at h
  simp at h
  omega
noncomputable def floorL : List Value → Option (Bool × Value)
  | [.int .i64 a, .int .i64 b] => some (ilt 0 b && small a, gi (floorE a b))
  | _ => none
theorem floorL_some {l : List Value} {v : Value} (h : floorL l = some (true, v)) : ∃ a b, l = [gi a, gi b] ∧ v = gi (floorE a b) ∧ 0 < b ∧ -1099511627776 ≤ a ∧ a ≤ 1099511627776 := by
  unfold floorL at h
  split at h
  · rename_i a b
    injection h with h
    injection h with h1 h2
    rw [Bool.and_eq_true, ilt_say] at h1
    obtain ⟨h3, h4⟩ := small_le h1.2
    exact ⟨a, b, rfl, h2.symm, by simpa using h1.1, h3, h4⟩
  · cases h
noncomputable def orcSd : Orc := orElse 74 (condO floorL) (orElse 121 (condO floorL) orcCm)
set_option maxRecDepth 100000 in
theorem orcSd_ok : OrcOk Tryz.prog orcSd := by
  refine condO_ok (fun l v h => ?_) (condO_ok (fun l v h => ?_) orcCm_ok)
  · obtain ⟨a, b, rfl, rfl, hb, h1, h2⟩ := floorL_some h
    obtain ⟨t1, t2⟩ := tdiv_small (a := a) (b := b) (by omega) (by omega)
    have w := wrap_small t1 t2
    have hm : a.tdiv b * b = a - a.tmod b := by
      have := Int.tmod_def a b
      rw [Int.mul_comm] at this
      omega
    have hr : (a.tmod b).natAbs ≤ a.natAbs := by rw [Int.natAbs_tmod]; exact Nat.mod_le _ _
    refine ⟨rfl, rfl, callC_ok mixed orcCm_ok (noAsks_ok _) (Eq.mpr (Floor_run a b _) ?_)⟩
    rw [w, floor_same]
    refine ⟨fun h => by omega, inI64_small (by rw [hm]; omega) (by rw [hm]; omega), fun hc => ⟨inI64_small (by omega) (by omega), ?_⟩, fun hc => ?_⟩
    · unfold floorE; rw [hc]; rfl
    · unfold floorE; rw [hc]; rfl
  · obtain ⟨a, b, rfl, rfl, hb, h1, h2⟩ := floorL_some h
    obtain ⟨t1, t2⟩ := tdiv_small (a := a) (b := b) (by omega) (by omega)
    have w := wrap_small t1 t2
    refine ⟨rfl, rfl, callC_ok mixed orcCm_ok (noAsks_ok _) (Eq.mpr (floor_run a b _) ?_)⟩
    rw [w]
    refine ⟨fun h => by omega, fun h => by omega, fun hc => ⟨inI64_small (by omega) (by omega), ?_⟩, fun hc => ?_⟩
    · unfold floorE; rw [hc]; rfl
    · unfold floorE; rw [hc]; rfl
noncomputable def askSd : Asks := asksF 74 floorL (asksF 121 floorL noAsks)
theorem askSd_ok : AsksOk orcSd askSd := asksF_ok (asksF_ok (noAsks_ok _))
end Go.Proofs.YtkggjnjiggekeaaGreatDoor
