/-
  OWN WORK. The bytes of samples behind others, by the program: its loop.
-/
import Derived.Test.YtphhcoiclkfimaaGreatDoorStM
namespace Go.Proofs.YtphhcoiclkfimaaGreatDoor
open Go Go.Am

noncomputable abbrev uC (c : List Value) (e : TypeId) (row : Nat) (ro : Bool) : List Blk := [(c, e, row, ro)]
theorem uw_body (c c' : List Value) (n k e row i m : Nat) (ro : Bool) (g : Nat → Value) (Q : Exit → List Value → AHeap → Prop) : execC Tryz.prog (exec Tryz.prog orcSc 10) (syOf [(12, 1), (13, 2), (14, 3), (24, 10)]) (askSB (askSb askSm)) (noLoops _) 40 (loopOf Tryz.prog 68 0) (stOf 27 [(0, slO m m), (9, liP n k), (10, goN n), (11, goN i)] g) (gD Tryz.prog (uC c e row ro) c' 5) (told 27 [0, 9, 10, 11] Q) = (((Nat.blt i n = true → (Nat.blt i n = true ∧ c[(0 + (i * 1))]? = Option.some (gi (intAt c (0 + (i * 1)))) ∧ Nat.ble (m + 2) m = false ∧ Nat.ble (((2 * (m + 2)) + 256) * 1) 281474976710656 = true ∧ (m * 1) = List.length c' ∧ Q .normal [Value.slice (some ⟨N1 + 3, 0, none⟩) (m + 2) (m + 2), liP n k, goN n, gi (fwrap IntKind.i64 (Int.ofNat (i + 1)))] ((((gD Tryz.prog (uC c e row ro) c' 5).push (.cells [Value.int .u8 (fwrap IntKind.u8 (Int.fdiv (fwrap IntKind.u16 (intAt c (0 + (i * 1)))) (2 ^ min (Int.toNat 8) IntKind.u16.bits))), Value.int .u8 (fwrap IntKind.u8 (fwrap IntKind.u16 (intAt c (0 + (i * 1)))))] 5 2 false)).set (N1 + 1) (.dead)).push (.cells (c' ++ [Value.int .u8 (fwrap IntKind.u8 (Int.fdiv (fwrap IntKind.u16 (intAt c (0 + (i * 1)))) (2 ^ min (Int.toNat 8) IntKind.u16.bits))), Value.int .u8 (fwrap IntKind.u8 (fwrap IntKind.u16 (intAt c (0 + (i * 1)))))]) 5 2 false)))) ∧ (Nat.blt i n = false → Q (.exit 0) [slO m m, liP n k, goN n, goN i] (gD Tryz.prog (uC c e row ro) c' 5)))) := by kernel_rfl
theorem pHi (u : Int) : fwrap IntKind.u8 (Int.fdiv (fwrap IntKind.u16 u) (2 ^ min (Int.toNat 8) IntKind.u16.bits)) = hiB u := by
  have : (2 ^ min (Int.toNat 8) IntKind.u16.bits : Int) = 256 := by decide
  rw [this, u16_mod, Int.fdiv_eq_ediv_of_nonneg _ (by omega), u8_mod]
  unfold hiB
  omega
theorem pLo (u : Int) : fwrap IntKind.u8 (fwrap IntKind.u16 u) = loB u := by
  rw [u16_mod, u8_mod]
  unfold loB
  omega
theorem ble_false' {a b : Nat} (h : b < a) : Nat.ble a b = false := by
  cases hb : Nat.ble a b with
  | false => rfl
  | true => rw [Nat.ble_eq] at hb; omega
theorem uC_flat (us : List Int) (e : TypeId) (row : Nat) (ro : Bool) : ∀ b ∈ uC (us.map gi) e row ro, b.1.all (flat 3) = true := by
  intro b hb
  obtain rfl := List.mem_singleton.1 hb
  exact flat_ints us
noncomputable def uwV (n k : Nat) : Nat → Value → List Value := fun i v => [v, liP n k, goN n, goN i]
set_option maxRecDepth 100000 in
theorem uw_loop (hd us : List Int) (n e row k : Nat) (ro : Bool) (hl : n ≤ us.length) (hle : n ≤ 65536) (h0 : 0 < hd.length) (h1 : hd.length ≤ 65536) : ∀ (a : AAct) (h : AHeap), GrownC Tryz.prog (uC (us.map gi) e row ro) 5 (uwV n k) (fun i => (pkL hd (us.take i)).map gb) 0 ([0, 9, 10, 11].map a.tmp) h → a.n = 27 → a.marks = [] →
    J Tryz.prog (.loop (loopOf Tryz.prog 68 0)) a h (told 27 [0, 9, 10, 11] fun ex vs h' => ex = .exit 0 ∧ vs = [slO (hd.length + 2 * n) (hd.length + 2 * n), liP n k, goN n, goN n] ∧ h' = gD Tryz.prog (uC (us.map gi) e row ro) ((pkL hd (us.take n)).map gb) 5) := by
  intro a h hG ha hk
  have pl : ∀ i, i ≤ n → (pkL hd (us.take i)).length = hd.length + 2 * i := fun i hi => by rw [pkL_length, List.length_take]; omega
  have ne : ∀ i, (pkL hd (us.take i)).map gb ≠ [] := fun i hx => by
    have := congrArg List.length hx
    rw [List.length_map, pkL_length] at this
    have : hd.length + 2 * (us.take i).length = 0 := this
    omega
  refine growC_rule (C := uC (us.map gi) e row ro) (el := 5) globs_pos (by decide) (by decide) (uC_flat us e row ro) (uwV n k) (fun i => (pkL hd (us.take i)).map gb) n _ (fun j => flat_bytes _) (fun j => by kernel_rfl) (fun j q d hd => by
      obtain rfl | rfl | rfl | rfl : d = 0 ∨ d = 1 ∨ d = 2 ∨ d = 3 := by omega
      all_goals kernel_rfl)
    (fun j v q hq => by match q, hq with | 0, _ => exact ⟨(9, liP n k), by simp [uwV], by simp [named]⟩) (fun j b q => ⟨(0, .slice (some ⟨b, 0, none⟩) q q), by simp [uwV], by simp [named]⟩) ?_ ?_ ?_ ?_ a h hG ha hk
  · intro i _ hx g
    exact absurd hx (ne i)
  · intro i hi _ g
    simp only [List.length_map]
    rw [pl i (by omega)]
    refine execC_ok mixed orcSc_ok (askSB_ok askSk_ok) (noLoops _) (Eq.mpr (uw_body _ _ n k e row i (hd.length + 2 * i) ro g _) ⟨fun _ => ?_, fun hge => ?_⟩)
    · have il : i < us.length := by omega
      obtain ⟨f1, f2⟩ := int_at (l := us) (j := i) (List.getElem?_eq_getElem il)
      rw [f2, pHi, pLo]
      refine ⟨by rw [Nat.blt_eq]; exact hi, f2 ▸ f1, ble_false' (by omega), by rw [Nat.ble_eq]; omega, by rw [List.length_map, pl i (by omega), Nat.mul_one], ?_⟩
      refine ⟨fun p b hb => ?_, .inr ⟨N1 + 3, 2, rfl, by omega, ne (i + 1), ?_, ?_⟩⟩
      · match p, hb with
        | 0, hb => cases hb; rw [AHeap.get_push_ne (by kernel_rfl), AHeap.get_set_neB (by kernel_rfl), AHeap.get_push_ne (by kernel_rfl)]; exact gD_get (q := 0) rfl
      · show _ = uwV n k (i + 1) (.slice _ ((pkL hd (us.take (i + 1))).map gb).length ((pkL hd (us.take (i + 1))).map gb).length)
        rw [List.length_map, pl (i + 1) (by omega), fwrap_nat (by omega)]; rfl
      · rw [AHeap.get_push_eq (by kernel_rfl)]
        show _ = some (AObj.cells ((pkL hd (us.take (i + 1))).map gb) _ _ _)
        rw [List.take_add_one, List.getElem?_eq_getElem il, show (some us[i]).toList = [us[i]] from rfl, pkL_succ, List.map_append]; rfl
    · have := blt_false hge; omega
  · intro hx g
    exact absurd hx (ne n)
  · intro _ g
    simp only [List.length_map]
    rw [pl n (Nat.le_refl _)]
    refine execC_ok mixed orcSc_ok (askSB_ok askSk_ok) (noLoops _) (Eq.mpr (uw_body _ _ n k e row n (hd.length + 2 * n) ro g _) ⟨fun hlt => ?_, fun _ => ⟨rfl, rfl, rfl⟩⟩)
    have := blt_true hlt; omega
end Go.Proofs.YtphhcoiclkfimaaGreatDoor
