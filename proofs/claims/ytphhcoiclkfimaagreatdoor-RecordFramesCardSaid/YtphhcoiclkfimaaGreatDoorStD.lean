/-
  OWN WORK. The stream of samples, by the reference: its run.
-/
import Derived.Test.YtphhcoiclkfimaaGreatDoorStB
namespace Go.Proofs.YtphhcoiclkfimaaGreatDoor
open Go Go.Am

noncomputable def hdR (n : Nat) : List Int := [67, 82, 85, 49, fwrap IntKind.u8 (IntKind.wrap .i64 (Int.tdiv (Int.ofNat n) 256)), fwrap IntKind.u8 (Int.tmod (Int.ofNat n) 256)]
noncomputable def pkLoops (hd : List Int) (l : List Nat) (n e row k : Nat) : Loops Tryz.prog where
  body := fun _ => loopOf Tryz.prog 32 0
  spec := fun _ a h c => entry a 38 [(0, liP n k), (3, slN 3 6 6), (4, goN 0)] (h.get N1 = some (.cells (l.map gf) e row true) ∧ h.get (N1 + 3) = some (.cells (hd.map gb) 5 2 false) ∧ (n ≤ l.length ∧ n ≤ 65536 ∧ hd.length = 6 ∧ validL (l.take n)) ∧
    ∀ g, c (.exit 0) (stOf 38 [(0, liP n k), (3, slO (6 + 2 * n) (6 + 2 * n)), (4, goN n)] g) (gD Tryz.prog (sqC (l.map gf) e row) ((pkX hd l n).map gb) 5))
  ok := fun i a h c q => by
    obtain ⟨h1, h2, h3, g0, g1, ⟨hs1, hs2, hs3, hs4⟩, h4⟩ := entry_facts q
    refine J.of_told (pk_loop hd l n e row k hs1 hs2 (by omega) (by omega) hs4 a h ⟨fun q b hb => ?_, .inr ⟨N1 + 3, 2, rfl, by omega, ?_, ?_, g1⟩⟩ h1 h2) ?_
    · match q, hb with
      | 0, hb => cases hb; exact g0
    · intro hx
      have := congrArg List.length hx
      rw [List.length_map, pkX_length, hs3] at this
      have : 6 + 2 * 0 = 0 := this
      omega
    · simp only [List.map_cons, List.map_nil]
      rw [h3 (0, liP n k) (by simp), h3 (3, slN 3 6 6) (by simp), h3 (4, goN 0) (by simp)]
      show _ = pkV n k 0 (.slice _ ((pkX hd l 0).map gb).length ((pkX hd l 0).map gb).length)
      rw [List.length_map, pkX_length, hs3]; rfl
    · rintro ex vs h' g ⟨rfl, rfl, rfl⟩
      rw [hs3]
      exact h4 g
theorem pk_run (l : List Nat) (n e row k : Nat) (K : Value → AHeap → Prop) : callC Tryz.prog (exec Tryz.prog orcSc 10) (syOf [(10, 35), (14, 6), (34, 7), (37, 10)]) (askSB (askSb askSm)) (pkLoops (hdR n) l n e row k) 40 32 #[liP n k] (liH (l.map gf) e row) K = ((((256 : Int) = 0 → False) ∧ ((256 : Int) = 0 → False) ∧ loopOf Tryz.prog 32 0 = loopOf Tryz.prog 32 0 ∧ liP n k = liP n k ∧ Value.slice (some ⟨N1 + 3, 0, none⟩) 6 6 = slN 3 6 6 ∧ gi 0 = goN 0 ∧ (((((liH (List.map gf l) e row).push (.cells [Value.int .u8 67, Value.int .u8 82, Value.int .u8 85, Value.int .u8 49] 5 2 false)).push (.cells [Value.int .u8 (fwrap IntKind.u8 (IntKind.wrap .i64 (Int.tdiv (Int.ofNat n) 256))), Value.int .u8 (fwrap IntKind.u8 (Int.tmod (Int.ofNat n) 256))] 5 2 false)).set (N1 + 1) (.dead)).push (.cells ([Value.int .u8 67, Value.int .u8 82, Value.int .u8 85, Value.int .u8 49] ++ [Value.int .u8 (fwrap IntKind.u8 (IntKind.wrap .i64 (Int.tdiv (Int.ofNat n) 256))), Value.int .u8 (fwrap IntKind.u8 (Int.tmod (Int.ofNat n) 256))]) 5 2 false)).get (N1) = Option.some (.cells (List.map gf l) e row true) ∧ (((((liH (List.map gf l) e row).push (.cells [Value.int .u8 67, Value.int .u8 82, Value.int .u8 85, Value.int .u8 49] 5 2 false)).push (.cells [Value.int .u8 (fwrap IntKind.u8 (IntKind.wrap .i64 (Int.tdiv (Int.ofNat n) 256))), Value.int .u8 (fwrap IntKind.u8 (Int.tmod (Int.ofNat n) 256))] 5 2 false)).set (N1 + 1) (.dead)).push (.cells ([Value.int .u8 67, Value.int .u8 82, Value.int .u8 85, Value.int .u8 49] ++ [Value.int .u8 (fwrap IntKind.u8 (IntKind.wrap .i64 (Int.tdiv (Int.ofNat n) 256))), Value.int .u8 (fwrap IntKind.u8 (Int.tmod (Int.ofNat n) 256))]) 5 2 false)).get (N1 + 3) = Option.some (.cells (List.map gb (hdR n)) 5 2 false) ∧ ((n : Nat) ≤ List.length l ∧ (n : Nat) ≤ 65536 ∧ List.length (hdR n) = 6 ∧ validL (List.take n l)) ∧ (∀ _ : Nat → Value, (∃ x2 : List Int, (List.map gb (pkX (hdR n) l n) = List.map gb x2 ∧ (0 : Nat) < (6 + (2 * n)) ∧ ((6 + (2 * n)) : Nat) ≤ List.length x2 ∧ ((6 + (2 * n)) : Nat) ≤ 1000000 ∧ ((6 + (2 * n)) : Nat) ≤ (6 + (2 * n)) ∧ in8 0 0 0 0 0 0 0 0 ∧ (∀ y3 : Int, (List.Mem y3 (List.take (6 + (2 * n)) x2) → inB y3)) ∧ (∀ y3 : Int, (∀ y4 : Int, (∀ y5 : Int, (∀ y6 : Int, (∀ y7 : Int, (∀ y8 : Int, (∀ y9 : Int, (∀ y10 : Int, ([y3, y4, y5, y6, y7, y8, y9, y10] = slK (List.take (6 + (2 * n)) x2) 0 0 0 0 0 0 0 0 → (Nat.ble ((6 + (2 * n)) + 8) (6 + (2 * n)) = false ∧ Nat.ble (((2 * ((6 + (2 * n)) + 8)) + 256) * 1) 281474976710656 = true ∧ ((6 + (2 * n)) * 1) = List.length (List.map gb (pkX (hdR n) l n)) ∧ K (Value.slice (some ⟨N1 + 3, 0, none⟩) ((6 + (2 * n)) + 8) ((6 + (2 * n)) + 8)) (((((gD Tryz.prog (sqC (List.map gf l) e row) (List.map gb (pkX (hdR n) l n)) 5).push (.cells [Value.int .u8 0, Value.int .u8 0, Value.int .u8 0, Value.int .u8 0, Value.int .u8 0, Value.int .u8 0, Value.int .u8 0, Value.int .u8 0] 47 0 false)).set (N1 + 2) (.cells ([] ++ ([gb y3, gb y4, gb y5, gb y6, gb y7, gb y8, gb y9, gb y10] ++ [])) 47 0 false)).set (N1 + 1) (.dead)).push (.cells (List.map gb (pkX (hdR n) l n) ++ List.take 8 (List.drop 0 ([] ++ ([gb y3, gb y4, gb y5, gb y6, gb y7, gb y8, gb y9, gb y10] ++ [])))) 5 2 false))))))))))))))))) := by kernel_rfl
theorem hiE_eq {u : Int} (h1 : -16384 ≤ u) (h2 : u ≤ 16384) : hiE u = hiB u := by
  unfold hiE hiB
  rw [fwrap_small (by omega) (by omega), Int.tmod_eq_emod_of_nonneg (by omega), Int.tdiv_eq_ediv_of_nonneg (by omega), wrap_small (by omega) (by omega), u8_mod]
  omega
theorem loE_eq {u : Int} (h1 : -16384 ≤ u) (h2 : u ≤ 16384) : loE u = loB u := by
  unfold loE loB
  rw [fwrap_small (by omega) (by omega), Int.tmod_eq_emod_of_nonneg (a := u + 65536) (b := 65536) (by omega), Int.tmod_eq_emod_of_nonneg (by omega), u8_mod]
  omega
theorem hdR_eq {n : Nat} (h : n ≤ 65536) : hdR n = hdC n := by
  unfold hdR hdC
  rw [show Int.ofNat n = (n : Int) from rfl, Int.tdiv_eq_ediv_of_nonneg (by omega), Int.tmod_eq_emod_of_nonneg (by omega), wrap_small (by omega) (by omega), u8_mod, u8_mod]
  congr 5
  rw [show (n : Int) % 256 % 256 = (n : Int) % 256 by omega]
theorem pkX_eq {hd : List Int} {l : List Nat} : ∀ i : Nat, i ≤ l.length → validL (l.take i) → pkX hd l i = pkL hd ((l.take i).map unitE)
  | 0, _, _ => by rw [List.take_zero, List.map_nil, pkL_nil]; rfl
  | i + 1, hi, hv => by
    have hil : i < l.length := by omega
    have hv' : validL (l.take i) := fun x hx => hv x (by rw [List.take_add_one]; exact List.mem_append_left _ hx)
    have h1 : smpE l[i] = 0 := hv _ (List.mem_of_getElem? (i := i) (by rw [List.getElem?_take, if_pos (by omega), List.getElem?_eq_getElem hil]))
    obtain ⟨_, _, b1, b2⟩ := unit_ok h1
    rw [pkX_succ, pkX_eq i (by omega) hv', units_take hil, pkL_succ, show l.getD i 0 = l[i] by rw [List.getD_eq_getElem?_getD, List.getElem?_eq_getElem hil]; rfl, hiE_eq b1 b2, loE_eq b1 b2]
set_option maxRecDepth 100000 in
theorem Pack_call (l : List Nat) (n k e row : Nat) (h1 : n ≤ l.length) (h2 : n ≤ 65536) (hv : validL (l.take n)) : CallJ Tryz.prog 32 #[liP n k] (liH (l.map gf) e row) (fun v h' => ∃ r, v = .slice (some ⟨r, 0, none⟩) (14 + 2 * n) (14 + 2 * n) ∧ h'.get r = some (.cells ((stmE (l.take n)).map gb) 5 2 false)) := by
  have hlen : (l.take n).length = n := by rw [List.length_take]; omega
  have hX : pkX (hdR n) l n = strE (l.take n) := by rw [pkX_eq n h1 hv, hdR_eq h2]; unfold strE; rw [hlen]
  have hXl : (pkX (hdR n) l n).length = 6 + 2 * n := by rw [hX, strE_length, hlen]
  have hT : List.take (6 + 2 * n) (pkX (hdR n) l n) = strE (l.take n) := by rw [List.take_of_length_le (by omega), hX]
  refine callC_ok mixed orcSc_ok (askSB_ok askSk_ok) (Eq.mpr (pk_run l n e row k _) ⟨by omega, by omega, rfl, rfl, rfl, rfl, ?_, ?_, ⟨h1, h2, rfl, hv⟩, fun _ => ⟨pkX (hdR n) l n, rfl, by omega, by omega, by omega, Nat.le_refl _, in8_zero, fun x hx => ?_, fun y0 y1 y2 y3 y4 y5 y6 y7 hy => ⟨ble_false (by omega), by rw [Nat.ble_eq]; omega, by rw [List.length_map]; omega, N1 + 3, ?_, ?_⟩⟩⟩)
  · rw [AHeap.get_push_ne (by kernel_rfl), AHeap.get_set_neB (by kernel_rfl), AHeap.get_push_ne (by kernel_rfl), AHeap.get_push_ne (by kernel_rfl), canon_get, if_pos (Nat.le_refl _), Nat.sub_self]; rfl
  · rw [AHeap.get_push_eq (by kernel_rfl)]; rfl
  · rw [hT] at hx
    exact strE_in _ x hx
  · rw [show 6 + 2 * n + 8 = 14 + 2 * n by omega]
  · rw [AHeap.get_push_eq (by kernel_rfl)]
    rw [hT] at hy
    have : List.map gb (pkX (hdR n) l n) ++ List.take 8 (List.drop 0 ([] ++ ([gb y0, gb y1, gb y2, gb y3, gb y4, gb y5, gb y6, gb y7] ++ []))) = (stmE (l.take n)).map gb := by
      unfold stmE
      rw [List.map_append, ← hy, hX]; rfl
    rw [this]
end Go.Proofs.YtphhcoiclkfimaaGreatDoor
