/-
  OWN WORK. The stream of samples, by the reference: its loop.
-/
import Derived.Test.YtphhcoiclkfimaaGreatDoorStM
namespace Go.Proofs.YtphhcoiclkfimaaGreatDoor
open Go Go.Am

theorem ble_false {a b : Nat} (h : b < a) : Nat.ble a b = false := by
  cases hb : Nat.ble a b with
  | false => rfl
  | true => rw [Nat.ble_eq] at hb; omega
noncomputable abbrev sqC (c : List Value) (e row : Nat) : List Blk := [(c, e, row, true)]
theorem sqC_flat (l : List Nat) (e row : Nat) : ∀ b ∈ sqC (l.map gf) e row, b.1.all (flat 3) = true := by
  intro b hb
  obtain rfl := List.mem_singleton.1 hb
  exact flat_floats l
theorem pk_body (c c' : List Value) (n k e row i m : Nat) (g : Nat → Value) (Q : Exit → List Value → AHeap → Prop) : execC Tryz.prog (exec Tryz.prog orcSc 10) (syOf [(21, 1), (27, 2), (28, 3), (29, 7), (31, 10)]) (askSB (askSb askSm)) (noLoops _) 40 (loopOf Tryz.prog 32 0) (stOf 38 [(0, liP n k), (3, slO m m), (4, goN i)] g) (gD Tryz.prog (sqC c e row) c' 5) (told 38 [0, 3, 4] Q) = (((Nat.blt i n = true → (Nat.blt i n = true ∧ c[(0 + (i * 1))]? = Option.some (gf (floatAt c (0 + (i * 1)))) ∧ ieq (smpE (floatAt c (0 + (i * 1)))) 0 = true ∧ Nat.ble (m + 2) m = false ∧ Nat.ble (((2 * (m + 2)) + 256) * 1) 281474976710656 = true ∧ (m * 1) = List.length c' ∧ Q .normal [liP n k, Value.slice (some ⟨N1 + 3, 0, none⟩) (m + 2) (m + 2), gi (fwrap IntKind.i64 (Int.ofNat (i + 1)))] ((((gD Tryz.prog (sqC c e row) c' 5).push (.cells [Value.int .u8 (fwrap IntKind.u8 (IntKind.wrap .i64 (Int.tdiv (Int.tmod (fwrap IntKind.i64 (unitE (floatAt c (0 + (i * 1))) + 65536)) 65536) 256))), Value.int .u8 (fwrap IntKind.u8 (Int.tmod (Int.tmod (fwrap IntKind.i64 (unitE (floatAt c (0 + (i * 1))) + 65536)) 65536) 256))] 5 2 false)).set (N1 + 1) (.dead)).push (.cells (c' ++ [Value.int .u8 (fwrap IntKind.u8 (IntKind.wrap .i64 (Int.tdiv (Int.tmod (fwrap IntKind.i64 (unitE (floatAt c (0 + (i * 1))) + 65536)) 65536) 256))), Value.int .u8 (fwrap IntKind.u8 (Int.tmod (Int.tmod (fwrap IntKind.i64 (unitE (floatAt c (0 + (i * 1))) + 65536)) 65536) 256))]) 5 2 false)))) ∧ (Nat.blt i n = false → Q (.exit 0) [liP n k, slO m m, goN i] (gD Tryz.prog (sqC c e row) c' 5)))) := by kernel_rfl
noncomputable def hiE (u : Int) : Int := fwrap IntKind.u8 (IntKind.wrap .i64 (Int.tdiv (Int.tmod (fwrap IntKind.i64 (u + 65536)) 65536) 256))
noncomputable def loE (u : Int) : Int := fwrap IntKind.u8 (Int.tmod (Int.tmod (fwrap IntKind.i64 (u + 65536)) 65536) 256)
/-- Bytes, and those of the integers of the first samples after them. -/
noncomputable def pkX (hd : List Int) (l : List Nat) : Nat → List Int
  | 0 => hd
  | i + 1 => pkX hd l i ++ [hiE (unitE (l.getD i 0)), loE (unitE (l.getD i 0))]
theorem pkX_length (hd : List Int) (l : List Nat) : ∀ i, (pkX hd l i).length = hd.length + 2 * i
  | 0 => rfl
  | i + 1 => by
    unfold pkX
    rw [List.length_append, pkX_length hd l i]
    simp only [List.length_cons, List.length_nil]
    omega
theorem pkX_succ (hd : List Int) (l : List Nat) (i : Nat) : pkX hd l (i + 1) = pkX hd l i ++ [hiE (unitE (l.getD i 0)), loE (unitE (l.getD i 0))] := rfl
noncomputable def pkV (n k : Nat) : Nat → Value → List Value := fun i v => [liP n k, v, goN i]
set_option maxRecDepth 100000 in
theorem pk_loop (hd : List Int) (l : List Nat) (n e row k : Nat) (hl : n ≤ l.length) (hle : n ≤ 65536) (h0 : 0 < hd.length) (h1 : hd.length ≤ 65536) (hok : validL (l.take n)) : ∀ (a : AAct) (h : AHeap), GrownC Tryz.prog (sqC (l.map gf) e row) 5 (pkV n k) (fun i => (pkX hd l i).map gb) 0 ([0, 3, 4].map a.tmp) h → a.n = 38 → a.marks = [] →
    J Tryz.prog (.loop (loopOf Tryz.prog 32 0)) a h (told 38 [0, 3, 4] fun ex vs h' => ex = .exit 0 ∧ vs = [liP n k, slO (hd.length + 2 * n) (hd.length + 2 * n), goN n] ∧ h' = gD Tryz.prog (sqC (l.map gf) e row) ((pkX hd l n).map gb) 5) := by
  intro a h hG ha hk
  have ne : ∀ i, (pkX hd l i).map gb ≠ [] := fun i hx => by
    have := congrArg List.length hx
    rw [List.length_map, pkX_length] at this
    have : hd.length + 2 * i = 0 := this
    omega
  refine growC_rule (C := sqC (l.map gf) e row) (el := 5) globs_pos (by decide) (by decide) (sqC_flat l e row) (pkV n k) (fun i => (pkX hd l i).map gb) n _ (fun j => flat_bytes _) (fun j => by kernel_rfl) (fun j q d hd => by
      obtain rfl | rfl | rfl | rfl : d = 0 ∨ d = 1 ∨ d = 2 ∨ d = 3 := by omega
      all_goals kernel_rfl)
    (fun j v q hq => by match q, hq with | 0, _ => exact ⟨(0, liP n k), by simp [pkV], by simp [named]⟩) (fun j b q => ⟨(3, .slice (some ⟨b, 0, none⟩) q q), by simp [pkV], by simp [named]⟩) ?_ ?_ ?_ ?_ a h hG ha hk
  · intro i _ hx g
    exact absurd hx (ne i)
  · intro i hi _ g
    simp only [List.length_map, pkX_length]
    refine execC_ok mixed orcSc_ok (askSB_ok askSk_ok) (noLoops _) (Eq.mpr (pk_body _ _ n k e row i (hd.length + 2 * i) g _) ⟨fun _ => ?_, fun hge => ?_⟩)
    · have il : i < l.length := by omega
      obtain ⟨f1, f2⟩ := float_at (l := l) (j := i) il
      have v1 : smpE l[i] = 0 := hok _ (List.mem_of_getElem? (i := i) (by rw [List.getElem?_take, if_pos (by omega), List.getElem?_eq_getElem il]))
      have gd : l.getD i 0 = l[i] := by rw [List.getD_eq_getElem?_getD, List.getElem?_eq_getElem il]; rfl
      rw [f2]
      refine ⟨by rw [Nat.blt_eq]; exact hi, f2 ▸ f1, by rw [v1]; rfl, ble_false (by omega), by rw [Nat.ble_eq]; omega, by rw [List.length_map, pkX_length, Nat.mul_one], ?_⟩
      refine ⟨fun p b hb => ?_, .inr ⟨N1 + 3, 2, rfl, by omega, ne (i + 1), ?_, ?_⟩⟩
      · match p, hb with
        | 0, hb => cases hb; rw [AHeap.get_push_ne (by kernel_rfl), AHeap.get_set_neB (by kernel_rfl), AHeap.get_push_ne (by kernel_rfl)]; exact gD_get (q := 0) rfl
      · show _ = pkV n k (i + 1) (.slice _ ((pkX hd l (i + 1)).map gb).length ((pkX hd l (i + 1)).map gb).length)
        rw [List.length_map, pkX_length, fwrap_nat (by omega)]; rfl
      · rw [AHeap.get_push_eq (by kernel_rfl)]
        show _ = some (AObj.cells ((pkX hd l (i + 1)).map gb) _ _ _)
        rw [pkX_succ, gd, List.map_append]; rfl
    · have := blt_false hge; omega
  · intro hx g
    exact absurd hx (ne n)
  · intro _ g
    simp only [List.length_map, pkX_length]
    refine execC_ok mixed orcSc_ok (askSB_ok askSk_ok) (noLoops _) (Eq.mpr (pk_body _ _ n k e row n (hd.length + 2 * n) g _) ⟨fun hlt => ?_, fun _ => ⟨rfl, rfl, rfl⟩⟩)
    have := blt_true hlt; omega
end Go.Proofs.YtphhcoiclkfimaaGreatDoor
