/-
  OWN WORK. The stream of samples, by the program: Pack.
-/
import Derived.Test.YtphhcoiclkfimaaGreatDoorStL
import Derived.Test.YtphhcoiclkfimaaGreatDoorStD
import Derived.Test.YtphhcoiclkfimaaGreatDoorAm14
namespace Go.Proofs.YtphhcoiclkfimaaGreatDoor
open Go Go.Am

noncomputable def askPk : Asks := skipA 33 (skipA 76 (skipA 31 askSi))
theorem askPk_ok : AsksOk orcSl askPk := skipA_ok (skipA_ok (skipA_ok askSi_ok))
theorem pa_run (l : List Nat) (n k e row : Nat) (K : Value → AHeap → Prop) : callC Tryz.prog (exec Tryz.prog orcSl 10) (syOf [(8, 7), (10, 1), (25, 7), (28, 7), (31, 10)]) askPk (noLoops _) 40 30 #[liP n k] (liH (l.map gf) e row) K = ((∃ x1 : List Nat, (List.map gf l = List.map gf x1 ∧ (0 : Nat) < n ∧ (n : Nat) ≤ List.length x1 ∧ (n : Nat) ≤ 1000000 ∧ (n : Nat) ≤ k ∧ ((!(ieq (csE (List.take n x1)) 0)) = true → K (Value.tuple #[nilS, csR (List.take n x1) []]) (liH (List.map gf l) e row)) ∧ ((!(ieq (csE (List.take n x1)) 0)) = false → ((Nat.beq (((((liH (List.map gf l) e row).push (.cells [Value.int .u8 67, Value.int .u8 82, Value.int .u8 85, Value.int .u8 49] 5 2 false)).push (.cells [Value.int .u8 (fwrap IntKind.u8 (Int.fdiv (Int.ofNat n) (2 ^ min (Int.toNat 8) IntKind.i64.bits))), Value.int .u8 (fwrap IntKind.u8 (Int.ofNat n))] 5 2 false)).set (N1 + 1) (.dead)).n) N1 = false ∧ Nat.ble N1 (((((liH (List.map gf l) e row).push (.cells [Value.int .u8 67, Value.int .u8 82, Value.int .u8 85, Value.int .u8 49] 5 2 false)).push (.cells [Value.int .u8 (fwrap IntKind.u8 (Int.fdiv (Int.ofNat n) (2 ^ min (Int.toNat 8) IntKind.i64.bits))), Value.int .u8 (fwrap IntKind.u8 (Int.ofNat n))] 5 2 false)).set (N1 + 1) (.dead)).n) = true ∧ true = true ∧ true = true ∧ true = true ∧ 6 = 6) ∧ (∃ x2 : List Int, (∃ x3 : List Nat, (([Value.int .u8 67, Value.int .u8 82, Value.int .u8 85, Value.int .u8 49] ++ [Value.int .u8 (fwrap IntKind.u8 (Int.fdiv (Int.ofNat n) (2 ^ min (Int.toNat 8) IntKind.i64.bits))), Value.int .u8 (fwrap IntKind.u8 (Int.ofNat n))]) = List.map gb x2 ∧ List.map gf l = List.map gf x3 ∧ 6 = List.length x2 ∧ (0 : Nat) < 6 ∧ (6 : Nat) ≤ 65536 ∧ (0 : Nat) < n ∧ (n : Nat) ≤ List.length x3 ∧ (n : Nat) ≤ 65536 ∧ validL (List.take n x3) ∧ (∃ x4 : List Int, (List.map gb (pkL x2 (List.map unitE (List.take n x3))) = List.map gb x4 ∧ (0 : Nat) < (6 + (2 * n)) ∧ ((6 + (2 * n)) : Nat) ≤ List.length x4 ∧ ((6 + (2 * n)) : Nat) ≤ 1000000 ∧ ((6 + (2 * n)) : Nat) ≤ (6 + (2 * n)) ∧ (∀ y5 : Int, (∀ y6 : Int, (∀ y7 : Int, (∀ y8 : Int, (∀ y9 : Int, (∀ y10 : Int, (∀ y11 : Int, (∀ y12 : Int, ([y5, y6, y7, y8, y9, y10, y11, y12] = slK (List.take (6 + (2 * n)) x4) 0 0 0 0 0 0 0 0 → (Nat.ble ((6 + (2 * n)) + 8) (6 + (2 * n)) = false ∧ Nat.ble (((2 * ((6 + (2 * n)) + 8)) + 256) * 1) 281474976710656 = true ∧ ((6 + (2 * n)) * 1) = List.length (List.map gb (pkL x2 (List.map unitE (List.take n x3)))) ∧ K (Value.tuple #[Value.slice (some ⟨N1 + 6, 0, none⟩) ((6 + (2 * n)) + 8) ((6 + (2 * n)) + 8), gi 0]) (((((((((((liH (List.map gf l) e row).push (.cells [Value.int .u8 67, Value.int .u8 82, Value.int .u8 85, Value.int .u8 49] 5 2 false)).push (.cells [Value.int .u8 (fwrap IntKind.u8 (Int.fdiv (Int.ofNat n) (2 ^ min (Int.toNat 8) IntKind.i64.bits))), Value.int .u8 (fwrap IntKind.u8 (Int.ofNat n))] 5 2 false)).set (N1 + 1) (.dead)).push (.cells ([Value.int .u8 67, Value.int .u8 82, Value.int .u8 85, Value.int .u8 49] ++ [Value.int .u8 (fwrap IntKind.u8 (Int.fdiv (Int.ofNat n) (2 ^ min (Int.toNat 8) IntKind.i64.bits))), Value.int .u8 (fwrap IntKind.u8 (Int.ofNat n))]) 5 2 false)).set (N1 + 3) (.dead)).push (.cells (List.map gb (pkL x2 (List.map unitE (List.take n x3)))) 5 2 false)).push (.cells [Value.int .u8 0, Value.int .u8 0, Value.int .u8 0, Value.int .u8 0, Value.int .u8 0, Value.int .u8 0, Value.int .u8 0, Value.int .u8 0] 47 0 false)).set (N1 + 5) (.cells ([] ++ ([gb y5, gb y6, gb y7, gb y8, gb y9, gb y10, gb y11, gb y12] ++ [])) 47 0 false)).set (N1 + 4) (.dead)).push (.cells (List.map gb (pkL x2 (List.map unitE (List.take n x3))) ++ List.take 8 (List.drop 0 ([] ++ ([gb y5, gb y6, gb y7, gb y8, gb y9, gb y10, gb y11, gb y12] ++ [])))) 5 2 false)))))))))))))))))))))) := by kernel_rfl
theorem pa_nil (K : Value → AHeap → Prop) : callC Tryz.prog (exec Tryz.prog orcSl 40) (syOf []) askPk (noLoops _) 40 30 #[nilS] (emp Tryz.prog) K = (K (Value.tuple #[Value.slice (some ⟨N1 + 5, 0, none⟩) 14 14, gi 0]) ((((((((((emp Tryz.prog).push (.cells [Value.int .u8 67, Value.int .u8 82, Value.int .u8 85, Value.int .u8 49] 5 2 false)).push (.cells [Value.int .u8 0, Value.int .u8 0] 5 2 false)).set N1 (.dead)).push (.cells ([Value.int .u8 67, Value.int .u8 82, Value.int .u8 85, Value.int .u8 49] ++ [Value.int .u8 0, Value.int .u8 0]) 5 2 false)).push (.cells [] 3 2 false)).push (.cells [Value.int .u8 0, Value.int .u8 0, Value.int .u8 0, Value.int .u8 0, Value.int .u8 0, Value.int .u8 0, Value.int .u8 0, Value.int .u8 0] 47 0 false)).set (N1 + 4) (.cells ([] ++ (List.map gb (slK [67, 82, 85, 49, 0, 0] 0 0 0 0 0 0 0 0) ++ [])) 47 0 false)).set (N1 + 2) (.dead)).push (.cells (List.take 6 (List.drop 0 ([Value.int .u8 67, Value.int .u8 82, Value.int .u8 85, Value.int .u8 49] ++ [Value.int .u8 0, Value.int .u8 0])) ++ List.take 8 (List.drop 0 ([] ++ (List.map gb (slK [67, 82, 85, 49, 0, 0] 0 0 0 0 0 0 0 0) ++ [])))) 5 2 false))) := by kernel_rfl
theorem pa_emp (k : Nat) (K : Value → AHeap → Prop) : callC Tryz.prog (exec Tryz.prog orcSl 40) (syOf []) askPk (noLoops _) 40 30 #[.slice (some ⟨0, 0, none⟩) 0 k] (emp Tryz.prog) K = (K (Value.tuple #[Value.slice (some ⟨N1 + 5, 0, none⟩) 14 14, gi 0]) ((((((((((emp Tryz.prog).push (.cells [Value.int .u8 67, Value.int .u8 82, Value.int .u8 85, Value.int .u8 49] 5 2 false)).push (.cells [Value.int .u8 0, Value.int .u8 0] 5 2 false)).set N1 (.dead)).push (.cells ([Value.int .u8 67, Value.int .u8 82, Value.int .u8 85, Value.int .u8 49] ++ [Value.int .u8 0, Value.int .u8 0]) 5 2 false)).push (.cells [] 3 2 false)).push (.cells [Value.int .u8 0, Value.int .u8 0, Value.int .u8 0, Value.int .u8 0, Value.int .u8 0, Value.int .u8 0, Value.int .u8 0, Value.int .u8 0] 47 0 false)).set (N1 + 4) (.cells ([] ++ (List.map gb (slK [67, 82, 85, 49, 0, 0] 0 0 0 0 0 0 0 0) ++ [])) 47 0 false)).set (N1 + 2) (.dead)).push (.cells (List.take 6 (List.drop 0 ([Value.int .u8 67, Value.int .u8 82, Value.int .u8 85, Value.int .u8 49] ++ [Value.int .u8 0, Value.int .u8 0])) ++ List.take 8 (List.drop 0 ([] ++ (List.map gb (slK [67, 82, 85, 49, 0, 0] 0 0 0 0 0 0 0 0) ++ [])))) 5 2 false))) := by kernel_rfl
theorem hdP_eq (n : Nat) : [Value.int .u8 67, Value.int .u8 82, Value.int .u8 85, Value.int .u8 49] ++ [Value.int .u8 (fwrap IntKind.u8 (Int.fdiv (Int.ofNat n) (2 ^ min (Int.toNat 8) IntKind.i64.bits))), Value.int .u8 (fwrap IntKind.u8 (Int.ofNat n))] = (hdC n).map gb := by
  have : (2 ^ min (Int.toNat 8) IntKind.i64.bits : Int) = 256 := by decide
  rw [this, Int.fdiv_eq_ediv_of_nonneg _ (by omega), u8_mod, u8_mod]
  rfl
noncomputable def paOut (l : List Nat) : Out := bif ieq (csE l) 0 then .fresh (tupM [] (stmE l).length [gi 0]) ((stmE l).map gb) 5 else .plain (.tuple #[nilS, gi (csE l)])
noncomputable def paX : List Nat → List Value → Option Out := fun l r => match r with
  | [] => some (paOut l)
  | _ => none
noncomputable def paY (bb : Bool) : List Nat → List Value → (Out → Prop) → Prop := fun l r K => match r with
  | [] => ieq (csE l) 0 = bb ∧ Bool.rec (motive := fun _ => Prop) (K (.plain (.tuple #[nilS, gi (csE l)])))
      (∀ xs : List Int, xs = stmE l → K (.fresh (tupM [] xs.length [gi 0]) (xs.map gb) 5)) bb
  | _ => False
theorem paX_some {l : List Nat} {r : List Value} {o : Out} (h : paX l r = some o) : r = [] ∧ o = paOut l := by
  unfold paX at h
  split at h
  · cases h; exact ⟨rfl, rfl⟩
  · cases h
theorem paY_ok (bb : Bool) (l : List Nat) (r : List Value) (K : Out → Prop) (h : paY bb l r K) : ∃ o, paX l r = some o ∧ K o := by
  unfold paY at h
  split at h
  · refine ⟨_, rfl, ?_⟩
    unfold paOut
    rw [h.1]
    cases bb with
    | true => exact h.2 _ rfl
    | false => exact h.2
  · exact h.elim
theorem paOut_bad {l : List Nat} (h : csE l ≠ 0) : paOut l = .plain (.tuple #[nilS, gi (csE l)]) := by
  unfold paOut; rw [ieq_ne' h]; rfl
theorem paOut_good {l : List Nat} (h : csE l = 0) : paOut l = .fresh (tupM [] (stmE l).length [gi 0]) ((stmE l).map gb) 5 := by
  unfold paOut; rw [h]; rfl
theorem stm_nil : List.take 6 (List.drop 0 ([Value.int .u8 67, Value.int .u8 82, Value.int .u8 85, Value.int .u8 49] ++ [Value.int .u8 0, Value.int .u8 0])) ++ List.take 8 (List.drop 0 ([] ++ (List.map gb (slK [67, 82, 85, 49, 0, 0] 0 0 0 0 0 0 0 0) ++ []))) = (stmE []).map gb := by
  have : strE [] = [67, 82, 85, 49, 0, 0] := rfl
  unfold stmE
  rw [this, List.map_append]
  rfl
noncomputable def orcSe : Orc := orElse 30 (genO dF 65536 false paX) orcSl
set_option maxRecDepth 100000 in
theorem orcSe_ok : OrcOk Tryz.prog orcSe := by
  refine genO_ok dF_some (fun _ => rfl) globs_pos orcSl_ok ?_ ?_ ?_ ?_
  · intro l r o h
    obtain ⟨rfl, rfl⟩ := paX_some h
    unfold paOut
    cases ieq (csE l) 0 with
    | true => exact ⟨names_tup rfl rfl, flat_bytes _⟩
    | false => rfl
  · intro r o h
    obtain ⟨rfl, rfl⟩ := paX_some h
    rw [paOut_good (by rfl)]
    refine callC_ok mixed orcSl_ok askPk_ok (Eq.mpr (pa_nil _) ⟨N1 + 5, rfl, ?_⟩)
    rw [AHeap.get_push_eq (by kernel_rfl), stm_nil]
  · intro r k o h
    obtain ⟨rfl, rfl⟩ := paX_some h
    rw [paOut_good (by rfl)]
    refine callC_ok mixed orcSl_ok askPk_ok (Eq.mpr (pa_emp k _) ⟨N1 + 5, rfl, ?_⟩)
    rw [AHeap.get_push_eq (by kernel_rfl), stm_nil]
  · intro l off n r el row k o ho hw h0 h1 h2 h3 h
    obtain rfl := ho rfl
    rw [List.drop_zero] at h
    obtain ⟨rfl, rfl⟩ := paX_some h
    have hlen : (l.take n).length = n := by rw [List.length_take]; omega
    refine callC_ok mixed orcSl_ok askPk_ok (Eq.mpr (pa_run l n k el row _) ⟨l, rfl, h0, by omega, by omega, h3, fun hz => ?_, fun hz => ?_⟩)
    · rw [paOut_bad (not_ieq hz)]
      rfl
    · have hz := not_ieq' hz
      obtain ⟨hv, _⟩ := cs_zero hz
      rw [paOut_good hz]
      have hX : pkL (hdC n) ((l.take n).map unitE) = strE (l.take n) := by unfold strE; rw [hlen]
      have hXl : (pkL (hdC n) ((l.take n).map unitE)).length = 6 + 2 * n := by rw [hX, strE_length, hlen]
      have hT : List.take (6 + 2 * n) (pkL (hdC n) ((l.take n).map unitE)) = strE (l.take n) := by rw [List.take_of_length_le (by omega), hX]
      refine ⟨⟨by kernel_rfl, by kernel_rfl, rfl, rfl, rfl, rfl⟩, hdC n, l, hdP_eq n, rfl, rfl, by omega, by omega, h0, by omega, h2, hv, pkL (hdC n) ((l.take n).map unitE), rfl, by omega, by omega, by omega, Nat.le_refl _, fun y0 y1 y2 y3 y4 y5 y6 y7 hy => ⟨ble_false' (by omega), by rw [Nat.ble_eq]; omega, by rw [List.length_map]; omega, N1 + 6, ?_, ?_⟩⟩
      · rw [stmE_length, hlen, show 6 + 2 * n + 8 = 14 + 2 * n by omega]; rfl
      · rw [AHeap.get_push_eq (by kernel_rfl)]
        rw [hT] at hy
        have : List.map gb (pkL (hdC n) ((l.take n).map unitE)) ++ List.take 8 (List.drop 0 ([] ++ ([gb y0, gb y1, gb y2, gb y3, gb y4, gb y5, gb y6, gb y7] ++ []))) = (stmE (l.take n)).map gb := by
          unfold stmE
          rw [List.map_append, ← hy, hX]; rfl
        rw [this]
noncomputable def stS : List Nat → List Value := fun l => (stmE l).map gb
/-- What is asked while the reference packs nothing. -/
noncomputable def askPn : Asks := skipA 30 askPk
theorem askPn_ok : AsksOk orcSe askPn := skipA_ok askPk_ok
theorem Pk_nil (K : Value → AHeap → Prop) : callE Tryz.prog orcSe (syOf [(34, 7)]) askPn 60 32 #[nilS] (emp Tryz.prog) K = ((∃ x1 : List Int, (([Value.int .u8 67, Value.int .u8 82, Value.int .u8 85, Value.int .u8 49] ++ [Value.int .u8 0, Value.int .u8 0]) = List.map gb x1 ∧ (0 : Nat) < 6 ∧ (6 : Nat) ≤ List.length x1 ∧ (6 : Nat) ≤ 1000000 ∧ (6 : Nat) ≤ 6 ∧ in8 0 0 0 0 0 0 0 0 ∧ (∀ y2 : Int, (List.Mem y2 (List.take 6 x1) → inB y2)) ∧ (∀ y2 : Int, (∀ y3 : Int, (∀ y4 : Int, (∀ y5 : Int, (∀ y6 : Int, (∀ y7 : Int, (∀ y8 : Int, (∀ y9 : Int, ([y2, y3, y4, y5, y6, y7, y8, y9] = slK (List.take 6 x1) 0 0 0 0 0 0 0 0 → K (Value.slice (some ⟨N1 + 4, 0, none⟩) 14 14) (((((((((emp Tryz.prog).push (.cells [Value.int .u8 67, Value.int .u8 82, Value.int .u8 85, Value.int .u8 49] 5 2 false)).push (.cells [Value.int .u8 0, Value.int .u8 0] 5 2 false)).set N1 (.dead)).push (.cells ([Value.int .u8 67, Value.int .u8 82, Value.int .u8 85, Value.int .u8 49] ++ [Value.int .u8 0, Value.int .u8 0]) 5 2 false)).push (.cells [Value.int .u8 0, Value.int .u8 0, Value.int .u8 0, Value.int .u8 0, Value.int .u8 0, Value.int .u8 0, Value.int .u8 0, Value.int .u8 0] 47 0 false)).set (N1 + 3) (.cells ([] ++ ([gb y2, gb y3, gb y4, gb y5, gb y6, gb y7, gb y8, gb y9] ++ [])) 47 0 false)).set (N1 + 2) (.dead)).push (.cells (List.take 6 (List.drop 0 ([Value.int .u8 67, Value.int .u8 82, Value.int .u8 85, Value.int .u8 49] ++ [Value.int .u8 0, Value.int .u8 0])) ++ List.take 8 (List.drop 0 ([] ++ ([gb y2, gb y3, gb y4, gb y5, gb y6, gb y7, gb y8, gb y9] ++ [])))) 5 2 false)))))))))))))) := by kernel_rfl
theorem Pk_emp (k : Nat) (K : Value → AHeap → Prop) : callE Tryz.prog orcSe (syOf [(34, 7)]) askPn 60 32 #[.slice (some ⟨0, 0, none⟩) 0 k] (emp Tryz.prog) K = ((∃ x1 : List Int, (([Value.int .u8 67, Value.int .u8 82, Value.int .u8 85, Value.int .u8 49] ++ [Value.int .u8 0, Value.int .u8 0]) = List.map gb x1 ∧ (0 : Nat) < 6 ∧ (6 : Nat) ≤ List.length x1 ∧ (6 : Nat) ≤ 1000000 ∧ (6 : Nat) ≤ 6 ∧ in8 0 0 0 0 0 0 0 0 ∧ (∀ y2 : Int, (List.Mem y2 (List.take 6 x1) → inB y2)) ∧ (∀ y2 : Int, (∀ y3 : Int, (∀ y4 : Int, (∀ y5 : Int, (∀ y6 : Int, (∀ y7 : Int, (∀ y8 : Int, (∀ y9 : Int, ([y2, y3, y4, y5, y6, y7, y8, y9] = slK (List.take 6 x1) 0 0 0 0 0 0 0 0 → K (Value.slice (some ⟨N1 + 4, 0, none⟩) 14 14) (((((((((emp Tryz.prog).push (.cells [Value.int .u8 67, Value.int .u8 82, Value.int .u8 85, Value.int .u8 49] 5 2 false)).push (.cells [Value.int .u8 0, Value.int .u8 0] 5 2 false)).set N1 (.dead)).push (.cells ([Value.int .u8 67, Value.int .u8 82, Value.int .u8 85, Value.int .u8 49] ++ [Value.int .u8 0, Value.int .u8 0]) 5 2 false)).push (.cells [Value.int .u8 0, Value.int .u8 0, Value.int .u8 0, Value.int .u8 0, Value.int .u8 0, Value.int .u8 0, Value.int .u8 0, Value.int .u8 0] 47 0 false)).set (N1 + 3) (.cells ([] ++ ([gb y2, gb y3, gb y4, gb y5, gb y6, gb y7, gb y8, gb y9] ++ [])) 47 0 false)).set (N1 + 2) (.dead)).push (.cells (List.take 6 (List.drop 0 ([Value.int .u8 67, Value.int .u8 82, Value.int .u8 85, Value.int .u8 49] ++ [Value.int .u8 0, Value.int .u8 0])) ++ List.take 8 (List.drop 0 ([] ++ ([gb y2, gb y3, gb y4, gb y5, gb y6, gb y7, gb y8, gb y9] ++ [])))) 5 2 false)))))))))))))) := by kernel_rfl
theorem nil_in : ∀ x ∈ List.take 6 [67, 82, 85, 49, 0, 0], inB x := by
  intro x hx
  simp only [List.take, List.mem_cons, List.not_mem_nil, or_false] at hx
  unfold inB
  rcases hx with rfl | rfl | rfl | rfl | rfl | rfl <;> omega
theorem nil_out {y0 y1 y2 y3 y4 y5 y6 y7 : Int} (hy : [y0, y1, y2, y3, y4, y5, y6, y7] = slK (List.take 6 [67, 82, 85, 49, 0, 0]) 0 0 0 0 0 0 0 0) : List.take 6 (List.drop 0 ([Value.int .u8 67, Value.int .u8 82, Value.int .u8 85, Value.int .u8 49] ++ [Value.int .u8 0, Value.int .u8 0])) ++ List.take 8 (List.drop 0 ([] ++ ([gb y0, gb y1, gb y2, gb y3, gb y4, gb y5, gb y6, gb y7] ++ []))) = (stmE []).map gb := by
  rw [show [gb y0, gb y1, gb y2, gb y3, gb y4, gb y5, gb y6, gb y7] = [y0, y1, y2, y3, y4, y5, y6, y7].map gb from rfl, hy]
  exact stm_nil
open Classical in
noncomputable def stX : List Nat → List Value → Option Out := fun l r => match r with
  | [] => if validL l then some (.fresh (slM (14 + 2 * l.length)) (stS l) 5) else none
  | _ => none
noncomputable def stY : List Nat → List Value → (Out → Prop) → Prop := fun l r K => match r with
  | [] => validL l ∧ ∀ xs : List Int, xs = stmE l → K (.fresh (slM xs.length) (xs.map gb) 5)
  | _ => False
theorem stX_some {l : List Nat} {r : List Value} {o : Out} (h : stX l r = some o) : r = [] ∧ validL l ∧ o = .fresh (slM (14 + 2 * l.length)) (stS l) 5 := by
  unfold stX at h
  split at h
  · split at h
    · rename_i hv; cases h; exact ⟨rfl, hv, rfl⟩
    · cases h
  · cases h
theorem stY_ok (l : List Nat) (r : List Value) (K : Out → Prop) (h : stY l r K) : ∃ o, stX l r = some o ∧ K o := by
  unfold stY at h
  split at h
  · refine ⟨_, if_pos h.1, ?_⟩
    have := h.2 _ rfl
    rw [stmE_length] at this
    exact this
  · exact h.elim
noncomputable def orcSf : Orc := orElse 32 (genO dF 65536 false stX) orcSe
set_option maxRecDepth 100000 in
theorem orcSf_ok : OrcOk Tryz.prog orcSf := by
  refine genO_ok dF_some (fun _ => rfl) globs_pos orcSe_ok ?_ ?_ ?_ ?_
  · intro l r o h
    obtain ⟨rfl, _, rfl⟩ := stX_some h
    exact ⟨names_sl _, flat_bytes _⟩
  · intro r o h
    obtain ⟨rfl, _, rfl⟩ := stX_some h
    refine CallJ.ofE mixed orcSe_ok askPn_ok (Eq.mpr (Pk_nil _) ⟨[67, 82, 85, 49, 0, 0], rfl, by omega, Nat.le_refl _, by omega, Nat.le_refl _, in8_zero, nil_in, fun y0 y1 y2 y3 y4 y5 y6 y7 hy => ⟨N1 + 4, rfl, ?_⟩⟩)
    rw [AHeap.get_push_eq (by kernel_rfl), nil_out hy]; rfl
  · intro r k o h
    obtain ⟨rfl, _, rfl⟩ := stX_some h
    refine CallJ.ofE mixed orcSe_ok askPn_ok (Eq.mpr (Pk_emp k _) ⟨[67, 82, 85, 49, 0, 0], rfl, by omega, Nat.le_refl _, by omega, Nat.le_refl _, in8_zero, nil_in, fun y0 y1 y2 y3 y4 y5 y6 y7 hy => ⟨N1 + 4, rfl, ?_⟩⟩)
    rw [AHeap.get_push_eq (by kernel_rfl), nil_out hy]; rfl
  · intro l off n r el row k o ho hw h0 h1 h2 h3 h
    obtain rfl := ho rfl
    rw [List.drop_zero] at h
    obtain ⟨rfl, hv, rfl⟩ := stX_some h
    have hlen : (l.take n).length = n := by rw [List.length_take]; omega
    rw [hlen]
    exact (Pack_call l n k el row (by omega) h2 hv).mono fun v h' ⟨r, e1, e2⟩ => ⟨r, e1, e2⟩
/-- What is asked of both: Pack without an error (b0), Unpack. -/
noncomputable def askSf (b0 b1 b2 b3 b4 : Bool) : Asks := asksG 32 gf 65536 stY (asksG 30 gf 65536 (paY b0) (askUr b1 b2 b3 b4))
theorem askSf_ok (b0 b1 b2 b3 b4 : Bool) : AsksOk orcSf (askSf b0 b1 b2 b3 b4) := asksG_ok (d := dF) (e := gf) (fun _ => rfl) stY_ok (asksG_ok (d := dF) (e := gf) (fun _ => rfl) (paY_ok b0) (askUr_ok b1 b2 b3 b4))
end Go.Proofs.YtphhcoiclkfimaaGreatDoor
