/-
  OWN WORK. CheckSamples, ShortList and floats, known for all samples.
-/
import Derived.Test.YtnlkkapeldhemaaGreatDoorFlG
namespace Go.Proofs.YtnlkkapeldhemaaGreatDoor
open Go Go.Am

noncomputable def csE (l : List Nat) : Int := firstS [whenS (ilt 4096 (Int.ofNat l.length)) 5, smpsE l]
noncomputable def csR : List Nat → List Value → Value := fun l _ => gi (csE l)
noncomputable def shortB (n : Nat) : Bool := !ilt 40 (Int.ofNat n) || ieq (Int.ofNat n) 4097
noncomputable def shortR : List Nat → List Value → Value := fun l _ => .bool (shortB l.length)
theorem ilt_dec (a b : Int) : ilt a b = decide (a < b) := by
  cases a with
  | ofNat m => cases b with
    | ofNat n => rw [show ilt (Int.ofNat m) (Int.ofNat n) = Nat.blt m n from rfl, Bool.eq_iff_iff, Nat.blt_eq, decide_eq_true_eq]; simp
    | negSucc n => rw [show ilt (Int.ofNat m) (Int.negSucc n) = false from rfl]; symm; exact decide_eq_false (by simp only [Int.ofNat_eq_natCast]; omega)
  | negSucc m => cases b with
    | ofNat n => rw [show ilt (Int.negSucc m) (Int.ofNat n) = true from rfl]; symm; exact decide_eq_true (by simp only [Int.ofNat_eq_natCast]; omega)
    | negSucc n => rw [show ilt (Int.negSucc m) (Int.negSucc n) = Nat.blt n m from rfl, Bool.eq_iff_iff, Nat.blt_eq, decide_eq_true_eq]; omega
theorem minI_le {n : Nat} (h : n ≤ 4096) : minI n = (n : Int) := by unfold minI; rw [if_neg (by omega)]
theorem minI_gt {n : Nat} (h : 4096 < n) : minI n = 4096 := by unfold minI; rw [if_pos (by omega)]
theorem cs_same {l : List Nat} {n : Nat} (hn : n ≤ l.length) : firstS [whenS (ilt 4096 (Int.ofNat n)) 5, whenS (!ilt 4096 (Int.ofNat n)) (smpsE (l.take (minI n).toNat))] = csE (l.take n) := by
  have hlen : (l.take n).length = n := by rw [List.length_take]; omega
  unfold csE
  rw [hlen]
  by_cases h : n ≤ 4096
  · rw [minI_le h, show ((n : Nat) : Int).toNat = n by simp, show ilt 4096 (Int.ofNat n) = false by rw [ilt_dec]; exact decide_eq_false (by simp only [Int.ofNat_eq_natCast]; omega)]
    rfl
  · rw [show ilt 4096 (Int.ofNat n) = true by rw [ilt_dec]; exact decide_eq_true (by simp only [Int.ofNat_eq_natCast]; omega)]
    rfl
set_option maxRecDepth 100000 in
theorem cs_call (l : List Nat) (n e row k : Nat) (h0 : 0 < n) (h1 : n ≤ l.length) (h2 : n ≤ 1000000) (hk : n ≤ k) : CallJ Tryz.prog 87 #[liP n k] (liH (l.map gf) e row) (fun v _ => v = gi (csE (l.take n))) :=
  callC_ok mixed orcW_ok askW_ok (Eq.mpr (cs_run l n e row k _) ⟨l, rfl, h0, h1, h2, hk, by unfold csE; rw [show (l.take n).length = n by rw [List.length_take]; omega]⟩)
set_option maxRecDepth 100000 in
theorem CS_call (l : List Nat) (n e row k : Nat) (h0 : 0 < n) (h1 : n ≤ l.length) (h2 : n ≤ 1000000) (hk : n ≤ k) : CallJ Tryz.prog 23 #[liP n k] (liH (l.map gf) e row) (fun v _ => v = gi (csE (l.take n))) := by
  have hm : 0 < minI n ∧ minI n ≤ n := by
    unfold minI
    split <;> omega
  refine callC_ok mixed orcW_ok askW_ok (Eq.mpr (CS_run l n e row k _) ⟨by omega, by omega, by omega, hk, rfl, rfl, rfl, l, rfl, by omega, by omega, by omega, by omega, rfl, ?_⟩)
  rw [cs_same h1]
set_option maxRecDepth 100000 in
theorem short_call (l : List Nat) (n e row k : Nat) (h1 : n ≤ l.length) : CallJ Tryz.prog 15 #[liP n k] (liH (l.map gf) e row) (fun v _ => v = .bool (shortB (l.take n).length)) := by
  refine callC_ok mixed orcW_ok (noAsks_ok _) (Eq.mpr (short_run n k e row _ _) ?_)
  rw [show (l.take n).length = n by rw [List.length_take]; omega]
  unfold shortB
  cases (!ilt 40 (Int.ofNat n)) <;> cases ieq (Int.ofNat n) 4097 <;> simp
noncomputable def orcXa : Orc := orElse 15 (sliceO dF 9223372036854775807 noT shortR) orcW
set_option maxRecDepth 100000 in
theorem orcXa_ok : OrcOk Tryz.prog orcXa := by
  refine sliceO_ok dF_some (fun _ => rfl) globs_pos orcW_ok (fun _ _ _ => rfl) ?_ ?_ ?_
  · intro r h; obtain rfl := noT_some h; exact CallJ.of_call mixed orcW_ok short_nil fun _ => rfl
  · intro r k h; obtain rfl := noT_some h; exact CallJ.of_call mixed orcW_ok (short_emp k) fun _ => rfl
  · intro l n r el row k h0 h1 h2 h3 h
    obtain rfl := noT_some h
    exact short_call l n el row k h1
noncomputable def orcXb : Orc := orElse 87 (sliceO dF 1000000 noT csR) orcXa
set_option maxRecDepth 100000 in
theorem orcXb_ok : OrcOk Tryz.prog orcXb := by
  refine sliceO_ok dF_some (fun _ => rfl) globs_pos orcXa_ok (fun _ _ _ => rfl) ?_ ?_ ?_
  · intro r h; obtain rfl := noT_some h; exact CallJ.of_call mixed orcW_ok cs_nil fun _ => rfl
  · intro r k h; obtain rfl := noT_some h; exact CallJ.of_call mixed orcW_ok (cs_emp k) fun _ => rfl
  · intro l n r el row k h0 h1 h2 h3 h
    obtain rfl := noT_some h
    exact cs_call l n el row k h0 h1 h2 h3
noncomputable def orcXc : Orc := orElse 23 (sliceO dF 1000000 noT csR) orcXb
set_option maxRecDepth 100000 in
theorem orcXc_ok : OrcOk Tryz.prog orcXc := by
  refine sliceO_ok dF_some (fun _ => rfl) globs_pos orcXb_ok (fun _ _ _ => rfl) ?_ ?_ ?_
  · intro r h; obtain rfl := noT_some h; exact CallJ.of_call mixed orcW_ok CS_nil fun _ => rfl
  · intro r k h
    obtain rfl := noT_some h
    cases k with
    | zero => exact CallJ.of_call mixed orcW_ok CS_emp0 fun _ => rfl
    | succ k => exact callC_ok mixed orcW_ok askW_ok (Eq.mpr (CS_empC (k + 1) _) ⟨by omega, by omega, by omega, by omega, rfl, rfl, rfl, rfl, rfl⟩)
  · intro l n r el row k h0 h1 h2 h3 h
    obtain rfl := noT_some h
    exact CS_call l n el row k h0 h1 h2 h3
noncomputable def orcX : Orc := orElse 19 (cloneO dF gf 69) orcXc
set_option maxRecDepth 100000 in
theorem orcX_ok : OrcOk Tryz.prog orcX := by
  refine cloneO_ok dF_some (fun _ => rfl) orcXc_ok fun l n el row k h0 h1 h2 => ?_
  obtain ⟨m, rfl⟩ : ∃ m, n = m + 1 := ⟨n - 1, by omega⟩
  have hc : (((l.map gf).drop 0).take (m + 1)) = (l.take (m + 1)).map gf := by rw [List.drop_zero, ← List.map_take]
  refine callC_ok mixed orcW_ok (noAsks_ok _) (Eq.mpr (floats_run (l.map gf) el row m k _) ⟨?_, ?_, ?_, ?_⟩)
  · rw [Nat.ble_eq]; simp; exact h1
  · rw [Nat.ble_eq]; omega
  · rw [hc, List.all_eq_true]
    intro x hx
    obtain ⟨y, _, rfl⟩ := List.mem_map.1 hx
    rfl
  · refine ⟨_, rfl, ?_⟩
    rw [hc]
    unfold newCells
    rw [AHeap.get_push, if_pos (AHeap.set_n _ _ _).symm]
noncomputable def askX : Asks := asksC 19 gf 69 (asksO 23 gf 1000000 noT csR (asksO 87 gf 1000000 noT csR (asksO 15 gf 9223372036854775807 noT shortR noAsks)))
theorem askX_ok : AsksOk orcX askX := asksC_ok (d := dF) (fun _ => rfl) (asksO_ok (d := dF) (e := gf) (fun _ => rfl) (asksO_ok (d := dF) (e := gf) (fun _ => rfl) (asksO_ok (d := dF) (e := gf) (fun _ => rfl) (noAsks_ok _))))
end Go.Proofs.YtnlkkapeldhemaaGreatDoor
