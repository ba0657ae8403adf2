/-
  OWN WORK. Copies of parts of samples; the triggered record, by the program.
-/
import Derived.Test.YtnlkkapeldhemaaGreatDoorTgA
namespace Go.Proofs.YtnlkkapeldhemaaGreatDoor
open Go Go.Am

noncomputable abbrev nilS : Value := .slice none 0 0

theorem cl_run (c : List Value) (off e row m k : Nat) (K : Value → AHeap → Prop) : callC Tryz.prog (exec Tryz.prog orcPa 10) (syOf [(7, 16)]) noAsks (noLoops _) 20 88 #[.slice (some ⟨N1, off, none⟩) (m + 1) k] (liH c e row) K = ((Nat.ble (off + (m + 1)) (List.length c) = true ∧ Nat.ble (((2 * (m + 1)) + 256) * 4) 281474976710656 = true ∧ List.all (List.take (m + 1) (List.drop off c)) Value.oneCell' = true ∧ K (Value.slice (some ⟨((liH c e row).push (.cells [] 69 2 false)).n, 0, none⟩) (m + 1) (m + 1)) ((((liH c e row).push (.cells [] 69 2 false)).set ((liH c e row).n) (.dead)).push (.cells (List.take (m + 1) (List.drop off c)) 69 2 false)))) := by kernel_rfl
theorem ckt_run (lv b a : Int) (K : Value → Prop) : callC Tryz.prog (exec Tryz.prog orcPa 10) (syOf []) askPa (noLoops _) 20 31 #[gi lv, gi b, gi a] (emp Tryz.prog) (fun v _ => K v) = (K (gi (firstS [withinS lv 1 16384, withinS b 0 4096, withinS a 1 4096]))) := by kernel_rfl
noncomputable def tgX : List Int → List Value → Option Out := fun l r => match l, r with
  | [], _ => none
  | l, [.int .i64 lv, .int .i64 b] => some (.plain (tgV (tgF lv b l 0)))
  | _, _ => none
noncomputable def tgY : List Int → List Value → (Out → Prop) → Prop := fun l r K => match r with
  | [.int .i64 lv, .int .i64 b] => l ≠ [] ∧ ∀ q, q = tgF lv b l 0 → K (.plain (tgV q))
  | _ => False
noncomputable def clX : List Nat → List Value → Option Out := fun l r => match l, r with
  | [], _ => none
  | l, [] => some (.fresh (slM l.length) (l.map gf) 69)
  | _, _ => none
noncomputable def clY : List Nat → List Value → (Out → Prop) → Prop := fun l r K => match r with
  | [] => l ≠ [] ∧ ∀ xs, xs = l → K (.fresh (slM xs.length) (xs.map gf) 69)
  | _ => False
theorem tgX_some {l : List Int} {r : List Value} {o : Out} (h : tgX l r = some o) : l ≠ [] ∧ ∃ lv b, r = [gi lv, gi b] ∧ o = .plain (tgV (tgF lv b l 0)) := by
  unfold tgX at h
  split at h
  · cases h
  · rename_i hne; cases h; exact ⟨hne, _, _, rfl, rfl⟩
  · cases h
theorem tgY_ok (l : List Int) (r : List Value) (K : Out → Prop) (h : tgY l r K) : ∃ o, tgX l r = some o ∧ K o := by
  unfold tgY at h
  split at h
  · rename_i lv b
    refine ⟨_, ?_, h.2 _ rfl⟩
    cases l with
    | nil => exact absurd rfl h.1
    | cons x l => rfl
  · exact h.elim
theorem clX_some {l : List Nat} {r : List Value} {o : Out} (h : clX l r = some o) : l ≠ [] ∧ r = [] ∧ o = .fresh (slM l.length) (l.map gf) 69 := by
  unfold clX at h
  split at h
  · cases h
  · rename_i hne; cases h; exact ⟨hne, rfl, rfl⟩
  · cases h
theorem clY_ok (l : List Nat) (r : List Value) (K : Out → Prop) (h : clY l r K) : ∃ o, clX l r = some o ∧ K o := by
  unfold clY at h
  split at h
  · refine ⟨_, ?_, h.2 l rfl⟩
    cases l with
    | nil => exact absurd rfl h.1
    | cons x l => rfl
  · exact h.elim
noncomputable def trC (lv b a : Int) : Int := firstS [withinS lv 1 16384, withinS b 0 4096, withinS a 1 4096]
noncomputable def trL : List Value → Option Value
  | [.int .i64 lv, .int .i64 b, .int .i64 a] => some (gi (trC lv b a))
  | _ => none
noncomputable def orcTa : Orc := orElse 31 (flatSpec trL) (orElse 88 (genO dF 1000000 true clX) (orElse 96 (genO dI 65536 false tgX) orcPa))
noncomputable def askTa : Asks := skipA 31 (asksGo 88 gf 1000000 clY (asksG 96 gi 65536 tgY askPa))
theorem tr_run (l : List Nat) (n k e row : Nat) (lv b a : Int) (K : Value → AHeap → Prop) : callC Tryz.prog (exec Tryz.prog orcTa 10) (syOf [(15, 7), (25, 1), (29, 7), (32, 7), (36, 1), (40, 33), (42, 1), (46, 33), (49, 33), (50, 21), (51, 7)]) askTa (noLoops _) 20 29 #[liP n k, gi lv, gi b, gi a] (liH (l.map gf) e row) K = ((∃ x1 : List Nat, (List.map gf l = List.map gf x1 ∧ (0 : Nat) < n ∧ (n : Nat) ≤ List.length x1 ∧ (n : Nat) ≤ 1000000 ∧ (n : Nat) ≤ k ∧ ((!(ieq (firstS [csE (List.take n x1), withinS lv 1 16384, withinS b 0 4096, withinS a 1 4096]) 0)) = true → K (Value.tuple #[nilS, gi 0, gi (firstS [csE (List.take n x1), withinS lv 1 16384, withinS b 0 4096, withinS a 1 4096])]) ((liH (List.map gf l) e row).push (.cells [csR (List.take n x1) [], gi (withinS lv 1 16384), gi (withinS b 0 4096), gi (withinS a 1 4096)] 29 2 false))) ∧ ((!(ieq (firstS [csE (List.take n x1), withinS lv 1 16384, withinS b 0 4096, withinS a 1 4096]) 0)) = false → (∃ x2 : List Nat, (List.map gf l = List.map gf x2 ∧ (0 : Nat) < n ∧ (n : Nat) ≤ List.length x2 ∧ (n : Nat) ≤ 65536 ∧ validL (List.take n x2) ∧ (∃ x3 : List Int, (unitsL (List.take n x2) = List.map gi x3 ∧ true = true ∧ (0 : Nat) < n ∧ (n : Nat) ≤ List.length x3 ∧ (n : Nat) ≤ 65536 ∧ (n : Nat) ≤ n ∧ (List.take n x3 = [] → False) ∧ (∀ y4 : Option Nat, (y4 = tgF lv b (List.take n x3) 0 → (((!(Option.isSome y4)) = true → K (Value.tuple #[nilS, gi 0, gi 7]) (((liH (List.map gf l) e row).push (.cells [csR (List.take n x1) [], gi (withinS lv 1 16384), gi (withinS b 0 4096), gi (withinS a 1 4096)] 29 2 false)).push (.cells (unitsL (List.take n x2)) 3 2 false))) ∧ ((!(Option.isSome y4)) = false → (inI64 (Int.ofNat n - Int.ofNat (Option.getD y4 0)) = true ∧ (ilt (Int.ofNat n - Int.ofNat (Option.getD y4 0)) a = true → K (Value.tuple #[nilS, gi 0, gi 16]) (((liH (List.map gf l) e row).push (.cells [csR (List.take n x1) [], gi (withinS lv 1 16384), gi (withinS b 0 4096), gi (withinS a 1 4096)] 29 2 false)).push (.cells (unitsL (List.take n x2)) 3 2 false))) ∧ (ilt (Int.ofNat n - Int.ofNat (Option.getD y4 0)) a = false → (inI64 (Int.ofNat (Option.getD y4 0) - b) = true ∧ inI64 (Int.ofNat (Option.getD y4 0) + a) = true ∧ (0 : Int) ≤ (Int.ofNat (Option.getD y4 0) - b) ∧ ((Int.ofNat (Option.getD y4 0) - b) : Int) ≤ (Int.ofNat (Option.getD y4 0) + a) ∧ ((Int.ofNat (Option.getD y4 0) + a) : Int) ≤ Int.ofNat k ∧ ((Int.ofNat (Option.getD y4 0) - b) : Int) < Int.ofNat k ∧ (Nat.beq row 0 || Nat.beq row 2) = true ∧ (∃ x5 : List Nat, (List.map gf l = List.map gf x5 ∧ (Nat.beq row 0 || Nat.beq row 2) = true ∧ (0 : Nat) < (Int.toNat (Int.ofNat (Option.getD y4 0) + a) - Int.toNat (Int.ofNat (Option.getD y4 0) - b)) ∧ (((0 + (Int.toNat (Int.ofNat (Option.getD y4 0) - b) * 1)) + (Int.toNat (Int.ofNat (Option.getD y4 0) + a) - Int.toNat (Int.ofNat (Option.getD y4 0) - b))) : Nat) ≤ List.length x5 ∧ ((Int.toNat (Int.ofNat (Option.getD y4 0) + a) - Int.toNat (Int.ofNat (Option.getD y4 0) - b)) : Nat) ≤ 1000000 ∧ ((Int.toNat (Int.ofNat (Option.getD y4 0) + a) - Int.toNat (Int.ofNat (Option.getD y4 0) - b)) : Nat) ≤ (k - Int.toNat (Int.ofNat (Option.getD y4 0) - b)) ∧ (List.take (Int.toNat (Int.ofNat (Option.getD y4 0) + a) - Int.toNat (Int.ofNat (Option.getD y4 0) - b)) (List.drop (0 + (Int.toNat (Int.ofNat (Option.getD y4 0) - b) * 1)) x5) = [] → False) ∧ (∀ y6 : List Nat, (y6 = List.take (Int.toNat (Int.ofNat (Option.getD y4 0) + a) - Int.toNat (Int.ofNat (Option.getD y4 0) - b)) (List.drop (0 + (Int.toNat (Int.ofNat (Option.getD y4 0) - b) * 1)) x5) → K (Value.tuple #[Value.slice (some ⟨(((liH (List.map gf l) e row).push (.cells [csR (List.take n x1) [], gi (withinS lv 1 16384), gi (withinS b 0 4096), gi (withinS a 1 4096)] 29 2 false)).push (.cells (unitsL (List.take n x2)) 3 2 false)).n, 0, none⟩) (List.length y6) (List.length y6), gi (Int.ofNat (Option.getD y4 0)), gi 0]) ((((liH (List.map gf l) e row).push (.cells [csR (List.take n x1) [], gi (withinS lv 1 16384), gi (withinS b 0 4096), gi (withinS a 1 4096)] 29 2 false)).push (.cells (unitsL (List.take n x2)) 3 2 false)).push (.cells (List.map gf y6) 69 2 false))))))))))))))))))))) := by kernel_rfl
theorem tr_nil (lv b a : Int) (K : Value → AHeap → Prop) : callC Tryz.prog (exec Tryz.prog orcTa 40) (syOf [(25, 1)]) askTa (noLoops _) 40 29 #[nilS, gi lv, gi b, gi a] (emp Tryz.prog) K = ((((!(ieq (firstS [0, withinS lv 1 16384, withinS b 0 4096, withinS a 1 4096]) 0)) = true → K (Value.tuple #[nilS, gi 0, gi (firstS [0, withinS lv 1 16384, withinS b 0 4096, withinS a 1 4096])]) ((emp Tryz.prog).push (.cells [csR [] [], gi (withinS lv 1 16384), gi (withinS b 0 4096), gi (withinS a 1 4096)] 29 2 false))) ∧ ((!(ieq (firstS [0, withinS lv 1 16384, withinS b 0 4096, withinS a 1 4096]) 0)) = false → K (Value.tuple #[nilS, gi 0, gi 7]) (((emp Tryz.prog).push (.cells [csR [] [], gi (withinS lv 1 16384), gi (withinS b 0 4096), gi (withinS a 1 4096)] 29 2 false)).push (.cells [] 3 2 false))))) := by kernel_rfl
theorem tr_emp (k : Nat) (lv b a : Int) (K : Value → AHeap → Prop) : callC Tryz.prog (exec Tryz.prog orcTa 40) (syOf [(25, 1)]) askTa (noLoops _) 40 29 #[.slice (some ⟨0, 0, none⟩) 0 k, gi lv, gi b, gi a] (emp Tryz.prog) K = ((((!(ieq (firstS [0, withinS lv 1 16384, withinS b 0 4096, withinS a 1 4096]) 0)) = true → K (Value.tuple #[nilS, gi 0, gi (firstS [0, withinS lv 1 16384, withinS b 0 4096, withinS a 1 4096])]) ((emp Tryz.prog).push (.cells [csR [] [], gi (withinS lv 1 16384), gi (withinS b 0 4096), gi (withinS a 1 4096)] 29 2 false))) ∧ ((!(ieq (firstS [0, withinS lv 1 16384, withinS b 0 4096, withinS a 1 4096]) 0)) = false → K (Value.tuple #[nilS, gi 0, gi 7]) (((emp Tryz.prog).push (.cells [csR [] [], gi (withinS lv 1 16384), gi (withinS b 0 4096), gi (withinS a 1 4096)] 29 2 false)).push (.cells [] 3 2 false))))) := by kernel_rfl
set_option maxRecDepth 100000 in
theorem clone_call (l : List Nat) (off n el row k : Nat) (h0 : 0 < n) (h1 : off + n ≤ l.length) (h2 : n ≤ 1000000) : CallJ Tryz.prog 88 #[.slice (some ⟨N1, off, none⟩) n k] (liH (l.map gf) el row) (Out.fresh (slM n) (((l.drop off).take n).map gf) 69).Got := by
  obtain ⟨m, rfl⟩ : ∃ m, n = m + 1 := ⟨n - 1, by omega⟩
  have hc : (((l.map gf).drop off).take (m + 1)) = ((l.drop off).take (m + 1)).map gf := by rw [← List.map_drop, ← List.map_take]
  refine callC_ok mixed orcPa_ok (noAsks_ok _) (Eq.mpr (cl_run (l.map gf) off el row m k _) ⟨?_, ?_, ?_, ?_⟩)
  · rw [Nat.ble_eq, List.length_map]; exact h1
  · rw [Nat.ble_eq]; omega
  · rw [hc, List.all_eq_true]
    intro x hx
    obtain ⟨y, _, rfl⟩ := List.mem_map.1 hx
    rfl
  · refine ⟨_, rfl, ?_⟩
    rw [hc, AHeap.get_push, if_pos (AHeap.set_n _ _ _).symm]
set_option maxRecDepth 100000 in
theorem orcTa_ok : OrcOk Tryz.prog orcTa := by
  refine flatSpec_ok (fun l v h => ?_) (genO_ok dF_some (fun _ => rfl) globs_pos (genO_ok dI_some (fun _ => rfl) globs_pos orcPa_ok ?_ ?_ ?_ ?_) ?_ ?_ ?_ ?_)
  · unfold trL at h
    split at h
    · cases h; exact ⟨rfl, rfl, callC_ok mixed orcPa_ok askPa_ok (Eq.mpr (ckt_run _ _ _ _) rfl)⟩
    · cases h
  · intro l r o h
    obtain ⟨_, lv, b, rfl, rfl⟩ := tgX_some h
    rfl
  · intro r o h; exact absurd rfl (tgX_some h).1
  · intro r k o h; exact absurd rfl (tgX_some h).1
  · intro l off n r el row k o ho _ h0 h1 h2 h3 h
    obtain rfl := ho rfl
    obtain ⟨_, lv, b, rfl, rfl⟩ := tgX_some h
    rw [List.drop_zero]
    exact callC_ok mixed orcZ_ok askZ_ok (Eq.mpr (tg_run l n el row k lv b _) ⟨rfl, rfl, rfl, rfl, rfl, rfl, rfl, rfl, rfl, ⟨by omega, h2⟩, fun _ _ => rfl⟩)
  · intro l r o h
    obtain ⟨_, rfl, rfl⟩ := clX_some h
    exact ⟨names_sl _, flat_floats _⟩
  · intro r o h; exact absurd rfl (clX_some h).1
  · intro r k o h; exact absurd rfl (clX_some h).1
  · intro l off n r el row k o _ _ h0 h1 h2 h3 h
    obtain ⟨_, rfl, rfl⟩ := clX_some h
    rw [show ((l.drop off).take n).length = n by rw [List.length_take, List.length_drop]; omega]
    exact clone_call l off n el row k h0 h1 h2
theorem askTa_ok : AsksOk orcTa askTa := skipA_ok (asksGo_ok (d := dF) (e := gf) (fun _ => rfl) clY_ok (asksG_ok (d := dI) (e := gi) (fun _ => rfl) tgY_ok askPa_ok))
end Go.Proofs.YtnlkkapeldhemaaGreatDoor
