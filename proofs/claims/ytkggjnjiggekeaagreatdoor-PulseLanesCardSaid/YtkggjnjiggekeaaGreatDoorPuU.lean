/-
  OWN WORK. Stage 8: copies as known calls; what the law of lanes stands on, where both lists have elements.
-/
import Derived.Test.YtkggjnjiggekeaaGreatDoorPuR
import Derived.Test.YtkggjnjiggekeaaGreatDoorPuS
import Derived.Test.YtkggjnjiggekeaaGreatDoorWk8
namespace Go.Proofs.YtkggjnjiggekeaaGreatDoor
open Go Go.Am

noncomputable abbrev spnO (n : Nat) (l : List P2) (_ : List Value) : Out := .wide (slM n) (cellsP l) 23 3
noncomputable abbrev intO (n : Nat) (l : List Int) (_ : List Value) : Out := .wide (slM n) (l.map gi) 3 2
theorem ints_one (l : List Int) : List.all (l.map gi) Value.oneCell' = true := by
  rw [List.all_eq_true]
  intro x hx
  obtain ⟨y, _, rfl⟩ := List.mem_map.1 hx
  rfl
theorem pairs_one : ∀ l : List P2, List.all (cellsP l) Value.oneCell' = true
  | [] => rfl
  | x :: l => by
    show (Value.oneCell' (gi x.1) && (Value.oneCell' (gi x.2) && List.all (cellsP l) Value.oneCell')) = true
    rw [pairs_one l]; rfl
set_option maxRecDepth 100000 in
theorem spn_ok {orc : Orc} (ho : OrcOk Tryz.prog orc) : OrcOk Tryz.prog (orElse 27 (s1O tpT nonC spnO) orc) := by
  refine s1O_ok ho (fun _ _ _ _ => ⟨names_sl _, cellsP_flat _⟩) ?_
  rintro l m k e row r hl h1 rfl
  have ht : List.take ((m + 1) * 2) (List.drop 0 (cellsP l)) = cellsP l := by rw [List.drop_zero, List.take_of_length_le (by rw [cellsP_len]; omega)]
  refine callC_ok mixed orcPj_ok (askPj_ok (m + 1)) (Eq.mpr (spn_run l m e row k _) ?_)
  rw [ht]
  exact ⟨by rw [Nat.ble_eq, cellsP_len]; omega, by rw [Nat.ble_eq]; omega, pairs_one l, nG1 + 2, rfl, by kernel_rfl⟩
set_option maxRecDepth 100000 in
theorem int_ok {orc : Orc} (ho : OrcOk Tryz.prog orc) : OrcOk Tryz.prog (orElse 28 (s1O tiT nonC intO) orc) := by
  refine s1O_ok ho (fun _ _ _ _ => ⟨names_sl _, flat_ints _⟩) ?_
  rintro l m k e row r hl h1 rfl
  have ht : List.take (m + 1) (List.drop 0 (l.map gi)) = l.map gi := by rw [List.drop_zero, List.take_of_length_le (by rw [List.length_map]; omega)]
  refine callC_ok mixed orcPj_ok (askPj_ok (m + 1)) (Eq.mpr (ii8_run l m e row k _) ?_)
  rw [ht]
  exact ⟨by rw [Nat.ble_eq, List.length_map]; omega, by rw [Nat.ble_eq]; omega, ints_one l, nG1 + 2, rfl, by kernel_rfl⟩
noncomputable def orcLa : Orc := wkO (orElse 27 (s1O tpT nonC spnO) (orElse 28 (s1O tiT nonC intO) (orElse 24 (anyO Tryz.prog.globals.size (cnX siC)) (orElse 26 (s2Oo tpT tiT iC insO) (orElse 29 (s2Oo tpT tiT iC excO) (orElse 30 (s1O tiT pC spdO) (orElse 31 (s1O tiT pC wayO) orcPj)))))))
theorem orcLa_ok : OrcOk Tryz.prog orcLa := wkO_ok (spn_ok (int_ok (same_i (ins_ok (exc_ok (spd_ok (way_ok orcPj_ok)))))))
noncomputable def askLa (b w : Bool) (N : Nat) : Asks := skipA 7 (asksV Tryz.prog.globals.size 27 (s1AY tpT nonC spnO) (asksV Tryz.prog.globals.size 28 (s1AY tiT nonC intO) (asksV Tryz.prog.globals.size 24 (cnY siC)
  (asksV Tryz.prog.globals.size 26 (s2AY tpT tiT (fun c p r => iC c p r ∧ ieq (iE c p) 0 = b) (fun c p _ => .plain (insV b c p))) (asksV Tryz.prog.globals.size 29 (s2AY tpT tiT (fun c p r => iC c p r ∧ ieq (iE c p) 0 = b) (fun c p _ => .plain (excV b c p)))
  (asksV Tryz.prog.globals.size 30 (s1AY tiT (fun p r => pC p r ∧ ieq (pulE p) 0 = w) (fun n p _ => spdW w n p (sumL 0 p))) (asksV Tryz.prog.globals.size 31 (s1AY tiT (fun p r => pC p r ∧ ieq (pulE p) 0 = w) (fun n p _ => spdW w n p (sumL 0 (sumL 0 p)))) (askPj N))))))))
theorem askLa_ok (b w : Bool) (N : Nat) : AsksOk orcLa (askLa b w N) := skipA_ok (asksV_ok (s1A_ok fun _ _ _ h => ⟨h, rfl⟩) (asksV_ok (s1A_ok fun _ _ _ h => ⟨h, rfl⟩) (asksV_ok cnY_ok (asksV_ok (s2A_ok fun c p _ h => ⟨h.1, by rw [← h.2]⟩) (asksV_ok (s2A_ok fun c p _ h => ⟨h.1, by rw [← h.2]⟩) (asksV_ok (s1A_ok fun n p _ h => ⟨h.1, by rw [← h.2]; rfl⟩) (asksV_ok (s1A_ok fun n p _ h => ⟨h.1, by rw [← h.2]; rfl⟩) (askPj_ok N))))))))
end Go.Proofs.YtkggjnjiggekeaaGreatDoor
