/-
  OWN WORK. Springs: the law on the abstract machine: true for all springs and ways.
-/
import Derived.Test.YtmlfpmkhfklbfaaGreatDoorShH
namespace Go.Proofs.YtmlfpmkhfklbfaaGreatDoor
open Go Go.Am

set_option maxRecDepth 100000 in
theorem orcSh_ok : OrcOk Tryz.prog orcSh := by
  refine lstI_ok globs_pos orcSg_ok (fun _ _ _ => rfl) ?_ ?_ ?_
  · rintro r hr
    have hr : r = [gi (wOf r)] := hr
    rw [hr]
    exact callC_ok mixed orcSg_ok askSg_ok (Eq.mpr (fce_nil (wOf r) _) ⟨trivial, rfl, fun _ => rfl, fun hz => absurd (firstS_none (not_ieq' hz) 16 (by simp)) (by decide)⟩)
  · rintro r k hr
    have hr : r = [gi (wOf r)] := hr
    rw [hr]
    exact callC_ok mixed orcSg_ok askSg_ok (Eq.mpr (fce_emp (wOf r) k _) ⟨trivial, rfl, fun _ => rfl, fun hz => absurd (firstS_none (not_ieq' hz) 16 (by simp)) (by decide)⟩)
  · rintro l r m e row k hr hm h1
    have hr : r = [gi (wOf r)] := hr
    rw [hr]
    generalize wOf r = w
    have hf : (List.all (cellsP l) (flat 3) = true ∧ True) := ⟨cellsP_flat l, trivial⟩
    have hn : (0 : Nat) < m + 1 ∧ l.length = m + 1 ∧ m + 1 ≤ 65536 := ⟨Nat.succ_pos _, hm, h1⟩
    refine callC_ok mixed orcSg_ok askSg_ok (Eq.mpr (fce_run l w m e row k _) ⟨hf, rfl, l, rfl, hn, rfl, fun hz => ?_, fun hz => ⟨hf, rfl, l, rfl, hn, ?_, ?_⟩⟩)
    · show _ = Value.tuple #[gi (FoV l w), gi (FoE l w)]
      unfold FoV FoE
      rw [not_ieqT hz]; rfl
    · have z := firstS_none (not_ieq' hz)
      have hw := within_zero (z _ (.tail _ (.head _)))
      exact ⟨rfl, z _ (.head _), hw.2⟩
    · show _ = Value.tuple #[gi (FoV l w), gi (FoE l w)]
      unfold FoV FoE
      rw [not_ieq' hz]; rfl
theorem orcSz_ok : OrcOk Tryz.prog orcSz := wake7_ok orcSh_ok
theorem askSh_ok : AsksOk orcSh askSh := asksI'_ok askSg_ok
theorem askSz_ok : AsksOk orcSz askSz := skipA_ok askSh_ok
theorem cellsP_one : ∀ l : List P2, List.all (cellsP l) Value.oneCell' = true
  | [] => rfl
  | q :: l => by
    show ([gi q.1, gi q.2] ++ cellsP l).all Value.oneCell' = true
    rw [List.all_append, cellsP_one l]; rfl
section
variable (es : Nat → TypeId) (w : Int)
theorem springs_nil : CallJ Tryz.prog 4 #[nilS, gi w] (base tabs7 es Tryz.prog.globals.size) (fun v _ => v = .bool true) :=
  CallJ.of_call mixed orcSy_ok (lw_nil es w) fun _ => rfl
theorem springs_emp (k : Nat) : CallJ Tryz.prog 4 #[.slice (some ⟨Tryz.prog.globals.size, 0, none⟩) 0 k, gi w] ((base tabs7 es Tryz.prog.globals.size).push .dead) (fun v _ => v = .bool true) :=
  CallJ.of_call mixed orcSy_ok (lw_emp es w k) fun _ => rfl
set_option maxRecDepth 100000 in
theorem springs_full (l : List P2) (k e row : Nat) (h0 : 0 < l.length) : CallJ Tryz.prog 4 #[liP l.length k, gi w] (argP es l e row) (fun v _ => v = .bool true) := by
  obtain ⟨m, hm⟩ : ∃ m, l.length = m + 1 := ⟨l.length - 1, by omega⟩
  rw [hm]
  refine callC_ok mixed orcSz_ok askSz_ok (Eq.mpr (lw_run es l w m k e row _) ⟨fun _ => rfl, fun hs => ?_⟩)
  rw [ilt_say] at hs
  have hle : m + 1 ≤ 9 := by have := of_decide_eq_false hs; simp only [Int.ofNat_eq_natCast] at this; omega
  have ht : List.take ((m + 1) * 2) (List.drop 0 (cellsP l)) = cellsP l := by rw [List.drop_zero, List.take_of_length_le (by rw [cellsP_len]; omega)]
  rw [ht]
  have hf : (List.all (cellsP l) (flat 3) = true ∧ True) := ⟨cellsP_flat l, trivial⟩
  have hn : (0 : Nat) < m + 1 ∧ l.length = m + 1 ∧ m + 1 ≤ 65536 := ⟨Nat.succ_pos _, hm, by omega⟩
  have b1 : Nat.ble (0 + (m + 1) * 2) (List.length (cellsP l)) = true := by rw [Nat.ble_eq, cellsP_len]; omega
  have b2 : Nat.ble ((2 * (m + 1) + 256) * 16) 281474976710656 = true := by rw [Nat.ble_eq]; omega
  refine ⟨b1, b2, cellsP_one l, hf, rfl, l, rfl, hn, rfl, hf, rfl, l, rfl, hn, rfl, fun hz => ?_, fun hz => ?_⟩
  · have hz' : firstS [sprE l, withinS w (-100000000) 100000000] = 0 := by rw [ieq_dec] at hz; exact of_decide_eq_true hz
    have z := firstS_none hz'
    have hw := within_zero (z _ (.tail _ (.head _)))
    refine ⟨hf, rfl, l, rfl, hn, ⟨rfl, z _ (.head _), hw.2⟩, b1, b2, cellsP_one l, hf, rfl, l, rfl, hn, rfl, hf, rfl, l, rfl, hn, rfl, ieq_self _, ?_, ieq_self _, rfl⟩
    show ieq (FoV l w) (foV l w) = true
    unfold FoV FoE
    rw [hz]; exact ieq_self _
  · refine ⟨b1, b2, cellsP_one l, hf, rfl, l, rfl, hn, rfl, hf, rfl, l, rfl, hn, rfl, ieq_self _, ?_, ieq_self _, rfl⟩
    show ieq (FoV l w) 0 = true
    unfold FoV FoE
    rw [hz]; rfl
end
end Go.Proofs.YtmlfpmkhfklbfaaGreatDoor
