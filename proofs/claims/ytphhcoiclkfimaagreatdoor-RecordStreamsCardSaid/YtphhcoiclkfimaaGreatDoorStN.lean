/-
  OWN WORK. RecordStreams: the copy of bytes; what is asked of the law.
-/
import Derived.Test.YtphhcoiclkfimaaGreatDoorStG
namespace Go.Proofs.YtphhcoiclkfimaaGreatDoor
open Go Go.Am

theorem bytes_run (c : List Value) (e row m k : Nat) (K : Value → AHeap → Prop) : callC Tryz.prog (exec Tryz.prog orcSf 10) (syOf [(5, 16)]) noAsks (noLoops _) 20 25 #[liP (m + 1) k] (liH c e row) K =
  (Nat.ble (0 + (m + 1)) c.length = true ∧ Nat.ble ((2 * (m + 1) + 256) * 1) 281474976710656 = true ∧ ((c.drop 0).take (m + 1)).all Value.oneCell' = true ∧
    K (.slice (some ⟨((liH c e row).push (.cells [] 5 2 false)).n, 0, none⟩) (m + 1) (m + 1)) (newCells (((liH c e row).push (.cells [] 5 2 false)).set (liH c e row).n .dead) ((c.drop 0).take (m + 1)) 5 2)) := by kernel_rfl
noncomputable def orcSn : Orc := orElse 25 (cloneO dB gb 5) orcSf
set_option maxRecDepth 100000 in
theorem orcSn_ok : OrcOk Tryz.prog orcSn := by
  refine cloneO_ok dB_some (fun _ => rfl) orcSf_ok fun l n el row k h0 h1 h2 => ?_
  obtain ⟨m, rfl⟩ : ∃ m, n = m + 1 := ⟨n - 1, by omega⟩
  have hc : (((l.map gb).drop 0).take (m + 1)) = (l.take (m + 1)).map gb := by rw [List.drop_zero, ← List.map_take]
  refine callC_ok mixed orcSf_ok (noAsks_ok _) (Eq.mpr (bytes_run (l.map gb) el row m k _) ⟨?_, ?_, ?_, ?_⟩)
  · rw [Nat.ble_eq]; simp; exact h1
  · rw [Nat.ble_eq]; omega
  · rw [hc, List.all_eq_true]
    intro x hx
    obtain ⟨y, _, rfl⟩ := List.mem_map.1 hx
    rfl
  · refine ⟨_, rfl, ?_⟩
    rw [hc]
    unfold newCells
    rw [AHeap.get_push, if_pos (AHeap.set_n _ _ _).symm]
/-- What is asked of the law: Pack without an error (b0), Unpack without one (b1), without samples (b2); of lists, or of empty ones. -/
noncomputable def askTFF (b0 b1 b2 : Bool) : Asks := asksC 25 gb 5 (askSf b0 b1 b2 b1 b2)
theorem askTFF_ok (b0 b1 b2 : Bool) : AsksOk orcSn (askTFF b0 b1 b2) := asksC_ok (d := dB) (fun _ => rfl) (askSf_ok b0 b1 b2 b1 b2)
noncomputable def askUnE (b1 b2 : Bool) : Asks := asksE 33 (uqY b1 b2) (skipA 76 (asksE 31 (uqY b1 b2) askSi))
theorem askUnE_ok (b1 b2 : Bool) : AsksOk orcSl (askUnE b1 b2) := asksE_ok (d := dB) (uqY_ok b1 b2) (skipA_ok (asksE_ok (d := dB) (uqY_ok b1 b2) askSi_ok))
noncomputable def askTFE (b0 b1 b2 : Bool) : Asks := skipA 25 (asksG 32 gf 65536 stY (asksG 30 gf 65536 (paY b0) (askUnE b1 b2)))
theorem askTFE_ok (b0 b1 b2 : Bool) : AsksOk orcSn (askTFE b0 b1 b2) := skipA_ok (asksG_ok (d := dF) (e := gf) (fun _ => rfl) stY_ok (asksG_ok (d := dF) (e := gf) (fun _ => rfl) (paY_ok b0) (askUnE_ok b1 b2)))
noncomputable def askTEF (b0 b1 b2 : Bool) : Asks := asksC 25 gb 5 (asksE 32 stY (asksE 30 (paY b0) (askUr b1 b2 b1 b2)))
theorem askTEF_ok (b0 b1 b2 : Bool) : AsksOk orcSn (askTEF b0 b1 b2) := asksC_ok (d := dB) (fun _ => rfl) (asksE_ok (d := dF) stY_ok (asksE_ok (d := dF) (paY_ok b0) (askUr_ok b1 b2 b1 b2)))
noncomputable def askTEE (b0 b1 b2 : Bool) : Asks := skipA 25 (asksE 32 stY (asksE 30 (paY b0) (askUnE b1 b2)))
theorem askTEE_ok (b0 b1 b2 : Bool) : AsksOk orcSn (askTEE b0 b1 b2) := skipA_ok (asksE_ok (d := dF) stY_ok (asksE_ok (d := dF) (paY_ok b0) (askUnE_ok b1 b2)))
end Go.Proofs.YtphhcoiclkfimaaGreatDoor
