/-
  OWN WORK. RecordRings on the abstract machine: what is asked of it.
-/
import Derived.Test.YtgomacijdadjpaaGreatDoorRqZ
namespace Go.Proofs.YtgomacijdadjpaaGreatDoor
open Go Go.Am

noncomputable def shR (n : Nat) : Bool := !ilt 12 (Int.ofNat n) || ieq (Int.ofNat n) 257
noncomputable def shX : List Value → List Cells → Option Out := fun vs B => match vs, B with
  | [.agg a], [_] => match a.toList with
    | [.slice (some ⟨i, 0, none⟩) n _, .int .i64 _, .bool _] => match Nat.beq i Tryz.prog.globals.size with
      | true => some (.plain (.bool (shR n)))
      | false => none
    | _ => none
  | _, _ => none
noncomputable def shY : List Value → List Cells → (Out → Prop) → Prop := fun vs B K => match vs, B with
  | [.agg a], [_] => match a.toList with
    | [.slice (some ⟨i, 0, none⟩) n _, .int .i64 _, .bool _] => Nat.beq i Tryz.prog.globals.size = true ∧ K (.plain (.bool (shR n)))
    | _ => False
  | _, _ => False
theorem shY_ok (vs : List Value) (B : List Cells) (K : Out → Prop) (h : shY vs B K) : ∃ o, shX vs B = some o ∧ K o := by
  unfold shY at h
  split at h
  · rename_i a b
    split at h
    · rename_i i n k nx fu ha
      obtain ⟨hi, hk⟩ := h
      refine ⟨_, ?_, hk⟩
      unfold shX
      simp only [ha, hi]
    · exact h.elim
  · exact h.elim
theorem sh_run (c : List Value) (e row n k : Nat) (nx : Int) (fu : Bool) (K : Value → Prop) : callC Tryz.prog (exec Tryz.prog orcSs 10) (syOf [(6, 1), (11, 1)]) noAsks (noLoops _) 40 5 #[rgV N1 n k nx fu] (rdH Tryz.prog c e row) (fun v _ => K v) = ((((!(ilt 12 (Int.ofNat n))) = true → K (Value.bool true)) ∧ ((!(ilt 12 (Int.ofNat n))) = false → ((ieq (Int.ofNat n) 257 = true → K (Value.bool true)) ∧ (ieq (Int.ofNat n) 257 = false → K (Value.bool false)))))) := by kernel_rfl
noncomputable def orcRgR : Orc := orElse 5 (anyO Tryz.prog.globals.size shX) orcSs
set_option maxRecDepth 100000 in
theorem orcRgR_ok : OrcOk Tryz.prog orcRgR := by
  refine anyO_ok globs_pos orcSs_ok fun vs B o h hF => ?_
  clear hF
  unfold shX at h
  split at h
  · rename_i a b
    obtain ⟨c, e, row⟩ := b
    split at h
    · rename_i i n k nx fu ha
      split at h
      · rename_i hi
        cases h
        obtain rfl := Nat.eq_of_beq_eq_true hi
        refine ⟨rfl, ?_⟩
        rw [show a = #[.slice (some ⟨Tryz.prog.globals.size, 0, none⟩) n k, gi nx, .bool fu] by rw [← Array.toArray_toList (xs := a), ha]]
        refine callC_ok mixed orcSs_ok (noAsks_ok _) (Eq.mpr (sh_run c e row n k nx fu _) ⟨fun h1 => ?_, fun h1 => ⟨fun h2 => ?_, fun h2 => ?_⟩⟩)
        · show _ = Value.bool (shR n)
          unfold shR; rw [h1]; rfl
        · show _ = Value.bool (shR n)
          unfold shR; rw [h1, h2]; rfl
        · show _ = Value.bool (shR n)
          unfold shR; rw [h1, h2]; rfl
      · cases h
    · cases h
  · cases h
noncomputable def orcRgV : Orc := liftO 17 orcRgC (liftO 12 orcRgE (liftO 8 orcRgG (liftO 15 orcRgH (liftO 11 orcRgU (liftO 16 orcRgP orcRgR)))))
theorem orcRgV_ok : OrcOk Tryz.prog orcRgV := liftO_ok orcRgC_ok (liftO_ok orcRgE_ok (liftO_ok orcRgG_ok (liftO_ok orcRgH_ok (liftO_ok orcRgU_ok (liftO_ok orcRgP_ok orcRgR_ok)))))
/-- What is asked of the law: Written without an error (bw), Unwound without one (bu), without samples (be). -/
noncomputable def askRgV (bw bu be : Bool) : Asks := liftA 17 (asksV Tryz.prog.globals.size 17 (ringY ckRY) noAsks) (liftA 12 (asksV Tryz.prog.globals.size 12 (ringY ckRY) noAsks) (liftA 8 (asksV Tryz.prog.globals.size 8 (ring2Y (wrY bw)) noAsks) (liftA 15 (asksV Tryz.prog.globals.size 15 (ring2Y wRY) noAsks) (liftA 11 (asksV Tryz.prog.globals.size 11 (upY bu) noAsks) (liftA 16 (asksV Tryz.prog.globals.size 16 (ringY (uY be)) noAsks) (asksV Tryz.prog.globals.size 5 shY (askSS askZ)))))))
theorem askRgV_ok (bw bu be : Bool) : AsksOk orcRgV (askRgV bw bu be) := liftA_ok (asksV_ok (ringY_ok ckRY_ok) (noAsks_ok _)) (liftA_ok (asksV_ok (ringY_ok ckRY_ok) (noAsks_ok _)) (liftA_ok (asksV_ok (ring2Y_ok (wrY_ok bw)) (noAsks_ok _)) (liftA_ok (asksV_ok (ring2Y_ok wRY_ok) (noAsks_ok _)) (liftA_ok (asksV_ok (upY_ok bu) (noAsks_ok _)) (liftA_ok (asksV_ok (ringY_ok (uY_ok be)) (noAsks_ok _)) (asksV_ok shY_ok (askSS_ok askZ_ok)))))))
noncomputable def orcRgW : Orc := inlO Tryz.prog 18 40 (inlO Tryz.prog 9 40 orcRgV)
theorem orcRgW_ok : OrcOk Tryz.prog orcRgW := inlO_ok mixed (inlO_ok mixed orcRgV_ok)
noncomputable def askRi1 (bw bu be : Bool) : Asks := asksI Tryz.prog 9 40 orcRgV (syOf [(5, 7)]) (askRgV bw bu be) (askRgV bw bu be)
theorem askRi1_ok (bw bu be : Bool) : AsksOk (inlO Tryz.prog 9 40 orcRgV) (askRi1 bw bu be) := asksI_ok (askRgV_ok bw bu be) (askRgV_ok bw bu be)
noncomputable def askRgW (bw bu be : Bool) : Asks := asksI Tryz.prog 18 40 (inlO Tryz.prog 9 40 orcRgV) (syOf [(22, 7)]) (askRi1 bw bu be) (askRi1 bw bu be)
theorem askRgW_ok (bw bu be : Bool) : AsksOk orcRgW (askRgW bw bu be) := asksI_ok (askRi1_ok bw bu be) (askRi1_ok bw bu be)
/-- The same; next and full are compared, too. -/
noncomputable def askRgX (bw bu be : Bool) : Asks := asksI Tryz.prog 18 40 (inlO Tryz.prog 9 40 orcRgV) (syOf [(9, 31), (15, 31), (22, 7)]) (askRi1 bw bu be) (askRi1 bw bu be)
theorem askRgX_ok (bw bu be : Bool) : AsksOk orcRgW (askRgX bw bu be) := asksI_ok (askRi1_ok bw bu be) (askRi1_ok bw bu be)
end Go.Proofs.YtgomacijdadjpaaGreatDoor
