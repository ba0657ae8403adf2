/-
  OWN WORK. The integer of a sample; the integers of samples.
-/
import Derived.Test.YtnlkkapeldhemaaGreatDoorFlH
import Derived.Test.YtnlkkapeldhemaaGreatDoorAm7
namespace Go.Proofs.YtnlkkapeldhemaaGreatDoor
open Go Go.Am Ieee

noncomputable def mulE (x : Nat) : Nat := (floatBits .mul .f32 s16 x).getD 0
noncomputable def unitE (x : Nat) : Int := (floatToIntVal .f32 (mulE x) .i64).getD 0
theorem unit_run (x : Nat) (K : Value → AHeap → Prop) : callC Tryz.prog (exec Tryz.prog orcX 10) (syOf [(4, 12), (5, 13)]) noAsks (noLoops _) 20 132 #[gf x] (emp Tryz.prog) K =
  ((floatBits .mul .f32 s16 x).isSome = true ∧ (floatToIntVal .f32 (mulE x) .i64).isSome = true ∧ K (gi (unitE x)) (emp Tryz.prog)) := by kernel_rfl
theorem Sixt_run (x : Nat) (K : Value → AHeap → Prop) : callC Tryz.prog (exec Tryz.prog orcX 10) (syOf [(4, 12), (5, 13)]) noAsks (noLoops _) 20 74 #[gf x] (emp Tryz.prog) K =
  ((floatBits .mul .f32 s16 x).isSome = true ∧ (floatToIntVal .f32 (mulE x) .i64).isSome = true ∧ K (gi (unitE x)) (emp Tryz.prog)) := by kernel_rfl
theorem smp_valid {x : Nat} (h : smpE x = 0) : fin32 x ∧ badE x = false := by
  unfold smpE at h
  cases hb : finB x with
  | false => rw [hb] at h; cases h
  | true =>
    rw [hb] at h
    refine ⟨finB_iff.1 hb, ?_⟩
    cases hc : badE x with
    | false => rfl
    | true => rw [hc] at h; cases h
theorem unit_ok {x : Nat} (h : smpE x = 0) : (floatBits .mul .f32 s16 x).isSome = true ∧ (floatToIntVal .f32 (mulE x) .i64).isSome = true ∧ -16384 ≤ unitE x ∧ unitE x ≤ 16384 := by
  obtain ⟨hf, hb⟩ := smp_valid h
  obtain ⟨c, y, h1, _, h3, h4, h5, _⟩ := scaled_fin hf
  have hm : floatBits .mul .f64 d16 (cvt x) = some y := by rw [cvt_eq h1]; exact h3
  have hs : sclE x = y := by unfold sclE; rw [hm]; rfl
  unfold badE at hb
  rw [hs, absE_mod, Bool.or_eq_false_iff] at hb
  obtain ⟨N, n1, n2⟩ := whole_fin h4 hb.1 hb.2
  rw [h5] at n2
  obtain ⟨p, k1, k2⟩ := unit_fin hf n1 n2
  have e1 : floatBits .mul .f32 s16 x = some p := k1
  have e2 : mulE x = p := by unfold mulE; rw [e1]; rfl
  have e3 : unitE x = if (x / 2 ^ 31 % 2 == 1) = true then -(N : Int) else N := by unfold unitE; rw [e2, k2]; rfl
  refine ⟨by rw [e1]; rfl, by rw [e2, k2]; rfl, ?_, ?_⟩
  · rw [e3]; split <;> omega
  · rw [e3]; split <;> omega
noncomputable def unitS : List Value → Option (Bool × Value)
  | [.float .f32 x] => some (ieq (smpE x) 0, gi (unitE x))
  | _ => none
noncomputable def orcYa : Orc := orElse 74 (condO unitS) (orElse 132 (condO unitS) orcX)
set_option maxRecDepth 100000 in
theorem orcYa_ok : OrcOk Tryz.prog orcYa := by
  refine condO_ok (fun l v h => ?_) (condO_ok (fun l v h => ?_) orcX_ok)
  · unfold unitS at h
    split at h
    · rename_i x
      injection h with h
      injection h with h1 h2
      subst h2
      rw [ieq_dec] at h1
      obtain ⟨k1, k2, _⟩ := unit_ok (x := x) (by simpa using h1)
      exact ⟨rfl, rfl, callC_ok mixed orcX_ok (noAsks_ok _) (Eq.mpr (Sixt_run _ _) ⟨k1, k2, rfl⟩)⟩
    · cases h
  · unfold unitS at h
    split at h
    · rename_i x
      injection h with h
      injection h with h1 h2
      subst h2
      rw [ieq_dec] at h1
      obtain ⟨k1, k2, _⟩ := unit_ok (x := x) (by simpa using h1)
      exact ⟨rfl, rfl, callC_ok mixed orcX_ok (noAsks_ok _) (Eq.mpr (unit_run _ _) ⟨k1, k2, rfl⟩)⟩
    · cases h
noncomputable def askYa : Asks := asksF 74 unitS (asksF 132 unitS askX)
theorem askYa_ok : AsksOk orcYa askYa := asksF_ok (asksF_ok askX_ok)
theorem unit1_run (x : Nat) (K : Value → AHeap → Prop) : callC Tryz.prog (exec Tryz.prog orcYa 10) (syOf [(4, 7)]) askYa (noLoops _) 20 146 #[gf x] (emp Tryz.prog) K =
  (ieq (smpE x) 0 = true ∧ K (gi (unitE x)) (emp Tryz.prog)) := by kernel_rfl
noncomputable def orcY : Orc := orElse 146 (condO unitS) orcYa
set_option maxRecDepth 100000 in
theorem orcY_ok : OrcOk Tryz.prog orcY := by
  refine condO_ok (fun l v h => ?_) orcYa_ok
  unfold unitS at h
  split at h
  · injection h with h
    injection h with h1 h2
    subst h2
    exact ⟨rfl, rfl, callC_ok mixed orcYa_ok askYa_ok (Eq.mpr (unit1_run _ _) ⟨h1, rfl⟩)⟩
  · cases h
noncomputable def askY : Asks := asksF 146 unitS askYa
theorem askY_ok : AsksOk orcY askY := asksF_ok askYa_ok
/-! mapped -/
noncomputable abbrev unF : Value := .func (.func 146) #[] #[]
noncomputable abbrev N1 : Nat := Tryz.prog.globals.size
noncomputable abbrev MH (c : List Value) (e row : Nat) (c' : List Value) : AHeap := canonT [] (fun _ => 0) Tryz.prog.globals.size [(c, e, row, true), (c', 3, 2, false)]
noncomputable abbrev slO (n k : Nat) : Value := .slice (some ⟨Tryz.prog.globals.size + 1, 0, none⟩) n k
end Go.Proofs.YtnlkkapeldhemaaGreatDoor
