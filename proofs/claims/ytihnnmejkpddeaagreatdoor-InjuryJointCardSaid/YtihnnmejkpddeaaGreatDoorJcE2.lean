/-
  OWN WORK. Stage 6: sums and moments of two empty lists.
-/
import Derived.Test.YtihnnmejkpddeaaGreatDoorJcY
namespace Go.Proofs.YtihnnmejkpddeaaGreatDoor
open Go Go.Am

theorem ce_nn (u v : Int) (K : Value → Prop) : callC Tryz.prog (exec Tryz.prog orcJi 60) (syOf []) (askJi 0) (noLoops _) 60 36 #[nilS, nilS, .agg #[gi u, gi v]] (canon Tryz.prog []) (fun v _ => K v) = ((Value.agg #[gi u, gi v] = Value.agg #[gi u, gi v] ∧ K (Value.tuple #[Value.agg (Array.mk (List.take 2 (List.drop 0 ([] ++ ([gi 0, gi 0] ++ []))))), gi 0, gi (firstS [12, limE u v])]))) := by kernel_rfl
theorem ce_ne (u v : Int) (q : Nat) (K : Value → Prop) : callC Tryz.prog (exec Tryz.prog orcJi 60) (syOf []) (askJi 0) (noLoops _) 60 36 #[nilS, emS q, .agg #[gi u, gi v]] (canon Tryz.prog []) (fun v _ => K v) = ((Value.agg #[gi u, gi v] = Value.agg #[gi u, gi v] ∧ K (Value.tuple #[Value.agg (Array.mk (List.take 2 (List.drop 0 ([] ++ ([gi 0, gi 0] ++ []))))), gi 0, gi (firstS [12, limE u v])]))) := by kernel_rfl
theorem ce_en (u v : Int) (p : Nat) (K : Value → Prop) : callC Tryz.prog (exec Tryz.prog orcJi 60) (syOf []) (askJi 0) (noLoops _) 60 36 #[emS p, nilS, .agg #[gi u, gi v]] (canon Tryz.prog []) (fun v _ => K v) = ((Value.agg #[gi u, gi v] = Value.agg #[gi u, gi v] ∧ K (Value.tuple #[Value.agg (Array.mk (List.take 2 (List.drop 0 ([] ++ ([gi 0, gi 0] ++ []))))), gi 0, gi (firstS [12, limE u v])]))) := by kernel_rfl
theorem ce_ee (u v : Int) (p q : Nat) (K : Value → Prop) : callC Tryz.prog (exec Tryz.prog orcJi 60) (syOf []) (askJi 0) (noLoops _) 60 36 #[emS p, emS q, .agg #[gi u, gi v]] (canon Tryz.prog []) (fun v _ => K v) = ((Value.agg #[gi u, gi v] = Value.agg #[gi u, gi v] ∧ K (Value.tuple #[Value.agg (Array.mk (List.take 2 (List.drop 0 ([] ++ ([gi 0, gi 0] ++ []))))), gi 0, gi (firstS [12, limE u v])]))) := by kernel_rfl
theorem me_nn (u : Int) (K : Value → Prop) : callC Tryz.prog (exec Tryz.prog orcJi 60) (syOf []) (askJi 0) (noLoops _) 60 37 #[nilS, nilS, gi u] (canon Tryz.prog []) (fun v _ => K v) = (K (Value.tuple #[nilS, gi (firstS [12, withinS u (-1000) 1000])])) := by kernel_rfl
theorem me_ne (u : Int) (q : Nat) (K : Value → Prop) : callC Tryz.prog (exec Tryz.prog orcJi 60) (syOf []) (askJi 0) (noLoops _) 60 37 #[nilS, emS q, gi u] (canon Tryz.prog []) (fun v _ => K v) = (K (Value.tuple #[nilS, gi (firstS [12, withinS u (-1000) 1000])])) := by kernel_rfl
theorem me_en (u : Int) (p : Nat) (K : Value → Prop) : callC Tryz.prog (exec Tryz.prog orcJi 60) (syOf []) (askJi 0) (noLoops _) 60 37 #[emS p, nilS, gi u] (canon Tryz.prog []) (fun v _ => K v) = (K (Value.tuple #[nilS, gi (firstS [12, withinS u (-1000) 1000])])) := by kernel_rfl
theorem me_ee (u : Int) (p q : Nat) (K : Value → Prop) : callC Tryz.prog (exec Tryz.prog orcJi 60) (syOf []) (askJi 0) (noLoops _) 60 37 #[emS p, emS q, gi u] (canon Tryz.prog []) (fun v _ => K v) = (K (Value.tuple #[nilS, gi (firstS [12, withinS u (-1000) 1000])])) := by kernel_rfl
noncomputable def eeY {γ : Type} (z : γ) (f : List Value → γ) (vs : List Value) (B : List Cells) : γ := match vs with
  | v :: w :: r => match isEm v && isEm w with
    | true => match B with
      | [] => f r
      | _ => z
    | false => z
  | _ => z
theorem eeY_at {γ : Type} {z : γ} {f : List Value → γ} {v w : Value} {r : List Value} (hv : isEm v = true) (hw : isEm w = true) : eeY z f (v :: w :: r) [] = f r := by
  show (match isEm v && isEm w with
    | true => f r
    | false => z) = _
  rw [hv, hw]; rfl
theorem eeY_inv {γ : Type} {z : γ} {f : List Value → γ} {vs : List Value} {B : List Cells} : eeY z f vs B = z ∨ ∃ (v w : Value) (r : List Value), isEm v = true ∧ isEm w = true ∧ vs = v :: w :: r ∧ B = [] := by
  unfold eeY
  split
  · split
    · rename_i h
      rw [Bool.and_eq_true] at h
      split
      · exact .inr ⟨_, _, _, h.1, h.2, rfl, rfl⟩
      · exact .inl rfl
    · exact .inl rfl
  · exact .inl rfl
open Classical in
noncomputable def eeX (C : List Value → Prop) (out : List Value → Out) (vs : List Value) (B : List Cells) : Option Out := eeY none (fun r => if C r then some (out r) else none) vs B
noncomputable def eeAY (C : List Value → Prop) (out : List Value → Out) (vs : List Value) (B : List Cells) (K : Out → Prop) : Prop := eeY False (fun r => C r ∧ K (out r)) vs B
theorem eeA_ok {C : List Value → Prop} {out : List Value → Out} (vs : List Value) (B : List Cells) (K : Out → Prop) (h : eeAY C out vs B K) : ∃ o, eeX C out vs B = some o ∧ K o := by
  rcases eeY_inv (z := False) (f := fun r => C r ∧ K (out r)) (vs := vs) (B := B) with q | ⟨v, w, r, hv, hw, rfl, rfl⟩
  · unfold eeAY at h; rw [q] at h; exact h.elim
  · unfold eeAY at h
    rw [eeY_at hv hw] at h
    refine ⟨out r, ?_, h.2⟩
    unfold eeX
    rw [eeY_at hv hw, if_pos h.1]
theorem eeO_ok {f : FuncId} {C : List Value → Prop} {out : List Value → Out} {orc : Orc} (ho : OrcOk Tryz.prog orc) (hout : ∀ r, C r → (out r).Ok)
    (hk : ∀ (v w : Value) (r : List Value), Emp v → Emp w → C r → CallJ Tryz.prog f (v :: w :: r).toArray (canon Tryz.prog []) (out r).Got) : OrcOk Tryz.prog (orElse f (anyO Tryz.prog.globals.size (eeX C out)) orc) := by
  refine anyO_ok globs_pos ho fun vs B o h _ => ?_
  rcases eeY_inv (z := (none : Option Out)) (f := fun r => open Classical in if C r then some (out r) else none) (vs := vs) (B := B) with q | ⟨v, w, r, hv, hw, rfl, rfl⟩
  · unfold eeX at h; rw [q] at h; cases h
  · unfold eeX at h
    rw [eeY_at hv hw] at h
    split at h
    · rename_i hc
      cases h
      exact ⟨hout _ hc, hk v w r (isEm_some hv) (isEm_some hw) hc⟩
    · cases h
def isR0 (r : List Value) : Prop := r = [rtV (agP r)]
def isI0 (r : List Value) : Prop := r = [gi (inV r)]
noncomputable abbrev ceeO (_ : List Value) : Out := .plain (.tuple #[rtV (0, 0), gi 0, gi 12])
noncomputable abbrev meeO (_ : List Value) : Out := .plain (.tuple #[nilS, gi 12])
set_option maxRecDepth 100000 in
theorem cee_ok {orc : Orc} (ho : OrcOk Tryz.prog orc) : OrcOk Tryz.prog (orElse 36 (anyO Tryz.prog.globals.size (eeX isR0 ceeO)) orc) := by
  refine eeO_ok ho (fun _ _ => rfl) ?_
  rintro v w r hv hw hr
  have hr : r = [rtV (agP r)] := hr
  generalize agP r = x at hr
  subst hr
  rcases hv with rfl | ⟨p, rfl⟩ <;> rcases hw with rfl | ⟨q, rfl⟩
  · exact callC_ok mixed orcJi_ok (askJi_ok 0) (Eq.mpr (ce_nn x.1 x.2 _) (by repeat' (first | exact rfl | exact trivial | apply And.intro)))
  · exact callC_ok mixed orcJi_ok (askJi_ok 0) (Eq.mpr (ce_ne x.1 x.2 q _) (by repeat' (first | exact rfl | exact trivial | apply And.intro)))
  · exact callC_ok mixed orcJi_ok (askJi_ok 0) (Eq.mpr (ce_en x.1 x.2 p _) (by repeat' (first | exact rfl | exact trivial | apply And.intro)))
  · exact callC_ok mixed orcJi_ok (askJi_ok 0) (Eq.mpr (ce_ee x.1 x.2 p q _) (by repeat' (first | exact rfl | exact trivial | apply And.intro)))
set_option maxRecDepth 100000 in
theorem mee_ok {orc : Orc} (ho : OrcOk Tryz.prog orc) : OrcOk Tryz.prog (orElse 37 (anyO Tryz.prog.globals.size (eeX isI0 meeO)) orc) := by
  refine eeO_ok ho (fun _ _ => rfl) ?_
  rintro v w r hv hw hr
  have hr : r = [gi (inV r)] := hr
  generalize inV r = x at hr
  subst hr
  rcases hv with rfl | ⟨p, rfl⟩ <;> rcases hw with rfl | ⟨q, rfl⟩
  · exact callC_ok mixed orcJi_ok (askJi_ok 0) (Eq.mpr (me_nn x _) (by repeat' (first | exact rfl | exact trivial | apply And.intro)))
  · exact callC_ok mixed orcJi_ok (askJi_ok 0) (Eq.mpr (me_ne x q _) (by repeat' (first | exact rfl | exact trivial | apply And.intro)))
  · exact callC_ok mixed orcJi_ok (askJi_ok 0) (Eq.mpr (me_en x p _) (by repeat' (first | exact rfl | exact trivial | apply And.intro)))
  · exact callC_ok mixed orcJi_ok (askJi_ok 0) (Eq.mpr (me_ee x p q _) (by repeat' (first | exact rfl | exact trivial | apply And.intro)))
end Go.Proofs.YtihnnmejkpddeaaGreatDoor
