/-
  OWN WORK. Rings: their errors, by the program and by the reference.
-/
import Derived.Test.YtgomacijdadjpaaGreatDoorRgA
import Derived.Test.YtgomacijdadjpaaGreatDoorAm15
namespace Go.Proofs.YtgomacijdadjpaaGreatDoor
open Go Go.Am

noncomputable abbrev rgV (b n k : Nat) (nx : Int) (fu : Bool) : Value := .agg #[.slice (some ⟨b, 0, none⟩) n k, gi nx, .bool fu]
noncomputable def ringX (F : List Nat → Int → Bool → Option Out) : List Value → List Cells → Option Out := fun vs B => match vs, B with
  | [.agg a], [(c, _, row)] => match a.toList with
    | [.slice (some ⟨i, 0, none⟩) n k, .int .i64 nx, .bool fu] => match decs dF c with
      | some l => match Nat.beq i Tryz.prog.globals.size && Nat.blt 0 n && Nat.beq n l.length && Nat.ble n 1000000 && Nat.ble n k && (Nat.beq row 0 || Nat.beq row 2) with
        | true => F (l.take n) nx fu
        | false => none
      | none => none
    | _ => none
  | _, _ => none
theorem ringX_some {F : List Nat → Int → Bool → Option Out} {vs : List Value} {B : List Cells} {o : Out} (h : ringX F vs B = some o) : ∃ (l : List Nat) (n k e row : Nat) (nx : Int) (fu : Bool), vs = [rgV Tryz.prog.globals.size n k nx fu] ∧ B = [(l.map gf, e, row)] ∧ 0 < n ∧ n = l.length ∧ n ≤ 1000000 ∧ n ≤ k ∧ (row = 0 ∨ row = 2) ∧ F (l.take n) nx fu = some o := by
  unfold ringX at h
  split at h
  · rename_i a c e row
    split at h
    · rename_i i n k nx fu ha
      split at h
      · rename_i l hl
        split at h
        · rename_i hc
          simp only [Bool.and_eq_true, Nat.ble_eq, Nat.blt_eq, Bool.or_eq_true, Nat.beq_eq] at hc
          obtain ⟨⟨⟨⟨⟨rfl, h0⟩, h1⟩, h2⟩, h3⟩, hw⟩ := hc
          obtain rfl := decs_some dF_some hl
          refine ⟨l, n, k, e, row, nx, fu, ?_, rfl, h0, h1, h2, h3, hw, h⟩
          rw [show a = #[.slice (some ⟨Tryz.prog.globals.size, 0, none⟩) n k, gi nx, .bool fu] by rw [← Array.toArray_toList (xs := a), ha]]
        · cases h
      · cases h
    · cases h
  · cases h
noncomputable def ringY (Y : List Nat → Int → Bool → (Out → Prop) → Prop) : List Value → List Cells → (Out → Prop) → Prop := fun vs B K => match vs, B with
  | [.agg a], [(c, _, row)] => match a.toList with
    | [.slice (some ⟨i, 0, none⟩) n k, .int .i64 nx, .bool fu] => ∃ l : List Nat, c = l.map gf ∧ Nat.beq i Tryz.prog.globals.size = true ∧ 0 < n ∧ n = l.length ∧ n ≤ 1000000 ∧ n ≤ k ∧ (Nat.beq row 0 || Nat.beq row 2) = true ∧ Y (l.take n) nx fu K
    | _ => False
  | _, _ => False
theorem ringY_ok {F : List Nat → Int → Bool → Option Out} {Y : List Nat → Int → Bool → (Out → Prop) → Prop} (hY : ∀ l nx fu K, Y l nx fu K → ∃ o, F l nx fu = some o ∧ K o) (vs : List Value) (B : List Cells) (K : Out → Prop) (h : ringY Y vs B K) : ∃ o, ringX F vs B = some o ∧ K o := by
  unfold ringY at h
  split at h
  · rename_i a c e row
    split at h
    · rename_i i n k nx fu ha
      obtain ⟨l, rfl, hi, h0, h1, h2, h3, hw, hk⟩ := h
      obtain ⟨o, ho, hK⟩ := hY _ _ _ _ hk
      refine ⟨o, ?_, hK⟩
      unfold ringX
      have e0 : Nat.blt 0 n = true := by rw [Nat.blt_eq]; exact h0
      have e1 : Nat.beq n l.length = true := by rw [Nat.beq_eq]; exact h1
      have e2 : Nat.ble n 1000000 = true := by rw [Nat.ble_eq]; exact h2
      have e3 : Nat.ble n k = true := by rw [Nat.ble_eq]; exact h3
      simp only [ha, decs_map (d := dF) (e := gf) (fun _ => rfl), hi, e0, e1, e2, e3, hw, Bool.and_self, ho]
    · exact h.elim
  · exact h.elim
noncomputable def orcRgB : Orc := liftO 52 orcWa orcRgA
theorem orcRgB_ok : OrcOk Tryz.prog orcRgB := liftO_ok orcWa_ok orcRgA_ok
noncomputable def askRgB : Asks := liftA 52 (asksO 52 gf 1000000 feT smpsR noAsks) (asksG 55 gf 1000000 wfY noAsks)
theorem askRgB_ok : AsksOk orcRgB askRgB := liftA_ok (asksO_ok (d := dF) (e := gf) (fun _ => rfl) (noAsks_ok _)) (asksG_ok (d := dF) (e := gf) (fun _ => rfl) wfY_ok (noAsks_ok _))
theorem cr_run (l : List Nat) (n k e row : Nat) (nx : Int) (fu : Bool) (K : Value → Prop) : callC Tryz.prog (exec Tryz.prog orcRgB 10) (syOf [(15, 7), (25, 1), (31, 7)]) askRgB (noLoops _) 40 17 #[rgV N1 n k nx fu] (rdH Tryz.prog (l.map gf) e row) (fun v _ => K v) = ((((!fu) = true → ([liP n k, gi nx, Value.bool fu][2]? = Option.some (Value.bool fu) ∧ goN n = goN n ∧ [liP n k, gi nx, Value.bool fu][0]? = Option.some (liP n k) ∧ [liP n k, gi nx, Value.bool fu][1]? = Option.some (gi nx) ∧ [liP n k, gi nx, Value.bool fu][0]? = Option.some (liP n k) ∧ goN n = goN n ∧ [liP n k, gi nx, Value.bool fu][0]? = Option.some (liP n k) ∧ [liP n k, gi nx, Value.bool fu][2]? = Option.some (Value.bool fu) ∧ goN n = goN n ∧ [liP n k, gi nx, Value.bool fu][0]? = Option.some (liP n k) ∧ [liP n k, gi nx, Value.bool fu][1]? = Option.some (gi nx) ∧ [liP n k, gi nx, Value.bool fu][0]? = Option.some (liP n k) ∧ (∃ x1 : List Nat, (List.map gf l = List.map gf x1 ∧ (0 : Nat) < n ∧ (n : Nat) ≤ List.length x1 ∧ (n : Nat) ≤ 1000000 ∧ (n : Nat) ≤ k ∧ [liP n k, gi nx, Value.bool fu][2]? = Option.some (Value.bool fu) ∧ goN n = goN n ∧ [liP n k, gi nx, Value.bool fu][0]? = Option.some (liP n k) ∧ [liP n k, gi nx, Value.bool fu][1]? = Option.some (gi nx) ∧ [liP n k, gi nx, Value.bool fu][2]? = Option.some (Value.bool fu) ∧ (∃ x2 : List Nat, (List.map gf l = List.map gf x2 ∧ (Nat.beq row 0 || Nat.beq row 2) = true ∧ (0 : Nat) < n ∧ (n : Nat) ≤ List.length x2 ∧ (n : Nat) ≤ 1000000 ∧ (n : Nat) ≤ k ∧ K (gi (firstS [whenS (ieq (Int.ofNat n) 0) 12, whenS (ilt 256 (Int.ofNat n)) 5, smpsE (List.take n x1), withinS nx 0 (fwrap IntKind.i64 (Int.ofNat n - 1)), whenS (wfR nx 0 (List.take n x2)) 1])))))))) ∧ ((!fu) = false → ([liP n k, gi nx, Value.bool fu][2]? = Option.some (Value.bool fu) ∧ goN n = goN n ∧ [liP n k, gi nx, Value.bool fu][0]? = Option.some (liP n k) ∧ [liP n k, gi nx, Value.bool fu][1]? = Option.some (gi nx) ∧ [liP n k, gi nx, Value.bool fu][0]? = Option.some (liP n k) ∧ goN n = goN n ∧ [liP n k, gi nx, Value.bool fu][0]? = Option.some (liP n k) ∧ [liP n k, gi nx, Value.bool fu][2]? = Option.some (Value.bool fu) ∧ goN n = goN n ∧ [liP n k, gi nx, Value.bool fu][0]? = Option.some (liP n k) ∧ [liP n k, gi nx, Value.bool fu][1]? = Option.some (gi nx) ∧ [liP n k, gi nx, Value.bool fu][0]? = Option.some (liP n k) ∧ (∃ x1 : List Nat, (List.map gf l = List.map gf x1 ∧ (0 : Nat) < n ∧ (n : Nat) ≤ List.length x1 ∧ (n : Nat) ≤ 1000000 ∧ (n : Nat) ≤ k ∧ [liP n k, gi nx, Value.bool fu][2]? = Option.some (Value.bool fu) ∧ goN n = goN n ∧ [liP n k, gi nx, Value.bool fu][0]? = Option.some (liP n k) ∧ [liP n k, gi nx, Value.bool fu][1]? = Option.some (gi nx) ∧ [liP n k, gi nx, Value.bool fu][2]? = Option.some (Value.bool fu) ∧ K (gi (firstS [whenS (ieq (Int.ofNat n) 0) 12, whenS (ilt 256 (Int.ofNat n)) 5, smpsE (List.take n x1), withinS nx 0 (fwrap IntKind.i64 (Int.ofNat n - 1)), 0])))))))) := by kernel_rfl
noncomputable def ckR (l : List Nat) (nx : Int) (fu : Bool) : Int := firstS [whenS (ieq (Int.ofNat l.length) 0) 12, whenS (ilt 256 (Int.ofNat l.length)) 5, smpsE l, withinS nx 0 (fwrap IntKind.i64 (Int.ofNat l.length - 1)), whenS (!fu && wfR nx 0 l) 1]
noncomputable def ckRO : List Nat → Int → Bool → Option Out := fun l nx fu => some (.plain (gi (ckR l nx fu)))
noncomputable def ckRY : List Nat → Int → Bool → (Out → Prop) → Prop := fun l nx fu K => K (.plain (gi (ckR l nx fu)))
theorem ckRY_ok (l : List Nat) (nx : Int) (fu : Bool) (K : Out → Prop) (h : ckRY l nx fu K) : ∃ o, ckRO l nx fu = some o ∧ K o := ⟨_, rfl, h⟩
set_option maxRecDepth 100000 in
theorem cr_call (l : List Nat) (n k e row : Nat) (nx : Int) (fu : Bool) (h0 : 0 < n) (h1 : n ≤ l.length) (h2 : n ≤ 1000000) (h3 : n ≤ k) (hw : row = 0 ∨ row = 2) : CallJ Tryz.prog 17 #[rgV N1 n k nx fu] (rdH Tryz.prog (l.map gf) e row) (fun v _ => v = gi (ckR (l.take n) nx fu)) := by
  have hl : (l.take n).length = n := by rw [List.length_take]; omega
  have hrow : (Nat.beq row 0 || Nat.beq row 2) = true := by rcases hw with rfl | rfl <;> rfl
  refine callC_ok mixed orcRgB_ok askRgB_ok (Eq.mpr (cr_run l n k e row nx fu _) ⟨fun hf => ?_, fun hf => ?_⟩)
  · refine ⟨rfl, rfl, rfl, rfl, rfl, rfl, rfl, rfl, rfl, rfl, rfl, rfl, l, rfl, h0, h1, h2, h3, rfl, rfl, rfl, rfl, rfl, l, rfl, hrow, h0, h1, h2, h3, ?_⟩
    unfold ckR
    rw [hl, hf]; rfl
  · refine ⟨rfl, rfl, rfl, rfl, rfl, rfl, rfl, rfl, rfl, rfl, rfl, rfl, l, rfl, h0, h1, h2, h3, rfl, rfl, rfl, rfl, rfl, ?_⟩
    unfold ckR
    rw [hl, hf]; rfl
noncomputable def orcRgC : Orc := orElse 17 (anyO Tryz.prog.globals.size (ringX ckRO)) orcRgB
set_option maxRecDepth 100000 in
theorem orcRgC_ok : OrcOk Tryz.prog orcRgC := by
  refine anyO_ok globs_pos orcRgB_ok fun vs B o h _ => ?_
  obtain ⟨l, n, k, e, row, nx, fu, rfl, rfl, h0, h1, h2, h3, hw, h⟩ := ringX_some h
  cases h
  exact ⟨rfl, cr_call l n k e row nx fu h0 (Nat.le_of_eq h1) h2 h3 hw⟩
end Go.Proofs.YtgomacijdadjpaaGreatDoor
