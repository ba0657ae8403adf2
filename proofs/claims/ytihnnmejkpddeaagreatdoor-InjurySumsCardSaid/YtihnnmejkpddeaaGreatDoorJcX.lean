/-
  OWN WORK. Stage 6: the law's small functions as known calls; errors where a list is empty.
-/
import Derived.Test.YtihnnmejkpddeaaGreatDoorJcV
namespace Go.Proofs.YtihnnmejkpddeaaGreatDoor
open Go Go.Am

noncomputable def shB (n : Nat) : Bool := bif !ilt 40 (Int.ofNat n) then true else ieq (Int.ofNat n) 129
noncomputable def shX (vs : List Value) (B : List Cells) : Option Out := s1Y none (fun _ n r => match r with
  | [] => some (.plain (.bool (shB n)))
  | _ => none) vs B
noncomputable def shY (vs : List Value) (B : List Cells) (K : Out → Prop) : Prop := s1Y False (fun _ n r => match r with
  | [] => K (.plain (.bool (shB n)))
  | _ => False) vs B
theorem shY_ok (vs : List Value) (B : List Cells) (K : Out → Prop) (h : shY vs B K) : ∃ o, shX vs B = some o ∧ K o := by
  rcases s1Y_inv (z := False) (f := fun _ n r => match r with
  | [] => K (.plain (.bool (shB n)))
  | _ => False) (vs := vs) (B := B) with q | ⟨cs, n, k, e, row, r, rfl, rfl⟩
  · unfold shY at h; rw [q] at h; exact h.elim
  · unfold shY at h
    rw [s1Y_at] at h
    unfold shX
    rw [s1Y_at]
    match r, h with
    | [], h => exact ⟨_, rfl, h⟩
theorem ser_nil : serE [] = 12 := by rfl
theorem pa_nil (a : List Int) {m : Nat} (hl : a.length = m + 1) : firstS [serE a, 12, whenS (!(ieq (Int.ofNat (m + 1)) 0)) 2] = pairE a [] := by
  unfold pairE; rw [hl]; rfl
theorem nil_pa (b : List Int) {m : Nat} (hl : b.length = m + 1) : firstS [12, serE b, whenS (!(ieq 0 (Int.ofNat (m + 1)))) 2] = pairE [] b := by
  unfold pairE; rw [hl]; rfl
noncomputable abbrev pfO (a : List Int) (_ : List Value) : Out := .plain (gi (pairE a []))
noncomputable abbrev peO (b : List Int) (_ : List Value) : Out := .plain (gi (pairE [] b))
noncomputable def orcJi : Orc := orElse 16 (s1O tiT clC cloO) (orElse 14 (anyO Tryz.prog.globals.size shX) orcJh)
set_option maxRecDepth 100000 in
theorem orcJi_ok : OrcOk Tryz.prog orcJi := by
  refine s1O_ok (anyO_ok globs_pos orcJh_ok fun vs B o h _ => ?_) (fun _ _ _ _ => ⟨names_sl _, flat_ints _⟩) ?_
  · rcases s1Y_inv (z := (none : Option Out)) (f := fun _ n r => match r with
      | [] => some (.plain (.bool (shB n)))
      | _ => none) (vs := vs) (B := B) with q | ⟨c, n, k, e, row, r, rfl, rfl⟩
    · unfold shX at h; rw [q] at h; cases h
    unfold shX at h
    rw [s1Y_at] at h
    match r, h with
    | [], h =>
    cases h
    refine ⟨rfl, ?_⟩
    cases hs : (!(ilt 40 (Int.ofNat n))) with
    | true =>
      refine callC_ok mixed orcJh_ok (askJh_ok 0) (Eq.mpr (sh_1 c n k e row _) ⟨hs, ?_⟩)
      show Value.bool true = .bool (shB n)
      unfold shB; rw [hs]; rfl
    | false =>
      refine callC_ok mixed orcJh_ok (askJh_ok 0) (Eq.mpr (sh_0 c n k e row _) ⟨hs, ?_⟩)
      show Value.bool _ = .bool (shB n)
      unfold shB; rw [hs]; rfl
  · rintro l m k e row r hl h1 rfl
    refine callC_ok mixed orcJh_ok (askJh_ok 0) (Eq.mpr (in_run l m e row k _) ⟨by rw [Nat.ble_eq, List.length_map]; omega, by rw [Nat.ble_eq]; omega, ?_, nG1 + 2, rfl, ?_⟩)
    · rw [List.drop_zero, List.take_of_length_le (by rw [List.length_map]; omega), List.all_eq_true]
      intro x hx
      obtain ⟨y, _, rfl⟩ := List.mem_map.1 hx
      rfl
    · rw [AHeap.get_push_eq (by kernel_rfl), List.drop_zero, List.take_of_length_le (by rw [List.length_map]; omega)]
noncomputable def askJi (n : Nat) : Asks := asksV Tryz.prog.globals.size 16 (s1AY tiT clC cloO) (asksV Tryz.prog.globals.size 14 shY (askJh n))
theorem askJi_ok (n : Nat) : AsksOk orcJi (askJi n) := asksV_ok (s1A_ok fun _ _ _ h => ⟨h, rfl⟩) (asksV_ok shY_ok (askJh_ok n))
/-! Pairs of which one is empty. -/
noncomputable def orcFe : Orc := orElse 104 (anyO Tryz.prog.globals.size (feX tiT (oneC cSe) pfO)) orcJi
noncomputable def orcEf : Orc := orElse 104 (anyO Tryz.prog.globals.size (efX tiT (oneC cSe) peO)) orcJi
set_option maxRecDepth 100000 in
theorem orcEf_ok : OrcOk Tryz.prog orcEf := by
  refine efO_ok orcJi_ok (fun _ _ _ => rfl) ?_
  rintro v l m k e row r (rfl | ⟨q, rfl⟩) hl h1 rfl
  · refine callC_ok mixed orcJh_ok (askJh_ok 0) (Eq.mpr (pa_nf l m e row k _) ⟨⟨flat_ints l, trivial⟩, okI hl h1, rfl, ?_⟩)
    rw [decT]; exact congrArg gi (nil_pa l hl)
  · refine callC_ok mixed orcJh_ok (askJh_ok 0) (Eq.mpr (pa_ef l m e row k q _) ⟨⟨flat_ints l, trivial⟩, okI hl h1, rfl, ?_⟩)
    rw [decT]; exact congrArg gi (nil_pa l hl)
set_option maxRecDepth 100000 in
theorem orcFe_ok : OrcOk Tryz.prog orcFe := by
  refine feO_ok orcJi_ok (fun _ _ _ => rfl) ?_
  rintro v l m k e row r (rfl | ⟨q, rfl⟩) hl h1 rfl
  · refine callC_ok mixed orcJh_ok (askJh_ok 0) (Eq.mpr (pa_fn l m e row k _) ⟨⟨flat_ints l, trivial⟩, okI hl h1, rfl, ?_⟩)
    rw [decT]; exact congrArg gi (pa_nil l hl)
  · refine callC_ok mixed orcJh_ok (askJh_ok 0) (Eq.mpr (pa_fe l m e row k q _) ⟨⟨flat_ints l, trivial⟩, okI hl h1, rfl, ?_⟩)
    rw [decT]; exact congrArg gi (pa_nil l hl)
noncomputable def askFe : Asks := asksV Tryz.prog.globals.size 104 (feAY tiT (oneC cSe) pfO) (askJi 0)
theorem askFe_ok : AsksOk orcFe askFe := asksV_ok (feA_ok fun _ _ h => ⟨h, rfl⟩) (askJi_ok 0)
noncomputable def askEf : Asks := asksV Tryz.prog.globals.size 104 (efAY tiT (oneC cSe) peO) (askJi 0)
theorem askEf_ok : AsksOk orcEf askEf := asksV_ok (efA_ok fun _ _ h => ⟨h, rfl⟩) (askJi_ok 0)
theorem cm_fn (a : List Int) (u v : Int) (m e row k : Nat) (K : Value → Prop) : callC Tryz.prog (exec Tryz.prog orcFe 40) (syOf [(14, 7), (20, 31)]) askFe (noLoops _) 40 36 #[liP (m + 1) k, nilS, .agg #[gi u, gi v]] (canon Tryz.prog [(a.map gi, e, row)]) (fun v _ => K v) = (((List.all (List.map gi a) (flat 3) = true ∧ True) ∧ okT tiT (List.map gi a) (m + 1) ∧ oneC cSe (TellT.dec tiT (List.map gi a)) [Value.func (.func 35) #[] #[]] ∧ Value.agg #[gi u, gi v] = Value.agg #[gi u, gi v] ∧ (!(ieq (firstS [pairE (TellT.dec tiT (List.map gi a)) [], limE u v]) 0)) = true ∧ K (Value.tuple #[Value.agg (Array.mk (List.take 2 (List.drop 0 ([] ++ ([gi 0, gi 0] ++ []))))), gi 0, gi (firstS [pairE (TellT.dec tiT (List.map gi a)) [], limE u v])]))) := by kernel_rfl
theorem cm_fe (a : List Int) (u v : Int) (m e row k q : Nat) (K : Value → Prop) : callC Tryz.prog (exec Tryz.prog orcFe 40) (syOf [(14, 7), (20, 31)]) askFe (noLoops _) 40 36 #[liP (m + 1) k, emS q, .agg #[gi u, gi v]] (canon Tryz.prog [(a.map gi, e, row)]) (fun v _ => K v) = (((List.all (List.map gi a) (flat 3) = true ∧ True) ∧ okT tiT (List.map gi a) (m + 1) ∧ oneC cSe (TellT.dec tiT (List.map gi a)) [Value.func (.func 35) #[] #[]] ∧ Value.agg #[gi u, gi v] = Value.agg #[gi u, gi v] ∧ (!(ieq (firstS [pairE (TellT.dec tiT (List.map gi a)) [], limE u v]) 0)) = true ∧ K (Value.tuple #[Value.agg (Array.mk (List.take 2 (List.drop 0 ([] ++ ([gi 0, gi 0] ++ []))))), gi 0, gi (firstS [pairE (TellT.dec tiT (List.map gi a)) [], limE u v])]))) := by kernel_rfl
theorem cm_nf (a : List Int) (u v : Int) (m e row k : Nat) (K : Value → Prop) : callC Tryz.prog (exec Tryz.prog orcEf 40) (syOf [(14, 7), (20, 31)]) askEf (noLoops _) 40 36 #[nilS, liP (m + 1) k, .agg #[gi u, gi v]] (canon Tryz.prog [(a.map gi, e, row)]) (fun v _ => K v) = (((List.all (List.map gi a) (flat 3) = true ∧ True) ∧ okT tiT (List.map gi a) (m + 1) ∧ oneC cSe (TellT.dec tiT (List.map gi a)) [Value.func (.func 35) #[] #[]] ∧ Value.agg #[gi u, gi v] = Value.agg #[gi u, gi v] ∧ (!(ieq (firstS [pairE [] (TellT.dec tiT (List.map gi a)), limE u v]) 0)) = true ∧ K (Value.tuple #[Value.agg (Array.mk (List.take 2 (List.drop 0 ([] ++ ([gi 0, gi 0] ++ []))))), gi 0, gi (firstS [pairE [] (TellT.dec tiT (List.map gi a)), limE u v])]))) := by kernel_rfl
theorem cm_ef (a : List Int) (u v : Int) (m e row k q : Nat) (K : Value → Prop) : callC Tryz.prog (exec Tryz.prog orcEf 40) (syOf [(14, 7), (20, 31)]) askEf (noLoops _) 40 36 #[emS q, liP (m + 1) k, .agg #[gi u, gi v]] (canon Tryz.prog [(a.map gi, e, row)]) (fun v _ => K v) = (((List.all (List.map gi a) (flat 3) = true ∧ True) ∧ okT tiT (List.map gi a) (m + 1) ∧ oneC cSe (TellT.dec tiT (List.map gi a)) [Value.func (.func 35) #[] #[]] ∧ Value.agg #[gi u, gi v] = Value.agg #[gi u, gi v] ∧ (!(ieq (firstS [pairE [] (TellT.dec tiT (List.map gi a)), limE u v]) 0)) = true ∧ K (Value.tuple #[Value.agg (Array.mk (List.take 2 (List.drop 0 ([] ++ ([gi 0, gi 0] ++ []))))), gi 0, gi (firstS [pairE [] (TellT.dec tiT (List.map gi a)), limE u v])]))) := by kernel_rfl
theorem pm_fn (a : List Int) (u : Int) (m e row k : Nat) (K : Value → Prop) : callC Tryz.prog (exec Tryz.prog orcFe 40) (syOf [(14, 7), (20, 31)]) askFe (noLoops _) 40 37 #[liP (m + 1) k, nilS, gi u] (canon Tryz.prog [(a.map gi, e, row)]) (fun v _ => K v) = (((List.all (List.map gi a) (flat 3) = true ∧ True) ∧ okT tiT (List.map gi a) (m + 1) ∧ oneC cSe (TellT.dec tiT (List.map gi a)) [Value.func (.func 35) #[] #[]] ∧ (!(ieq (firstS [pairE (TellT.dec tiT (List.map gi a)) [], withinS u (-1000) 1000]) 0)) = true ∧ K (Value.tuple #[nilS, gi (firstS [pairE (TellT.dec tiT (List.map gi a)) [], withinS u (-1000) 1000])]))) := by kernel_rfl
theorem pm_fe (a : List Int) (u : Int) (m e row k q : Nat) (K : Value → Prop) : callC Tryz.prog (exec Tryz.prog orcFe 40) (syOf [(14, 7), (20, 31)]) askFe (noLoops _) 40 37 #[liP (m + 1) k, emS q, gi u] (canon Tryz.prog [(a.map gi, e, row)]) (fun v _ => K v) = (((List.all (List.map gi a) (flat 3) = true ∧ True) ∧ okT tiT (List.map gi a) (m + 1) ∧ oneC cSe (TellT.dec tiT (List.map gi a)) [Value.func (.func 35) #[] #[]] ∧ (!(ieq (firstS [pairE (TellT.dec tiT (List.map gi a)) [], withinS u (-1000) 1000]) 0)) = true ∧ K (Value.tuple #[nilS, gi (firstS [pairE (TellT.dec tiT (List.map gi a)) [], withinS u (-1000) 1000])]))) := by kernel_rfl
theorem pm_nf (a : List Int) (u : Int) (m e row k : Nat) (K : Value → Prop) : callC Tryz.prog (exec Tryz.prog orcEf 40) (syOf [(14, 7), (20, 31)]) askEf (noLoops _) 40 37 #[nilS, liP (m + 1) k, gi u] (canon Tryz.prog [(a.map gi, e, row)]) (fun v _ => K v) = (((List.all (List.map gi a) (flat 3) = true ∧ True) ∧ okT tiT (List.map gi a) (m + 1) ∧ oneC cSe (TellT.dec tiT (List.map gi a)) [Value.func (.func 35) #[] #[]] ∧ (!(ieq (firstS [pairE [] (TellT.dec tiT (List.map gi a)), withinS u (-1000) 1000]) 0)) = true ∧ K (Value.tuple #[nilS, gi (firstS [pairE [] (TellT.dec tiT (List.map gi a)), withinS u (-1000) 1000])]))) := by kernel_rfl
theorem pm_ef (a : List Int) (u : Int) (m e row k q : Nat) (K : Value → Prop) : callC Tryz.prog (exec Tryz.prog orcEf 40) (syOf [(14, 7), (20, 31)]) askEf (noLoops _) 40 37 #[emS q, liP (m + 1) k, gi u] (canon Tryz.prog [(a.map gi, e, row)]) (fun v _ => K v) = (((List.all (List.map gi a) (flat 3) = true ∧ True) ∧ okT tiT (List.map gi a) (m + 1) ∧ oneC cSe (TellT.dec tiT (List.map gi a)) [Value.func (.func 35) #[] #[]] ∧ (!(ieq (firstS [pairE [] (TellT.dec tiT (List.map gi a)), withinS u (-1000) 1000]) 0)) = true ∧ K (Value.tuple #[nilS, gi (firstS [pairE [] (TellT.dec tiT (List.map gi a)), withinS u (-1000) 1000])]))) := by kernel_rfl
end Go.Proofs.YtihnnmejkpddeaaGreatDoor
