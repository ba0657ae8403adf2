/-
  OWN WORK. Tables of tows: CheckTable.
-/
import Derived.Test.YtfkiiacbchbgdaaGreatDoorTbAD
import Derived.Test.YtfkiiacbchbgdaaGreatDoorTwPU
/-! (OWN WORK. Tables of tows: the errors of a table, and CheckTable.) -/
namespace Go.Proofs.YtfkiiacbchbgdaaGreatDoor
open Go Go.Am

noncomputable def tE (tab : List Int) (w : Int) : Int := firstS [whenS (!(ieq (Int.ofNat tab.length) (fwrap IntKind.i64 (w + 1)))) 2, eaE 100000000 tab]
def tfC (_ : List Int) (_ : T5) (_ : List Int) (r : List Value) : Prop := r = []
noncomputable abbrev tfO (_ : List Int) (t : T5) (tab : List Int) (_ : List Value) : Out := .plain (gi (tE tab t.2.2.2.2))
/-- An empty table behind a tow. -/
def teC (_ : List Int) (_ : T5) (r : List Value) : Prop := r = [nilS] ∨ ∃ k, r = [eS k]
noncomputable abbrev teO (_ : Nat) (_ : List Int) (t : T5) (_ : List Value) : Out := .plain (gi (tE [] t.2.2.2.2))
/-- A tow without pulls, and a table. -/
noncomputable def efFY {α : Type} (z : α) (f : T5 → List Value → Nat → List Value → α) (vs : List Value) (B : List Cells) : α := match vs with
  | .agg arr :: .slice (some ⟨j, 0, none⟩) n' _ :: r => match arr.toList with
    | [.slice (some ⟨0, 0, none⟩) 0 _, .int .i64 a, .int .i64 b, .int .i64 c, .int .i64 d, .int .i64 w] => match B with
      | [(cs', _, _)] => match Nat.beq j Tryz.prog.globals.size with
        | true => f (a, b, c, d, w) cs' n' r
        | false => z
      | _ => z
    | _ => z
  | _ => z
open Classical in
noncomputable def efX (out : T5 → List Int → List Value → Option Out) (vs : List Value) (B : List Cells) : Option Out :=
  efFY none (fun t cs' n' r => if towOk cs' n' then out t (decI cs') r else none) vs B
noncomputable def efY (out : T5 → List Int → List Value → Option Out) (vs : List Value) (B : List Cells) (K : Out → Prop) : Prop :=
  efFY False (fun t cs' n' r => towOk cs' n' ∧ match out t (decI cs') r with
    | some o => K o
    | none => False) vs B
theorem efFY_some {vs : List Value} {B : List Cells} {α : Type} {f : T5 → List Value → Nat → List Value → Option α} {o : α} (h : efFY none f vs B = some o) :
    ∃ (k : Nat) (a b c d w : Int) (cs' : List Value) (n' k' e' row' : Nat) (r : List Value), vs = eV a b c d w k :: liP n' k' :: r ∧ B = [(cs', e', row')] ∧ f (a, b, c, d, w) cs' n' r = some o := by
  unfold efFY at h
  split at h
  · rename_i arr j n' k' r
    split at h
    · rename_i k a b c d w ha
      split at h
      · rename_i cs' e' row'
        split at h
        · rename_i hi
          rw [Nat.beq_eq] at hi
          obtain rfl := hi
          exact ⟨k, a, b, c, d, w, cs', n', k', e', row', r, by rw [agg_eq ha], rfl, h⟩
        · cases h
      · cases h
    · cases h
  · cases h
theorem efFY_at {α : Type} {z : α} {f : T5 → List Value → Nat → List Value → α} {k : Nat} {a b c d w : Int} {cs' : List Value} {n' k' e' row' : Nat} {r : List Value} : efFY z f (eV a b c d w k :: liP n' k' :: r) [(cs', e', row')] = f (a, b, c, d, w) cs' n' r := by
  show (match Nat.beq Tryz.prog.globals.size Tryz.prog.globals.size with
    | true => f (a, b, c, d, w) cs' n' r
    | false => z) = _
  rw [Nat.beq_refl]
theorem efFY_prop {f : T5 → List Value → Nat → List Value → Prop} {vs : List Value} {B : List Cells} (h : efFY False f vs B) :
    ∃ (k : Nat) (a b c d w : Int) (cs' : List Value) (n' k' e' row' : Nat) (r : List Value), vs = eV a b c d w k :: liP n' k' :: r ∧ B = [(cs', e', row')] ∧ f (a, b, c, d, w) cs' n' r := by
  unfold efFY at h
  split at h
  · rename_i arr j n' k' r
    split at h
    · rename_i k a b c d w ha
      split at h
      · rename_i cs' e' row'
        split at h
        · rename_i hi
          rw [Nat.beq_eq] at hi
          obtain rfl := hi
          exact ⟨k, a, b, c, d, w, cs', n', k', e', row', r, by rw [agg_eq ha], rfl, h⟩
        · exact h.elim
      · exact h.elim
    · exact h.elim
  · exact h.elim
theorem efY_ok {out : T5 → List Int → List Value → Option Out} (vs : List Value) (B : List Cells) (K : Out → Prop) (h : efY out vs B K) : ∃ o, efX out vs B = some o ∧ K o := by
  obtain ⟨k, a, b, c, d, w, cs', n', k', e', row', r, rfl, rfl, h1, h2⟩ := efFY_prop h
  split at h2
  · rename_i o ho
    refine ⟨o, ?_, h2⟩
    unfold efX
    rw [efFY_at, if_pos h1]; exact ho
  · exact h2.elim
theorem efO_ok {f : FuncId} {out : T5 → List Int → List Value → Option Out} {orc : Orc} (ho : OrcOk Tryz.prog orc)
    (hk : ∀ (l' : List Int) (k m' k' e' row' : Nat) (a b c d w : Int) (r : List Value) (o : Out), l'.length = m' + 1 → m' + 1 ≤ 65536 → out (a, b, c, d, w) l' r = some o → o.Ok ∧
      CallJ Tryz.prog f (eV a b c d w k :: liP (m' + 1) k' :: r).toArray (canon Tryz.prog [(l'.map gi, e', row')]) o.Got) : OrcOk Tryz.prog (orElse f (anyO Tryz.prog.globals.size (efX out)) orc) := by
  refine anyO_ok globs_pos ho fun vs B o h _ => ?_
  obtain ⟨k, a, b, c, d, w, cs', n', k', e', row', r, rfl, rfl, h'⟩ := efFY_some h
  split at h'
  · rename_i hc
    obtain ⟨g1, g2, g3, g4⟩ := hc
    obtain ⟨m', rfl⟩ : ∃ m', n' = m' + 1 := ⟨n' - 1, by omega⟩
    have q := hk (decI cs') k m' k' e' row' a b c d w r o g3 g4 h'
    rw [← g1] at q
    exact q
  · cases h'
noncomputable def tfO1 (t : T5) (tab : List Int) (r : List Value) : Option Out := match r with
  | [] => some (.plain (gi (tE tab t.2.2.2.2)))
  | _ => none
noncomputable def teO1 (t : T5) (r : List Value) : Option Out := match r with
  | [.slice (some ⟨0, 0, none⟩) 0 _] => some (.plain (gi (tE [] t.2.2.2.2)))
  | _ => none
theorem cT_en (k' : Nat) (a b c d w : Int) (K : Value → Prop) : callC Tryz.prog (exec Tryz.prog orcTb1 20) (syOf []) askTb1 (noLoops _) 30 67 #[emV nilS a b c d w, eS k'] (canon Tryz.prog []) (fun v _ => K v) = K (gi (firstS [whenS (!(ieq 0 (fwrap IntKind.i64 (w + 1)))) 2, 0])) := by kernel_rfl
noncomputable def orcTc1 : Orc := orElse 29 (twO teC teO) (orElse 29 (anyO Tryz.prog.globals.size (tbX tfC tfO)) (orElse 67 (anyO Tryz.prog.globals.size (emX teO1)) (orElse 67 (anyO Tryz.prog.globals.size (efX tfO1))
  (orElse 67 (twO teC teO) (orElse 67 (anyO Tryz.prog.globals.size (tbX tfC tfO)) orcTb1)))))
theorem cT_fn (l : List Int) (m k e row : Nat) (a b c d w : Int) (K : Value → Prop) : callC Tryz.prog (exec Tryz.prog orcTb1 20) (syOf []) askTb1 (noLoops _) 30 67 #[towV (m + 1) k a b c d w, nilS] (canon Tryz.prog [(l.map gi, e, row)]) (fun v _ => K v) = K (gi (firstS [whenS (!(ieq 0 (fwrap IntKind.i64 (w + 1)))) 2, 0])) := by kernel_rfl
set_option maxRecDepth 100000 in
theorem orcTc1_ok : OrcOk Tryz.prog orcTc1 := by
  refine twO_ok (tbO_ok (emO_ok (efO_ok (twO_ok (tbO_ok orcTb1_ok (fun _ _ _ _ _ => rfl) ?_) (fun _ _ _ _ _ => rfl) ?_) ?_) ?_) (fun _ _ _ _ _ => rfl) ?_) (fun _ _ _ _ _ => rfl) ?_
  · rintro l tab m k e row m' k' e' row' a b c d w r hl h1 hl' h1' rfl
    refine callC_ok mixed orcTb1_ok askTb1_ok (Eq.mpr (cT_ff l tab m k e row m' k' e' row' a b c d w _) ⟨⟨flat_ints tab, trivial⟩, towOk_of hl' (Nat.succ_pos m') h1', .inr rfl, ?_⟩)
    rw [decI_map, ← hl']; rfl
  · rintro l m k e row a b c d w r hl h1 (rfl | ⟨k', rfl⟩)
    · exact callC_ok mixed orcTb1_ok askTb1_ok (Eq.mpr (cT_fn l m k e row a b c d w _) rfl)
    · exact callC_ok mixed orcTb1_ok askTb1_ok (Eq.mpr (cT_fe l m k e row k' a b c d w _) rfl)
  · intro tab k m' k' e' row' a b c d w r o hl' h1' h
    unfold tfO1 at h
    split at h
    · cases h
      refine ⟨rfl, callC_ok mixed orcTb1_ok askTb1_ok (Eq.mpr (cT_ef tab k m' k' e' row' a b c d w _) ⟨⟨flat_ints tab, trivial⟩, towOk_of hl' (Nat.succ_pos m') h1', .inr rfl, ?_⟩)⟩
      rw [decI_map, ← hl']; rfl
    · cases h
  · intro v a b c d w r o hv h
    unfold teO1 at h
    split at h
    · rename_i k'
      cases h
      refine ⟨rfl, ?_⟩
      rcases hv with rfl | ⟨k, rfl⟩
      · exact callC_ok mixed orcTb1_ok askTb1_ok (Eq.mpr (cT_en k' a b c d w _) rfl)
      · exact callC_ok mixed orcTb1_ok askTb1_ok (Eq.mpr (cT_ee k k' a b c d w _) rfl)
    · cases h
  · rintro l tab m k e row m' k' e' row' a b c d w r hl h1 hl' h1' rfl
    refine callC_ok mixed orcTb1_ok askTb1_ok (Eq.mpr (cF_ff l tab m k e row m' k' e' row' a b c d w _) ⟨⟨flat_ints tab, trivial⟩, towOk_of hl' (Nat.succ_pos m') h1', rfl, ?_⟩)
    rw [decI_map, ← hl']; rfl
  · rintro l m k e row a b c d w r hl h1 (rfl | ⟨k', rfl⟩)
    · exact callC_ok mixed orcTb1_ok askTb1_ok (Eq.mpr (cF_fn l m k e row a b c d w _) rfl)
    · exact callC_ok mixed orcTb1_ok askTb1_ok (Eq.mpr (cF_fe l m k e row k' a b c d w _) rfl)
end Go.Proofs.YtfkiiacbchbgdaaGreatDoor
/-! (OWN WORK. Tables of tows: CheckTable, carried out for all shapes.) -/
namespace Go.Proofs.YtfkiiacbchbgdaaGreatDoor
open Go Go.Am

noncomputable def askFF : Asks := asksV Tryz.prog.globals.size 67 (tbY tfC tfO) askTb1
noncomputable def askFE : Asks := asksV Tryz.prog.globals.size 67 (twY teC teO) askTb1
noncomputable def orcWa : Orc := orElse 67 (anyO Tryz.prog.globals.size (tbX tfC tfO)) orcTb1
noncomputable def orcWb : Orc := orElse 67 (twO teC teO) orcTb1
set_option maxRecDepth 100000 in
theorem orcWa_ok : OrcOk Tryz.prog orcWa := by
  refine tbO_ok orcTb1_ok (fun _ _ _ _ _ => rfl) ?_
  rintro l tab m k e row m' k' e' row' a b c d w r hl h1 hl' h1' rfl
  refine callC_ok mixed orcTb1_ok askTb1_ok (Eq.mpr (cT_ff l tab m k e row m' k' e' row' a b c d w _) ⟨⟨flat_ints tab, trivial⟩, towOk_of hl' (Nat.succ_pos m') h1', .inr rfl, ?_⟩)
  rw [decI_map, ← hl']; rfl
set_option maxRecDepth 100000 in
theorem orcWb_ok : OrcOk Tryz.prog orcWb := by
  refine twO_ok orcTb1_ok (fun _ _ _ _ _ => rfl) ?_
  rintro l m k e row a b c d w r hl h1 (rfl | ⟨k', rfl⟩)
  · exact callC_ok mixed orcTb1_ok askTb1_ok (Eq.mpr (cT_fn l m k e row a b c d w _) rfl)
  · exact callC_ok mixed orcTb1_ok askTb1_ok (Eq.mpr (cT_fe l m k e row k' a b c d w _) rfl)
theorem askFF_ok : AsksOk orcWa askFF := asksV_ok (tbY_ok fun _ _ _ _ h => ⟨h, rfl⟩) askTb1_ok
theorem askFE_ok : AsksOk orcWb askFE := asksV_ok (twY_ok fun _ _ _ _ h => ⟨h, rfl⟩) askTb1_ok
theorem kT_ff (l tab : List Int) (m k e row m' k' e' row' : Nat) (a b c d w x : Int) (K : Value → Prop) : callC Tryz.prog (exec Tryz.prog orcWa 10) (syOf [(9, 7), (12, 7), (15, 7), (19, 1), (24, 7)]) askFF (noLoops _) 20 26 #[towV (m + 1) k a b c d w, slQ (m' + 1) k', gi x] (canon Tryz.prog [(l.map gi, e, row), (tab.map gi, e', row')]) (fun v _ => K v) = (((List.all (List.map gi l) (flat 3) = true ∧ True) ∧ towOk (List.map gi l) (m + 1) ∧ noR (decI (List.map gi l)) (Prod.mk a (Prod.mk b (Prod.mk c (Prod.mk d w)))) [] ∧ Value.agg #[liP (m + 1) k, gi a, gi b, gi c, gi d, gi w] = Value.agg #[liP (m + 1) k, gi a, gi b, gi c, gi d, gi w] ∧ Value.agg #[liP (m + 1) k, gi a, gi b, gi c, gi d, gi w] = Value.agg #[liP (m + 1) k, gi a, gi b, gi c, gi d, gi w] ∧ (List.all (List.map gi l) (flat 3) = true ∧ List.all (List.map gi tab) (flat 3) = true ∧ True) ∧ towOk (List.map gi l) (m + 1) ∧ towOk (List.map gi tab) (m' + 1) ∧ tfC (decI (List.map gi l)) (Prod.mk a (Prod.mk b (Prod.mk c (Prod.mk d w)))) (decI (List.map gi tab)) [] ∧ Value.agg #[liP (m + 1) k, gi a, gi b, gi c, gi d, gi w] = Value.agg #[liP (m + 1) k, gi a, gi b, gi c, gi d, gi w] ∧ (List.all (List.map gi l) (flat 3) = true ∧ True) ∧ towOk (List.map gi l) (m + 1) ∧ oneR (decI (List.map gi l)) (Prod.mk a (Prod.mk b (Prod.mk c (Prod.mk d w)))) [gi x] ∧ ((!(ieq (firstS [ctE (List.length (decI (List.map gi l))) (decI (List.map gi l)) (Prod.mk a (Prod.mk b (Prod.mk c (Prod.mk d w)))), tE (decI (List.map gi tab)) w, ceE w (arg0 [gi x])]) 0)) = true → K (gi (firstS [ctE (List.length (decI (List.map gi l))) (decI (List.map gi l)) (Prod.mk a (Prod.mk b (Prod.mk c (Prod.mk d w)))), tE (decI (List.map gi tab)) w, ceE w (arg0 [gi x])]))) ∧ ((!(ieq (firstS [ctE (List.length (decI (List.map gi l))) (decI (List.map gi l)) (Prod.mk a (Prod.mk b (Prod.mk c (Prod.mk d w)))), tE (decI (List.map gi tab)) w, ceE w (arg0 [gi x])]) 0)) = false → ((List.all (List.map gi l) (flat 3) = true ∧ List.all (List.map gi tab) (flat 3) = true ∧ True) ∧ towOk (List.map gi l) (m + 1) ∧ towOk (List.map gi tab) (m' + 1) ∧ prC (decI (List.map gi l)) (Prod.mk a (Prod.mk b (Prod.mk c (Prod.mk d w)))) (decI (List.map gi tab)) [gi x] ∧ K (gi (whenS (!(pvB (decI (List.map gi l)) (decI (List.map gi tab)) (Prod.mk a (Prod.mk b (Prod.mk c (Prod.mk d w)))) (arg0 [gi x]))) 19)))))) := by kernel_rfl
theorem kT_fe (l : List Int) (m k e row k' : Nat) (a b c d w x : Int) (K : Value → Prop) : callC Tryz.prog (exec Tryz.prog orcWb 10) (syOf [(9, 7), (12, 7), (15, 7), (19, 31)]) askFE (noLoops _) 20 26 #[towV (m + 1) k a b c d w, eS k', gi x] (canon Tryz.prog [(l.map gi, e, row)]) (fun v _ => K v) = (((List.all (List.map gi l) (flat 3) = true ∧ True) ∧ towOk (List.map gi l) (m + 1) ∧ noR (decI (List.map gi l)) (Prod.mk a (Prod.mk b (Prod.mk c (Prod.mk d w)))) [] ∧ Value.agg #[liP (m + 1) k, gi a, gi b, gi c, gi d, gi w] = Value.agg #[liP (m + 1) k, gi a, gi b, gi c, gi d, gi w] ∧ Value.agg #[liP (m + 1) k, gi a, gi b, gi c, gi d, gi w] = Value.agg #[liP (m + 1) k, gi a, gi b, gi c, gi d, gi w] ∧ (List.all (List.map gi l) (flat 3) = true ∧ True) ∧ towOk (List.map gi l) (m + 1) ∧ teC (decI (List.map gi l)) (Prod.mk a (Prod.mk b (Prod.mk c (Prod.mk d w)))) [Value.slice (some ⟨0, 0, none⟩) 0 k'] ∧ Value.agg #[liP (m + 1) k, gi a, gi b, gi c, gi d, gi w] = Value.agg #[liP (m + 1) k, gi a, gi b, gi c, gi d, gi w] ∧ (List.all (List.map gi l) (flat 3) = true ∧ True) ∧ towOk (List.map gi l) (m + 1) ∧ oneR (decI (List.map gi l)) (Prod.mk a (Prod.mk b (Prod.mk c (Prod.mk d w)))) [gi x] ∧ (!(ieq (firstS [ctE (List.length (decI (List.map gi l))) (decI (List.map gi l)) (Prod.mk a (Prod.mk b (Prod.mk c (Prod.mk d w)))), tE [] w, ceE w (arg0 [gi x])]) 0)) = true ∧ K (gi (firstS [ctE (List.length (decI (List.map gi l))) (decI (List.map gi l)) (Prod.mk a (Prod.mk b (Prod.mk c (Prod.mk d w)))), tE [] w, ceE w (arg0 [gi x])])))) := by kernel_rfl
noncomputable def orcWc : Orc := orElse 22 (anyO Tryz.prog.globals.size (emX eTO)) (orElse 55 (anyO Tryz.prog.globals.size (emX eCO)) (orElse 67 (anyO Tryz.prog.globals.size (emX teO1)) (orElse 67 (anyO Tryz.prog.globals.size (efX tfO1)) orcTb1)))
set_option maxRecDepth 100000 in
theorem orcWc_ok : OrcOk Tryz.prog orcWc := by
  refine emO_ok (emO_ok (emO_ok (efO_ok orcTb1_ok ?_) ?_) ?_) ?_
  · intro tab k m' k' e' row' a b c d w r o hl' h1' h
    unfold tfO1 at h
    split at h
    · cases h
      refine ⟨rfl, callC_ok mixed orcTb1_ok askTb1_ok (Eq.mpr (cT_ef tab k m' k' e' row' a b c d w _) ⟨⟨flat_ints tab, trivial⟩, towOk_of hl' (Nat.succ_pos m') h1', .inr rfl, ?_⟩)⟩
      rw [decI_map, ← hl']; rfl
    · cases h
  · intro v a b c d w r o hv h
    unfold teO1 at h
    split at h
    · rename_i k'
      cases h
      refine ⟨rfl, ?_⟩
      rcases hv with rfl | ⟨k, rfl⟩
      · exact callC_ok mixed orcTb1_ok askTb1_ok (Eq.mpr (cT_en k' a b c d w _) rfl)
      · exact callC_ok mixed orcTb1_ok askTb1_ok (Eq.mpr (cT_ee k k' a b c d w _) rfl)
    · cases h
  · intro v a b c d w r o hv h
    unfold eCO at h
    split at h
    · cases h
      refine ⟨rfl, ?_⟩
      rcases hv with rfl | ⟨k, rfl⟩
      · exact callC_ok mixed orcUb_ok askUb_ok (Eq.mpr (eC_n _ _ _ _ _ _ _) (or_split (K := fun u => u = _) rfl))
      · exact callC_ok mixed orcUb_ok askUb_ok (Eq.mpr (eC_e _ _ _ _ _ _ _ _) (or_split (K := fun u => u = _) rfl))
    · cases h
  · intro v a b c d w r o hv h
    unfold eTO at h
    split at h
    · cases h
      refine ⟨rfl, ?_⟩
      rcases hv with rfl | ⟨k, rfl⟩
      · exact callC_ok mixed orcUb_ok askUb_ok (Eq.mpr (eT_n _ _ _ _ _ _) (by repeat' (first | exact rfl | exact trivial | apply And.intro)))
      · exact callC_ok mixed orcUb_ok askUb_ok (Eq.mpr (eT_e _ _ _ _ _ _ _) (by repeat' (first | exact rfl | exact trivial | apply And.intro)))
    · cases h
/-- Of a call that is carried out as it is, or asked. -/
noncomputable def askEF : Asks := skipA 22 (skipA 55 (skipA 67 (skipA 67 askTb1)))
theorem askEF_ok : AsksOk orcWc askEF := skipA_ok (skipA_ok (skipA_ok (skipA_ok askTb1_ok)))
noncomputable def orcWd : Orc := orElse 22 (anyO Tryz.prog.globals.size (emX eTO)) (orElse 55 (anyO Tryz.prog.globals.size (emX eCO)) (orElse 67 (anyO Tryz.prog.globals.size (efX tfO1)) orcTb1))
noncomputable def askEd : Asks := skipA 22 (skipA 55 (asksV Tryz.prog.globals.size 67 (efY tfO1) askTb1))
set_option maxRecDepth 100000 in
theorem orcWd_ok : OrcOk Tryz.prog orcWd := by
  refine emO_ok (emO_ok (efO_ok orcTb1_ok ?_) ?_) ?_
  · intro tab k m' k' e' row' a b c d w r o hl' h1' h
    unfold tfO1 at h
    split at h
    · cases h
      refine ⟨rfl, callC_ok mixed orcTb1_ok askTb1_ok (Eq.mpr (cT_ef tab k m' k' e' row' a b c d w _) ⟨⟨flat_ints tab, trivial⟩, towOk_of hl' (Nat.succ_pos m') h1', .inr rfl, ?_⟩)⟩
      rw [decI_map, ← hl']; rfl
    · cases h
  · intro v a b c d w r o hv h
    unfold eCO at h
    split at h
    · cases h
      refine ⟨rfl, ?_⟩
      rcases hv with rfl | ⟨k, rfl⟩
      · exact callC_ok mixed orcUb_ok askUb_ok (Eq.mpr (eC_n _ _ _ _ _ _ _) (or_split (K := fun u => u = _) rfl))
      · exact callC_ok mixed orcUb_ok askUb_ok (Eq.mpr (eC_e _ _ _ _ _ _ _ _) (or_split (K := fun u => u = _) rfl))
    · cases h
  · intro v a b c d w r o hv h
    unfold eTO at h
    split at h
    · cases h
      refine ⟨rfl, ?_⟩
      rcases hv with rfl | ⟨k, rfl⟩
      · exact callC_ok mixed orcUb_ok askUb_ok (Eq.mpr (eT_n _ _ _ _ _ _) (by repeat' (first | exact rfl | exact trivial | apply And.intro)))
      · exact callC_ok mixed orcUb_ok askUb_ok (Eq.mpr (eT_e _ _ _ _ _ _ _) (by repeat' (first | exact rfl | exact trivial | apply And.intro)))
    · cases h
theorem askEd_ok : AsksOk orcWd askEd := skipA_ok (skipA_ok (asksV_ok efY_ok askTb1_ok))
theorem kT_ef (tab : List Int) (k m' k' e' row' : Nat) (a b c d w x : Int) (K : Value → Prop) : callC Tryz.prog (exec Tryz.prog orcWd 20) (syOf [(12, 7)]) askEd (noLoops _) 30 26 #[eV a b c d w k, liP (m' + 1) k', gi x] (canon Tryz.prog [(tab.map gi, e', row')]) (fun v _ => K v) = ((Value.agg #[eS k, gi a, gi b, gi c, gi d, gi w] = Value.agg #[eS k, gi a, gi b, gi c, gi d, gi w] ∧ Value.agg #[eS k, gi a, gi b, gi c, gi d, gi w] = Value.agg #[eS k, gi a, gi b, gi c, gi d, gi w] ∧ (List.all (List.map gi tab) (flat 3) = true ∧ True) ∧ towOk (List.map gi tab) (m' + 1) ∧ Value.agg #[eS k, gi a, gi b, gi c, gi d, gi w] = Value.agg #[eS k, gi a, gi b, gi c, gi d, gi w] ∧ K (gi (firstS [12, tE (decI (List.map gi tab)) w, ceE w x])))) := by kernel_rfl
theorem kT_ee (k k' : Nat) (a b c d w x : Int) (K : Value → Prop) : callC Tryz.prog (exec Tryz.prog orcWc 20) (syOf []) askEF (noLoops _) 30 26 #[eV a b c d w k, eS k', gi x] (canon Tryz.prog []) (fun v _ => K v) = ((Value.agg #[eS k, gi a, gi b, gi c, gi d, gi w] = Value.agg #[eS k, gi a, gi b, gi c, gi d, gi w] ∧ Value.agg #[eS k, gi a, gi b, gi c, gi d, gi w] = Value.agg #[eS k, gi a, gi b, gi c, gi d, gi w] ∧ Value.agg #[eS k, gi a, gi b, gi c, gi d, gi w] = Value.agg #[eS k, gi a, gi b, gi c, gi d, gi w] ∧ K (gi (firstS [12, tE [] w, ceE w x])))) := by kernel_rfl
end Go.Proofs.YtfkiiacbchbgdaaGreatDoor
/-! (OWN WORK. Tables of tows: CheckTable as a known call; what the law's runs ask.) -/
namespace Go.Proofs.YtfkiiacbchbgdaaGreatDoor
open Go Go.Am

noncomputable def kE (l tab : List Int) (t : T5) (x : Int) : Int := firstS [ctE l.length l t, tE tab t.2.2.2.2, ceE t.2.2.2.2 x]
noncomputable def kV (l tab : List Int) (t : T5) (x : Int) : Int := bif ieq (kE l tab t x) 0 then whenS (!(pvB l tab t x)) 19 else kE l tab t x
def kfC (_ : List Int) (_ : T5) (_ : List Int) (r : List Value) : Prop := r = [gi (arg0 r)]
noncomputable abbrev kfO (l : List Int) (t : T5) (tab : List Int) (r : List Value) : Out := .plain (gi (kV l tab t (arg0 r)))
def keC (_ : List Int) (_ : T5) (r : List Value) : Prop := ∃ k, r = [eS k, gi (arg1 r)]
noncomputable abbrev keO (_ : Nat) (l : List Int) (t : T5) (r : List Value) : Out := .plain (gi (kE l [] t (arg1 r)))
noncomputable def kTO (_ : T5) (_ : List Int) (r : List Value) : Option Out := match r with
  | [.int .i64 _] => some (.plain (gi 12))
  | _ => none
noncomputable def kSO (_ : T5) (r : List Value) : Option Out := match r with
  | [.slice (some ⟨0, 0, none⟩) 0 _, .int .i64 _] => some (.plain (gi 12))
  | _ => none
theorem fwrap_w {w : Int} (h0 : 0 ≤ w) (h1 : w ≤ 64) : fwrap IntKind.i64 (w + 1) = w + 1 := fwrap_mid (by omega) (by omega)
theorem tE_zero {tab : List Int} {w : Int} (h0 : 0 ≤ w) (h1 : w ≤ 64) (h : tE tab w = 0) : (tab.length : Int) = w + 1 ∧ ∀ y ∈ tab, 0 ≤ y ∧ y ≤ 100000000 := by
  have a := when_none (by decide) (firstS_none h _ (.head _))
  rw [fwrap_w h0 h1, ieq_dec] at a
  simp only [Bool.not_eq_false', decide_eq_true_eq, Int.ofNat_eq_natCast] at a
  exact ⟨a, fun y hy => within_zero (firstE_zero (firstS_none h _ (.tail _ (.head _))) y hy)⟩
theorem tE_nil {w : Int} (h0 : 1 ≤ w) (h1 : w ≤ 64) : tE [] w = 2 := by
  have e : ieq (Int.ofNat ([] : List Int).length) (fwrap IntKind.i64 (w + 1)) = false := by
    rw [fwrap_w (by omega) h1]
    exact ieq_ne (by show (0 : Int) ≠ w + 1; omega)
  unfold tE
  rw [e]; rfl
theorem kE_bad {l tab : List Int} {t : T5} {x : Int} (h : ieq (ctE l.length l t) 0 = false) : kE l tab t x = ctE l.length l t := by
  show (bif ieq (ctE l.length l t) 0 then _ else ctE l.length l t) = _
  rw [h]; rfl
theorem kE_nil {l : List Int} {a b c d w x : Int} : ieq (kE l [] (a, b, c, d, w) x) 0 = false := by
  cases h : ieq (ctE l.length l (a, b, c, d, w)) 0 with
  | false => rw [kE_bad h]; exact h
  | true =>
    have hc : ctE l.length l (a, b, c, d, w) = 0 := by rw [ieq_dec] at h; exact of_decide_eq_true h
    obtain ⟨k1, k2, k3, k4, k5, k6⟩ := ctE_zero hc
    have e : kE l [] (a, b, c, d, w) x = 2 := by
      show firstS [ctE l.length l (a, b, c, d, w), tE [] w, ceE w x] = 2
      rw [hc, tE_nil k5 (by omega)]; rfl
    rw [e]; rfl
set_option maxRecDepth 100000 in
theorem kf_ok {orc : Orc} (ho : OrcOk Tryz.prog orc) : OrcOk Tryz.prog (orElse 26 (anyO Tryz.prog.globals.size (tbX kfC kfO)) orc) := by
  refine tbO_ok ho (fun _ _ _ _ _ => rfl) ?_
  intro l tab m k e row m' k' e' row' a b c d w r hl h1 hl' h1' hr
  have hr : r = [gi (arg0 r)] := hr
  rw [hr]
  show CallJ _ _ _ _ (fun v _ => v = gi (kV l tab (a, b, c, d, w) (arg0 r)))
  generalize arg0 r = x
  have hf := flat_ints l
  have hf' := flat_ints tab
  have ht := towOk_of hl (Nat.succ_pos m) h1
  have ht' := towOk_of hl' (Nat.succ_pos m') h1'
  refine callC_ok mixed orcWa_ok askFF_ok (Eq.mpr (kT_ff l tab m k e row m' k' e' row' a b c d w x _) ?_)
  repeat rw [decI_map]
  refine ⟨⟨hf, trivial⟩, ht, rfl, rfl, rfl, ⟨hf, hf', trivial⟩, ht, ht', rfl, rfl, ⟨hf, trivial⟩, ht, rfl, fun z => ?_, fun z => ?_⟩
  · show _ = gi (kV l tab (a, b, c, d, w) x)
    unfold kV
    rw [show ieq (kE l tab (a, b, c, d, w) x) 0 = false from not_ieqT z]; rfl
  · have hz := not_ieq' z
    have hc : ctE l.length l (a, b, c, d, w) = 0 := firstS_none hz _ (.head _)
    obtain ⟨k1, k2, k3, k4, k5, k6⟩ := ctE_zero hc
    obtain ⟨x0, x1⟩ := ceE_zero (w := w) (x := x) (firstS_none hz _ (.tail _ (.tail _ (.head _))))
    obtain ⟨q1, q2⟩ := tE_zero (tab := tab) (w := w) (by omega) (by omega) (firstS_none hz _ (.tail _ (.head _)))
    refine ⟨⟨hf, hf', trivial⟩, ht, ht', ⟨⟨hc, q2, q1⟩, rfl, x0, x1⟩, ?_⟩
    show _ = gi (kV l tab (a, b, c, d, w) x)
    unfold kV
    rw [show ieq (kE l tab (a, b, c, d, w) x) 0 = true from not_ieqF z]; rfl
set_option maxRecDepth 100000 in
theorem ke_ok {orc : Orc} (ho : OrcOk Tryz.prog orc) : OrcOk Tryz.prog (orElse 26 (twO keC keO) orc) := by
  refine twO_ok ho (fun _ _ _ _ _ => rfl) ?_
  rintro l m k e row a b c d w r hl h1 ⟨k', hr⟩
  rw [hr]
  show CallJ _ _ _ _ (fun v _ => v = gi (kE l [] (a, b, c, d, w) (arg1 r)))
  generalize arg1 r = x
  have hf := flat_ints l
  have ht := towOk_of hl (Nat.succ_pos m) h1
  refine callC_ok mixed orcWb_ok askFE_ok (Eq.mpr (kT_fe l m k e row k' a b c d w x _) ?_)
  repeat rw [decI_map]
  exact ⟨⟨hf, trivial⟩, ht, rfl, rfl, rfl, ⟨hf, trivial⟩, ht, .inr ⟨k', rfl⟩, rfl, ⟨hf, trivial⟩, ht, rfl, by rw [show ieq (firstS [ctE l.length l (a, b, c, d, w), tE [] w, ceE w (arg0 [gi x])]) 0 = false from kE_nil (x := x)]; rfl, rfl⟩
set_option maxRecDepth 100000 in
theorem kt_ok {orc : Orc} (ho : OrcOk Tryz.prog orc) : OrcOk Tryz.prog (orElse 26 (anyO Tryz.prog.globals.size (efX kTO)) orc) := by
  refine efO_ok ho ?_
  intro tab k m' k' e' row' a b c d w r o hl' h1' h
  unfold kTO at h
  split at h
  · rename_i x
    cases h
    refine ⟨rfl, callC_ok mixed orcWd_ok askEd_ok (Eq.mpr (kT_ef tab k m' k' e' row' a b c d w x _) ?_)⟩
    exact ⟨rfl, rfl, ⟨flat_ints tab, trivial⟩, towOk_of hl' (Nat.succ_pos m') h1', rfl, rfl⟩
  · cases h
theorem kT_en (k' : Nat) (a b c d w x : Int) (K : Value → Prop) : callC Tryz.prog (exec Tryz.prog orcWc 20) (syOf []) askEF (noLoops _) 30 26 #[emV nilS a b c d w, eS k', gi x] (canon Tryz.prog []) (fun v _ => K v) = (emV nilS a b c d w = emV nilS a b c d w ∧ emV nilS a b c d w = emV nilS a b c d w ∧ emV nilS a b c d w = emV nilS a b c d w ∧ K (gi (firstS [12, tE [] w, ceE w x]))) := by kernel_rfl
set_option maxRecDepth 100000 in
theorem ks_ok {orc : Orc} (ho : OrcOk Tryz.prog orc) : OrcOk Tryz.prog (orElse 26 (anyO Tryz.prog.globals.size (emX kSO)) orc) := by
  refine emO_ok ho ?_
  intro v a b c d w r o hv h
  unfold kSO at h
  split at h
  · rename_i k' x
    cases h
    refine ⟨rfl, ?_⟩
    rcases hv with rfl | ⟨k, rfl⟩
    · exact callC_ok mixed orcWc_ok askEF_ok (Eq.mpr (kT_en k' a b c d w x _) ⟨rfl, rfl, rfl, rfl⟩)
    · exact callC_ok mixed orcWc_ok askEF_ok (Eq.mpr (kT_ee k k' a b c d w x _) ⟨rfl, rfl, rfl, rfl⟩)
  · cases h
set_option maxRecDepth 100000 in
theorem tf_ok {orc : Orc} (ho : OrcOk Tryz.prog orc) : OrcOk Tryz.prog (orElse 29 (anyO Tryz.prog.globals.size (tbX tfC tfO)) orc) := by
  refine tbO_ok ho (fun _ _ _ _ _ => rfl) ?_
  rintro l tab m k e row m' k' e' row' a b c d w r hl h1 hl' h1' rfl
  refine callC_ok mixed orcTb1_ok askTb1_ok (Eq.mpr (cF_ff l tab m k e row m' k' e' row' a b c d w _) ⟨⟨flat_ints tab, trivial⟩, towOk_of hl' (Nat.succ_pos m') h1', rfl, ?_⟩)
  rw [decI_map, ← hl']; rfl
set_option maxRecDepth 100000 in
theorem te_ok {orc : Orc} (ho : OrcOk Tryz.prog orc) : OrcOk Tryz.prog (orElse 29 (twO teC teO) orc) := by
  refine twO_ok ho (fun _ _ _ _ _ => rfl) ?_
  rintro l m k e row a b c d w r hl h1 (rfl | ⟨k', rfl⟩)
  · exact callC_ok mixed orcTb1_ok askTb1_ok (Eq.mpr (cF_fn l m k e row a b c d w _) rfl)
  · exact callC_ok mixed orcTb1_ok askTb1_ok (Eq.mpr (cF_fe l m k e row k' a b c d w _) rfl)
set_option maxRecDepth 100000 in
theorem pr_ok {orc : Orc} (ho : OrcOk Tryz.prog orc) : OrcOk Tryz.prog (orElse 31 (anyO Tryz.prog.globals.size (tbX prC prO)) orc) := by
  refine tbO_ok ho (fun _ _ _ _ _ => rfl) ?_
  rintro l tab m k e row m' k' e' row' a b c d w r hl h1 hl' h1' ⟨ht, hr, x0, x1⟩
  rw [hr]
  show CallJ _ _ _ _ (fun v _ => v = .bool (pvB l tab (a, b, c, d, w) (arg0 r)))
  generalize arg0 r = x at *
  have x1 : x ≤ w := x1
  obtain ⟨q1, q2⟩ := pv_ask (K := fun v => v = .bool (pvB l tab (a, b, c, d, w) x)) (p := allB (stB l tab a) (Int.toNat w) 0) (q := allB (bdB tab w (c + a)) (Int.toNat x + 1) 0) rfl
  exact callC_ok mixed orcTa1_ok askTa1_ok (Eq.mpr (qv_run l tab (m' + 1) e row e' row' m k k' a b c d w x _) ⟨rfl, rfl, rfl, rfl, rfl, rfl, rfl, ⟨hl', hl, h1, ht⟩, fun z _ => ⟨rfl, rfl, rfl, rfl, rfl, rfl, rfl, ⟨hl', hl, h1, ht, x0, x1⟩, fun z' _ => (q1 z).1 z', fun z' _ => (q1 z).2 z'⟩, fun z _ => q2 z⟩)
/-! The law's. -/
noncomputable def orcG1 : Orc := wkO (orElse 26 (anyO Tryz.prog.globals.size (tbX kfC kfO)) (orElse 29 (anyO Tryz.prog.globals.size (tbX tfC tfO)) (orElse 31 (anyO Tryz.prog.globals.size (tbX prC prO)) orcUh)))
theorem orcG1_ok : OrcOk Tryz.prog orcG1 := wkO_ok (kf_ok (tf_ok (pr_ok orcUh_ok)))
noncomputable def askG1 (b : Bool) : Asks := skipA 6 (asksV Tryz.prog.globals.size 26 (tbY kfC kfO) (asksV Tryz.prog.globals.size 29 (tbY tfC tfO) (asksV Tryz.prog.globals.size 31 (tbY prC prO) (askUh true b true))))
theorem askG1_ok (b : Bool) : AsksOk orcG1 (askG1 b) := skipA_ok (asksV_ok (tbY_ok fun _ _ _ _ h => ⟨h, rfl⟩) (asksV_ok (tbY_ok fun _ _ _ _ h => ⟨h, rfl⟩) (asksV_ok (tbY_ok fun _ _ _ _ h => ⟨h, rfl⟩) (askUh_ok true b true))))
noncomputable def orcG2 : Orc := wkO (orElse 26 (twO keC keO) (orElse 29 (twO teC teO) orcUh))
theorem orcG2_ok : OrcOk Tryz.prog orcG2 := wkO_ok (ke_ok (te_ok orcUh_ok))
noncomputable def askG2 (b : Bool) : Asks := skipA 6 (asksV Tryz.prog.globals.size 26 (twY keC keO) (asksV Tryz.prog.globals.size 29 (twY teC teO) (askUh true b true)))
theorem askG2_ok (b : Bool) : AsksOk orcG2 (askG2 b) := skipA_ok (asksV_ok (twY_ok fun _ _ _ _ h => ⟨h, rfl⟩) (asksV_ok (twY_ok fun _ _ _ _ h => ⟨h, rfl⟩) (askUh_ok true b true)))
noncomputable def orcGi : Orc := orElse 27 (slO niC inO) orcVa
set_option maxRecDepth 100000 in
theorem orcGi_ok : OrcOk Tryz.prog orcGi := by
  refine slO_ok orcVa_ok (fun _ _ _ _ => ⟨names_sl _, flat_ints _⟩) ?_
  rintro l m k e row r hl h1 rfl
  have ht : List.take (m + 1) (List.drop 0 (l.map gi)) = l.map gi := by rw [List.drop_zero, List.take_of_length_le (by rw [List.length_map]; omega)]
  refine (callC_ok mixed orcUd_ok askUd_ok (Eq.mpr (ii_run l m e row k _) ?_)).mono fun v h' q => skK_wide (mk := slM (m + 1)) (fun _ => rfl) q
  rw [ht]
  exact ⟨by rw [Nat.ble_eq, List.length_map]; omega, by rw [Nat.ble_eq]; omega, ints_one l, rfl, rfl, by kernel_rfl⟩
noncomputable def orcG3 : Orc := wkO (orElse 26 (anyO Tryz.prog.globals.size (efX kTO)) orcGi)
theorem orcG3_ok : OrcOk Tryz.prog orcG3 := wkO_ok (kt_ok orcGi_ok)
noncomputable def askG3 : Asks := skipA 6 (asksV Tryz.prog.globals.size 26 (efY kTO) (asksV Tryz.prog.globals.size 27 (slY niC inO) askVa))
theorem askG3_ok : AsksOk orcG3 askG3 := skipA_ok (asksV_ok efY_ok (asksV_ok (slY_ok fun _ _ _ h => ⟨h, rfl⟩) askVa_ok))
noncomputable def orcG4 : Orc := wkO (orElse 26 (anyO Tryz.prog.globals.size (emX kSO)) orcVa)
theorem orcG4_ok : OrcOk Tryz.prog orcG4 := wkO_ok (ks_ok orcVa_ok)
noncomputable def askG4 : Asks := skipA 6 (skipA 26 askVa)
theorem askG4_ok : AsksOk orcG4 askG4 := skipA_ok (skipA_ok askVa_ok)
end Go.Proofs.YtfkiiacbchbgdaaGreatDoor
