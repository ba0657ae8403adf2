/-
  OWN WORK. Stage 6: the law of bounds of two traces.
-/
import Derived.Test.YtihnnmejkpddeaaGreatDoorJdMO
import Derived.Test.YtihnnmejkpddeaaGreatDoorWk6
/-! (OWN WORK. Stage 6: the law of bounds of two traces, carried out.) -/
namespace Go.Proofs.YtihnnmejkpddeaaGreatDoor
open Go Go.Am

def isRv (_ : List V4) (r : List Value) : Prop := r = [rtV (agP r)]
noncomputable abbrev bfO (a : List V4) (_ : List Value) : Out := .plain (.tuple #[bdsV (0, 0) (0, 0) false, gi (pavE a [])])
noncomputable abbrev beO (b : List V4) (_ : List Value) : Out := .plain (.tuple #[bdsV (0, 0) (0, 0) false, gi (pavE [] b)])
noncomputable abbrev bnO (_ : List Value) : Out := .plain (.tuple #[bdsV (0, 0) (0, 0) false, gi 12])
theorem bad_vf (a : List V4) (r : List Int) : firstS (pavE a [] :: r) = pavE a [] := firstS_bad (pav_fe a)
theorem bad_ve (b : List V4) (r : List Int) : firstS (pavE [] b :: r) = pavE [] b := firstS_bad (pav_ef b)
theorem no_vf (a : List V4) (r : List Int) : (!(ieq (firstS (pavE a [] :: r)) 0)) = true := by rw [bad_vf, ieq_ne (pav_fe a)]; rfl
theorem no_ve (b : List V4) (r : List Int) : (!(ieq (firstS (pavE [] b :: r)) 0)) = true := by rw [bad_ve, ieq_ne (pav_ef b)]; rfl
set_option maxRecDepth 100000 in
theorem bfe_ok {orc : Orc} (ho : OrcOk Tryz.prog orc) : OrcOk Tryz.prog (orElse 57 (anyO Tryz.prog.globals.size (feX tvT isRv bfO)) orc) := by
  refine feO_ok ho (fun _ _ _ => rfl) ?_
  rintro v a m k e row r hv hl h1 hr
  have hr : r = [rtV (agP r)] := hr
  generalize agP r = x at hr
  subst hr
  rcases hv with rfl | ⟨q, rfl⟩
  · refine callC_ok mixed orcVf_ok askVf_ok (Eq.mpr (bc_fn a x.1 x.2 m e row k _) ?_)
    rw [decW]
    exact ⟨⟨cellsV_flat a, trivial⟩, okV hl h1, rfl, rfl, no_vf _ _, by rw [bad_vf]; rfl⟩
  · refine callC_ok mixed orcVf_ok askVf_ok (Eq.mpr (bc_fe a x.1 x.2 m e row k q _) ?_)
    rw [decW]
    exact ⟨⟨cellsV_flat a, trivial⟩, okV hl h1, rfl, rfl, no_vf _ _, by rw [bad_vf]; rfl⟩
set_option maxRecDepth 100000 in
theorem bef_ok {orc : Orc} (ho : OrcOk Tryz.prog orc) : OrcOk Tryz.prog (orElse 57 (anyO Tryz.prog.globals.size (efX tvT isRv beO)) orc) := by
  refine efO_ok ho (fun _ _ _ => rfl) ?_
  rintro v a m k e row r hv hl h1 hr
  have hr : r = [rtV (agP r)] := hr
  generalize agP r = x at hr
  subst hr
  rcases hv with rfl | ⟨q, rfl⟩
  · refine callC_ok mixed orcVe_ok askVe_ok (Eq.mpr (bc_nf a x.1 x.2 m e row k _) ?_)
    rw [decW]
    exact ⟨⟨cellsV_flat a, trivial⟩, okV hl h1, rfl, rfl, no_ve _ _, by rw [bad_ve]; rfl⟩
  · refine callC_ok mixed orcVe_ok askVe_ok (Eq.mpr (bc_ef a x.1 x.2 m e row k q _) ?_)
    rw [decW]
    exact ⟨⟨cellsV_flat a, trivial⟩, okV hl h1, rfl, rfl, no_ve _ _, by rw [bad_ve]; rfl⟩
set_option maxRecDepth 100000 in
theorem bee_ok {orc : Orc} (ho : OrcOk Tryz.prog orc) : OrcOk Tryz.prog (orElse 57 (anyO Tryz.prog.globals.size (eeX isR0 bnO)) orc) := by
  refine eeO_ok ho (fun _ _ => rfl) ?_
  rintro v w r hv hw hr
  have hr : r = [rtV (agP r)] := hr
  generalize agP r = x at hr
  subst hr
  rcases hv with rfl | ⟨p, rfl⟩ <;> rcases hw with rfl | ⟨q, rfl⟩
  · exact callC_ok mixed orcKd_ok (askKd_ok 0) (Eq.mpr (bc_nn x.1 x.2 _) ⟨rfl, rfl⟩)
  · exact callC_ok mixed orcKd_ok (askKd_ok 0) (Eq.mpr (bc_ne x.1 x.2 q _) ⟨rfl, rfl⟩)
  · exact callC_ok mixed orcKd_ok (askKd_ok 0) (Eq.mpr (bc_en x.1 x.2 p _) ⟨rfl, rfl⟩)
  · exact callC_ok mixed orcKd_ok (askKd_ok 0) (Eq.mpr (bc_ee x.1 x.2 p q _) ⟨rfl, rfl⟩)
noncomputable def orcMf : Orc := wkO (orElse 58 (s2Oo tvT tvT rbCn rbO) (orElse 57 (s2Oo tvT tvT bcC bcO) orcKc))
theorem orcMf_ok : OrcOk Tryz.prog orcMf := wkO_ok (rbf_ok (bcf_ok orcKc_ok))
noncomputable def askMf (z : Bool) : Asks := skipA 13 (asksV Tryz.prog.globals.size 58 (s2AY tvT tvT rbCn rbO) (asksV Tryz.prog.globals.size 57 (s2AY tvT tvT (fun x y r => bcC x y r ∧ ieq (comE x y (agP r).1 (agP r).2) 0 = z) (fun x y r => .plain (bcV z x y (agP r).1 (agP r).2))) (askKc 0)))
theorem askMf_ok (z : Bool) : AsksOk orcMf (askMf z) := skipA_ok (asksV_ok (s2A_ok fun _ _ _ h => ⟨h, rfl⟩) (asksV_ok (s2A_ok fun x y r h => ⟨h.1, by rw [← h.2]⟩) (askKc_ok 0)))
noncomputable def orcM1 : Orc := wkO (orElse 57 (anyO Tryz.prog.globals.size (feX tvT isRv bfO)) orcKc)
theorem orcM1_ok : OrcOk Tryz.prog orcM1 := wkO_ok (bfe_ok orcKc_ok)
noncomputable def askM1 : Asks := skipA 13 (asksV Tryz.prog.globals.size 57 (feAY tvT isRv bfO) (askKc 0))
theorem askM1_ok : AsksOk orcM1 askM1 := skipA_ok (asksV_ok (feA_ok fun _ _ h => ⟨h, rfl⟩) (askKc_ok 0))
noncomputable def orcM2 : Orc := wkO (orElse 57 (anyO Tryz.prog.globals.size (efX tvT isRv beO)) orcKc)
theorem orcM2_ok : OrcOk Tryz.prog orcM2 := wkO_ok (bef_ok orcKc_ok)
noncomputable def askM2 : Asks := skipA 13 (asksV Tryz.prog.globals.size 57 (efAY tvT isRv beO) (askKc 0))
theorem askM2_ok : AsksOk orcM2 askM2 := skipA_ok (asksV_ok (efA_ok fun _ _ h => ⟨h, rfl⟩) (askKc_ok 0))
noncomputable def orcM0 : Orc := wkO (orElse 57 (anyO Tryz.prog.globals.size (eeX isR0 bnO)) orcKc)
theorem orcM0_ok : OrcOk Tryz.prog orcM0 := wkO_ok (bee_ok orcKc_ok)
noncomputable def askM0 : Asks := skipA 13 (asksV Tryz.prog.globals.size 57 (eeAY isR0 bnO) (askKc 0))
theorem askM0_ok : AsksOk orcM0 askM0 := skipA_ok (asksV_ok eeA_ok (askKc_ok 0))
noncomputable def eqBd (l h : P2) (o : Bool) (l' h' : P2) (o' : Bool) : Bool := (ieq l.1 l'.1 && (ieq l.2 l'.2 && true)) && ((ieq h.1 h'.1 && (ieq h.2 h'.2 && true)) && ((o == o') && true))
noncomputable abbrev vB (es : Nat → TypeId) : AHeap := base tabs6 es Tryz.prog.globals.size
noncomputable abbrev vI (h : AHeap) (l : List V4) (e : TypeId) (row : Nat) : AHeap := h.push (.cells (cellsV l) e row true)
noncomputable abbrev vD (h : AHeap) : AHeap := h.push .dead
noncomputable abbrev liV (u v : Int) : Value := .agg #[gi u, gi v]
theorem jn_na (es : Nat → TypeId) (a b : List V4) (m k e row m' k' e' row' : Nat) (u v : Int) (K : Value → Prop) : callC Tryz.prog (exec Tryz.prog orcMf 40) (syOf [(15, 7), (18, 31)]) (askMf true) (noLoops _) 60 8 #[liP (m + 1) k, slQ (m' + 1) k', liV u v] (vI (vI (vB es) a e row) b e' row') (fun v _ => K v) = (((List.all (cellsV a) (flat 3) = true ∧ True) ∧ (!(shB (m + 1))) = true ∧ K (Value.bool true))) := by kernel_rfl
theorem jn_nb (es : Nat → TypeId) (a b : List V4) (m k e row m' k' e' row' : Nat) (u v : Int) (K : Value → Prop) : callC Tryz.prog (exec Tryz.prog orcMf 40) (syOf [(15, 7), (18, 32), (20, 7), (22, 31)]) (askMf true) (noLoops _) 60 8 #[liP (m + 1) k, slQ (m' + 1) k', liV u v] (vI (vI (vB es) a e row) b e' row') (fun v _ => K v) = (((List.all (cellsV a) (flat 3) = true ∧ True) ∧ (!(shB (m + 1))) = false ∧ (List.all (cellsV b) (flat 3) = true ∧ True) ∧ (!(shB (m' + 1))) = true ∧ K (Value.bool true))) := by kernel_rfl
theorem jn_0 (es : Nat → TypeId) (a b : List V4) (m k e row m' k' e' row' : Nat) (u v : Int) (K : Value → Prop) : callC Tryz.prog (exec Tryz.prog orcMf 40) (syOf [(15, 7), (18, 32), (20, 7), (22, 32), (26, 7), (28, 7), (30, 7), (34, 7), (36, 7), (48, 32)]) (askMf false) (noLoops _) 60 8 #[liP (m + 1) k, slQ (m' + 1) k', liV u v] (vI (vI (vB es) a e row) b e' row') (fun v _ => K v) = (((List.all (cellsV a) (flat 3) = true ∧ True) ∧ (!(shB (m + 1))) = false ∧ (List.all (cellsV b) (flat 3) = true ∧ True) ∧ (!(shB (m' + 1))) = false ∧ Value.agg #[gi u, gi v] = Value.agg #[gi u, gi v] ∧ (List.all (cellsV a) (flat 3) = true ∧ True) ∧ okT tvT (cellsV a) (m + 1) ∧ clV (TellT.dec tvT (cellsV a)) [] ∧ [gi 0, gi 0, gi 0, gi 0, Value.bool false] = [gi 0, gi 0, gi 0, gi 0, Value.bool false] ∧ Value.agg #[gi u, gi v] = Value.agg #[gi u, gi v] ∧ (List.all (cellsV b) (flat 3) = true ∧ True) ∧ okT tvT (cellsV b) (m' + 1) ∧ clV (TellT.dec tvT (cellsV b)) [] ∧ [gi 0, gi 0, gi 0, gi 0, Value.bool false] = [gi 0, gi 0, gi 0, gi 0, Value.bool false] ∧ Value.agg #[gi u, gi v] = Value.agg #[gi u, gi v] ∧ (List.all (cellsV (TellT.dec tvT (cellsV a))) (flat 3) = true ∧ List.all (cellsV (TellT.dec tvT (cellsV b))) (flat 3) = true ∧ True) ∧ okT tvT (cellsV (TellT.dec tvT (cellsV a))) (m + 1) ∧ okT tvT (cellsV (TellT.dec tvT (cellsV b))) (m' + 1) ∧ (bcC (TellT.dec tvT (cellsV (TellT.dec tvT (cellsV a)))) (TellT.dec tvT (cellsV (TellT.dec tvT (cellsV b)))) [Value.agg #[gi u, gi v]] ∧ ieq (comE (TellT.dec tvT (cellsV (TellT.dec tvT (cellsV a)))) (TellT.dec tvT (cellsV (TellT.dec tvT (cellsV b)))) u v) 0 = false) ∧ [gi 0, gi 0, gi 0, gi 0, Value.bool false] = [gi 0, gi 0, gi 0, gi 0, Value.bool false] ∧ (List.all (cellsV a) (flat 3) = true ∧ True) ∧ okT tvT (cellsV a) (m + 1) ∧ nonC (TellT.dec tvT (cellsV a)) [] ∧ Value.agg #[gi u, gi v] = Value.agg #[gi u, gi v] ∧ goN (m' + 1) = goN (m' + 1) ∧ goN (m + 1) = goN (m + 1) ∧ (List.all (cellsV b) (flat 3) = true ∧ True) ∧ okT tvT (cellsV b) (m' + 1) ∧ nonC (TellT.dec tvT (cellsV b)) [] ∧ Value.agg #[gi u, gi v] = Value.agg #[gi u, gi v] ∧ goN (m' + 1) = goN (m' + 1) ∧ goN (m + 1) = goN (m + 1) ∧ Value.agg #[gi u, gi v] = Value.agg #[gi u, gi v] ∧ ieq (firstS [traE (TellT.dec tvT (cellsV a)), traE (TellT.dec tvT (cellsV b)), whenS (!(ieq (Int.ofNat (m + 1)) (Int.ofNat (m' + 1)))) 2, limE u v]) 0 = false ∧ K (Value.bool (ieq (comE (TellT.dec tvT (cellsV (TellT.dec tvT (cellsV a)))) (TellT.dec tvT (cellsV (TellT.dec tvT (cellsV b)))) u v) (firstS [traE (TellT.dec tvT (cellsV a)), traE (TellT.dec tvT (cellsV b)), whenS (!(ieq (Int.ofNat (m + 1)) (Int.ofNat (m' + 1)))) 2, limE u v]))))) := by kernel_rfl
theorem jn_1 (es : Nat → TypeId) (a b : List V4) (m k e row k' e' row' : Nat) (u v : Int) (K : Value → Prop) : callC Tryz.prog (exec Tryz.prog orcMf 40) (syOf [(15, 7), (18, 32), (20, 7), (22, 32), (26, 7), (28, 7), (30, 7), (34, 7), (36, 7), (48, 31), (52, 7), (55, 34)]) (askMf true) (noLoops _) 60 8 #[liP (m + 1) k, slQ (m + 1) k', liV u v] (vI (vI (vB es) a e row) b e' row') (fun v _ => K v) = (((List.all (cellsV a) (flat 3) = true ∧ True) ∧ (!(shB (m + 1))) = false ∧ (List.all (cellsV b) (flat 3) = true ∧ True) ∧ (!(shB (m + 1))) = false ∧ Value.agg #[gi u, gi v] = Value.agg #[gi u, gi v] ∧ (List.all (cellsV a) (flat 3) = true ∧ True) ∧ okT tvT (cellsV a) (m + 1) ∧ clV (TellT.dec tvT (cellsV a)) [] ∧ [gi 0, gi 0, gi 0, gi 0, Value.bool false] = [gi 0, gi 0, gi 0, gi 0, Value.bool false] ∧ Value.agg #[gi u, gi v] = Value.agg #[gi u, gi v] ∧ (List.all (cellsV b) (flat 3) = true ∧ True) ∧ okT tvT (cellsV b) (m + 1) ∧ clV (TellT.dec tvT (cellsV b)) [] ∧ [gi 0, gi 0, gi 0, gi 0, Value.bool false] = [gi 0, gi 0, gi 0, gi 0, Value.bool false] ∧ Value.agg #[gi u, gi v] = Value.agg #[gi u, gi v] ∧ (List.all (cellsV (TellT.dec tvT (cellsV a))) (flat 3) = true ∧ List.all (cellsV (TellT.dec tvT (cellsV b))) (flat 3) = true ∧ True) ∧ okT tvT (cellsV (TellT.dec tvT (cellsV a))) (m + 1) ∧ okT tvT (cellsV (TellT.dec tvT (cellsV b))) (m + 1) ∧ (bcC (TellT.dec tvT (cellsV (TellT.dec tvT (cellsV a)))) (TellT.dec tvT (cellsV (TellT.dec tvT (cellsV b)))) [Value.agg #[gi u, gi v]] ∧ ieq (comE (TellT.dec tvT (cellsV (TellT.dec tvT (cellsV a)))) (TellT.dec tvT (cellsV (TellT.dec tvT (cellsV b)))) u v) 0 = true) ∧ [gi 0, gi 0, gi 0, gi 0, Value.bool false] = [gi 0, gi 0, gi 0, gi 0, Value.bool false] ∧ (List.all (cellsV a) (flat 3) = true ∧ True) ∧ okT tvT (cellsV a) (m + 1) ∧ nonC (TellT.dec tvT (cellsV a)) [] ∧ Value.agg #[gi u, gi v] = Value.agg #[gi u, gi v] ∧ goN (m + 1) = goN (m + 1) ∧ goN (m + 1) = goN (m + 1) ∧ (List.all (cellsV b) (flat 3) = true ∧ True) ∧ okT tvT (cellsV b) (m + 1) ∧ nonC (TellT.dec tvT (cellsV b)) [] ∧ Value.agg #[gi u, gi v] = Value.agg #[gi u, gi v] ∧ goN (m + 1) = goN (m + 1) ∧ goN (m + 1) = goN (m + 1) ∧ Value.agg #[gi u, gi v] = Value.agg #[gi u, gi v] ∧ ieq (firstS [traE (TellT.dec tvT (cellsV a)), traE (TellT.dec tvT (cellsV b)), whenS (!(ieq (Int.ofNat (m + 1)) (Int.ofNat (m + 1)))) 2, limE u v]) 0 = true ∧ (List.all (cellsV a) (flat 3) = true ∧ List.all (cellsV b) (flat 3) = true ∧ True) ∧ okT tvT (cellsV a) (m + 1) ∧ okT tvT (cellsV b) (m + 1) ∧ rbCn (TellT.dec tvT (cellsV a)) (TellT.dec tvT (cellsV b)) [Value.agg #[gi u, gi v]] ∧ Value.bool (eqBd (bsP (rbLo (TellT.dec tvT (cellsV (TellT.dec tvT (cellsV a)))) (TellT.dec tvT (cellsV (TellT.dec tvT (cellsV b)))) u v)).1 (bsP (rbHi (TellT.dec tvT (cellsV (TellT.dec tvT (cellsV a)))) (TellT.dec tvT (cellsV (TellT.dec tvT (cellsV b)))) u v)).1 (rbOp (TellT.dec tvT (cellsV (TellT.dec tvT (cellsV a)))) (TellT.dec tvT (cellsV (TellT.dec tvT (cellsV b))))) (bsP (rbLo (TellT.dec tvT (cellsV a)) (TellT.dec tvT (cellsV b)) u v)).1 (bsP (rbHi (TellT.dec tvT (cellsV a)) (TellT.dec tvT (cellsV b)) u v)).1 (rbOp (TellT.dec tvT (cellsV a)) (TellT.dec tvT (cellsV b)))) = Value.bool true ∧ K (Value.bool (ieq 0 (firstS [traE (TellT.dec tvT (cellsV a)), traE (TellT.dec tvT (cellsV b)), whenS (!(ieq (Int.ofNat (m + 1)) (Int.ofNat (m + 1)))) 2, limE u v]))))) := by kernel_rfl
theorem jn_fn1 (es : Nat → TypeId) (a : List V4) (m k e row : Nat) (u v : Int) (K : Value → Prop) : callC Tryz.prog (exec Tryz.prog orcM1 40) (syOf [(15, 7), (18, 31)]) askM1 (noLoops _) 60 8 #[liP (m + 1) k, nilS, liV u v] (vI (vB es) a e row) (fun v _ => K v) = (((List.all (cellsV a) (flat 3) = true ∧ True) ∧ (!(shB (m + 1))) = true ∧ K (Value.bool true))) := by kernel_rfl
theorem jn_fn0 (es : Nat → TypeId) (a : List V4) (m k e row : Nat) (u v : Int) (K : Value → Prop) : callC Tryz.prog (exec Tryz.prog orcM1 40) (syOf [(15, 7), (18, 32), (26, 7), (30, 7), (34, 7), (48, 32)]) askM1 (noLoops _) 60 8 #[liP (m + 1) k, nilS, liV u v] (vI (vB es) a e row) (fun v _ => K v) = (((List.all (cellsV a) (flat 3) = true ∧ True) ∧ (!(shB (m + 1))) = false ∧ Value.agg #[gi u, gi v] = Value.agg #[gi u, gi v] ∧ (List.all (cellsV a) (flat 3) = true ∧ True) ∧ okT tvT (cellsV a) (m + 1) ∧ clV (TellT.dec tvT (cellsV a)) [] ∧ [gi 0, gi 0, gi 0, gi 0, Value.bool false] = [gi 0, gi 0, gi 0, gi 0, Value.bool false] ∧ Value.agg #[gi u, gi v] = Value.agg #[gi u, gi v] ∧ [gi 0, gi 0, gi 0, gi 0, Value.bool false] = [gi 0, gi 0, gi 0, gi 0, Value.bool false] ∧ Value.agg #[gi u, gi v] = Value.agg #[gi u, gi v] ∧ (List.all (cellsV (TellT.dec tvT (cellsV a))) (flat 3) = true ∧ True) ∧ okT tvT (cellsV (TellT.dec tvT (cellsV a))) (m + 1) ∧ isRv (TellT.dec tvT (cellsV (TellT.dec tvT (cellsV a)))) [Value.agg #[gi u, gi v]] ∧ [gi 0, gi 0, gi 0, gi 0, Value.bool false] = [gi 0, gi 0, gi 0, gi 0, Value.bool false] ∧ (List.all (cellsV a) (flat 3) = true ∧ True) ∧ okT tvT (cellsV a) (m + 1) ∧ nonC (TellT.dec tvT (cellsV a)) [] ∧ Value.agg #[gi u, gi v] = Value.agg #[gi u, gi v] ∧ gi 0 = gi 0 ∧ goN (m + 1) = goN (m + 1) ∧ Value.agg #[gi u, gi v] = Value.agg #[gi u, gi v] ∧ gi 0 = gi 0 ∧ goN (m + 1) = goN (m + 1) ∧ Value.agg #[gi u, gi v] = Value.agg #[gi u, gi v] ∧ ieq (firstS [traE (TellT.dec tvT (cellsV a)), 12, whenS (!(ieq (Int.ofNat (m + 1)) 0)) 2, limE u v]) 0 = false ∧ K (Value.bool (ieq (pavE (TellT.dec tvT (cellsV (TellT.dec tvT (cellsV a)))) []) (firstS [traE (TellT.dec tvT (cellsV a)), 12, whenS (!(ieq (Int.ofNat (m + 1)) 0)) 2, limE u v]))))) := by kernel_rfl
theorem jn_fe1 (es : Nat → TypeId) (a : List V4) (m k e row : Nat) (q : Nat) (u v : Int) (K : Value → Prop) : callC Tryz.prog (exec Tryz.prog orcM1 40) (syOf [(15, 7), (18, 31)]) askM1 (noLoops _) 60 8 #[liP (m + 1) k, .slice (some ⟨Tryz.prog.globals.size + 1, 0, none⟩) 0 q, liV u v] (vD (vI (vB es) a e row)) (fun v _ => K v) = (((List.all (cellsV a) (flat 3) = true ∧ True) ∧ (!(shB (m + 1))) = true ∧ K (Value.bool true))) := by kernel_rfl
theorem jn_fe0 (es : Nat → TypeId) (a : List V4) (m k e row : Nat) (q : Nat) (u v : Int) (K : Value → Prop) : callC Tryz.prog (exec Tryz.prog orcM1 40) (syOf [(15, 7), (18, 32), (26, 7), (30, 7), (34, 7), (48, 32)]) askM1 (noLoops _) 60 8 #[liP (m + 1) k, .slice (some ⟨Tryz.prog.globals.size + 1, 0, none⟩) 0 q, liV u v] (vD (vI (vB es) a e row)) (fun v _ => K v) = (((List.all (cellsV a) (flat 3) = true ∧ True) ∧ (!(shB (m + 1))) = false ∧ Value.agg #[gi u, gi v] = Value.agg #[gi u, gi v] ∧ (List.all (cellsV a) (flat 3) = true ∧ True) ∧ okT tvT (cellsV a) (m + 1) ∧ clV (TellT.dec tvT (cellsV a)) [] ∧ [gi 0, gi 0, gi 0, gi 0, Value.bool false] = [gi 0, gi 0, gi 0, gi 0, Value.bool false] ∧ Value.agg #[gi u, gi v] = Value.agg #[gi u, gi v] ∧ [gi 0, gi 0, gi 0, gi 0, Value.bool false] = [gi 0, gi 0, gi 0, gi 0, Value.bool false] ∧ Value.agg #[gi u, gi v] = Value.agg #[gi u, gi v] ∧ (List.all (cellsV (TellT.dec tvT (cellsV a))) (flat 3) = true ∧ True) ∧ okT tvT (cellsV (TellT.dec tvT (cellsV a))) (m + 1) ∧ isRv (TellT.dec tvT (cellsV (TellT.dec tvT (cellsV a)))) [Value.agg #[gi u, gi v]] ∧ [gi 0, gi 0, gi 0, gi 0, Value.bool false] = [gi 0, gi 0, gi 0, gi 0, Value.bool false] ∧ (List.all (cellsV a) (flat 3) = true ∧ True) ∧ okT tvT (cellsV a) (m + 1) ∧ nonC (TellT.dec tvT (cellsV a)) [] ∧ Value.agg #[gi u, gi v] = Value.agg #[gi u, gi v] ∧ gi 0 = gi 0 ∧ goN (m + 1) = goN (m + 1) ∧ Value.agg #[gi u, gi v] = Value.agg #[gi u, gi v] ∧ gi 0 = gi 0 ∧ goN (m + 1) = goN (m + 1) ∧ Value.agg #[gi u, gi v] = Value.agg #[gi u, gi v] ∧ ieq (firstS [traE (TellT.dec tvT (cellsV a)), 12, whenS (!(ieq (Int.ofNat (m + 1)) 0)) 2, limE u v]) 0 = false ∧ K (Value.bool (ieq (pavE (TellT.dec tvT (cellsV (TellT.dec tvT (cellsV a)))) []) (firstS [traE (TellT.dec tvT (cellsV a)), 12, whenS (!(ieq (Int.ofNat (m + 1)) 0)) 2, limE u v]))))) := by kernel_rfl
theorem jn_nf1 (es : Nat → TypeId) (a : List V4) (m k e row : Nat) (u v : Int) (K : Value → Prop) : callC Tryz.prog (exec Tryz.prog orcM2 40) (syOf [(20, 7), (22, 31)]) askM2 (noLoops _) 60 8 #[nilS, liP (m + 1) k, liV u v] (vI (vB es) a e row) (fun v _ => K v) = (((List.all (cellsV a) (flat 3) = true ∧ True) ∧ (!(shB (m + 1))) = true ∧ K (Value.bool true))) := by kernel_rfl
theorem jn_nf0 (es : Nat → TypeId) (a : List V4) (m k e row : Nat) (u v : Int) (K : Value → Prop) : callC Tryz.prog (exec Tryz.prog orcM2 40) (syOf [(20, 7), (22, 32), (28, 7), (30, 7), (36, 7), (48, 32)]) askM2 (noLoops _) 60 8 #[nilS, liP (m + 1) k, liV u v] (vI (vB es) a e row) (fun v _ => K v) = (((List.all (cellsV a) (flat 3) = true ∧ True) ∧ (!(shB (m + 1))) = false ∧ Value.agg #[gi u, gi v] = Value.agg #[gi u, gi v] ∧ [gi 0, gi 0, gi 0, gi 0, Value.bool false] = [gi 0, gi 0, gi 0, gi 0, Value.bool false] ∧ Value.agg #[gi u, gi v] = Value.agg #[gi u, gi v] ∧ (List.all (cellsV a) (flat 3) = true ∧ True) ∧ okT tvT (cellsV a) (m + 1) ∧ clV (TellT.dec tvT (cellsV a)) [] ∧ [gi 0, gi 0, gi 0, gi 0, Value.bool false] = [gi 0, gi 0, gi 0, gi 0, Value.bool false] ∧ Value.agg #[gi u, gi v] = Value.agg #[gi u, gi v] ∧ (List.all (cellsV (TellT.dec tvT (cellsV a))) (flat 3) = true ∧ True) ∧ okT tvT (cellsV (TellT.dec tvT (cellsV a))) (m + 1) ∧ isRv (TellT.dec tvT (cellsV (TellT.dec tvT (cellsV a)))) [Value.agg #[gi u, gi v]] ∧ [gi 0, gi 0, gi 0, gi 0, Value.bool false] = [gi 0, gi 0, gi 0, gi 0, Value.bool false] ∧ Value.agg #[gi u, gi v] = Value.agg #[gi u, gi v] ∧ goN (m + 1) = goN (m + 1) ∧ gi 0 = gi 0 ∧ (List.all (cellsV a) (flat 3) = true ∧ True) ∧ okT tvT (cellsV a) (m + 1) ∧ nonC (TellT.dec tvT (cellsV a)) [] ∧ Value.agg #[gi u, gi v] = Value.agg #[gi u, gi v] ∧ goN (m + 1) = goN (m + 1) ∧ gi 0 = gi 0 ∧ Value.agg #[gi u, gi v] = Value.agg #[gi u, gi v] ∧ ieq (firstS [12, traE (TellT.dec tvT (cellsV a)), whenS (!(ieq 0 (Int.ofNat (m + 1)))) 2, limE u v]) 0 = false ∧ K (Value.bool (ieq (pavE [] (TellT.dec tvT (cellsV (TellT.dec tvT (cellsV a))))) (firstS [12, traE (TellT.dec tvT (cellsV a)), whenS (!(ieq 0 (Int.ofNat (m + 1)))) 2, limE u v]))))) := by kernel_rfl
theorem jn_ef1 (es : Nat → TypeId) (a : List V4) (m k e row : Nat) (q : Nat) (u v : Int) (K : Value → Prop) : callC Tryz.prog (exec Tryz.prog orcM2 40) (syOf [(20, 7), (22, 31)]) askM2 (noLoops _) 60 8 #[.slice (some ⟨Tryz.prog.globals.size, 0, none⟩) 0 q, slQ (m + 1) k, liV u v] (vI (vD (vB es)) a e row) (fun v _ => K v) = (((List.all (cellsV a) (flat 3) = true ∧ True) ∧ (!(shB (m + 1))) = true ∧ K (Value.bool true))) := by kernel_rfl
theorem jn_ef0 (es : Nat → TypeId) (a : List V4) (m k e row : Nat) (q : Nat) (u v : Int) (K : Value → Prop) : callC Tryz.prog (exec Tryz.prog orcM2 40) (syOf [(20, 7), (22, 32), (28, 7), (30, 7), (36, 7), (48, 32)]) askM2 (noLoops _) 60 8 #[.slice (some ⟨Tryz.prog.globals.size, 0, none⟩) 0 q, slQ (m + 1) k, liV u v] (vI (vD (vB es)) a e row) (fun v _ => K v) = (((List.all (cellsV a) (flat 3) = true ∧ True) ∧ (!(shB (m + 1))) = false ∧ Value.agg #[gi u, gi v] = Value.agg #[gi u, gi v] ∧ [gi 0, gi 0, gi 0, gi 0, Value.bool false] = [gi 0, gi 0, gi 0, gi 0, Value.bool false] ∧ Value.agg #[gi u, gi v] = Value.agg #[gi u, gi v] ∧ (List.all (cellsV a) (flat 3) = true ∧ True) ∧ okT tvT (cellsV a) (m + 1) ∧ clV (TellT.dec tvT (cellsV a)) [] ∧ [gi 0, gi 0, gi 0, gi 0, Value.bool false] = [gi 0, gi 0, gi 0, gi 0, Value.bool false] ∧ Value.agg #[gi u, gi v] = Value.agg #[gi u, gi v] ∧ (List.all (cellsV (TellT.dec tvT (cellsV a))) (flat 3) = true ∧ True) ∧ okT tvT (cellsV (TellT.dec tvT (cellsV a))) (m + 1) ∧ isRv (TellT.dec tvT (cellsV (TellT.dec tvT (cellsV a)))) [Value.agg #[gi u, gi v]] ∧ [gi 0, gi 0, gi 0, gi 0, Value.bool false] = [gi 0, gi 0, gi 0, gi 0, Value.bool false] ∧ Value.agg #[gi u, gi v] = Value.agg #[gi u, gi v] ∧ goN (m + 1) = goN (m + 1) ∧ gi 0 = gi 0 ∧ (List.all (cellsV a) (flat 3) = true ∧ True) ∧ okT tvT (cellsV a) (m + 1) ∧ nonC (TellT.dec tvT (cellsV a)) [] ∧ Value.agg #[gi u, gi v] = Value.agg #[gi u, gi v] ∧ goN (m + 1) = goN (m + 1) ∧ gi 0 = gi 0 ∧ Value.agg #[gi u, gi v] = Value.agg #[gi u, gi v] ∧ ieq (firstS [12, traE (TellT.dec tvT (cellsV a)), whenS (!(ieq 0 (Int.ofNat (m + 1)))) 2, limE u v]) 0 = false ∧ K (Value.bool (ieq (pavE [] (TellT.dec tvT (cellsV (TellT.dec tvT (cellsV a))))) (firstS [12, traE (TellT.dec tvT (cellsV a)), whenS (!(ieq 0 (Int.ofNat (m + 1)))) 2, limE u v]))))) := by kernel_rfl
theorem jn_nn (es : Nat → TypeId) (u v : Int) (K : Value → Prop) : callC Tryz.prog (exec Tryz.prog orcM0 40) (syOf [(30, 7), (48, 32)]) askM0 (noLoops _) 60 8 #[nilS, nilS, liV u v] (vB es) (fun v _ => K v) = ((Value.agg #[gi u, gi v] = Value.agg #[gi u, gi v] ∧ [gi 0, gi 0, gi 0, gi 0, Value.bool false] = [gi 0, gi 0, gi 0, gi 0, Value.bool false] ∧ Value.agg #[gi u, gi v] = Value.agg #[gi u, gi v] ∧ [gi 0, gi 0, gi 0, gi 0, Value.bool false] = [gi 0, gi 0, gi 0, gi 0, Value.bool false] ∧ Value.agg #[gi u, gi v] = Value.agg #[gi u, gi v] ∧ True ∧ isR0 [Value.agg #[gi u, gi v]] ∧ [gi 0, gi 0, gi 0, gi 0, Value.bool false] = [gi 0, gi 0, gi 0, gi 0, Value.bool false] ∧ Value.agg #[gi u, gi v] = Value.agg #[gi u, gi v] ∧ gi 0 = gi 0 ∧ gi 0 = gi 0 ∧ Value.agg #[gi u, gi v] = Value.agg #[gi u, gi v] ∧ gi 0 = gi 0 ∧ gi 0 = gi 0 ∧ Value.agg #[gi u, gi v] = Value.agg #[gi u, gi v] ∧ ieq (firstS [12, 12, 0, limE u v]) 0 = false ∧ K (Value.bool (ieq 12 (firstS [12, 12, 0, limE u v]))))) := by kernel_rfl
theorem jn_ne (es : Nat → TypeId) (q : Nat) (u v : Int) (K : Value → Prop) : callC Tryz.prog (exec Tryz.prog orcM0 40) (syOf [(30, 7), (48, 32)]) askM0 (noLoops _) 60 8 #[nilS, .slice (some ⟨Tryz.prog.globals.size, 0, none⟩) 0 q, liV u v] (vD (vB es)) (fun v _ => K v) = ((Value.agg #[gi u, gi v] = Value.agg #[gi u, gi v] ∧ [gi 0, gi 0, gi 0, gi 0, Value.bool false] = [gi 0, gi 0, gi 0, gi 0, Value.bool false] ∧ Value.agg #[gi u, gi v] = Value.agg #[gi u, gi v] ∧ [gi 0, gi 0, gi 0, gi 0, Value.bool false] = [gi 0, gi 0, gi 0, gi 0, Value.bool false] ∧ Value.agg #[gi u, gi v] = Value.agg #[gi u, gi v] ∧ True ∧ isR0 [Value.agg #[gi u, gi v]] ∧ [gi 0, gi 0, gi 0, gi 0, Value.bool false] = [gi 0, gi 0, gi 0, gi 0, Value.bool false] ∧ Value.agg #[gi u, gi v] = Value.agg #[gi u, gi v] ∧ gi 0 = gi 0 ∧ gi 0 = gi 0 ∧ Value.agg #[gi u, gi v] = Value.agg #[gi u, gi v] ∧ gi 0 = gi 0 ∧ gi 0 = gi 0 ∧ Value.agg #[gi u, gi v] = Value.agg #[gi u, gi v] ∧ ieq (firstS [12, 12, 0, limE u v]) 0 = false ∧ K (Value.bool (ieq 12 (firstS [12, 12, 0, limE u v]))))) := by kernel_rfl
theorem jn_en (es : Nat → TypeId) (p : Nat) (u v : Int) (K : Value → Prop) : callC Tryz.prog (exec Tryz.prog orcM0 40) (syOf [(30, 7), (48, 32)]) askM0 (noLoops _) 60 8 #[.slice (some ⟨Tryz.prog.globals.size, 0, none⟩) 0 p, nilS, liV u v] (vD (vB es)) (fun v _ => K v) = ((Value.agg #[gi u, gi v] = Value.agg #[gi u, gi v] ∧ [gi 0, gi 0, gi 0, gi 0, Value.bool false] = [gi 0, gi 0, gi 0, gi 0, Value.bool false] ∧ Value.agg #[gi u, gi v] = Value.agg #[gi u, gi v] ∧ [gi 0, gi 0, gi 0, gi 0, Value.bool false] = [gi 0, gi 0, gi 0, gi 0, Value.bool false] ∧ Value.agg #[gi u, gi v] = Value.agg #[gi u, gi v] ∧ True ∧ isR0 [Value.agg #[gi u, gi v]] ∧ [gi 0, gi 0, gi 0, gi 0, Value.bool false] = [gi 0, gi 0, gi 0, gi 0, Value.bool false] ∧ Value.agg #[gi u, gi v] = Value.agg #[gi u, gi v] ∧ gi 0 = gi 0 ∧ gi 0 = gi 0 ∧ Value.agg #[gi u, gi v] = Value.agg #[gi u, gi v] ∧ gi 0 = gi 0 ∧ gi 0 = gi 0 ∧ Value.agg #[gi u, gi v] = Value.agg #[gi u, gi v] ∧ ieq (firstS [12, 12, 0, limE u v]) 0 = false ∧ K (Value.bool (ieq 12 (firstS [12, 12, 0, limE u v]))))) := by kernel_rfl
theorem jn_ee (es : Nat → TypeId) (p q : Nat) (u v : Int) (K : Value → Prop) : callC Tryz.prog (exec Tryz.prog orcM0 40) (syOf [(30, 7), (48, 32)]) askM0 (noLoops _) 60 8 #[.slice (some ⟨Tryz.prog.globals.size, 0, none⟩) 0 p, .slice (some ⟨Tryz.prog.globals.size + 1, 0, none⟩) 0 q, liV u v] (vD (vD (vB es))) (fun v _ => K v) = ((Value.agg #[gi u, gi v] = Value.agg #[gi u, gi v] ∧ [gi 0, gi 0, gi 0, gi 0, Value.bool false] = [gi 0, gi 0, gi 0, gi 0, Value.bool false] ∧ Value.agg #[gi u, gi v] = Value.agg #[gi u, gi v] ∧ [gi 0, gi 0, gi 0, gi 0, Value.bool false] = [gi 0, gi 0, gi 0, gi 0, Value.bool false] ∧ Value.agg #[gi u, gi v] = Value.agg #[gi u, gi v] ∧ True ∧ isR0 [Value.agg #[gi u, gi v]] ∧ [gi 0, gi 0, gi 0, gi 0, Value.bool false] = [gi 0, gi 0, gi 0, gi 0, Value.bool false] ∧ Value.agg #[gi u, gi v] = Value.agg #[gi u, gi v] ∧ gi 0 = gi 0 ∧ gi 0 = gi 0 ∧ Value.agg #[gi u, gi v] = Value.agg #[gi u, gi v] ∧ gi 0 = gi 0 ∧ gi 0 = gi 0 ∧ Value.agg #[gi u, gi v] = Value.agg #[gi u, gi v] ∧ ieq (firstS [12, 12, 0, limE u v]) 0 = false ∧ K (Value.bool (ieq 12 (firstS [12, 12, 0, limE u v]))))) := by kernel_rfl
end Go.Proofs.YtihnnmejkpddeaaGreatDoor
/-! (OWN WORK. Stage 6: the law of bounds of two traces: true for all traces and limits.) -/
namespace Go.Proofs.YtihnnmejkpddeaaGreatDoor
open Go Go.Am

theorem shB_z {m : Nat} (h : shB (m + 1) = true) : m + 1 ≤ 40 ∨ m + 1 = 129 := by
  unfold shB at h
  rw [ilt_say, ieq_dec] at h
  by_cases h1 : m + 1 ≤ 40
  · exact .inl h1
  · rw [decide_eq_true (show (40 : Int) < Int.ofNat (m + 1) by simp only [Int.ofNat_eq_natCast]; omega)] at h
    have h := of_decide_eq_true h
    simp only [Int.ofNat_eq_natCast] at h
    exact .inr (by omega)
theorem fs4 (x y z w : Int) : firstS [x, y, z, w] = firstS [firstS [x, y, z], w] := by
  cases hx : ieq x 0 with
  | false =>
    show (bif ieq x 0 then _ else x) = (bif ieq (bif ieq x 0 then _ else x) 0 then _ else (bif ieq x 0 then _ else x))
    rw [hx]
    show x = (bif ieq x 0 then _ else x)
    rw [hx]; rfl
  | true =>
    show (bif ieq x 0 then firstS [y, z, w] else x) = (bif ieq (bif ieq x 0 then firstS [y, z] else x) 0 then firstS [w] else (bif ieq x 0 then firstS [y, z] else x))
    rw [hx]
    show firstS [y, z, w] = (bif ieq (firstS [y, z]) 0 then firstS [w] else firstS [y, z])
    cases hy : ieq y 0 with
    | false =>
      show (bif ieq y 0 then _ else y) = (bif ieq (bif ieq y 0 then _ else y) 0 then _ else (bif ieq y 0 then _ else y))
      rw [hy]
      show y = (bif ieq y 0 then _ else y)
      rw [hy]; rfl
    | true =>
      show (bif ieq y 0 then firstS [z, w] else y) = (bif ieq (bif ieq y 0 then firstS [z] else y) 0 then firstS [w] else (bif ieq y 0 then firstS [z] else y))
      rw [hy]
      show firstS [z, w] = (bif ieq (firstS [z]) 0 then firstS [w] else firstS [z])
      rw [firstS_one z]; rfl
theorem com4 (a b : List V4) (u v : Int) {m m' : Nat} (hl : a.length = m + 1) (hl' : b.length = m' + 1) : firstS [traE a, traE b, whenS (!(ieq (Int.ofNat (m + 1)) (Int.ofNat (m' + 1)))) 2, limE u v] = comE a b u v := by
  rw [fs4]; unfold comE pavE; rw [hl, hl']
theorem fe4 (a : List V4) (u v : Int) {m : Nat} (hl : a.length = m + 1) : firstS [traE a, 12, whenS (!(ieq (Int.ofNat (m + 1)) 0)) 2, limE u v] = pavE a [] := by
  rw [fs4, pav_nil a hl, bad_vf]
theorem ef4 (a : List V4) (u v : Int) {m : Nat} (hl : a.length = m + 1) : firstS [12, traE a, whenS (!(ieq 0 (Int.ofNat (m + 1)))) 2, limE u v] = pavE [] a := by
  rw [fs4, nil_pav a hl, bad_ve]
theorem eqBd_self (l h : P2) (o : Bool) : eqBd l h o l h o = true := by
  unfold eqBd
  rw [ieq_self, ieq_self, ieq_self, ieq_self]
  cases o <;> rfl
theorem bcC_sh {a b : List V4} {m : Nat} (hl : a.length = m + 1) (u v : Int) (h : m + 1 ≤ 40 ∨ m + 1 = 129) : bcC a b [.agg #[gi u, gi v]] := by
  refine ⟨rfl, fun h0 => ?_⟩
  have h0 : comE a b u v = 0 := h0
  have := (com_zero h0).1.2.2.2
  omega
theorem val_eq {x y : Int} (h : x = y) : Value.bool (ieq x y) = Value.bool true := by rw [h, ieq_self]
section
variable (es : Nat → TypeId) (u v : Int)
set_option maxRecDepth 100000 in
theorem joint_nn : CallJ Tryz.prog 8 #[nilS, nilS, liV u v] (vB es) (fun v _ => v = .bool true) := by
  refine callC_ok mixed orcM0_ok askM0_ok (Eq.mpr (jn_nn es u v _) ?_)
  rw [firstS_bad (r := [12, 0, limE u v]) (show (12 : Int) ≠ 0 by decide)]
  exact ⟨rfl, rfl, rfl, rfl, rfl, trivial, rfl, rfl, rfl, rfl, rfl, rfl, rfl, rfl, rfl, rfl, rfl⟩
set_option maxRecDepth 100000 in
theorem joint_ne (q : Nat) : CallJ Tryz.prog 8 #[nilS, .slice (some ⟨Tryz.prog.globals.size, 0, none⟩) 0 q, liV u v] (vD (vB es)) (fun v _ => v = .bool true) := by
  refine callC_ok mixed orcM0_ok askM0_ok (Eq.mpr (jn_ne es q u v _) ?_)
  rw [firstS_bad (r := [12, 0, limE u v]) (show (12 : Int) ≠ 0 by decide)]
  exact ⟨rfl, rfl, rfl, rfl, rfl, trivial, rfl, rfl, rfl, rfl, rfl, rfl, rfl, rfl, rfl, rfl, rfl⟩
set_option maxRecDepth 100000 in
theorem joint_en (p : Nat) : CallJ Tryz.prog 8 #[.slice (some ⟨Tryz.prog.globals.size, 0, none⟩) 0 p, nilS, liV u v] (vD (vB es)) (fun v _ => v = .bool true) := by
  refine callC_ok mixed orcM0_ok askM0_ok (Eq.mpr (jn_en es p u v _) ?_)
  rw [firstS_bad (r := [12, 0, limE u v]) (show (12 : Int) ≠ 0 by decide)]
  exact ⟨rfl, rfl, rfl, rfl, rfl, trivial, rfl, rfl, rfl, rfl, rfl, rfl, rfl, rfl, rfl, rfl, rfl⟩
set_option maxRecDepth 100000 in
theorem joint_ee (p q : Nat) : CallJ Tryz.prog 8 #[.slice (some ⟨Tryz.prog.globals.size, 0, none⟩) 0 p, .slice (some ⟨Tryz.prog.globals.size + 1, 0, none⟩) 0 q, liV u v] (vD (vD (vB es))) (fun v _ => v = .bool true) := by
  refine callC_ok mixed orcM0_ok askM0_ok (Eq.mpr (jn_ee es p q u v _) ?_)
  rw [firstS_bad (r := [12, 0, limE u v]) (show (12 : Int) ≠ 0 by decide)]
  exact ⟨rfl, rfl, rfl, rfl, rfl, trivial, rfl, rfl, rfl, rfl, rfl, rfl, rfl, rfl, rfl, rfl, rfl⟩
set_option maxRecDepth 100000 in
theorem joint_fn (a : List V4) (k e row : Nat) (h0 : 0 < a.length) : CallJ Tryz.prog 8 #[liP a.length k, nilS, liV u v] (vI (vB es) a e row) (fun v _ => v = .bool true) := by
  obtain ⟨m, hl⟩ : ∃ m, a.length = m + 1 := ⟨a.length - 1, by omega⟩
  rw [hl]
  cases hs : shB (m + 1) with
  | false => exact callC_ok mixed orcM1_ok askM1_ok (Eq.mpr (jn_fn1 es a m k e row u v _) ⟨⟨cellsV_flat a, trivial⟩, by rw [hs]; rfl, rfl⟩)
  | true =>
    have h1 := shB_z hs
    have oa := okV hl (by omega)
    have ns : (!(shB (m + 1))) = false := by rw [hs]; rfl
    refine callC_ok mixed orcM1_ok askM1_ok (Eq.mpr (jn_fn0 es a m k e row u v _) ?_)
    repeat rw [decW]
    rw [fe4 a u v hl]
    exact ⟨⟨cellsV_flat a, trivial⟩, ns, rfl, ⟨cellsV_flat a, trivial⟩, oa, rfl, rfl, rfl, rfl, rfl, ⟨cellsV_flat a, trivial⟩, oa, rfl, rfl, ⟨cellsV_flat a, trivial⟩, oa, rfl, rfl, rfl, rfl, rfl, rfl, rfl, rfl, ieq_ne (pav_fe a), val_eq rfl⟩
set_option maxRecDepth 100000 in
theorem joint_fe (q : Nat) (a : List V4) (k e row : Nat) (h0 : 0 < a.length) : CallJ Tryz.prog 8 #[liP a.length k, .slice (some ⟨Tryz.prog.globals.size + 1, 0, none⟩) 0 q, liV u v] (vD (vI (vB es) a e row)) (fun v _ => v = .bool true) := by
  obtain ⟨m, hl⟩ : ∃ m, a.length = m + 1 := ⟨a.length - 1, by omega⟩
  rw [hl]
  cases hs : shB (m + 1) with
  | false => exact callC_ok mixed orcM1_ok askM1_ok (Eq.mpr (jn_fe1 es a m k e row q u v _) ⟨⟨cellsV_flat a, trivial⟩, by rw [hs]; rfl, rfl⟩)
  | true =>
    have h1 := shB_z hs
    have oa := okV hl (by omega)
    have ns : (!(shB (m + 1))) = false := by rw [hs]; rfl
    refine callC_ok mixed orcM1_ok askM1_ok (Eq.mpr (jn_fe0 es a m k e row q u v _) ?_)
    repeat rw [decW]
    rw [fe4 a u v hl]
    exact ⟨⟨cellsV_flat a, trivial⟩, ns, rfl, ⟨cellsV_flat a, trivial⟩, oa, rfl, rfl, rfl, rfl, rfl, ⟨cellsV_flat a, trivial⟩, oa, rfl, rfl, ⟨cellsV_flat a, trivial⟩, oa, rfl, rfl, rfl, rfl, rfl, rfl, rfl, rfl, ieq_ne (pav_fe a), val_eq rfl⟩
set_option maxRecDepth 100000 in
theorem joint_nf (a : List V4) (k e row : Nat) (h0 : 0 < a.length) : CallJ Tryz.prog 8 #[nilS, liP a.length k, liV u v] (vI (vB es) a e row) (fun v _ => v = .bool true) := by
  obtain ⟨m, hl⟩ : ∃ m, a.length = m + 1 := ⟨a.length - 1, by omega⟩
  rw [hl]
  cases hs : shB (m + 1) with
  | false => exact callC_ok mixed orcM2_ok askM2_ok (Eq.mpr (jn_nf1 es a m k e row u v _) ⟨⟨cellsV_flat a, trivial⟩, by rw [hs]; rfl, rfl⟩)
  | true =>
    have h1 := shB_z hs
    have oa := okV hl (by omega)
    have ns : (!(shB (m + 1))) = false := by rw [hs]; rfl
    refine callC_ok mixed orcM2_ok askM2_ok (Eq.mpr (jn_nf0 es a m k e row u v _) ?_)
    repeat rw [decW]
    rw [ef4 a u v hl]
    exact ⟨⟨cellsV_flat a, trivial⟩, ns, rfl, rfl, rfl, ⟨cellsV_flat a, trivial⟩, oa, rfl, rfl, rfl, ⟨cellsV_flat a, trivial⟩, oa, rfl, rfl, rfl, rfl, rfl, ⟨cellsV_flat a, trivial⟩, oa, rfl, rfl, rfl, rfl, rfl, ieq_ne (pav_ef a), val_eq rfl⟩
set_option maxRecDepth 100000 in
theorem joint_ef (q : Nat) (a : List V4) (k e row : Nat) (h0 : 0 < a.length) : CallJ Tryz.prog 8 #[.slice (some ⟨Tryz.prog.globals.size, 0, none⟩) 0 q, slQ a.length k, liV u v] (vI (vD (vB es)) a e row) (fun v _ => v = .bool true) := by
  obtain ⟨m, hl⟩ : ∃ m, a.length = m + 1 := ⟨a.length - 1, by omega⟩
  rw [hl]
  cases hs : shB (m + 1) with
  | false => exact callC_ok mixed orcM2_ok askM2_ok (Eq.mpr (jn_ef1 es a m k e row q u v _) ⟨⟨cellsV_flat a, trivial⟩, by rw [hs]; rfl, rfl⟩)
  | true =>
    have h1 := shB_z hs
    have oa := okV hl (by omega)
    have ns : (!(shB (m + 1))) = false := by rw [hs]; rfl
    refine callC_ok mixed orcM2_ok askM2_ok (Eq.mpr (jn_ef0 es a m k e row q u v _) ?_)
    repeat rw [decW]
    rw [ef4 a u v hl]
    exact ⟨⟨cellsV_flat a, trivial⟩, ns, rfl, rfl, rfl, ⟨cellsV_flat a, trivial⟩, oa, rfl, rfl, rfl, ⟨cellsV_flat a, trivial⟩, oa, rfl, rfl, rfl, rfl, rfl, ⟨cellsV_flat a, trivial⟩, oa, rfl, rfl, rfl, rfl, rfl, ieq_ne (pav_ef a), val_eq rfl⟩
set_option maxRecDepth 100000 in
theorem joint_ff (a b : List V4) (k e row k' e' row' : Nat) (h0 : 0 < a.length) (h0' : 0 < b.length) : CallJ Tryz.prog 8 #[liP a.length k, slQ b.length k', liV u v] (vI (vI (vB es) a e row) b e' row') (fun v _ => v = .bool true) := by
  obtain ⟨m, hl⟩ : ∃ m, a.length = m + 1 := ⟨a.length - 1, by omega⟩
  obtain ⟨m', hl'⟩ : ∃ m', b.length = m' + 1 := ⟨b.length - 1, by omega⟩
  rw [hl, hl']
  cases hs : shB (m + 1) with
  | false => exact callC_ok mixed orcMf_ok (askMf_ok true) (Eq.mpr (jn_na es a b m k e row m' k' e' row' u v _) ⟨⟨cellsV_flat a, trivial⟩, by rw [hs]; rfl, rfl⟩)
  | true =>
  have h1 := shB_z hs
  have oa := okV hl (by omega)
  have nsa : (!(shB (m + 1))) = false := by rw [hs]; rfl
  cases hs' : shB (m' + 1) with
  | false => exact callC_ok mixed orcMf_ok (askMf_ok true) (Eq.mpr (jn_nb es a b m k e row m' k' e' row' u v _) ⟨⟨cellsV_flat a, trivial⟩, nsa, ⟨cellsV_flat b, trivial⟩, by rw [hs']; rfl, rfl⟩)
  | true =>
  have h1' := shB_z hs'
  have ob := okV hl' (by omega)
  have nsb : (!(shB (m' + 1))) = false := by rw [hs']; rfl
  have bC := bcC_sh (b := b) hl u v h1
  cases hc : ieq (comE a b u v) 0 with
  | false =>
    refine callC_ok mixed orcMf_ok (askMf_ok false) (Eq.mpr (jn_0 es a b m k e row m' k' e' row' u v _) ?_)
    repeat rw [decW]
    rw [com4 a b u v hl hl']
    exact ⟨⟨cellsV_flat a, trivial⟩, nsa, ⟨cellsV_flat b, trivial⟩, nsb, rfl, ⟨cellsV_flat a, trivial⟩, oa, rfl, rfl, rfl, ⟨cellsV_flat b, trivial⟩, ob, rfl, rfl, rfl, ⟨cellsV_flat a, cellsV_flat b, trivial⟩, oa, ob, ⟨bC, hc⟩, rfl, ⟨cellsV_flat a, trivial⟩, oa, rfl, rfl, rfl, rfl, ⟨cellsV_flat b, trivial⟩, ob, rfl, rfl, rfl, rfl, rfl, hc, val_eq rfl⟩
  | true =>
    have cz : comE a b u v = 0 := by rw [ieq_dec] at hc; exact of_decide_eq_true hc
    obtain ⟨⟨va, vb, hab, _⟩, hu, hv⟩ := com_zero cz
    obtain rfl : m' = m := by omega
    refine callC_ok mixed orcMf_ok (askMf_ok true) (Eq.mpr (jn_1 es a b m' k e row k' e' row' u v _) ?_)
    repeat rw [decW]
    rw [com4 a b u v hl hl']
    exact ⟨⟨cellsV_flat a, trivial⟩, nsa, ⟨cellsV_flat b, trivial⟩, nsb, rfl, ⟨cellsV_flat a, trivial⟩, oa, rfl, rfl, rfl, ⟨cellsV_flat b, trivial⟩, ob, rfl, rfl, rfl, ⟨cellsV_flat a, cellsV_flat b, trivial⟩, oa, ob, ⟨bC, hc⟩, rfl, ⟨cellsV_flat a, trivial⟩, oa, rfl, rfl, rfl, rfl, ⟨cellsV_flat b, trivial⟩, ob, rfl, rfl, rfl, rfl, rfl, hc, ⟨cellsV_flat a, cellsV_flat b, trivial⟩, oa, ob, ⟨rfl, hab, rb_ok va vb hu hv⟩, by rw [eqBd_self], val_eq cz.symm⟩
end
end Go.Proofs.YtihnnmejkpddeaaGreatDoor
