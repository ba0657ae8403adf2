/-
  OWN WORK. Stage 6: errors, places, copies and checks of traces as known calls.
-/
import Derived.Test.YtihnnmejkpddeaaGreatDoorJdDE
import Derived.Test.YtihnnmejkpddeaaGreatDoorJcPX
/-! (OWN WORK. Stage 6: errors, places and copies of traces as known calls.) -/
namespace Go.Proofs.YtihnnmejkpddeaaGreatDoor
open Go Go.Am

noncomputable def traE (l : List V4) : Int := firstS [cnE (Int.ofNat l.length) 128, firstE ctF l]
theorem tra_no {l : List V4} {m : Nat} (hl : l.length = m + 1) (h : (!(ieq (cnE (Int.ofNat (m + 1)) 128) 0)) = true) : traE l = cnE (Int.ofNat (m + 1)) 128 := by
  unfold traE
  rw [hl]
  show (bif ieq (cnE (Int.ofNat (m + 1)) 128) 0 then _ else _) = _
  rw [not_ieqT h]; rfl
theorem tra_go {l : List V4} {m : Nat} (hl : l.length = m + 1) (h : (!(ieq (cnE (Int.ofNat (m + 1)) 128) 0)) = false) : traE l = firstE ctF l := by
  unfold traE
  rw [hl]
  show (bif ieq (cnE (Int.ofNat (m + 1)) 128) 0 then firstS [firstE ctF l] else _) = _
  rw [not_ieqF h, firstS_one]; rfl
def clV (_ : List V4) (r : List Value) : Prop := r = []
noncomputable abbrev evO (_ : Nat) (l : List V4) (_ : List Value) : Out := .plain (gi (firstE ctF l))
noncomputable abbrev traO (_ : Nat) (l : List V4) (_ : List Value) : Out := .plain (gi (traE l))
noncomputable abbrev ixvO (_ : Nat) (l : List V4) (_ : List Value) : Out := .plain (gi (idxB opF l 0))
noncomputable abbrev valO (n : Nat) (l : List V4) (_ : List Value) : Out := .wide (slM n) (cellsV l) 174 5
noncomputable def orcKc : Orc := orElse 49 (anyO Tryz.prog.globals.size shX) (orElse 51 (s1O tvT clV valO) (orElse 165 (s1O tvT (oneC cIo) ixvO) (orElse 53 (s1O tvT nonC traO) (orElse 129 (s1O tvT (oneC cCt1) evO) orcKb))))
set_option maxRecDepth 100000 in
theorem orcKc_ok : OrcOk Tryz.prog orcKc := by
  refine anyO_ok globs_pos (s1O_ok (s1O_ok (s1O_ok (s1O_ok orcKb_ok (fun _ _ _ _ => rfl) ?_) (fun _ _ _ _ => rfl) ?_) (fun _ _ _ _ => rfl) ?_) (fun _ _ _ _ => ⟨names_sl _, cellsV_flat _⟩) ?_) fun vs B o h _ => ?_
  · rintro l m k e row r hl h1 rfl
    exact callC_ok mixed orcKb_ok (askKb_ok 0) (Eq.mpr (ev_run l m e row k _) ⟨rfl, rfl, rfl, rfl, rfl, rfl, by kernel_rfl, ⟨hl, h1⟩, fun h _ _ => by show gi 0 = gi (firstE ctF l); rw [h], fun _ _ => rfl⟩)
  · rintro l m k e row r hl h1 rfl
    refine callC_ok mixed orcKb_ok (askKb_ok 0) (Eq.mpr (rtr_run l m e row k _) ⟨fun h => ?_, fun h => ?_⟩)
    · show gi (cnE (Int.ofNat (m + 1)) 128) = gi (traE l)
      rw [tra_no hl h]
    · exact ⟨rfl, rfl, rfl, rfl, by kernel_rfl, ⟨hl, h1⟩, fun h' _ _ => by show gi 0 = gi (traE l); rw [tra_go hl h, h'], fun _ _ => by show gi (firstE ctF l) = gi (traE l); rw [tra_go hl h]⟩
  · rintro l m k e row r hl h1 rfl
    exact callC_ok mixed orcKb_ok (askKb_ok 0) (Eq.mpr (ixv_run l m e row k _) ⟨rfl, rfl, rfl, rfl, rfl, rfl, rfl, ⟨hl, h1⟩, fun h _ => by show gi (-1) = gi (idxB opF l 0); rw [h], fun _ => rfl⟩)
  · rintro l m k e row r hl h1 rfl
    exact callC_ok mixed orcKb_ok (askKb_ok 0) (Eq.mpr (va_run l m e row k _) ⟨rfl, rfl, rfl, rfl, rfl, by kernel_rfl, ⟨hl, by omega, h1⟩, fun _ => ⟨nG1 + 1, rfl, by show _ = _; kernel_rfl⟩⟩)
  · rcases s1Y_inv (z := (none : Option Out)) (f := fun _ n r => match r with
      | [] => some (.plain (.bool (shB n)))
      | _ => none) (vs := vs) (B := B) with q | ⟨c, n, k, e, row, r, rfl, rfl⟩
    · unfold shX at h; have h := q.symm.trans h; cases h
    unfold shX at h
    rw [s1Y_at] at h
    match r, h with
    | [], h =>
    cases h
    refine ⟨rfl, ?_⟩
    cases hs : (!(ilt 40 (Int.ofNat n))) with
    | true =>
      refine callC_ok mixed orcKb_ok (askKb_ok 0) (Eq.mpr (stt_1 c n k e row _) ⟨hs, ?_⟩)
      show Value.bool true = .bool (shB n)
      unfold shB; rw [hs]; rfl
    | false =>
      refine callC_ok mixed orcKb_ok (askKb_ok 0) (Eq.mpr (stt_0 c n k e row _) ⟨hs, ?_⟩)
      show Value.bool _ = .bool (shB n)
      unfold shB; rw [hs]; rfl
noncomputable def askKc (n : Nat) : Asks := asksV Tryz.prog.globals.size 49 shY (asksV Tryz.prog.globals.size 51 (s1AY tvT clV valO) (asksV Tryz.prog.globals.size 165 (s1AY tvT (oneC cIo) ixvO) (asksV Tryz.prog.globals.size 53 (s1AY tvT nonC traO) (asksV Tryz.prog.globals.size 129 (s1AY tvT (oneC cCt1) evO) (askKb n)))))
theorem askKc_ok (n : Nat) : AsksOk orcKc (askKc n) := asksV_ok shY_ok (asksV_ok (s1A_ok fun _ _ _ h => ⟨h, rfl⟩) (asksV_ok (s1A_ok fun _ _ _ h => ⟨h, rfl⟩) (asksV_ok (s1A_ok fun _ _ _ h => ⟨h, rfl⟩) (asksV_ok (s1A_ok fun _ _ _ h => ⟨h, rfl⟩) (askKb_ok n)))))
theorem okV {l : List V4} {m : Nat} (hl : l.length = m + 1) (h1 : m + 1 ≤ 65536) : okT tvT (cellsV l) (m + 1) := okT_of (T := tvT) hl (Nat.succ_pos m) h1
theorem decW (l : List V4) : TellT.dec tvT (cellsV l) = l := decV_cells l
noncomputable abbrev cCt : Value := clF 56
theorem ptr_run (l : List V4) (m e row k : Nat) (K : Value → Prop) : callC Tryz.prog (exec Tryz.prog orcKc 10) (syOf [(7, 7)]) (askKc 0) (noLoops _) 40 56 #[liP (m + 1) k] (liH (cellsV l) e row) (fun v _ => K v) = (((List.all (cellsV l) (flat 3) = true ∧ True) ∧ okT tvT (cellsV l) (m + 1) ∧ oneC cCt1 (TellT.dec tvT (cellsV l)) [Value.func (.func 130) #[] #[]] ∧ K (gi (firstS [cnE (Int.ofNat (m + 1)) 128, firstE ctF (TellT.dec tvT (cellsV l))])))) := by kernel_rfl
theorem cfn_run (l : List V4) (m e row k : Nat) (K : Value → Prop) : callC Tryz.prog (exec Tryz.prog orcKc 10) (syOf [(7, 7)]) (askKc 0) (noLoops _) 40 122 #[liP (m + 1) k, cIo] (liH (cellsV l) e row) (fun v _ => K v) = (((List.all (cellsV l) (flat 3) = true ∧ True) ∧ okT tvT (cellsV l) (m + 1) ∧ oneC cIo (TellT.dec tvT (cellsV l)) [cIo] ∧ K (Value.bool (!(ilt (idxB opF (TellT.dec tvT (cellsV l)) 0) 0))))) := by kernel_rfl
end Go.Proofs.YtihnnmejkpddeaaGreatDoor
/-! (OWN WORK. Stage 6: checks of traces as known calls; pairs of traces, carried out.) -/
namespace Go.Proofs.YtihnnmejkpddeaaGreatDoor
open Go Go.Am

noncomputable def conB (l : List V4) : Bool := !(ilt (idxB opF l 0) 0)
noncomputable abbrev conO (_ : Nat) (l : List V4) (_ : List Value) : Out := .plain (.bool (conB l))
noncomputable def orcKd : Orc := orElse 122 (s1O tvT (oneC cIo) conO) (orElse 56 (s1O tvT nonC traO) orcKc)
set_option maxRecDepth 100000 in
theorem orcKd_ok : OrcOk Tryz.prog orcKd := by
  refine s1O_ok (s1O_ok orcKc_ok (fun _ _ _ _ => rfl) ?_) (fun _ _ _ _ => rfl) ?_
  · rintro l m k e row r hl h1 rfl
    refine callC_ok mixed orcKc_ok (askKc_ok 0) (Eq.mpr (ptr_run l m e row k _) ⟨⟨cellsV_flat l, trivial⟩, okV hl h1, rfl, ?_⟩)
    rw [decW]
    show gi (firstS [cnE (Int.ofNat (m + 1)) 128, firstE ctF l]) = gi (traE l)
    unfold traE; rw [hl]
  · rintro l m k e row r hl h1 rfl
    refine callC_ok mixed orcKc_ok (askKc_ok 0) (Eq.mpr (cfn_run l m e row k _) ⟨⟨cellsV_flat l, trivial⟩, okV hl h1, rfl, ?_⟩)
    rw [decW]; rfl
noncomputable def askKd (n : Nat) : Asks := asksV Tryz.prog.globals.size 122 (s1AY tvT (oneC cIo) conO) (asksV Tryz.prog.globals.size 56 (s1AY tvT nonC traO) (askKc n))
theorem askKd_ok (n : Nat) : AsksOk orcKd (askKd n) := asksV_ok (s1A_ok fun _ _ _ h => ⟨h, rfl⟩) (asksV_ok (s1A_ok fun _ _ _ h => ⟨h, rfl⟩) (askKc_ok n))
noncomputable abbrev v2H (a : List V4) (e row : Nat) (b : List V4) (e' row' : Nat) : AHeap := canon Tryz.prog [(cellsV a, e, row), (cellsV b, e', row')]
theorem pv_ff (a b : List V4) (m e row k m' e' row' k' : Nat) (K : Value → Prop) : callC Tryz.prog (exec Tryz.prog orcKd 10) (syOf [(9, 7), (12, 7)]) (askKd 0) (noLoops _) 40 132 #[liP (m + 1) k, slQ (m' + 1) k', cCt] (v2H a e row b e' row') (fun v _ => K v) = (((List.all (cellsV a) (flat 3) = true ∧ True) ∧ okT tvT (cellsV a) (m + 1) ∧ nonC (TellT.dec tvT (cellsV a)) [] ∧ (List.all (cellsV b) (flat 3) = true ∧ True) ∧ okT tvT (cellsV b) (m' + 1) ∧ nonC (TellT.dec tvT (cellsV b)) [] ∧ K (gi (firstS [traE (TellT.dec tvT (cellsV a)), traE (TellT.dec tvT (cellsV b)), whenS (!(ieq (Int.ofNat (m + 1)) (Int.ofNat (m' + 1)))) 2])))) := by kernel_rfl
theorem pv_fn (a : List V4) (m e row k : Nat) (K : Value → Prop) : callC Tryz.prog (exec Tryz.prog orcKd 40) (syOf [(9, 7)]) (askKd 0) (noLoops _) 40 132 #[liP (m + 1) k, nilS, cCt] (liH (cellsV a) e row) (fun v _ => K v) = (((List.all (cellsV a) (flat 3) = true ∧ True) ∧ okT tvT (cellsV a) (m + 1) ∧ nonC (TellT.dec tvT (cellsV a)) [] ∧ K (gi (firstS [traE (TellT.dec tvT (cellsV a)), 12, whenS (!(ieq (Int.ofNat (m + 1)) 0)) 2])))) := by kernel_rfl
theorem pv_fe (a : List V4) (m e row k q : Nat) (K : Value → Prop) : callC Tryz.prog (exec Tryz.prog orcKd 40) (syOf [(9, 7)]) (askKd 0) (noLoops _) 40 132 #[liP (m + 1) k, emS q, cCt] (liH (cellsV a) e row) (fun v _ => K v) = (((List.all (cellsV a) (flat 3) = true ∧ True) ∧ okT tvT (cellsV a) (m + 1) ∧ nonC (TellT.dec tvT (cellsV a)) [] ∧ K (gi (firstS [traE (TellT.dec tvT (cellsV a)), 12, whenS (!(ieq (Int.ofNat (m + 1)) 0)) 2])))) := by kernel_rfl
theorem pv_nf (a : List V4) (m e row k : Nat) (K : Value → Prop) : callC Tryz.prog (exec Tryz.prog orcKd 40) (syOf [(12, 7)]) (askKd 0) (noLoops _) 40 132 #[nilS, liP (m + 1) k, cCt] (liH (cellsV a) e row) (fun v _ => K v) = (((List.all (cellsV a) (flat 3) = true ∧ True) ∧ okT tvT (cellsV a) (m + 1) ∧ nonC (TellT.dec tvT (cellsV a)) [] ∧ K (gi (firstS [12, traE (TellT.dec tvT (cellsV a)), whenS (!(ieq 0 (Int.ofNat (m + 1)))) 2])))) := by kernel_rfl
theorem pv_ef (a : List V4) (m e row k q : Nat) (K : Value → Prop) : callC Tryz.prog (exec Tryz.prog orcKd 40) (syOf [(12, 7)]) (askKd 0) (noLoops _) 40 132 #[emS q, liP (m + 1) k, cCt] (liH (cellsV a) e row) (fun v _ => K v) = (((List.all (cellsV a) (flat 3) = true ∧ True) ∧ okT tvT (cellsV a) (m + 1) ∧ nonC (TellT.dec tvT (cellsV a)) [] ∧ K (gi (firstS [12, traE (TellT.dec tvT (cellsV a)), whenS (!(ieq 0 (Int.ofNat (m + 1)))) 2])))) := by kernel_rfl
end Go.Proofs.YtihnnmejkpddeaaGreatDoor
