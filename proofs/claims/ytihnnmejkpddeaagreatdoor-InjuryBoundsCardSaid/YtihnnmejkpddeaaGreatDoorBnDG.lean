/-
  OWN WORK. Stage 6: bounds of the best window, carried out.
-/
import Derived.Test.YtihnnmejkpddeaaGreatDoorBnBB
import Derived.Test.YtihnnmejkpddeaaGreatDoorBnAC
import Derived.Test.YtihnnmejkpddeaaGreatDoorBsYZ
/-! (OWN WORK. Stage 6: traces with values out of range: known calls; the program's bounds of the best window, carried out.) -/
namespace Go.Proofs.YtihnnmejkpddeaaGreatDoor
open Go Go.Am
noncomputable def nmY {α : Type} (T : TellT α) (C : List α → List Value → Prop) (O : Nat → List α → List Value → Out) (vs : List Value) (B : List Cells) (K : Out → Prop) : Prop := s1Y False (fun cs n r => okT T cs n ∧ C (T.dec cs) r ∧ ∀ L : List α, T.dec cs = L → K (O n L r)) vs B
theorem nmY_ok {α : Type} (T : TellT α) (C : List α → List Value → Prop) (O : Nat → List α → List Value → Out) (vs : List Value) (B : List Cells) (K : Out → Prop) (h : nmY T C O vs B K) : ∃ o, s1X T C O vs B = some o ∧ K o := by
 unfold nmY at h
 rcases s1Y_inv (z := False) (f := fun cs n r => okT T cs n ∧ C (T.dec cs) r ∧ ∀ L : List α, T.dec cs = L → K (O n L r)) (vs := vs) (B := B) with q | ⟨cs, n, k, e, row, r, rfl, rfl⟩
 ·rw [q] at h; exact h.elim
 ·rw [s1Y_at] at h
  obtain ⟨h1, h2, h3⟩ := h
  unfold s1X
  rw [s1Y_at, if_pos ⟨h1, h2⟩]
  exact ⟨_, rfl, h3 _ rfl⟩
def mpC (l : List V4) (r : List Value) : Prop := (r = [cLs] ∨ r = [cHi]) ∧ l.length ≤ 40
noncomputable def mpG (r : List Value) : V4 → Int := match r with
 | [.func (.func f) _ _] => match Nat.beq f 120 with
  | true => lsF
  | false => hiF
 | _ => hiF
noncomputable abbrev mpO (n : Nat) (l : List V4) (r : List Value) : Out := .wide (slM n) ((l.map (mpG r)).map gi) 3 2
def s40C (l : List V4) (r : List Value) : Prop := r = [] ∧ l.length ≤ 40
noncomputable abbrev hisO (n : Nat) (l : List V4) (_ : List Value) : Out := .wide (slM n) ((l.map hiF).map gi) 3 2
noncomputable abbrev losO (n : Nat) (l : List V4) (_ : List Value) : Out := .wide (slM n) ((l.map loF).map gi) 3 2
noncomputable abbrev oxO (_ : Nat) (l : List V4) (_ : List Value) : Out := .plain (gi (idxB ovF l 0))
noncomputable abbrev ovO (_ : Nat) (l : List V4) (_ : List Value) : Out := .plain (.bool (ovR l l.length))
noncomputable abbrev cvO (_ : Nat) (l : List V4) (_ : List Value) : Out := .plain (.bool (ovR l l.length))
def unC (l : List V4) (r : List Value) : Prop := r = [agW (agN r).1 (agN r).2] ∧ (agN r).1 ≤ (agN r).2 ∧ (agN r).2 ≤ l.length
noncomputable abbrev unO (_ : Nat) (l : List V4) (r : List Value) : Out := .plain (.bool (unR l (agN r).1 ((agN r).2 - (agN r).1)))
noncomputable def orcN0 : Orc := liftO 56 orcKd (liftO 53 orcKd (liftO 51 orcKd (liftO 49 orcKd orcBd)))
theorem orcN0_ok : OrcOk Tryz.prog orcN0 := liftO_ok orcKd_ok (liftO_ok orcKd_ok (liftO_ok orcKd_ok (liftO_ok orcKd_ok orcBd_ok)))
noncomputable def orcN1 : Orc := orElse 165 (s1O tvT (oneC cOv) oxO) (orElse 128 (s1O tvT nonC ovO) (orElse 127 (s1O tvT unC unO) (orElse 119 (s1O tvT mpC mpO) (orElse 125 (s1O tvT s40C hisO) (orElse 126 (s1O tvT s40C losO) orcN0)))))
set_option maxRecDepth 100000 in
theorem orcN1_ok : OrcOk Tryz.prog orcN1 := by
 refine s1O_ok (s1O_ok (s1O_ok (s1O_ok (s1O_ok (s1O_ok orcN0_ok (fun _ _ _ _ => ⟨names_sl _, flat_ints _⟩) ?_) (fun _ _ _ _ => ⟨names_sl _, flat_ints _⟩) ?_) (fun _ _ _ _ => ⟨names_sl _, flat_ints _⟩) ?_) (fun _ _ _ _ => rfl) ?_) (fun _ _ _ _ => rfl) ?_) (fun _ _ _ _ => rfl) ?_
 ·rintro l m k e row r hl h1 ⟨rfl, h2⟩
  have p := rf_lo l (by omega) h2 e row k (fun v o => v = .slice (some ⟨nG1 + 2 * (m + 1), 0, none⟩) (m + 1) (m + 1) ∧ o = some (.cells ((l.map loF).map gi) 3 2 false))
  rw [hl] at p
  exact (CallJ.ofR mixed orcKb_ok (askKb_ok 0) (Eq.mpr p ⟨rfl, rfl⟩)).mono fun v h q => ⟨nG1 + 2 * (m + 1), q.1, q.2⟩
 ·rintro l m k e row r hl h1 ⟨rfl, h2⟩
  have p := rf_hi l (by omega) h2 e row k (fun v o => v = .slice (some ⟨nG1 + 2 * (m + 1), 0, none⟩) (m + 1) (m + 1) ∧ o = some (.cells ((l.map hiF).map gi) 3 2 false))
  rw [hl] at p
  exact (CallJ.ofR mixed orcKb_ok (askKb_ok 0) (Eq.mpr p ⟨rfl, rfl⟩)).mono fun v h q => ⟨nG1 + 2 * (m + 1), q.1, q.2⟩
 ·rintro l m k e row r hl h1 ⟨rfl | rfl, h2⟩
  ·have p := mv_ls l (by omega) h2 e row k (fun v o => v = .slice (some ⟨nG1 + 1, 0, none⟩) (m + 1) (m + 1) ∧ o = some (.cells ((l.map lsF).map gi) 3 2 false))
   rw [hl] at p
   exact (CallJ.ofR mixed orcKb_ok (askKb_ok 0) (Eq.mpr p ⟨rfl, rfl⟩)).mono fun v h q => ⟨nG1 + 1, q.1, q.2⟩
  ·have p := mv_hi l (by omega) h2 e row k (fun v o => v = .slice (some ⟨nG1 + 1, 0, none⟩) (m + 1) (m + 1) ∧ o = some (.cells ((l.map hiF).map gi) 3 2 false))
   rw [hl] at p
   exact (CallJ.ofR mixed orcKb_ok (askKb_ok 0) (Eq.mpr p ⟨rfl, rfl⟩)).mono fun v h q => ⟨nG1 + 1, q.1, q.2⟩
 ·rintro l m k e row r hl h1 ⟨hr, h2, h3⟩
  rw [hr] at h2 h3 ⊢
  generalize agN r = R at h2 h3 ⊢
  obtain ⟨p, q⟩ := R
  have h2 : p ≤ q := h2
  have h3 : q ≤ l.length := h3
  show CallJ Tryz.prog 127 #[liP (m + 1) k, agW p q] (liH (cellsV l) e row) (fun v _ => v = .bool (unR l p (q - p)))
  exact callC_ok mixed orcKb_ok (askKb_ok 0) (Eq.mpr (hun_run l m e row k p q _) ⟨rfl, rfl, rfl, rfl, rfl, by kernel_rfl, ⟨hl, h1, h2, by omega⟩, fun h _ => by rw [h], fun h _ => by rw [h]⟩)
 ·rintro l m k e row r hl h1 rfl
  exact callC_ok mixed orcKb_ok (askKb_ok 0) (Eq.mpr (hov_run l m e row k _) ⟨rfl, rfl, rfl, rfl, rfl, ⟨hl, h1⟩, fun h _ => by show Value.bool false = Value.bool (ovR l l.length); rw [hl, h], fun h _ => by show Value.bool true = Value.bool (ovR l l.length); rw [hl, h]⟩)
 ·rintro l m k e row r hl h1 rfl
  exact callC_ok mixed orcKb_ok (askKb_ok 0) (Eq.mpr (oxv_run l m e row k _) ⟨rfl, rfl, rfl, rfl, rfl, rfl, by kernel_rfl, ⟨hl, h1⟩, fun h _ _ => by show gi (-1) = gi (idxB ovF l 0); rw [h], fun _ _ => rfl⟩)
noncomputable def mpSY (r : List Value) (K : (V4 → Int) → Prop) : Prop := match r with
 | [.func (.func f) a b] => match a.toList with
  | [] => match b.toList with
   | [] => match Nat.beq f 120 with
    | true => K lsF
    | false => match Nat.beq f 121 with
     | true => K hiF
     | false => False
   | _ => False
  | _ => False
 | _ => False
theorem mpS_inv {r : List Value} {K : (V4 → Int) → Prop} (h : mpSY r K) : (r = [cLs] ∧ K lsF) ∨ (r = [cHi] ∧ K hiF) := by
 unfold mpSY at h
 split at h
 ·rename_i f a b
  split at h
  ·rename_i ha
   split at h
   ·rename_i hb
    have ea : a = #[] := Array.toList_inj.1 ha
    have eb : b = #[] := Array.toList_inj.1 hb
    subst ea eb
    split at h
    ·rename_i e
     have := Nat.eq_of_beq_eq_true e
     subst this
     exact .inl ⟨rfl, h⟩
    ·split at h
     ·rename_i e
      have := Nat.eq_of_beq_eq_true e
      subst this
      exact .inr ⟨rfl, h⟩
     ·exact h.elim
   ·exact h.elim
  ·exact h.elim
 ·exact h.elim
noncomputable def mapsY (vs : List Value) (B : List Cells) (K : Out → Prop) : Prop := s1Y False (fun cs n r => okT tvT cs n ∧ (TellT.dec tvT cs).length ≤ 40 ∧ mpSY r fun F => ∀ L : List V4, TellT.dec tvT cs = L → K (.wide (slM n) ((L.map F).map gi) 3 2)) vs B
theorem mapsY_ok (vs : List Value) (B : List Cells) (K : Out → Prop) (h : mapsY vs B K) : ∃ o, s1X tvT mpC mpO vs B = some o ∧ K o := by
 unfold mapsY at h
 rcases s1Y_inv (z := False) (f := fun cs n r => okT tvT cs n ∧ (TellT.dec tvT cs).length ≤ 40 ∧ mpSY r fun F => ∀ L : List V4, TellT.dec tvT cs = L → K (.wide (slM n) ((L.map F).map gi) 3 2)) (vs := vs) (B := B) with q | ⟨cs, n, k, e, row, r, rfl, rfl⟩
 ·rw [q] at h; exact h.elim
 ·rw [s1Y_at] at h
  obtain ⟨h1, h2, h3⟩ := h
  unfold s1X
  rcases mpS_inv h3 with ⟨rfl, h4⟩ | ⟨rfl, h4⟩
  ·rw [s1Y_at, if_pos ⟨h1, .inl rfl, h2⟩]
   exact ⟨_, rfl, h4 _ rfl⟩
  ·rw [s1Y_at, if_pos ⟨h1, .inr rfl, h2⟩]
   exact ⟨_, rfl, h4 _ rfl⟩
noncomputable def askN0 (p q lo hi : Nat) : Asks := liftA 56 (askKd 0) (liftA 53 (askKd 0) (liftA 51 (askKd 0) (liftA 49 (askKd 0) (askBd p q lo hi))))
noncomputable def askN1 (p q lo hi : Nat) : Asks := asksV Tryz.prog.globals.size 165 (nmY tvT (oneC cOv) oxO) (asksV Tryz.prog.globals.size 128 (nmY tvT nonC ovO) (asksV Tryz.prog.globals.size 127 (nmY tvT unC unO) (asksV Tryz.prog.globals.size 119 mapsY (asksV Tryz.prog.globals.size 125 (nmY tvT s40C hisO) (asksV Tryz.prog.globals.size 126 (nmY tvT s40C losO) (askN0 p q lo hi))))))
theorem askN1_ok (p q lo hi : Nat) : AsksOk orcN1 (askN1 p q lo hi) := asksV_ok (nmY_ok _ _ _) (asksV_ok (nmY_ok _ _ _) (asksV_ok (nmY_ok _ _ _) (asksV_ok mapsY_ok (asksV_ok (nmY_ok _ _ _) (asksV_ok (nmY_ok _ _ _) (liftA_ok (askKd_ok 0) (liftA_ok (askKd_ok 0) (liftA_ok (askKd_ok 0) (liftA_ok (askKd_ok 0) (askBd_ok p q lo hi))))))))))
theorem cov_run (l : List V4) (m e row k : Nat) (K : Value → Prop) : callC Tryz.prog (exec Tryz.prog orcN1 10) (syOf [(7, 7)]) (askN1 0 0 0 0) (noLoops _) 40 122 #[liP (m + 1) k, cOv] (liH (cellsV l) e row) (fun v _ => K v) = (((List.all (cellsV l) (flat 3) = true ∧ True) ∧ okT tvT (cellsV l) (m + 1) ∧ oneC cOv (TellT.dec tvT (cellsV l)) [cOv] ∧ (∀ y1 : List V4, (TellT.dec tvT (cellsV l) = y1 → K (Value.bool (!(ilt (idxB ovF y1 0) 0))))))) := by kernel_rfl
end Go.Proofs.YtihnnmejkpddeaaGreatDoor
/-! (OWN WORK. Stage 6: bounds of the best window: the program's, carried out; rounds of the reference's.) -/
namespace Go.Proofs.YtihnnmejkpddeaaGreatDoor
open Go Go.Am
noncomputable def orcN2 : Orc := orElse 122 (s1O tvT (oneC cOv) cvO) orcN1
set_option maxRecDepth 100000 in
theorem orcN2_ok : OrcOk Tryz.prog orcN2 := by
 refine s1O_ok orcN1_ok (fun _ _ _ _ => rfl) ?_
 rintro l m k e row r hl h1 rfl
 refine callC_ok mixed orcN1_ok (askN1_ok 0 0 0 0) (Eq.mpr (cov_run l m e row k _) ⟨⟨cellsV_flat l, trivial⟩, okV hl h1, rfl, fun L hL => ?_⟩)
 obtain rfl : l = L := by rw [← hL, decW]
 show Value.bool (!(ilt (idxB ovF l 0) 0)) = Value.bool (ovR l l.length)
 rw [idx_ov]
noncomputable def askN2 (p q lo hi : Nat) : Asks := asksV Tryz.prog.globals.size 122 (nmY tvT (oneC cOv) cvO) (askN1 p q lo hi)
theorem askN2_ok (p q lo hi : Nat) : AsksOk orcN2 (askN2 p q lo hi) := asksV_ok (nmY_ok _ _ _) (askN1_ok p q lo hi)
theorem pbb_e (l : List V4) (m k e row : Nat) (a b : Int) (K : Value → Prop) : callC Tryz.prog (exec Tryz.prog orcN2 40) (syOf [(8, 7), (19, 31)]) (askN2 0 0 0 0) (noLoops _) 60 50 #[liP (m + 1) k, .agg #[gi a, gi b]] (liH (cellsV l) e row) (fun v _ => K v) = (((List.all (cellsV l) (flat 3) = true ∧ True) ∧ okT tvT (cellsV l) (m + 1) ∧ nonC (TellT.dec tvT (cellsV l)) [] ∧ [gi a, gi b][0]? = Option.some (gi a) ∧ goN (m + 1) = goN (m + 1) ∧ Value.agg #[gi a, gi b] = Value.agg #[gi a, gi b] ∧ [gi a, gi b][0]? = Option.some (gi a) ∧ goN (m + 1) = goN (m + 1) ∧ (!(ieq (firstS [traE (TellT.dec tvT (cellsV l)), lnE a b, whenS (ilt (Int.ofNat (m + 1)) a) 16]) 0)) = true ∧ K (Value.tuple #[Value.agg (Array.mk (List.take 5 (List.drop 0 ([] ++ ([gi 0, gi 0, gi 0, gi 0, Value.bool false] ++ []))))), gi (firstS [traE (TellT.dec tvT (cellsV l)), lnE a b, whenS (ilt (Int.ofNat (m + 1)) a) 16])]))) := by kernel_rfl
theorem pbb_k (l : List V4) (m k e row lo hi : Nat) (K : Value → Prop) : callC Tryz.prog (exec Tryz.prog orcN2 40) (syOf [(8, 7), (19, 32), (23, 7), (25, 7), (28, 7), (30, 7), (33, 7)]) (askN2 0 0 lo hi) (noLoops _) 60 50 #[liP (m + 1) k, agW lo hi] (liH (cellsV l) e row) (fun v _ => K v) = (((List.all (cellsV l) (flat 3) = true ∧ True) ∧ okT tvT (cellsV l) (m + 1) ∧ nonC (TellT.dec tvT (cellsV l)) [] ∧ [goN lo, goN hi][0]? = Option.some (goN lo) ∧ goN (m + 1) = goN (m + 1) ∧ Value.agg #[goN lo, goN hi] = Value.agg #[goN lo, goN hi] ∧ [goN lo, goN hi][0]? = Option.some (goN lo) ∧ goN (m + 1) = goN (m + 1) ∧ (!(ieq (firstS [traE (TellT.dec tvT (cellsV l)), lnE (Int.ofNat lo) (Int.ofNat hi), whenS (Nat.blt (m + 1) lo) 16]) 0)) = false ∧ (List.all (cellsV l) (flat 3) = true ∧ True) ∧ okT tvT (cellsV l) (m + 1) ∧ (List.length (TellT.dec tvT (cellsV l)) : Nat) ≤ 40 ∧ (∀ y1 : List V4, (TellT.dec tvT (cellsV l) = y1 → (Value.agg #[goN lo, goN hi] = Value.agg #[goN lo, goN hi] ∧ Value.agg #[goN lo, goN hi] = Value.agg #[goN lo, goN hi] ∧ (List.all (List.map gi (List.map lsF y1)) (flat 3) = true ∧ True) ∧ ([Value.agg #[goN lo, goN hi]] = [agW lo hi] ∧ boOk (List.map gi (List.map lsF y1)) 2 (m + 1) (m + 1) lo hi) ∧ Value.agg #[goN lo, goN hi] = Value.agg #[goN lo, goN hi] ∧ (List.all (cellsV l) (flat 3) = true ∧ True) ∧ okT tvT (cellsV l) (m + 1) ∧ (List.length (TellT.dec tvT (cellsV l)) : Nat) ≤ 40 ∧ (∀ y2 : List V4, (TellT.dec tvT (cellsV l) = y2 → (Value.agg #[goN lo, goN hi] = Value.agg #[goN lo, goN hi] ∧ (List.all (List.map gi (List.map hiF y2)) (flat 3) = true ∧ True) ∧ ([Value.agg #[goN lo, goN hi]] = [agW lo hi] ∧ boOk (List.map gi (List.map hiF y2)) 2 (m + 1) (m + 1) lo hi) ∧ (List.all (cellsV l) (flat 3) = true ∧ True) ∧ okT tvT (cellsV l) (m + 1) ∧ oneC cOv (TellT.dec tvT (cellsV l)) [Value.func (.func 123) #[] #[]] ∧ (∀ y3 : List V4, (TellT.dec tvT (cellsV l) = y3 → K (Value.tuple #[Value.agg (Array.mk (List.take 5 (List.drop 0 ([] ++ ([gi (((bstW (List.map gi (List.map lsF y1)) lo hi (m + 1)).snd.snd.1)), gi (((bstW (List.map gi (List.map lsF y1)) lo hi (m + 1)).snd.snd.2)), gi (((bstW (List.map gi (List.map hiF y2)) lo hi (m + 1)).snd.snd.1)), gi (((bstW (List.map gi (List.map hiF y2)) lo hi (m + 1)).snd.snd.2)), Value.bool (ovR y3 (List.length y3))] ++ []))))), gi 0]))))))))))) := by kernel_rfl
noncomputable abbrev nbC (l : List V4) (e row lo hi : Nat) (A B x y : Int) : List Blk := [(cellsV l, e, row, true), ([goN lo, goN hi], 26, 0, false), ([gi 0, gi 0, gi 0, gi 0, .bool false], 98, 0, false), ([gi A, gi B], 28, 0, false), ([gi x, gi y], 28, 0, false)]
noncomputable abbrev nbH (l : List V4) (e row lo hi : Nat) (A B x y : Int) : AHeap := canonT [] (fun _ => 0) Tryz.prog.globals.size (nbC l e row lo hi A B x y)
theorem nb_in (l : List V4) (e row m k lo hi p w : Nat) (A B x y : Int) (g : Nat → Value) (Q : Exit → List Value → AHeap → Prop) : execC Tryz.prog (exec Tryz.prog orcN2 10) (syOf [(37, 1), (44, 1), (54, 7), (56, 7), (59, 7), (60, 1), (65, 1)]) (askN2 p (p + w) lo hi) (noLoops _) 40 (loopOf Tryz.prog 54 2) (stOf 73 [(0, liP (m + 1) k), (3, ptN 1), (4, ptN 2), (7, ptN 3), (9, ptN 4), (10, goN p), (11, goN w)] g) (nbH l e row lo hi A B x y) (told 73 [0, 3, 4, 7, 9, 10, 11] Q) = ((((!(Nat.blt hi w)) = true → (((!(ilt (Int.ofNat (m + 1)) (fwrap IntKind.i64 (Int.ofNat (p + w))))) = true → (Value.agg (Array.mk (List.take 2 (List.drop 0 ([] ++ ([goN p, gi (fwrap IntKind.i64 (Int.ofNat (p + w)))] ++ []))))) = Value.agg (Array.mk (List.take 2 (List.drop 0 ([] ++ ([goN p, gi (fwrap IntKind.i64 (Int.ofNat (p + w)))] ++ []))))) ∧ (List.all (cellsV l) (flat 3) = true ∧ True) ∧ okT tvT (cellsV l) (m + 1) ∧ s40C (TellT.dec tvT (cellsV l)) [] ∧ (∀ y1 : List V4, (TellT.dec tvT (cellsV l) = y1 → ([gi 0, gi 0] = [gi 0, gi 0] ∧ Value.agg (Array.mk (List.take 2 (List.drop 0 ([] ++ ([goN p, gi (fwrap IntKind.i64 (Int.ofNat (p + w)))] ++ []))))) = Value.agg (Array.mk (List.take 2 (List.drop 0 ([] ++ ([goN p, gi (fwrap IntKind.i64 (Int.ofNat (p + w)))] ++ []))))) ∧ (List.all (List.map gi (List.map loF y1)) (flat 3) = true ∧ True) ∧ ([Value.agg (Array.mk (List.take 2 (List.drop 0 ([] ++ ([goN p, gi (fwrap IntKind.i64 (Int.ofNat (p + w)))] ++ [])))))] = [agW p (p + w)] ∧ rwOk (List.map gi (List.map loF y1)) 2 (m + 1) (m + 1) p (p + w)) ∧ [gi 0, gi 0] = [gi 0, gi 0] ∧ (List.all (cellsV l) (flat 3) = true ∧ True) ∧ okT tvT (cellsV l) (m + 1) ∧ unC (TellT.dec tvT (cellsV l)) [Value.agg (Array.mk (List.take 2 (List.drop 0 ([] ++ ([goN p, gi (fwrap IntKind.i64 (Int.ofNat (p + w)))] ++ [])))))] ∧ (∀ y2 : List V4, (TellT.dec tvT (cellsV l) = y2 → (((!(unR y2 p (Int.toNat (fwrap IntKind.i64 (Int.ofNat (p + w))) - p))) = true → ((ilt 0 (cpR (Prod.mk (rqA (sm0 (List.map gi (List.map loF y1)) p (p + w) * sm0 (List.map gi (List.map loF y1)) p (p + w)) (Int.ofNat ((p + w) - p))) (rqB (sm0 (List.map gi (List.map loF y1)) p (p + w) * sm0 (List.map gi (List.map loF y1)) p (p + w)) (Int.ofNat ((p + w) - p)))) (Prod.mk x y)) = true → Q .normal [liP (m + 1) k, ptN 1, ptN 2, ptN 3, ptN 4, goN p, gi (fwrap IntKind.i64 (Int.ofNat (w + 1)))] (((((((nbH l e row lo hi A B x y).push (.cells [gi 0, gi 0] 24 0 false)).set (nG1 + 5) (.cells ([] ++ ([goN p, gi (fwrap IntKind.i64 (Int.ofNat (p + w)))] ++ [])) 24 0 false)).push (.cells [gi 0, gi 0] 28 0 false)).push (.cells (List.map gi (List.map loF y1)) 3 2 false)).set (nG1 + 6) (.cells ([] ++ ([gi (rqA (sm0 (List.map gi (List.map loF y1)) p (p + w) * sm0 (List.map gi (List.map loF y1)) p (p + w)) (Int.ofNat ((p + w) - p))), gi (rqB (sm0 (List.map gi (List.map loF y1)) p (p + w) * sm0 (List.map gi (List.map loF y1)) p (p + w)) (Int.ofNat ((p + w) - p)))] ++ [])) 28 0 false)).set (nG1 + 4) (.cells ([] ++ (List.take 2 (List.drop 0 ([] ++ ([gi (rqA (sm0 (List.map gi (List.map loF y1)) p (p + w) * sm0 (List.map gi (List.map loF y1)) p (p + w)) (Int.ofNat ((p + w) - p))), gi (rqB (sm0 (List.map gi (List.map loF y1)) p (p + w) * sm0 (List.map gi (List.map loF y1)) p (p + w)) (Int.ofNat ((p + w) - p)))] ++ []))) ++ [])) 28 0 false))) ∧ (ilt 0 (cpR (Prod.mk (rqA (sm0 (List.map gi (List.map loF y1)) p (p + w) * sm0 (List.map gi (List.map loF y1)) p (p + w)) (Int.ofNat ((p + w) - p))) (rqB (sm0 (List.map gi (List.map loF y1)) p (p + w) * sm0 (List.map gi (List.map loF y1)) p (p + w)) (Int.ofNat ((p + w) - p)))) (Prod.mk x y)) = false → Q .normal [liP (m + 1) k, ptN 1, ptN 2, ptN 3, ptN 4, goN p, gi (fwrap IntKind.i64 (Int.ofNat (w + 1)))] ((((((nbH l e row lo hi A B x y).push (.cells [gi 0, gi 0] 24 0 false)).set (nG1 + 5) (.cells ([] ++ ([goN p, gi (fwrap IntKind.i64 (Int.ofNat (p + w)))] ++ [])) 24 0 false)).push (.cells [gi 0, gi 0] 28 0 false)).push (.cells (List.map gi (List.map loF y1)) 3 2 false)).set (nG1 + 6) (.cells ([] ++ ([gi (rqA (sm0 (List.map gi (List.map loF y1)) p (p + w) * sm0 (List.map gi (List.map loF y1)) p (p + w)) (Int.ofNat ((p + w) - p))), gi (rqB (sm0 (List.map gi (List.map loF y1)) p (p + w) * sm0 (List.map gi (List.map loF y1)) p (p + w)) (Int.ofNat ((p + w) - p)))] ++ [])) 28 0 false))))) ∧ ((!(unR y2 p (Int.toNat (fwrap IntKind.i64 (Int.ofNat (p + w))) - p))) = false → Q .normal [liP (m + 1) k, ptN 1, ptN 2, ptN 3, ptN 4, goN p, gi (fwrap IntKind.i64 (Int.ofNat (w + 1)))] ((((((nbH l e row lo hi A B x y).push (.cells [gi 0, gi 0] 24 0 false)).set (nG1 + 5) (.cells ([] ++ ([goN p, gi (fwrap IntKind.i64 (Int.ofNat (p + w)))] ++ [])) 24 0 false)).push (.cells [gi 0, gi 0] 28 0 false)).push (.cells (List.map gi (List.map loF y1)) 3 2 false)).set (nG1 + 6) (.cells ([] ++ ([gi (rqA (sm0 (List.map gi (List.map loF y1)) p (p + w) * sm0 (List.map gi (List.map loF y1)) p (p + w)) (Int.ofNat ((p + w) - p))), gi (rqB (sm0 (List.map gi (List.map loF y1)) p (p + w) * sm0 (List.map gi (List.map loF y1)) p (p + w)) (Int.ofNat ((p + w) - p)))] ++ [])) 28 0 false))))))))))) ∧ ((!(ilt (Int.ofNat (m + 1)) (fwrap IntKind.i64 (Int.ofNat (p + w))))) = false → Q (.exit 2) [liP (m + 1) k, ptN 1, ptN 2, ptN 3, ptN 4, goN p, goN w] (nbH l e row lo hi A B x y)))) ∧ ((!(Nat.blt hi w)) = false → Q (.exit 2) [liP (m + 1) k, ptN 1, ptN 2, ptN 3, ptN 4, goN p, goN w] (nbH l e row lo hi A B x y)))) := by kernel_rfl
end Go.Proofs.YtihnnmejkpddeaaGreatDoor
/-! (OWN WORK. Stage 6: the reference's bounds of the best window: its loops.) -/
namespace Go.Proofs.YtihnnmejkpddeaaGreatDoor
open Go Go.Am
noncomputable abbrev loWL (l : List V4) : List Value := List.map gi (List.map loF l)
noncomputable def nbU (l : List V4) (x : P2) (p q : Nat) : P2 := bif !(unR l p (q - p)) && gtR (wtP (loWL l) p q) x then wtP (loWL l) p q else x
noncomputable def nbI (l : List V4) (x : P2) (p t : Nat) : Nat → P2
 | 0 => x
 | j + 1 => nbU l (nbI l x p t j) p (t + j)
noncomputable def nbO (l : List V4) (lo hi n : Nat) : Nat → P2
 | 0 => (0, 1)
 | p + 1 => nbI l (nbO l lo hi n p) p (p + lo) (rwN lo hi n p)
noncomputable abbrev nbV (n k p w : Nat) (at_ : Nat → Nat) : List Value := [.slice (some ⟨at_ 0, 0, none⟩) n k, .pointer (some ⟨at_ 1, 0, none⟩), .pointer (some ⟨at_ 2, 0, none⟩), .pointer (some ⟨at_ 3, 0, none⟩), .pointer (some ⟨at_ 4, 0, none⟩), goN p, goN w]
theorem nbC_flat {l : List V4} {e row lo hi : Nat} {A B x y : Int} : ∀ b ∈ nbC l e row lo hi A B x y, b.1.all (flat 3) = true := fun b hb => by
 simp only [List.mem_cons, List.not_mem_nil, or_false] at hb
 rcases hb with rfl | rfl | rfl | rfl | rfl
 ·exact cellsV_flat l
 all_goals rfl
structure NbOk (l : List V4) (m lo hi : Nat) : Prop where
 len : l.length = m + 1
 n40 : m + 1 ≤ 40
 lo0 : 0 < lo
 lo1 : lo ≤ 1000
 hi1 : hi ≤ 1000
 W : BsOk (loWL l) 2 (m + 1) (m + 1)
set_option maxHeartbeats 4000000 in
set_option maxRecDepth 100000 in
theorem nb_loop (l : List V4) (e row m k lo hi p : Nat) (A B : Int) (x : P2) (O : NbOk l m lo hi) (hp : p < m + 1) : ∀ (s : AAct) (h : AHeap), Laid (nbC l e row lo hi A B x.1 x.2) (nG1 + ·) h → s.n = 73 → s.marks = [] → [0, 3, 4, 7, 9, 10, 11].map s.tmp = nbV (m + 1) k p lo (nG1 + ·) →
  J Tryz.prog (.loop (loopOf Tryz.prog 54 2)) s h (told 73 [0, 3, 4, 7, 9, 10, 11] fun ex vs h => ex = .exit 2 ∧ vs = nbV (m + 1) k p (lo + rwN lo hi (m + 1) p) (nG1 + ·) ∧ h = nbH l e row lo hi A B (nbI l x p (p + lo) (rwN lo hi (m + 1) p)).1 (nbI l x p (p + lo) (rwN lo hi (m + 1) p)).2) := by
 intro s h hs ha hm hv
 have n40 := O.n40
 have lo0 := O.lo0
 have lo1 := O.lo1
 have hi1 := O.hi1
 have f1 : List.all (cellsV l) (flat 3) = true := cellsV_flat l
 have f2 : okT tvT (cellsV l) (m + 1) := okV O.len (by omega)
 have f3 : List.all (loWL l) (flat 3) = true := flat_ints _
 have hN : ∀ j, j < rwN lo hi (m + 1) p ↔ (lo + j ≤ hi ∧ p + (lo + j) ≤ m + 1) := fun j => by
  unfold rwN
  have h1 := Nat.min_le_left (p + hi) (m + 1)
  have h2 := Nat.min_le_right (p + hi) (m + 1)
  by_cases hc : p + hi ≤ m + 1
  ·rw [Nat.min_eq_left hc]; omega
  ·rw [Nat.min_eq_right (by omega)]; omega
 refine fold_rule (L := 5) (C := fun j => nbC l e row lo hi A B (nbI l x p (p + lo) j).1 (nbI l x p (p + lo) j).2) globs_pos (by decide) (by decide) (fun _ => rfl) (fun _ => nbC_flat) (V := fun at_ j => nbV (m + 1) k p (lo + j) at_) (I := fun _ => True) (m := rwN lo hi (m + 1) p) trivial _ (nG1 + ·) (plus_nodup nG1 5) (fun q _ => by show Tryz.prog.globals.size ≤ nG1 + q; unfold nG1; omega) (fun j => by kernel_rfl) (fun j => by kernel_rfl)
  (fun at_ j q hq => ?_) ?_ ?_ s h hs ha hm hv
 ·match q, hq with
  | 0, _ => exact ⟨(0, .slice (some ⟨at_ 0, 0, none⟩) (m + 1) k), by simp, by simp [named]⟩
  | 1, _ => exact ⟨(3, .pointer (some ⟨at_ 1, 0, none⟩)), by simp, by simp [named]⟩
  | 2, _ => exact ⟨(4, .pointer (some ⟨at_ 2, 0, none⟩)), by simp, by simp [named]⟩
  | 3, _ => exact ⟨(7, .pointer (some ⟨at_ 3, 0, none⟩)), by simp, by simp [named]⟩
  | 4, _ => exact ⟨(9, .pointer (some ⟨at_ 4, 0, none⟩)), by simp, by simp [named]⟩
 ·intro j hj _ g
  obtain ⟨g1, g2⟩ := (hN j).1 hj
  have n1 : ∀ {b : Prop}, (!(Nat.blt hi (lo + j))) = false → b := fun {b} hx => by
   have := blt_true (not_t hx); omega
  have n2 : ∀ {b : Prop}, (!(ilt (Int.ofNat (m + 1)) (fwrap IntKind.i64 (Int.ofNat (p + (lo + j)))))) = false → b := fun {b} hx => by
   have hx := not_t hx
   rw [fwrap_nat (by omega), ilt_say] at hx
   have := of_decide_eq_true hx
   simp only [Int.ofNat_eq_natCast] at this
   omega
  have ew : fwrap IntKind.i64 (Int.ofNat (p + (lo + j))) = Int.ofNat (p + (lo + j)) := fwrap_nat (by omega)
  have ex : fwrap IntKind.i64 (Int.ofNat (lo + j + 1)) = Int.ofNat (lo + (j + 1)) := fwrap_nat (by omega)
  have wk : rwOk (loWL l) 2 (m + 1) (m + 1) p (p + (lo + j)) := ⟨O.W, by omega, g2⟩
  have es : nbI l x p (p + lo) (j + 1) = nbU l (nbI l x p (p + lo) j) p (p + (lo + j)) := by
   show nbU l (nbI l x p (p + lo) j) p (p + lo + j) = _
   rw [Nat.add_assoc]
  simp only [es]
  generalize nbI l x p (p + lo) j = z
  have hun : unC l [agW p (p + (lo + j))] := ⟨rfl, by show p ≤ p + (lo + j); omega, by show p + (lo + j) ≤ l.length; rw [O.len]; exact g2⟩
  refine execC_ok mixed orcN2_ok (askN2_ok _ _ _ _) (noLoops _) (Eq.mpr (nb_in l e row m k lo hi p (lo + j) A B z.1 z.2 g _) ⟨fun _ => ⟨fun _ => ⟨rfl, ⟨f1, trivial⟩, f2, ⟨rfl, by rw [decW, O.len]; exact n40⟩, fun L hL => ?_⟩, fun hx => n2 hx⟩, fun hx => n1 hx⟩)
  obtain rfl : l = L := by rw [← hL, decW]
  refine ⟨rfl, rfl, ⟨f3, trivial⟩, ⟨by rw [ew]; rfl, wk⟩, rfl, ⟨f1, trivial⟩, f2, by rw [ew, decW]; exact hun, fun L hL => ?_⟩
  obtain rfl : l = L := by rw [← hL, decW]
  rw [ew, ex]
  have eU : ∀ b1 b2 : Bool, unR l p (p + (lo + j) - p) = b1 → gtR (wtP (loWL l) p (p + (lo + j))) z = b2 → nbU l z p (p + (lo + j)) = bif !b1 && b2 then wtP (loWL l) p (p + (lo + j)) else z := fun b1 b2 h1 h2 => by
   unfold nbU; rw [h1, h2]
  refine ⟨fun hu => ⟨fun hg => ?_, fun hg => ?_⟩, fun hu => ?_⟩
  ·rw [eU false true (not_f hu) hg]
   refine ⟨trivial, rfl, fun q b hb => ?_⟩
   match q, hb with
   | 0, hb => cases hb; show _ = _; kernel_rfl
   | 1, hb => cases hb; show _ = _; kernel_rfl
   | 2, hb => cases hb; show _ = _; kernel_rfl
   | 3, hb => cases hb; show _ = _; kernel_rfl
   | 4, hb => cases hb; show _ = _; kernel_rfl
  ·rw [eU false false (not_f hu) hg]
   refine ⟨trivial, rfl, fun q b hb => ?_⟩
   match q, hb with
   | 0, hb => cases hb; show _ = _; kernel_rfl
   | 1, hb => cases hb; show _ = _; kernel_rfl
   | 2, hb => cases hb; show _ = _; kernel_rfl
   | 3, hb => cases hb; show _ = _; kernel_rfl
   | 4, hb => cases hb; show _ = _; kernel_rfl
  ·rw [eU true _ (not_t hu) rfl]
   refine ⟨trivial, rfl, fun q b hb => ?_⟩
   match q, hb with
   | 0, hb => cases hb; show _ = _; kernel_rfl
   | 1, hb => cases hb; show _ = _; kernel_rfl
   | 2, hb => cases hb; show _ = _; kernel_rfl
   | 3, hb => cases hb; show _ = _; kernel_rfl
   | 4, hb => cases hb; show _ = _; kernel_rfl
 ·intro _ g
  have hno : ¬ (lo + rwN lo hi (m + 1) p ≤ hi ∧ p + (lo + rwN lo hi (m + 1) p) ≤ m + 1) := fun hx => absurd ((hN _).2 hx) (Nat.lt_irrefl _)
  have hN0 : p + (lo + rwN lo hi (m + 1) p) ≤ 100000 := by
   have := Nat.min_le_right (p + hi) (m + 1)
   unfold rwN; omega
  have key : ∀ {b : Prop}, (!(Nat.blt hi (lo + rwN lo hi (m + 1) p))) = true → (!(ilt (Int.ofNat (m + 1)) (fwrap IntKind.i64 (Int.ofNat (p + (lo + rwN lo hi (m + 1) p)))))) = true → b := fun {b} h1 h2 => by
   have h1 := blt_false (not_f h1)
   have h2 := not_f h2
   rw [fwrap_nat (by omega), ilt_say] at h2
   have := of_decide_eq_false h2
   simp only [Int.ofNat_eq_natCast] at this
   exact absurd ⟨h1, by omega⟩ hno
  exact execC_ok mixed orcN2_ok (askN2_ok _ _ _ _) (noLoops _) (Eq.mpr (nb_in l e row m k lo hi p _ A B _ _ g _) ⟨fun h1 => ⟨fun h2 => key h1 h2, fun _ => ⟨rfl, rfl, rfl⟩⟩, fun _ => ⟨rfl, rfl, rfl⟩⟩)
set_option maxRecDepth 100000 in
noncomputable def nbK (l : List V4) (e row m k lo hi p : Nat) (A B : Int) (x x' : P2) : Loops Tryz.prog where
 body := fun _ => loopOf Tryz.prog 54 2
 spec := fun _ s h q => entry s 73 [(0, liP (m + 1) k), (3, ptN 1), (4, ptN 2), (7, ptN 3), (9, ptN 4), (10, goN p), (11, goN lo)] (h = nbH l e row lo hi A B x.1 x.2 ∧ (NbOk l m lo hi ∧ p < m + 1 ∧ x' = nbI l x p (p + lo) (rwN lo hi (m + 1) p)) ∧
  ∀ g, q (.exit 2) (stOf 73 [(0, liP (m + 1) k), (3, ptN 1), (4, ptN 2), (7, ptN 3), (9, ptN 4), (10, goN p)] g) (nbH l e row lo hi A B x'.1 x'.2))
 ok := fun i s h q w => by
  obtain ⟨h1, h2, h3, rfl, ⟨O, hp, rfl⟩, h5⟩ := entry_facts w
  refine J.of_told (nb_loop l e row m k lo hi p A B x O hp s _ (fun q b hb => ?_) h1 h2 ?_) ?_
  ·match q, hb with
   | 0, hb => cases hb; show _ = _; kernel_rfl
   | 1, hb => cases hb; show _ = _; kernel_rfl
   | 2, hb => cases hb; show _ = _; kernel_rfl
   | 3, hb => cases hb; show _ = _; kernel_rfl
   | 4, hb => cases hb; show _ = _; kernel_rfl
  ·simp only [List.map_cons, List.map_nil]
   rw [h3 (0, liP (m + 1) k) (by simp), h3 (3, ptN 1) (by simp), h3 (4, ptN 2) (by simp), h3 (7, ptN 3) (by simp), h3 (9, ptN 4) (by simp), h3 (10, goN p) (by simp), h3 (11, goN lo) (by simp)]
   rfl
  ·rintro ex vs h' g ⟨rfl, rfl, rfl⟩
   exact h5 (ov [(11, goN (lo + rwN lo hi (m + 1) p))] g)
theorem nb_out (l : List V4) (e row m k lo hi p : Nat) (A B : Int) (x x' : P2) (g : Nat → Value) (Q : Exit → List Value → AHeap → Prop) : execC Tryz.prog (exec Tryz.prog orcN2 10) (syOf [(29, 1)]) (askN2 0 0 lo hi) (nbK l e row m k lo hi p A B x x') 40 (loopOf Tryz.prog 54 0) (stOf 73 [(0, liP (m + 1) k), (3, ptN 1), (4, ptN 2), (7, ptN 3), (9, ptN 4), (10, goN p)] g) (nbH l e row lo hi A B x.1 x.2) (told 73 [0, 3, 4, 7, 9, 10] Q) = (((Nat.blt p (m + 1) = true → (loopOf Tryz.prog 54 2 = loopOf Tryz.prog 54 2 ∧ liP (m + 1) k = liP (m + 1) k ∧ ptN 1 = ptN 1 ∧ ptN 2 = ptN 2 ∧ ptN 3 = ptN 3 ∧ ptN 4 = ptN 4 ∧ goN p = goN p ∧ goN lo = goN lo ∧ nbH l e row lo hi A B x.1 x.2 = nbH l e row lo hi A B x.1 x.2 ∧ (NbOk l m lo hi ∧ (p : Nat) < (m + 1) ∧ x' = nbI l x p (p + lo) (rwN lo hi (m + 1) p)) ∧ (∀ _ : Nat → Value, Q .normal [liP (m + 1) k, ptN 1, ptN 2, ptN 3, ptN 4, gi (fwrap IntKind.i64 (Int.ofNat (p + 1)))] (nbH l e row lo hi A B x'.1 x'.2)))) ∧ (Nat.blt p (m + 1) = false → Q (.exit 0) [liP (m + 1) k, ptN 1, ptN 2, ptN 3, ptN 4, goN p] (nbH l e row lo hi A B x.1 x.2)))) := by kernel_rfl
end Go.Proofs.YtihnnmejkpddeaaGreatDoor
/-! (OWN WORK. Stage 6: the reference's bounds of the best window, carried out.) -/
namespace Go.Proofs.YtihnnmejkpddeaaGreatDoor
open Go Go.Am
noncomputable def bldWY (h : AHeap) (i : Nat) (b : Blk) : Prop := match h.get i with
 | some (.cells c t r ro) => c = b.1 ∧ t = b.2.1 ∧ r = b.2.2.1 ∧ ro = b.2.2.2
 | _ => False
theorem blW_get {h : AHeap} {i : Nat} {b : Blk} (k : bldWY h i b) : h.get i = some (.cells b.1 b.2.1 b.2.2.1 b.2.2.2) := by
 unfold bldWY at k
 split at k
 ·rename_i c t r ro e
  obtain ⟨rfl, rfl, rfl, rfl⟩ := k
  exact e
 ·exact k.elim
noncomputable def ncV (n k : Nat) (at_ : Nat → Nat) (p : Nat) : List Value := [.slice (some ⟨at_ 0, 0, none⟩) n k, .pointer (some ⟨at_ 1, 0, none⟩), .pointer (some ⟨at_ 2, 0, none⟩), .pointer (some ⟨at_ 3, 0, none⟩), .pointer (some ⟨at_ 4, 0, none⟩), goN p]
noncomputable def atN : Nat → Nat := fun x => nG1 + [0, 1, 2, 4, 7].getD x 0
set_option maxRecDepth 100000 in
theorem nc_fold (l : List V4) (e row m k lo hi : Nat) (A B : Int) (O : NbOk l m lo hi) : ∀ (s : AAct) (h : AHeap), Laid (nbC l e row lo hi A B 0 1) atN h → s.n = 73 → s.marks = [] → [0, 3, 4, 7, 9, 10].map s.tmp = ncV (m + 1) k atN 0 →
  J Tryz.prog (.loop (loopOf Tryz.prog 54 0)) s h (told 73 [0, 3, 4, 7, 9, 10] fun ex vs h => ex = .exit 0 ∧ vs = ncV (m + 1) k (nG1 + ·) (m + 1) ∧ h = nbH l e row lo hi A B (nbO l lo hi (m + 1) (m + 1)).1 (nbO l lo hi (m + 1) (m + 1)).2) := by
 have n40 := O.n40
 refine fold_rule (P := Tryz.prog) 5 (fun p => nbC l e row lo hi A B (nbO l lo hi (m + 1) p).1 (nbO l lo hi (m + 1) p).2) globs_pos (by decide) (by decide) (fun _ => rfl) (fun _ => nbC_flat) (ncV (m + 1) k) (fun _ => True) (m + 1) trivial _ atN (by decide) (fun q hq => by show _ ≤ nG1 + _; unfold nG1; omega) (fun j => by kernel_rfl) (fun j => by kernel_rfl) (fun at_ j q hq => by
   match q, hq with
   | 0, _ => exact ⟨(0, .slice (some ⟨at_ 0, 0, none⟩) (m + 1) k), by simp [ncV], by simp [named]⟩
   | 1, _ => exact ⟨(3, .pointer (some ⟨at_ 1, 0, none⟩)), by simp [ncV], by simp [named]⟩
   | 2, _ => exact ⟨(4, .pointer (some ⟨at_ 2, 0, none⟩)), by simp [ncV], by simp [named]⟩
   | 3, _ => exact ⟨(7, .pointer (some ⟨at_ 3, 0, none⟩)), by simp [ncV], by simp [named]⟩
   | 4, _ => exact ⟨(9, .pointer (some ⟨at_ 4, 0, none⟩)), by simp [ncV], by simp [named]⟩) ?_ ?_
 ·intro p hp _ g
  refine execC_ok mixed orcN2_ok (askN2_ok 0 0 lo hi) (nbK l e row m k lo hi p A B (nbO l lo hi (m + 1) p) (nbO l lo hi (m + 1) (p + 1))) (Eq.mpr (nb_out l e row m k lo hi p A B _ _ g _) ⟨fun _ => ⟨rfl, rfl, rfl, rfl, rfl, rfl, rfl, rfl, rfl, ⟨O, hp, rfl⟩, fun _ => ⟨trivial, ?_, fun q b hb => ?_⟩⟩, fun hge => absurd (blt_false hge) (by omega)⟩)
  ·rw [fwrap_nat (by omega)]; rfl
  ·match q, hb with
   | 0, hb => cases hb; show _ = _; kernel_rfl
   | 1, hb => cases hb; show _ = _; kernel_rfl
   | 2, hb => cases hb; show _ = _; kernel_rfl
   | 3, hb => cases hb; show _ = _; kernel_rfl
   | 4, hb => cases hb; show _ = _; kernel_rfl
 ·intro _ g
  exact execC_ok mixed orcN2_ok (askN2_ok 0 0 lo hi) (nbK l e row m k lo hi (m + 1) A B (nbO l lo hi (m + 1) (m + 1)) (0, 0)) (Eq.mpr (nb_out l e row m k lo hi (m + 1) A B _ _ g _) ⟨fun hlt => absurd (blt_true hlt) (by omega), fun _ => ⟨rfl, rfl, rfl⟩⟩)
noncomputable def ncP (l : List V4) (e row m k lo hi : Nat) (A B : Int) (s : AAct) (h : AHeap) (c : Post) : Prop :=
 entry s 73 [(0, liP (m + 1) k), (3, ptN 1), (4, ptN 2), (7, ptN 4), (9, ptN 7), (10, goN 0)] ((bldWY h nG1 (cellsV l, e, row, true) ∧ bldWY h (nG1 + 1) ([goN lo, goN hi], 26, 0, false) ∧ bldWY h (nG1 + 2) ([gi 0, gi 0, gi 0, gi 0, .bool false], 98, 0, false) ∧ bldWY h (nG1 + 4) ([gi A, gi B], 28, 0, false) ∧ bldWY h (nG1 + 7) ([gi 0, gi 1], 28, 0, false)) ∧ NbOk l m lo hi ∧
  ∀ g, c (.exit 0) (stOf 73 [(0, liP (m + 1) k), (4, ptN 2), (7, ptN 3), (9, ptN 4)] g) (nbH l e row lo hi A B (nbO l lo hi (m + 1) (m + 1)).1 (nbO l lo hi (m + 1) (m + 1)).2))
set_option maxRecDepth 100000 in
theorem ncP_ok {l : List V4} {e row m k lo hi : Nat} {A B : Int} {s : AAct} {h : AHeap} {c : Post} (x : ncP l e row m k lo hi A B s h c) : J Tryz.prog (.loop (loopOf Tryz.prog 54 0)) s h c := by
 obtain ⟨h1, h2, h3, ⟨b0, b1, b2, b3, b4⟩, O, h5⟩ := entry_facts x
 refine J.of_told (nc_fold l e row m k lo hi A B O s h (fun q b hb => ?_) h1 h2 ?_) ?_
 ·match q, hb with
  | 0, hb => cases hb; exact blW_get b0
  | 1, hb => cases hb; exact blW_get b1
  | 2, hb => cases hb; exact blW_get b2
  | 3, hb => cases hb; exact blW_get b3
  | 4, hb => cases hb; exact blW_get b4
 ·simp only [List.map_cons, List.map_nil]
  rw [h3 (0, liP (m + 1) k) (by simp), h3 (3, ptN 1) (by simp), h3 (4, ptN 2) (by simp), h3 (7, ptN 4) (by simp), h3 (9, ptN 7) (by simp), h3 (10, goN 0) (by simp)]
  rfl
 ·rintro ex vs h' g ⟨rfl, rfl, rfl⟩
  exact h5 (ov [(3, ptN 1), (10, goN (m + 1))] g)
noncomputable def ncL (l : List V4) (e row m k lo hi : Nat) (A B : Int) : Loops Tryz.prog where
 body := fun _ => loopOf Tryz.prog 54 0
 spec := fun _ s h c => ncP l e row m k lo hi A B s h c
 ok := fun _ _ _ _ x => ncP_ok x
theorem rbo_n (l : List V4) (m k e row lo hi : Nat) (K : Value → Prop) : callC Tryz.prog (exec Tryz.prog orcN2 20) (syOf [(16, 7), (18, 7), (23, 31)]) (askN2 0 0 lo hi) (noLoops _) 60 54 #[liP (m + 1) k, agW lo hi] (liH (cellsV l) e row) (fun v _ => K v) = ((Value.agg #[goN lo, goN hi] = Value.agg #[goN lo, goN hi] ∧ [gi 0, gi 0] = [gi 0, gi 0] ∧ Value.agg #[goN lo, goN hi] = Value.agg #[goN lo, goN hi] ∧ (List.all (cellsV l) (flat 3) = true ∧ True) ∧ okT tvT (cellsV l) (m + 1) ∧ s40C (TellT.dec tvT (cellsV l)) [] ∧ (∀ y1 : List V4, (TellT.dec tvT (cellsV l) = y1 → ([gi 0, gi 0] = [gi 0, gi 0] ∧ [gi 0, gi 0] = [gi 0, gi 0] ∧ Value.agg #[goN lo, goN hi] = Value.agg #[goN lo, goN hi] ∧ (List.all (List.map gi (List.map hiF y1)) (flat 3) = true ∧ True) ∧ ([Value.agg #[goN lo, goN hi]] = [agW lo hi] ∧ roOk (List.map gi (List.map hiF y1)) 2 (m + 1) (m + 1) lo hi) ∧ [gi 0, gi 0] = [gi 0, gi 0] ∧ [gi 0, gi 0] = [gi 0, gi 0] ∧ (!(oB (bsO (List.map gi (List.map hiF y1)) lo hi (m + 1) (m + 1)))) = true ∧ K (Value.tuple #[Value.agg (Array.mk (List.take 5 (List.drop 0 ([] ++ ([gi 0, gi 0, gi 0, gi 0, Value.bool false] ++ []))))), Value.bool false])))))) := by kernel_rfl
theorem rbo_y (l : List V4) (m k e row lo hi : Nat) (A B : Int) (K : Value → Prop) : callC Tryz.prog (exec Tryz.prog orcN2 20) (syOf [(16, 7), (18, 7), (23, 32), (71, 7)]) (askN2 0 0 lo hi) (ncL l e row m k lo hi A B) 60 54 #[liP (m + 1) k, agW lo hi] (liH (cellsV l) e row) (fun v _ => K v) = ((Value.agg #[goN lo, goN hi] = Value.agg #[goN lo, goN hi] ∧ [gi 0, gi 0] = [gi 0, gi 0] ∧ Value.agg #[goN lo, goN hi] = Value.agg #[goN lo, goN hi] ∧ (List.all (cellsV l) (flat 3) = true ∧ True) ∧ okT tvT (cellsV l) (m + 1) ∧ s40C (TellT.dec tvT (cellsV l)) [] ∧ (∀ y1 : List V4, (TellT.dec tvT (cellsV l) = y1 → ([gi 0, gi 0] = [gi 0, gi 0] ∧ [gi 0, gi 0] = [gi 0, gi 0] ∧ Value.agg #[goN lo, goN hi] = Value.agg #[goN lo, goN hi] ∧ (List.all (List.map gi (List.map hiF y1)) (flat 3) = true ∧ True) ∧ ([Value.agg #[goN lo, goN hi]] = [agW lo hi] ∧ roOk (List.map gi (List.map hiF y1)) 2 (m + 1) (m + 1) lo hi) ∧ [gi 0, gi 0] = [gi 0, gi 0] ∧ [gi 0, gi 0] = [gi 0, gi 0] ∧ (!(oB (bsO (List.map gi (List.map hiF y1)) lo hi (m + 1) (m + 1)))) = false ∧ loopOf Tryz.prog 54 0 = loopOf Tryz.prog 54 0 ∧ liP (m + 1) k = liP (m + 1) k ∧ Value.pointer (some ⟨nG1 + 1, 0, none⟩) = ptN 1 ∧ Value.pointer (some ⟨nG1 + 2, 0, none⟩) = ptN 2 ∧ Value.pointer (some ⟨nG1 + 4, 0, none⟩) = ptN 4 ∧ Value.pointer (some ⟨nG1 + 7, 0, none⟩) = ptN 7 ∧ gi 0 = goN 0 ∧ ((cellsV l = cellsV l ∧ e = e ∧ row = row ∧ true = true) ∧ ([goN lo, goN hi] = [goN lo, goN hi] ∧ 26 = 26 ∧ 0 = 0 ∧ false = false) ∧ ([gi 0, gi 0, gi 0, gi 0, Value.bool false] = [gi 0, gi 0, gi 0, gi 0, Value.bool false] ∧ 98 = 98 ∧ 0 = 0 ∧ false = false) ∧ (([] ++ ([gi (((oX (bsO (List.map gi (List.map hiF y1)) lo hi (m + 1) (m + 1))).snd.snd.1)), gi (((oX (bsO (List.map gi (List.map hiF y1)) lo hi (m + 1) (m + 1))).snd.snd.2))] ++ [])) = [gi A, gi B] ∧ 28 = 28 ∧ 0 = 0 ∧ false = false) ∧ ([] ++ (List.take 2 (List.drop 0 ([] ++ ([gi 0, gi 1] ++ []))) ++ [])) = [gi 0, gi 1] ∧ 28 = 28 ∧ 0 = 0 ∧ false = false) ∧ NbOk l m lo hi ∧ (∀ _ : Nat → Value, ((List.all (cellsV l) (flat 3) = true ∧ True) ∧ okT tvT (cellsV l) (m + 1) ∧ nonC (TellT.dec tvT (cellsV l)) [] ∧ (∀ y3 : List V4, (TellT.dec tvT (cellsV l) = y3 → (Value.agg #[gi A, gi B] = Value.agg #[gi A, gi B] ∧ Value.agg #[gi (((nbO l lo hi (m + 1) (m + 1)).1)), gi (((nbO l lo hi (m + 1) (m + 1)).2))] = Value.agg #[gi (((nbO l lo hi (m + 1) (m + 1)).1)), gi (((nbO l lo hi (m + 1) (m + 1)).2))] ∧ K (Value.tuple #[Value.agg (Array.mk (List.take 5 (List.drop 0 ([] ++ ([gi (((nbO l lo hi (m + 1) (m + 1)).1)), gi (((nbO l lo hi (m + 1) (m + 1)).2)), gi A, gi B, Value.bool (ovR y3 (List.length y3))] ++ []))))), Value.bool true]))))))))))) := by kernel_rfl
end Go.Proofs.YtihnnmejkpddeaaGreatDoor
