/-
  OWN WORK. Stage 6: what the law calls.
-/
import Derived.Test.YtihnnmejkpddeaaGreatDoorLhBE
import Derived.Test.YtihnnmejkpddeaaGreatDoorWk6
/-! (OWN WORK. Stage 6: what the law on levels calls: known calls.) -/
namespace Go.Proofs.YtihnnmejkpddeaaGreatDoor
open Go Go.Am
theorem cw_run (n a b : Int) (K : Value → Prop) : callC Tryz.prog (exec Tryz.prog orcLb 10) (syOf [(7, 32), (13, 32), (19, 32)]) (askLb false [] 0 0 0) (noLoops _) 40 21 #[gi n, .agg #[gi a, gi b]] (emp Tryz.prog) (fun v _ => K v) = ((ilt a 0 = false ∧ (!(ilt a b)) = false ∧ ilt n b = false ∧ K (gi 0))) := by kernel_rfl
noncomputable def cwL : List Value → Option (Bool × Value)
  | [.int .i64 n, .agg s] => match s.toList with
    | [.int .i64 a, .int .i64 b] => some (!(ilt a 0) && (ilt a b && !(ilt n b)), gi 0)
    | _ => none
  | _ => none
end Go.Proofs.YtihnnmejkpddeaaGreatDoor
/-! (OWN WORK. Stage 6: what the law on levels calls, asked with names.) -/
namespace Go.Proofs.YtihnnmejkpddeaaGreatDoor
open Go Go.Am
noncomputable def lgFY (vs : List Value) (B : List Cells) (K : Out → Prop) : Prop := s1Y False (fun cs n r => okT tiT cs n ∧ lvC (TellT.dec tiT cs) r ∧ ∀ L : List Int, TellT.dec tiT cs = L → ∀ x : Int, r = [gi x] → ieq (lvE L x) 0 = true ∧ K (.plain (loV true L x))) vs B
noncomputable def abFY (vs : List Value) (B : List Cells) (K : Out → Prop) : Prop := s1Y False (fun cs n r => okT tiT cs n ∧ lvC (TellT.dec tiT cs) r ∧ ∀ L : List Int, TellT.dec tiT cs = L → ∀ x : Int, r = [gi x] → ieq (lvE L x) 0 = true ∧ K (.plain (abV true L x))) vs B
noncomputable def hvFY (vs : List Value) (B : List Cells) (K : Out → Prop) : Prop := hdY False (fun cs n k row r => hvC cs n k row r ∧ ∀ L : List Int, TellT.dec tiT cs = L → ∀ x : Int, r = [gi x] → ieq (heE L x) 0 = true ∧ K (.plain (heV true L n x.toNat x))) vs B
noncomputable def inFY (vs : List Value) (B : List Cells) (K : Out → Prop) : Prop := s1Y False (fun cs n r => okT tiT cs n ∧ clCv (TellT.dec tiT cs) r ∧ ∀ L : List Int, TellT.dec tiT cs = L → K (.wide (slM n) (L.map gi) 3 2)) vs B
noncomputable def moFY (vs : List Value) (B : List Cells) (K : Out → Prop) : Prop := s2Y False (fun cs n cs' n' r => okT tiT cs n ∧ okT tiT cs' n' ∧ mmC (TellT.dec tiT cs) (TellT.dec tiT cs') r ∧ ∀ A : List Int, TellT.dec tiT cs = A → ∀ C : List Int, TellT.dec tiT cs' = C → ∀ x : Int, r = [gi x] → ieq (mmE A C x) 0 = true ∧ K (.wide (tupM [] n [gi 0]) ((moL x A C).map gi) 3 2)) vs B
theorem lgF_ok (vs : List Value) (B : List Cells) (K : Out → Prop) (h : lgFY vs B K) : ∃ o, s1X tiT lvC loO vs B = some o ∧ K o := by
  rcases s1Y_inv (z := False) (f := fun cs n r => okT tiT cs n ∧ lvC (TellT.dec tiT cs) r ∧ ∀ L : List Int, TellT.dec tiT cs = L → ∀ x : Int, r = [gi x] → ieq (lvE L x) 0 = true ∧ K (.plain (loV true L x))) (vs := vs) (B := B) with q | ⟨cs, n, k, e, row, r, rfl, rfl⟩
  · unfold lgFY at h; rw [q] at h; exact h.elim
  · unfold lgFY at h
    rw [s1Y_at] at h
    obtain ⟨h1, h2, h3⟩ := h
    obtain ⟨h4, h5⟩ := h3 _ rfl _ h2
    unfold s1X
    rw [s1Y_at, if_pos ⟨h1, h2⟩]
    refine ⟨_, rfl, ?_⟩
    rw [← h4] at h5
    exact h5
theorem abF_ok (vs : List Value) (B : List Cells) (K : Out → Prop) (h : abFY vs B K) : ∃ o, s1X tiT lvC abO vs B = some o ∧ K o := by
  rcases s1Y_inv (z := False) (f := fun cs n r => okT tiT cs n ∧ lvC (TellT.dec tiT cs) r ∧ ∀ L : List Int, TellT.dec tiT cs = L → ∀ x : Int, r = [gi x] → ieq (lvE L x) 0 = true ∧ K (.plain (abV true L x))) (vs := vs) (B := B) with q | ⟨cs, n, k, e, row, r, rfl, rfl⟩
  · unfold abFY at h; rw [q] at h; exact h.elim
  · unfold abFY at h
    rw [s1Y_at] at h
    obtain ⟨h1, h2, h3⟩ := h
    obtain ⟨h4, h5⟩ := h3 _ rfl _ h2
    unfold s1X
    rw [s1Y_at, if_pos ⟨h1, h2⟩]
    refine ⟨_, rfl, ?_⟩
    rw [← h4] at h5
    exact h5
theorem hvF_ok (vs : List Value) (B : List Cells) (K : Out → Prop) (h : hvFY vs B K) : ∃ o, hxX vs B = some o ∧ K o := by
  rcases hdY_inv (z := False) (f := fun cs n k row r => hvC cs n k row r ∧ ∀ L : List Int, TellT.dec tiT cs = L → ∀ x : Int, r = [gi x] → ieq (heE L x) 0 = true ∧ K (.plain (heV true L n x.toNat x))) (vs := vs) (B := B) with q | ⟨cs, n, k, e, row, r, rfl, rfl⟩
  · unfold hvFY at h; rw [q] at h; exact h.elim
  · unfold hvFY at h
    rw [hdY_at] at h
    obtain ⟨h1, h3⟩ := h
    obtain ⟨h4, h5⟩ := h3 _ rfl _ h1.2.1
    unfold hxX
    rw [hdY_at, if_pos h1]
    refine ⟨_, rfl, ?_⟩
    rw [← h4] at h5
    exact h5
theorem inF_ok (vs : List Value) (B : List Cells) (K : Out → Prop) (h : inFY vs B K) : ∃ o, s1X tiT clCv cloOv vs B = some o ∧ K o := by
  rcases s1Y_inv (z := False) (f := fun cs n r => okT tiT cs n ∧ clCv (TellT.dec tiT cs) r ∧ ∀ L : List Int, TellT.dec tiT cs = L → K (.wide (slM n) (L.map gi) 3 2)) (vs := vs) (B := B) with q | ⟨cs, n, k, e, row, r, rfl, rfl⟩
  · unfold inFY at h; rw [q] at h; exact h.elim
  · unfold inFY at h
    rw [s1Y_at] at h
    obtain ⟨h1, h2, h3⟩ := h
    unfold s1X
    rw [s1Y_at, if_pos ⟨h1, h2⟩]
    exact ⟨_, rfl, h3 _ rfl⟩
theorem moF_ok (vs : List Value) (B : List Cells) (K : Out → Prop) (h : moFY vs B K) : ∃ o, s2X tiT tiT mmC mmO vs B = some o ∧ K o := by
  rcases s2Y_inv (z := False) (f := fun cs n cs' n' r => okT tiT cs n ∧ okT tiT cs' n' ∧ mmC (TellT.dec tiT cs) (TellT.dec tiT cs') r ∧ ∀ A : List Int, TellT.dec tiT cs = A → ∀ C : List Int, TellT.dec tiT cs' = C → ∀ x : Int, r = [gi x] → ieq (mmE A C x) 0 = true ∧ K (.wide (tupM [] n [gi 0]) ((moL x A C).map gi) 3 2)) (vs := vs) (B := B) with q | ⟨cs, n, k, e, row, cs', n', k', e', row', r, rfl, rfl⟩
  · unfold moFY at h; rw [q] at h; exact h.elim
  · unfold moFY at h
    rw [s2Y_at] at h
    obtain ⟨h1, h1', h2, h3⟩ := h
    obtain ⟨h4, h5⟩ := h3 _ rfl _ rfl _ h2
    unfold s2X
    rw [s2Y_at, if_pos ⟨h1, h1', h2⟩]
    refine ⟨_, rfl, ?_⟩
    show K (mmV (ieq (mmE (TellT.dec tiT cs) (TellT.dec tiT cs') (inV r)) 0) (TellT.dec tiT cs).length (TellT.dec tiT cs) (TellT.dec tiT cs') (inV r))
    rw [h4, h1.2.2.1]
    exact h5
noncomputable def orcHo : Orc := wkO (orElse 42 (anyO Tryz.prog.globals.size (cnX siC)) (orElse 37 (s2Oo tiT tiT mmC mmO) (orElse 21 (condO cwL) orcLc0)))
set_option maxRecDepth 100000 in
theorem orcHo_ok : OrcOk Tryz.prog orcHo := by
  refine wkO_ok (same_i (mmf_ok (condO_ok (fun l v h => ?_) orcLc0_ok)))
  unfold cwL at h
  split at h
  · split at h
    · rename_i ha
      injection h with h
      injection h with h1 h2
      obtain rfl := agg_eq ha
      rw [Bool.and_eq_true, Bool.and_eq_true] at h1
      obtain ⟨k1, k2, k3⟩ := h1
      subst h2
      refine ⟨rfl, rfl, callC_ok mixed orcLb_ok (askLb_ok _ _ _ _ _) (Eq.mpr (cw_run _ _ _ _) ⟨?_, ?_, ?_, rfl⟩)⟩
      · simpa using k1
      · rw [k2]; rfl
      · simpa using k3
    · cases h
  · cases h
noncomputable def askHo : Asks := skipA 13 (asksV Tryz.prog.globals.size 42 (cnY siC) (asksV Tryz.prog.globals.size 37 moFY (asksF 21 cwL (asksV Tryz.prog.globals.size 27 lgFY (asksV Tryz.prog.globals.size 28 abFY (asksV Tryz.prog.globals.size 29 hvFY (skipA 97 (skipA 32 (skipA 33 (skipA 34 (skipA 98 (skipA 101 (skipA 35 (asksV Tryz.prog.globals.size 16 inFY (asksV Tryz.prog.globals.size 14 vshY askLa)))))))))))))))
theorem askHo_ok : AsksOk orcHo askHo := skipA_ok (asksV_ok cnY_ok (asksV_ok moF_ok (asksF_ok (asksV_ok lgF_ok (asksV_ok abF_ok (asksV_ok hvF_ok (skipA_ok (skipA_ok (skipA_ok (skipA_ok (skipA_ok (skipA_ok (skipA_ok (asksV_ok inF_ok (asksV_ok vshY_ok askLa_ok)))))))))))))))
end Go.Proofs.YtihnnmejkpddeaaGreatDoor
