/-
  OWN WORK. Stage 6: known calls of the laws on windows.
-/
import Derived.Test.YtihnnmejkpddeaaGreatDoorBsWX
import Derived.Test.YtihnnmejkpddeaaGreatDoorWk6
/-! (OWN WORK. Stage 6: the law of windows, carried out.) -/
namespace Go.Proofs.YtihnnmejkpddeaaGreatDoor
open Go Go.Am
noncomputable def worY (w : Bool) (vs : List Value) (B : List Cells) (K : Out → Prop) : Prop := s1Y False (fun cs n r => okT tiT cs n ∧ worC (TellT.dec tiT cs) r ∧ ∀ L : List Int, TellT.dec tiT cs = L → ∀ a b : Int, r = [.agg #[gi a, gi b]] → ieq (worE L n a b) 0 = w ∧ K (.plain (worV w L n a b))) vs B
noncomputable def besY (w : Bool) (vs : List Value) (B : List Cells) (K : Out → Prop) : Prop := s1Y False (fun cs n r => okT tiT cs n ∧ worC (TellT.dec tiT cs) r ∧ ∀ L : List Int, TellT.dec tiT cs = L → ∀ a b : Int, r = [.agg #[gi a, gi b]] → ieq (besE L n a b) 0 = w ∧ K (.plain (besV w L n a b))) vs B
noncomputable def chkY (w : Bool) (vs : List Value) (B : List Cells) (K : Out → Prop) : Prop := s1Y False (fun cs n r => okT tiT cs n ∧ chkC (TellT.dec tiT cs) r ∧ ∀ L : List Int, TellT.dec tiT cs = L → ∀ a b x y u v : Int, r = [.agg #[gi a, gi b], .agg #[gi x, gi y], .agg #[gi u, gi v]] → ieq (chkE L n a b x y u v) 0 = w ∧ K (.plain (chkV w L n a b x y u v))) vs B
theorem worY_ok (w : Bool) (vs : List Value) (B : List Cells) (K : Out → Prop) (h : worY w vs B K) : ∃ o, s1X tiT worC worO vs B = some o ∧ K o := by
  unfold worY at h
  rcases s1Y_inv (z := False) (f := fun cs n r => okT tiT cs n ∧ worC (TellT.dec tiT cs) r ∧ ∀ L : List Int, TellT.dec tiT cs = L → ∀ a b : Int, r = [.agg #[gi a, gi b]] → ieq (worE L n a b) 0 = w ∧ K (.plain (worV w L n a b))) (vs := vs) (B := B) with q | ⟨cs, n, k, e, row, r, rfl, rfl⟩
  · rw [q] at h; exact h.elim
  · rw [s1Y_at] at h
    obtain ⟨h1, h2, h3⟩ := h
    obtain ⟨h4, h5⟩ := h3 _ rfl (agI r).1 (agI r).2 h2
    unfold s1X
    rw [s1Y_at, if_pos ⟨h1, h2⟩]
    exact ⟨_, rfl, by rw [← h4] at h5; exact h5⟩
theorem besY_ok (w : Bool) (vs : List Value) (B : List Cells) (K : Out → Prop) (h : besY w vs B K) : ∃ o, s1X tiT worC besO vs B = some o ∧ K o := by
  unfold besY at h
  rcases s1Y_inv (z := False) (f := fun cs n r => okT tiT cs n ∧ worC (TellT.dec tiT cs) r ∧ ∀ L : List Int, TellT.dec tiT cs = L → ∀ a b : Int, r = [.agg #[gi a, gi b]] → ieq (besE L n a b) 0 = w ∧ K (.plain (besV w L n a b))) (vs := vs) (B := B) with q | ⟨cs, n, k, e, row, r, rfl, rfl⟩
  · rw [q] at h; exact h.elim
  · rw [s1Y_at] at h
    obtain ⟨h1, h2, h3⟩ := h
    obtain ⟨h4, h5⟩ := h3 _ rfl (agI r).1 (agI r).2 h2
    unfold s1X
    rw [s1Y_at, if_pos ⟨h1, h2⟩]
    exact ⟨_, rfl, by rw [← h4] at h5; exact h5⟩
theorem chkY_ok (w : Bool) (vs : List Value) (B : List Cells) (K : Out → Prop) (h : chkY w vs B K) : ∃ o, s1X tiT chkC chkO vs B = some o ∧ K o := by
  unfold chkY at h
  rcases s1Y_inv (z := False) (f := fun cs n r => okT tiT cs n ∧ chkC (TellT.dec tiT cs) r ∧ ∀ L : List Int, TellT.dec tiT cs = L → ∀ a b x y u v : Int, r = [.agg #[gi a, gi b], .agg #[gi x, gi y], .agg #[gi u, gi v]] → ieq (chkE L n a b x y u v) 0 = w ∧ K (.plain (chkV w L n a b x y u v))) (vs := vs) (B := B) with q | ⟨cs, n, k, e, row, r, rfl, rfl⟩
  · rw [q] at h; exact h.elim
  · rw [s1Y_at] at h
    obtain ⟨h1, h2, h3⟩ := h
    obtain ⟨h4, h5⟩ := h3 _ rfl (agJ r).1.1 (agJ r).1.2 (agJ r).2.1.1 (agJ r).2.1.2 (agJ r).2.2.1 (agJ r).2.2.2 h2.1
    unfold s1X
    rw [s1Y_at, if_pos ⟨h1, h2⟩]
    exact ⟨_, rfl, by rw [← h4] at h5; exact h5⟩
noncomputable def orcWn : Orc := wkO orcBe
theorem orcWn_ok : OrcOk Tryz.prog orcWn := wkO_ok orcBe_ok
noncomputable def askWn (w1 w2 w3 : Bool) (p q lo hi : Nat) : Asks := skipA 13 (asksV Tryz.prog.globals.size 15 (worY w1) (asksV Tryz.prog.globals.size 17 (besY w2) (asksV Tryz.prog.globals.size 18 (chkY w3) (askBd p q lo hi))))
theorem askWn_ok (w1 w2 w3 : Bool) (p q lo hi : Nat) : AsksOk orcWn (askWn w1 w2 w3 p q lo hi) := skipA_ok (asksV_ok (worY_ok w1) (asksV_ok (besY_ok w2) (asksV_ok (chkY_ok w3) (askBd_ok p q lo hi))))
noncomputable abbrev wB6 (es : Nat → TypeId) : AHeap := base tabs6 es Tryz.prog.globals.size
noncomputable abbrev seV (a b c d u v : Int) : Value := .agg #[gi a, gi b, gi c, gi d, gi u, gi v]
end Go.Proofs.YtihnnmejkpddeaaGreatDoor
/-! (OWN WORK. Stage 6: the law of windows: true for all series, windows, lengths and worths.) -/
namespace Go.Proofs.YtihnnmejkpddeaaGreatDoor
open Go Go.Am
theorem fs_cons (x : Int) (r : List Int) : firstS (x :: r) = bif ieq x 0 then firstS r else x := rfl
theorem fs_nil : firstS [] = 0 := rfl
theorem wh_f (e : Int) : whenS false e = 0 := rfl
theorem toNat_w (n : Nat) : (Int.ofNat n).toNat = n := rfl
theorem all2 {P : Int → Int → Prop} {a b : Int} : (∀ x y : Int, [Value.agg #[gi a, gi b]] = [Value.agg #[gi x, gi y]] → P x y) = P a b := by
  refine propext ⟨fun h => h a b rfl, fun h x y e => ?_⟩
  injection e with e _
  injection e with e
  have e : [gi a, gi b] = [gi x, gi y] := congrArg Array.toList e
  injection e with e1 e
  injection e with e2 _
  injection e1 with _ e1
  injection e2 with _ e2
  rw [← e1, ← e2]; exact h
theorem all6 {P : Int → Int → Int → Int → Int → Int → Prop} {a b c d u v : Int} : (∀ y1 y2 y3 y4 y5 y6 : Int, [Value.agg #[gi a, gi b], Value.agg #[gi c, gi d], Value.agg #[gi u, gi v]] = [Value.agg #[gi y1, gi y2], Value.agg #[gi y3, gi y4], Value.agg #[gi y5, gi y6]] → P y1 y2 y3 y4 y5 y6) = P a b c d u v := by
  refine propext ⟨fun h => h a b c d u v rfl, fun h y1 y2 y3 y4 y5 y6 e => ?_⟩
  injection e with ea e
  injection e with eb e
  injection e with ec _
  have two : ∀ {a b x y : Int}, Value.agg #[gi a, gi b] = Value.agg #[gi x, gi y] → a = x ∧ b = y := fun {a b x y} e => by
    injection e with e
    have e : [gi a, gi b] = [gi x, gi y] := congrArg Array.toList e
    injection e with e1 e
    injection e with e2 _
    injection e1 with _ e1
    injection e2 with _ e2
    exact ⟨e1, e2⟩
  obtain ⟨rfl, rfl⟩ := two ea
  obtain ⟨rfl, rfl⟩ := two eb
  obtain ⟨rfl, rfl⟩ := two ec
  exact h
theorem b2 (x y : Int) : Value.bool (ieq x x && (ieq y y && true)) = Value.bool true := by rw [ieq_self, ieq_self]; rfl
theorem ieq_comm (a b : Int) : ieq a b = ieq b a := by
  rw [ieq_dec, ieq_dec]
  by_cases h : a = b
  · subst h; rfl
  · rw [decide_eq_false h, decide_eq_false fun e => h e.symm]
theorem eqW_say (W : W4) (x y u v : Int) : eqW W x y u v = ((ieq W.1 x && (ieq W.2.1 y && true)) && (ieq W.2.2.1 u && (ieq W.2.2.2 v && true))) := by
  unfold eqW
  rw [ieq_comm x, ieq_comm y, ieq_comm u, ieq_comm v, Bool.and_true (ieq W.2.2.1 u && (ieq W.2.2.2 v && true))]
end Go.Proofs.YtihnnmejkpddeaaGreatDoor
