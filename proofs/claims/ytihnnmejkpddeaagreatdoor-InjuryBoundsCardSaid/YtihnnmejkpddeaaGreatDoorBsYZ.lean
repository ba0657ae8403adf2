/-
  OWN WORK. Stage 6: known calls of the laws on windows.
-/
import Derived.Test.YtihnnmejkpddeaaGreatDoorBsWX
import Derived.Test.YtihnnmejkpddeaaGreatDoorWk6
/-! (OWN WORK. Stage 6: the law of windows, carried out.) -/
namespace Go.Proofs.YtihnnmejkpddeaaGreatDoor
open Go Go.Am
noncomputable def worY (w : Bool) (vs : List Value) (B : List Cells) (K : Out → Prop) : Prop := s1Y False (fun cs n r => okT tiT cs n ∧ worC (TellT.dec tiT cs) r ∧ ∀ L : List Int, TellT.dec tiT cs = L → ∀ a b : Int, r = [.agg #[gi a, gi b]] → ieq (worE L n a b) 0 = w ∧ K (.plain (worV w L n a b))) vs B
noncomputable def besY (w : Bool) (vs : List Value) (B : List Cells) (K : Out → Prop) : Prop := s1Y False (fun cs n r => okT tiT cs n ∧ worC (TellT.dec tiT cs) r ∧ ∀ L : List Int, TellT.dec tiT cs = L → ∀ a b : Int, r = [.agg #[gi a, gi b]] → ieq (besE L n a b) 0 = w ∧ K (.plain (besV w L n a b))) vs B
noncomputable def chkY (w : Bool) (vs : List Value) (B : List Cells) (K : Out → Prop) : Prop := s1Y False (fun cs n r => okT tiT cs n ∧ chkC (TellT.dec tiT cs) r ∧ ∀ L : List Int, TellT.dec tiT cs = L → ∀ a b x y u v : Int, r = [.agg #[gi a, gi b], .agg #[gi x, gi y], .agg #[gi u, gi v]] → ieq (chkE L n a b x y u v) 0 = w ∧ K (.plain (chkV w L n a b x y u v))) vs B
noncomputable def orcWn : Orc := wkO orcBe
noncomputable def askWn (w1 w2 w3 : Bool) (p q lo hi : Nat) : Asks := skipA 13 (asksV Tryz.prog.globals.size 15 (worY w1) (asksV Tryz.prog.globals.size 17 (besY w2) (asksV Tryz.prog.globals.size 18 (chkY w3) (askBd p q lo hi))))
noncomputable abbrev wB6 (es : Nat → TypeId) : AHeap := base tabs6 es Tryz.prog.globals.size
noncomputable abbrev seV (a b c d u v : Int) : Value := .agg #[gi a, gi b, gi c, gi d, gi u, gi v]
end Go.Proofs.YtihnnmejkpddeaaGreatDoor
/-! (OWN WORK. Stage 6: the law of windows: true for all series, windows, lengths and worths.) -/
namespace Go.Proofs.YtihnnmejkpddeaaGreatDoor
open Go Go.Am
theorem fs_cons (x : Int) (r : List Int) : firstS (x :: r) = bif ieq x 0 then firstS r else x := rfl
theorem fs_nil : firstS [] = 0 := rfl
theorem wh_t (e : Int) : whenS true e = e := rfl
theorem wh_f (e : Int) : whenS false e = 0 := rfl
theorem toNat_w (n : Nat) : (Int.ofNat n).toNat = n := rfl
theorem all2 {P : Int → Int → Prop} {a b : Int} : (∀ x y : Int, [Value.agg #[gi a, gi b]] = [Value.agg #[gi x, gi y]] → P x y) = P a b := by
 refine propext ⟨fun h => h a b rfl, fun h x y e => ?_⟩
 injection e with e _
 injection e with e
 have e : [gi a, gi b] = [gi x, gi y] := congrArg Array.toList e
 injection e with e1 e
 injection e with e2 _
 injection e1 with _ e1
 injection e2 with _ e2
 rw [← e1, ← e2]; exact h
theorem b2 (x y : Int) : Value.bool (ieq x x && (ieq y y && true)) = Value.bool true := by rw [ieq_self, ieq_self]; rfl
theorem bso_some {c : List Value} {lo hi n : Nat} (h1 : 0 < lo) (h2 : lo ≤ hi) (h3 : lo ≤ n) : bsO c lo hi n n = some (bstW c lo hi n) := by
 obtain ⟨x, l, e⟩ := alW_ne (c := c) h1 h2 h3
 exact bs_best e
theorem bso_none {c : List Value} {lo hi n : Nat} (h : n < lo) : bsO c lo hi n n = none := by
 unfold bsO
 rw [alW_nil h n]; rfl
end Go.Proofs.YtihnnmejkpddeaaGreatDoor
