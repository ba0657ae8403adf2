/-
  OWN WORK. Codes: checked, by the program and by the reference.
-/
import Derived.Test.YtojfhklkcelblaaGreatDoorCdF
import Derived.Test.YtojfhklkcelblaaGreatDoorCdH
namespace Go.Proofs.YtojfhklkcelblaaGreatDoor
open Go Go.Am

noncomputable def orcIa : Orc := orElse 56 (flatSpec letS) (orElse 48 (tabSpec tabs2 textS) orcH)
theorem orcIa_ok : OrcOk Tryz.prog orcIa := by
  refine flatSpec_ok (fun l v h => ?_) (tabSpec_ok tabs2_flat (fun l v h => ?_) orcH_ok)
  · unfold letS at h
    split at h
    · split at h
      · rename_i hs
        cases h
        exact ⟨rfl, rfl, Letter_call hs⟩
      · cases h
    · cases h
  · unfold textS at h
    split at h
    · rename_i a
      split at h
      · rename_i p x g ha
        split at h
        · rename_i hc
          cases h
          obtain rfl : a = #[.string p, .int .i64 x, .int .i64 g] := by rw [← ha]
          exact ⟨rfl, rfl, fun es => text_call es hc.1 hc.2.1 hc.2.2⟩
        · cases h
      · cases h
    · cases h
noncomputable def askIa : Asks := asksP 56 letY (asksT tabs2 48 textY noAsks)
theorem askIa_ok : AsksOk orcIa askIa := asksQ_ok letY_ok (asksT_ok textY_ok (noAsks_ok _))
noncomputable abbrev mkC : List Value := [.string mD, .string mX, .string mS, .string mL]
noncomputable def codeE (p : ByteArray) (x g : Int) : Int := firstS [whenS (!(nameS p)) 8, withinS x 0 2, whenS (!ieq g 1 && !ieq g (-1)) 3]
noncomputable abbrev ccQ (es : Nat → TypeId) (p : ByteArray) (x g e3 : Int) (K : Value → AHeap → Prop) : Prop :=
  (cdC p x g)[2]? = some (gi g) ∧ gi 3 = gi 3 ∧ mkC[1]? = some (.string mX) ∧ (cdC p x g)[1]? = some (gi x) ∧ (cdC p x g)[2]? = some (gi g) ∧ gi 3 = gi 3 ∧ mkC[1]? = some (.string mX) ∧ (cdC p x g)[1]? = some (gi x) ∧ (cdC p x g)[2]? = some (gi g) ∧ K (gi (firstS [whenS (!(nameS p)) 8, withinS x 0 2, e3])) ((cdH es p x g).push (.cells [gi (whenS (!(nameS p)) 8), gi (withinS x 0 2), gi e3] 25 2 false))
theorem checkCode_run (es : Nat → TypeId) (p : ByteArray) (x g : Int) (K : Value → AHeap → Prop) : callC Tryz.prog (exec Tryz.prog orcIa 10) (syOf [(17, 1)]) noAsks (noLoops _) 40 11 #[.agg #[.string p, gi x, gi g]] (bT es) K = (((!(ieq g 1)) = true → ccQ es p x g (whenS (!(ieq g (-1))) 3) K) ∧ ((!(ieq g 1)) = false → ccQ es p x g (whenS false 3) K)) := by kernel_rfl
theorem CheckCode_run (p : ByteArray) (x g : Int) (K : Value → AHeap → Prop) : callC Tryz.prog (exec Tryz.prog orcIa 10) (syOf [(11, 1)]) noAsks (noLoops _) 40 8 #[.agg #[.string p, gi x, gi g]] (emp Tryz.prog) K = ((((!(ieq g 1)) = true → ([Value.string p, gi x, gi g][2]? = Option.some (gi g) ∧ [Value.string p, gi x, gi g][1]? = Option.some (gi x) ∧ [Value.string p, gi x, gi g][2]? = Option.some (gi g) ∧ K (gi (firstS [whenS (!(nameS p)) 8, withinS x 0 2, whenS (!(ieq g (-1))) 3])) (((emp Tryz.prog).push (.cells [Value.string p, gi x, gi g] 23 0 false)).push (.cells [gi (whenS (!(nameS p)) 8), gi (withinS x 0 2), gi (whenS (!(ieq g (-1))) 3)] 3 2 false)))) ∧ ((!(ieq g 1)) = false → ([Value.string p, gi x, gi g][2]? = Option.some (gi g) ∧ [Value.string p, gi x, gi g][1]? = Option.some (gi x) ∧ [Value.string p, gi x, gi g][2]? = Option.some (gi g) ∧ K (gi (firstS [whenS (!(nameS p)) 8, withinS x 0 2, 0])) (((emp Tryz.prog).push (.cells [Value.string p, gi x, gi g] 23 0 false)).push (.cells [gi (whenS (!(nameS p)) 8), gi (withinS x 0 2), gi 0] 3 2 false)))))) := by kernel_rfl
end Go.Proofs.YtojfhklkcelblaaGreatDoor
