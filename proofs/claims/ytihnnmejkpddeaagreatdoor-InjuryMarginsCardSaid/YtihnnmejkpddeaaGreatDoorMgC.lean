/-
  OWN WORK. Stage 6: sizes as known calls; bounds, carried out.
-/
import Derived.Test.YtihnnmejkpddeaaGreatDoorMgB
namespace Go.Proofs.YtihnnmejkpddeaaGreatDoor
open Go Go.Am

noncomputable def szL : List Value → Option (Bool × Value)
  | [.agg x] => match x.toList with
    | [.int .i64 a, .int .i64 b] => some (okI a b, gi (szE a b))
    | _ => none
  | _ => none
noncomputable def szU : List Value → Option Value
  | [.agg x] => match x.toList with
    | [.int .i64 a, .int .i64 b] => some (gi (szE a b))
    | _ => none
  | _ => none
noncomputable def scL : List Value → Option Value
  | [.agg x, .agg y] => match x.toList, y.toList with
    | [.int .i64 a, .int .i64 b, .int .i64 _], [.int .i64 c, .int .i64 d] => some (gi (cpR (a, b) (c, d)))
    | _, _ => none
  | _ => none
theorem sz_go {a b : Int} (h : ieq (firstS [withinS a 0 5000000000000, withinS b 1 1000000]) 0 = true) : szE a b = whenS (!eqP (rqA a b, rqB a b) (a, b)) 1 ∧ dvB a b = true := by
  rw [ieq_dec] at h
  have h := of_decide_eq_true h
  have h1 := firstS_none h _ (.head _)
  have h2 := firstS_none h _ (.tail _ (.head _))
  have g1 := within_zero h1
  have g2 := within_zero h2
  refine ⟨?_, dvB_of g1.1 (by omega) (by omega) (by omega)⟩
  unfold szE
  rw [h1, h2, ilt_say, decide_eq_true (by omega)]
  cases (!eqP (rqA a b, rqB a b) (a, b)) <;> rfl
theorem sz_no {a b : Int} (h : ieq (firstS [withinS a 0 5000000000000, withinS b 1 1000000]) 0 = false) : szE a b = firstS [withinS a 0 5000000000000, withinS b 1 1000000] := by
  unfold szE
  unfold firstS firstS firstS at h
  unfold firstS firstS firstS
  cases h1 : ieq (withinS a 0 5000000000000) 0 with
  | false => rfl
  | true =>
    rw [h1] at h
    cases h2 : ieq (withinS b 1 1000000) 0 with
    | false => rfl
    | true => rw [h2] at h; cases h
noncomputable def orcMa : Orc := orElse 91 (condO szL) (orElse 23 (flatSpec szU) (orElse 173 (flatSpec scL) orcJc))
set_option maxRecDepth 100000 in
theorem orcMa_ok : OrcOk Tryz.prog orcMa := by
  refine condO_ok (fun l v h => ?_) (flatSpec_ok (fun l v h => ?_) (flatSpec_ok (fun l v h => ?_) orcJc_ok))
  · unfold szL at h
    split at h
    · split at h
      · rename_i a b ha
        injection h with h
        injection h with h1 h2
        obtain rfl := agg_eq ha
        obtain ⟨k1, k2⟩ := okI_le h1
        subst h2
        refine ⟨rfl, rfl, callC_ok mixed orcJc_ok askJc_ok (Eq.mpr (sz_run a b _) ⟨rfl, rfl, rfl, fun hb => ⟨ratB_of k1 k2 (by rw [ilt_say] at hb; exact of_decide_eq_true hb), rfl, ?_⟩, fun hb => ?_⟩)⟩
        · show _ = gi (szE a b)
          unfold szE
          rw [hb]; rfl
        · show _ = gi (szE a b)
          unfold szE
          rw [hb]; rfl
      · cases h
    · cases h
  · unfold szU at h
    split at h
    · split at h
      · rename_i a b ha
        cases h
        obtain rfl := agg_eq ha
        refine ⟨rfl, rfl, callC_ok mixed orcJc_ok askJc_ok (Eq.mpr (rsz_run a b _) ⟨rfl, fun hz => ?_, fun hz => ?_⟩)⟩
        · show _ = gi (szE a b)
          rw [sz_no (not_ieqT hz)]
        · obtain ⟨e1, e2⟩ := sz_go (not_ieqF hz)
          exact ⟨e2, rfl, by show _ = gi (szE a b); rw [e1]; rfl⟩
      · cases h
    · cases h
  · unfold scL at h
    split at h
    · split at h
      · rename_i ha hb
        cases h
        obtain rfl := agg_eq ha
        obtain rfl := agg_eq hb
        exact ⟨rfl, rfl, callC_ok mixed orcJc_ok askJc_ok (Eq.mpr (scp_run _ _ _ _ _ _) rfl)⟩
      · cases h
    · cases h
noncomputable def askMa : Asks := asksF 91 szL (skipA 23 (skipA 173 askJc))
theorem askMa_ok : AsksOk orcMa askMa := asksF_ok (skipA_ok (skipA_ok askJc_ok))
noncomputable abbrev bndV (a b c d : Int) (o : Bool) : Value := .agg #[gi a, gi b, gi c, gi d, .bool o]
theorem bch_run (a b c d : Int) (o : Bool) (K : Value → Prop) : callC Tryz.prog (exec Tryz.prog orcMa 10) (syOf [(5, 7), (8, 7)]) askMa (noLoops _) 20 140 #[bndV a b c d o] (emp Tryz.prog) (fun v _ => K v) = ((okI a b = true ∧ Value.agg #[gi c, gi d] = Value.agg #[gi c, gi d] ∧ Value.agg #[gi a, gi b] = Value.agg #[gi a, gi b] ∧ Value.agg #[gi c, gi d] = Value.agg #[gi c, gi d] ∧ okI c d = true ∧ Value.agg #[gi c, gi d] = Value.agg #[gi c, gi d] ∧ Value.agg #[gi a, gi b] = Value.agg #[gi a, gi b] ∧ K (gi (firstS [szE a b, szE c d, whenS (ilt 0 (cpR (Prod.mk a b) (Prod.mk c d))) 11])))) := by kernel_rfl
theorem rcb_run (a b c d : Int) (o : Bool) (K : Value → Prop) : callC Tryz.prog (exec Tryz.prog orcMa 10) (syOf [(13, 1)]) askMa (noLoops _) 20 64 #[bndV a b c d o] (emp Tryz.prog) (fun v _ => K v) = ((Value.agg #[gi c, gi d] = Value.agg #[gi c, gi d] ∧ ((!(ieq (firstS [szE a b, szE c d]) 0)) = true → K (gi (firstS [szE a b, szE c d]))) ∧ ((!(ieq (firstS [szE a b, szE c d]) 0)) = false → K (gi (whenS (ilt 0 (cpR (Prod.mk a b) (Prod.mk c d))) 11))))) := by kernel_rfl
theorem rmg_run (a b c d : Int) (o : Bool) (x y : Int) (K : Value → Prop) : callC Tryz.prog (exec Tryz.prog orcMa 10) (syOf [(10, 1), (14, 1), (19, 1)]) askMa (noLoops _) 20 66 #[bndV a b c d o, .agg #[gi x, gi y]] (emp Tryz.prog) (fun v _ => K v) = (((ilt (cpR (Prod.mk c d) (Prod.mk x y)) 0 = true → (((!o) = true → K (gi (-1))) ∧ ((!o) = false → ((ilt 0 (cpR (Prod.mk a b) (Prod.mk x y)) = true → K (gi 1)) ∧ (ilt 0 (cpR (Prod.mk a b) (Prod.mk x y)) = false → K (gi 0)))))) ∧ (ilt (cpR (Prod.mk c d) (Prod.mk x y)) 0 = false → ((false = true → K (gi (-1))) ∧ (false = false → ((ilt 0 (cpR (Prod.mk a b) (Prod.mk x y)) = true → K (gi 1)) ∧ (ilt 0 (cpR (Prod.mk a b) (Prod.mk x y)) = false → K (gi 0)))))))) := by kernel_rfl
theorem bel_run (a b c d : Int) (o : Bool) (x y : Int) (K : Value → Prop) : callC Tryz.prog (exec Tryz.prog orcMa 10) (syOf [(10, 1)]) askMa (noLoops _) 20 168 #[bndV a b c d o, .agg #[gi x, gi y]] (emp Tryz.prog) (fun v _ => K v) = (((ilt (cpR (Prod.mk c d) (Prod.mk x y)) 0 = true → K (Value.bool (!o))) ∧ (ilt (cpR (Prod.mk c d) (Prod.mk x y)) 0 = false → K (Value.bool false)))) := by kernel_rfl
theorem abo_run (a b c d : Int) (o : Bool) (x y : Int) (K : Value → Prop) : callC Tryz.prog (exec Tryz.prog orcMa 10) (syOf []) askMa (noLoops _) 20 169 #[bndV a b c d o, .agg #[gi x, gi y]] (emp Tryz.prog) (fun v _ => K v) = (K (Value.bool (ilt 0 (cpR (Prod.mk a b) (Prod.mk x y))))) := by kernel_rfl
end Go.Proofs.YtihnnmejkpddeaaGreatDoor
