/-
  OWN WORK. Stage 6: bounds as known calls; rounds of the loops over risk tables.
-/
import Derived.Test.YtihnnmejkpddeaaGreatDoorMgC
import Derived.Test.YtihnnmejkpddeaaGreatDoorAmX
import Derived.Test.YtihnnmejkpddeaaGreatDoorAmV
namespace Go.Proofs.YtihnnmejkpddeaaGreatDoor
open Go Go.Am

noncomputable def bcE (a b c d : Int) : Int := firstS [szE a b, szE c d, whenS (ilt 0 (cpR (a, b) (c, d))) 11]
noncomputable def mgV (a b c d : Int) (o : Bool) (x y : Int) : Int := bif ilt (cpR (c, d) (x, y)) 0 && !o then -1 else bif ilt 0 (cpR (a, b) (x, y)) then 1 else 0
noncomputable def bcL : List Value → Option (Bool × Value)
  | [.agg x] => match x.toList with
    | [.int .i64 a, .int .i64 b, .int .i64 c, .int .i64 d, .bool _] => some (okI a b && okI c d, gi (bcE a b c d))
    | _ => none
  | _ => none
noncomputable def bcU : List Value → Option Value
  | [.agg x] => match x.toList with
    | [.int .i64 a, .int .i64 b, .int .i64 c, .int .i64 d, .bool _] => some (gi (bcE a b c d))
    | _ => none
  | _ => none
noncomputable def b2L (F : Int → Int → Int → Int → Bool → Int → Int → Value) : List Value → Option Value
  | [.agg x, .agg y] => match x.toList, y.toList with
    | [.int .i64 a, .int .i64 b, .int .i64 c, .int .i64 d, .bool o], [.int .i64 p, .int .i64 q] => some (F a b c d o p q)
    | _, _ => none
  | _ => none
theorem b2L_inv {F : Int → Int → Int → Int → Bool → Int → Int → Value} {l : List Value} {v : Value} (h : b2L F l = some v) : ∃ a b c d o p q, l = [bndV a b c d o, .agg #[gi p, gi q]] ∧ v = F a b c d o p q := by
  unfold b2L at h
  split at h
  · split at h
    · rename_i ha hb
      cases h
      obtain rfl := agg_eq ha
      obtain rfl := agg_eq hb
      exact ⟨_, _, _, _, _, _, _, rfl, rfl⟩
    · cases h
  · cases h
theorem bc_swap {a b c d : Int} (h : (!(ieq (firstS [szE a b, szE c d]) 0)) = true) : bcE a b c d = firstS [szE a b, szE c d] := by
  have h := not_ieqT h
  unfold bcE
  unfold firstS firstS firstS at h
  unfold firstS firstS firstS
  cases h1 : ieq (szE a b) 0 with
  | false => rfl
  | true =>
    rw [h1] at h
    cases h2 : ieq (szE c d) 0 with
    | false => rfl
    | true => rw [h2] at h; cases h
theorem bc_go {a b c d : Int} (h : (!(ieq (firstS [szE a b, szE c d]) 0)) = false) : bcE a b c d = whenS (ilt 0 (cpR (a, b) (c, d))) 11 := by
  have h := not_ieqF h
  rw [ieq_dec] at h
  have h := of_decide_eq_true h
  unfold bcE
  rw [firstS_none h _ (.head _), firstS_none h _ (.tail _ (.head _))]
  exact firstS_one _
noncomputable def orcMb : Orc := orElse 140 (condO bcL) (orElse 64 (flatSpec bcU) (orElse 66 (flatSpec (b2L fun a b c d o p q => gi (mgV a b c d o p q))) (orElse 168 (flatSpec (b2L fun _ _ c d o p q => .bool (ilt (cpR (c, d) (p, q)) 0 && !o))) (orElse 169 (flatSpec (b2L fun a b _ _ _ p q => .bool (ilt 0 (cpR (a, b) (p, q))))) orcMa))))
set_option maxRecDepth 100000 in
theorem orcMb_ok : OrcOk Tryz.prog orcMb := by
  refine condO_ok (fun l v h => ?_) (flatSpec_ok (fun l v h => ?_) (flatSpec_ok (fun l v h => ?_) (flatSpec_ok (fun l v h => ?_) (flatSpec_ok (fun l v h => ?_) orcMa_ok))))
  · unfold bcL at h
    split at h
    · split at h
      · rename_i ha
        injection h with h
        injection h with h1 h2
        obtain rfl := agg_eq ha
        rw [Bool.and_eq_true] at h1
        subst h2
        exact ⟨rfl, rfl, callC_ok mixed orcMa_ok askMa_ok (Eq.mpr (bch_run _ _ _ _ _ _) ⟨h1.1, rfl, rfl, rfl, h1.2, rfl, rfl, rfl⟩)⟩
      · cases h
    · cases h
  · unfold bcU at h
    split at h
    · split at h
      · rename_i a b c d o ha
        cases h
        obtain rfl := agg_eq ha
        refine ⟨rfl, rfl, callC_ok mixed orcMa_ok askMa_ok (Eq.mpr (rcb_run _ _ _ _ _ _) ⟨rfl, fun hz => ?_, fun hz => ?_⟩)⟩
        · show _ = gi (bcE a b c d)
          rw [bc_swap hz]
        · show _ = gi (bcE a b c d)
          rw [bc_go hz]
      · cases h
    · cases h
  · obtain ⟨a, b, c, d, o, p, q, rfl, rfl⟩ := b2L_inv h
    refine ⟨rfl, rfl, callC_ok mixed orcMa_ok askMa_ok (Eq.mpr (rmg_run _ _ _ _ _ _ _ _) ?_)⟩
    show _ ∧ _
    unfold mgV
    generalize ilt (cpR (c, d) (p, q)) 0 = u
    generalize ilt 0 (cpR (a, b) (p, q)) = w
    cases u <;> cases o <;> cases w <;> refine ⟨fun h => ?_, fun h => ?_⟩ <;> first | (cases h; done) | (refine ⟨fun h => ?_, fun h => ?_⟩ <;> first | (cases h; done) | rfl | (refine ⟨fun h => ?_, fun h => ?_⟩ <;> first | (cases h; done) | rfl))
  · obtain ⟨a, b, c, d, o, p, q, rfl, rfl⟩ := b2L_inv h
    refine ⟨rfl, rfl, callC_ok mixed orcMa_ok askMa_ok (Eq.mpr (bel_run _ _ _ _ _ _ _ _) ⟨fun h => ?_, fun h => ?_⟩)⟩
    · show _ = Value.bool (ilt (cpR (c, d) (p, q)) 0 && !o)
      rw [h]; rfl
    · show _ = Value.bool (ilt (cpR (c, d) (p, q)) 0 && !o)
      rw [h]; rfl
  · obtain ⟨a, b, c, d, o, p, q, rfl, rfl⟩ := b2L_inv h
    exact ⟨rfl, rfl, callC_ok mixed orcMa_ok askMa_ok (Eq.mpr (abo_run _ _ _ _ _ _ _ _) rfl)⟩
noncomputable def askMb : Asks := asksF 140 bcL (skipA 64 (skipA 66 (skipA 168 (skipA 169 askMa))))
theorem askMb_ok : AsksOk orcMb askMb := asksF_ok (skipA_ok (skipA_ok (skipA_ok (skipA_ok askMa_ok))))
/-! Rounds. -/
noncomputable abbrev cloS : Value := .func (.func 172) #[] #[ptN 1]
noncomputable abbrev stC (c : List Value) (e row : Nat) (u v w : Int) : List Blk := [(c, e, row, true), ([gi u, gi v, gi w], 201, 0, false)]
noncomputable abbrev stH (c : List Value) (e row : Nat) (u v w : Int) : AHeap := canonT [] (fun _ => 0) Tryz.prog.globals.size (stC c e row u v w)
noncomputable abbrev rkC (c : List Value) (e row : Nat) (x y : Int) : List Blk := [(c, e, row, true), ([gi x, gi y], 28, 0, false)]
noncomputable abbrev rkH (c : List Value) (e row : Nat) (x y : Int) : AHeap := canonT [] (fun _ => 0) Tryz.prog.globals.size (rkC c e row x y)
noncomputable abbrev spD (c d : List Value) (e row : Nat) : AHeap := gW Tryz.prog [(c, e, row, true)] d 201 4
noncomputable def syEs : FuncId → Sy := fun f => match Nat.beq f 172 with
  | true => syOf [(7, 7), (16, 1)]
  | false => fun _ => 0
theorem es_body (c : List Value) (n k e row j : Nat) (u v w : Int) (g : Nat → Value) (Q : Exit → List Value → AHeap → Prop) : execR Tryz.prog orcMb syEs askMb 60 [syOf [(11, 1), (12, 2), (13, 46), (16, 55), (18, 1)]] none (loopOf Tryz.prog 171 0) (stOf 21 [(1, cloS), (4, gi 0), (8, liP n k), (9, goN n), (10, goN j)] g) (stH c e row u v w) (told 21 [1, 4, 8, 9, 10] Q) = (((Nat.blt j n = true → (Nat.blt j n = true ∧ c[(0 + (j * 3))]? = Option.some (gi (intAt c (0 + (j * 3)))) ∧ c[((0 + (j * 3)) + 1)]? = Option.some (gi (intAt c ((0 + (j * 3)) + 1))) ∧ c[(((0 + (j * 3)) + 1) + 1)]? = Option.some (gi (intAt c (((0 + (j * 3)) + 1) + 1))) ∧ okI (intAt c (0 + (j * 3))) (intAt c ((0 + (j * 3)) + 1)) = true ∧ Value.agg #[gi u, gi v] = Value.agg #[gi u, gi v] ∧ Value.agg (Array.mk (List.take 3 (List.drop 0 (List.take 3 (List.drop 0 ([] ++ ([gi (intAt c (0 + (j * 3))), gi (intAt c ((0 + (j * 3)) + 1)), gi (intAt c (((0 + (j * 3)) + 1) + 1))] ++ []))))))) = Value.agg (Array.mk (List.take 3 (List.drop 0 (List.take 3 (List.drop 0 ([] ++ ([gi (intAt c (0 + (j * 3))), gi (intAt c ((0 + (j * 3)) + 1)), gi (intAt c (((0 + (j * 3)) + 1) + 1))] ++ []))))))) ∧ (List.take 3 (List.drop 0 ([] ++ ([gi (intAt c (0 + (j * 3))), gi (intAt c ((0 + (j * 3)) + 1)), gi (intAt c (((0 + (j * 3)) + 1) + 1))] ++ []))))[2]? = Option.some (gi (intAt c (((0 + (j * 3)) + 1) + 1))) ∧ Value.agg #[gi u, gi v] = Value.agg #[gi u, gi v] ∧ Value.agg (Array.mk (List.take 3 (List.drop 0 (List.take 3 (List.drop 0 ([] ++ ([gi (intAt c (0 + (j * 3))), gi (intAt c ((0 + (j * 3)) + 1)), gi (intAt c (((0 + (j * 3)) + 1) + 1))] ++ []))))))) = Value.agg (Array.mk (List.take 3 (List.drop 0 (List.take 3 (List.drop 0 ([] ++ ([gi (intAt c (0 + (j * 3))), gi (intAt c ((0 + (j * 3)) + 1)), gi (intAt c (((0 + (j * 3)) + 1) + 1))] ++ []))))))) ∧ ((!(ilt 0 (cpR (Prod.mk (intAt c (0 + (j * 3))) (intAt c ((0 + (j * 3)) + 1))) (Prod.mk u v)))) = true → (((!(ieq (firstS [szE (intAt c (0 + (j * 3))) (intAt c ((0 + (j * 3)) + 1)), withinS (intAt c (((0 + (j * 3)) + 1) + 1)) 0 1000, 11]) 0)) = true → Q .ret [cloS, gi (firstS [szE (intAt c (0 + (j * 3))) (intAt c ((0 + (j * 3)) + 1)), withinS (intAt c (((0 + (j * 3)) + 1) + 1)) 0 1000, 11]), liP n k, goN n, goN j] ((((((stH c e row u v w).push (.cells [gi 0, gi 0, gi 0] 201 0 false)).set (nG1 + 2) (.cells ([] ++ ([gi (intAt c (0 + (j * 3))), gi (intAt c ((0 + (j * 3)) + 1)), gi (intAt c (((0 + (j * 3)) + 1) + 1))] ++ [])) 201 0 false)).push (.cells (List.take 3 (List.drop 0 ([] ++ ([gi (intAt c (0 + (j * 3))), gi (intAt c ((0 + (j * 3)) + 1)), gi (intAt c (((0 + (j * 3)) + 1) + 1))] ++ [])))) 201 0 false)).push (.cells [gi (szE (intAt c (0 + (j * 3))) (intAt c ((0 + (j * 3)) + 1))), gi (withinS (intAt c (((0 + (j * 3)) + 1) + 1)) 0 1000), gi 11] 33 2 false)).set (nG1 + 1) (.cells ([] ++ (List.take 3 (List.drop 0 (List.take 3 (List.drop 0 ([] ++ ([gi (intAt c (0 + (j * 3))), gi (intAt c ((0 + (j * 3)) + 1)), gi (intAt c (((0 + (j * 3)) + 1) + 1))] ++ []))))) ++ [])) 201 0 false))) ∧ ((!(ieq (firstS [szE (intAt c (0 + (j * 3))) (intAt c ((0 + (j * 3)) + 1)), withinS (intAt c (((0 + (j * 3)) + 1) + 1)) 0 1000, 11]) 0)) = false → Q .normal [cloS, gi 0, liP n k, goN n, gi (fwrap IntKind.i64 (Int.ofNat (j + 1)))] ((((((stH c e row u v w).push (.cells [gi 0, gi 0, gi 0] 201 0 false)).set (nG1 + 2) (.cells ([] ++ ([gi (intAt c (0 + (j * 3))), gi (intAt c ((0 + (j * 3)) + 1)), gi (intAt c (((0 + (j * 3)) + 1) + 1))] ++ [])) 201 0 false)).push (.cells (List.take 3 (List.drop 0 ([] ++ ([gi (intAt c (0 + (j * 3))), gi (intAt c ((0 + (j * 3)) + 1)), gi (intAt c (((0 + (j * 3)) + 1) + 1))] ++ [])))) 201 0 false)).push (.cells [gi (szE (intAt c (0 + (j * 3))) (intAt c ((0 + (j * 3)) + 1))), gi (withinS (intAt c (((0 + (j * 3)) + 1) + 1)) 0 1000), gi 11] 33 2 false)).set (nG1 + 1) (.cells ([] ++ (List.take 3 (List.drop 0 (List.take 3 (List.drop 0 ([] ++ ([gi (intAt c (0 + (j * 3))), gi (intAt c ((0 + (j * 3)) + 1)), gi (intAt c (((0 + (j * 3)) + 1) + 1))] ++ []))))) ++ [])) 201 0 false))))) ∧ ((!(ilt 0 (cpR (Prod.mk (intAt c (0 + (j * 3))) (intAt c ((0 + (j * 3)) + 1))) (Prod.mk u v)))) = false → (((!(ieq (firstS [szE (intAt c (0 + (j * 3))) (intAt c ((0 + (j * 3)) + 1)), withinS (intAt c (((0 + (j * 3)) + 1) + 1)) 0 1000, whenS (ilt (intAt c (((0 + (j * 3)) + 1) + 1)) w) 11]) 0)) = true → Q .ret [cloS, gi (firstS [szE (intAt c (0 + (j * 3))) (intAt c ((0 + (j * 3)) + 1)), withinS (intAt c (((0 + (j * 3)) + 1) + 1)) 0 1000, whenS (ilt (intAt c (((0 + (j * 3)) + 1) + 1)) w) 11]), liP n k, goN n, goN j] ((((((stH c e row u v w).push (.cells [gi 0, gi 0, gi 0] 201 0 false)).set (nG1 + 2) (.cells ([] ++ ([gi (intAt c (0 + (j * 3))), gi (intAt c ((0 + (j * 3)) + 1)), gi (intAt c (((0 + (j * 3)) + 1) + 1))] ++ [])) 201 0 false)).push (.cells (List.take 3 (List.drop 0 ([] ++ ([gi (intAt c (0 + (j * 3))), gi (intAt c ((0 + (j * 3)) + 1)), gi (intAt c (((0 + (j * 3)) + 1) + 1))] ++ [])))) 201 0 false)).push (.cells [gi (szE (intAt c (0 + (j * 3))) (intAt c ((0 + (j * 3)) + 1))), gi (withinS (intAt c (((0 + (j * 3)) + 1) + 1)) 0 1000), gi (whenS (ilt (intAt c (((0 + (j * 3)) + 1) + 1)) w) 11)] 33 2 false)).set (nG1 + 1) (.cells ([] ++ (List.take 3 (List.drop 0 (List.take 3 (List.drop 0 ([] ++ ([gi (intAt c (0 + (j * 3))), gi (intAt c ((0 + (j * 3)) + 1)), gi (intAt c (((0 + (j * 3)) + 1) + 1))] ++ []))))) ++ [])) 201 0 false))) ∧ ((!(ieq (firstS [szE (intAt c (0 + (j * 3))) (intAt c ((0 + (j * 3)) + 1)), withinS (intAt c (((0 + (j * 3)) + 1) + 1)) 0 1000, whenS (ilt (intAt c (((0 + (j * 3)) + 1) + 1)) w) 11]) 0)) = false → Q .normal [cloS, gi 0, liP n k, goN n, gi (fwrap IntKind.i64 (Int.ofNat (j + 1)))] ((((((stH c e row u v w).push (.cells [gi 0, gi 0, gi 0] 201 0 false)).set (nG1 + 2) (.cells ([] ++ ([gi (intAt c (0 + (j * 3))), gi (intAt c ((0 + (j * 3)) + 1)), gi (intAt c (((0 + (j * 3)) + 1) + 1))] ++ [])) 201 0 false)).push (.cells (List.take 3 (List.drop 0 ([] ++ ([gi (intAt c (0 + (j * 3))), gi (intAt c ((0 + (j * 3)) + 1)), gi (intAt c (((0 + (j * 3)) + 1) + 1))] ++ [])))) 201 0 false)).push (.cells [gi (szE (intAt c (0 + (j * 3))) (intAt c ((0 + (j * 3)) + 1))), gi (withinS (intAt c (((0 + (j * 3)) + 1) + 1)) 0 1000), gi (whenS (ilt (intAt c (((0 + (j * 3)) + 1) + 1)) w) 11)] 33 2 false)).set (nG1 + 1) (.cells ([] ++ (List.take 3 (List.drop 0 (List.take 3 (List.drop 0 ([] ++ ([gi (intAt c (0 + (j * 3))), gi (intAt c ((0 + (j * 3)) + 1)), gi (intAt c (((0 + (j * 3)) + 1) + 1))] ++ []))))) ++ [])) 201 0 false))))))) ∧ (Nat.blt j n = false → Q (.exit 0) [cloS, gi 0, liP n k, goN n, goN j] (stH c e row u v w)))) := by kernel_rfl
theorem rct_body (c : List Value) (n k e row j : Nat) (g : Nat → Value) (Q : Exit → List Value → AHeap → Prop) : execC Tryz.prog (exec Tryz.prog orcMb 10) (syOf [(15, 1), (20, 2), (22, 46), (26, 2), (28, 3), (33, 1), (37, 1), (40, 33), (41, 2), (43, 46), (46, 2), (48, 46), (51, 1), (54, 2), (56, 3), (59, 33), (60, 2), (62, 3), (65, 1)]) askMb (noLoops _) 40 (loopOf Tryz.prog 65 0) (stOf 66 [(0, liP n k), (2, gi 0), (4, goN j)] g) (roH c e row) (told 66 [0, 2, 4] Q) = (((Nat.blt j n = true → (Nat.blt j n = true ∧ c[((0 + (j * 3)) + 0)]? = Option.some (gi (intAt c ((0 + (j * 3)) + 0))) ∧ c[(((0 + (j * 3)) + 0) + 1)]? = Option.some (gi (intAt c (((0 + (j * 3)) + 0) + 1))) ∧ Nat.blt j n = true ∧ c[((0 + (j * 3)) + 2)]? = Option.some (gi (intAt c ((0 + (j * 3)) + 2))) ∧ c[((0 + (j * 3)) + 2)]? = Option.some (gi (intAt c ((0 + (j * 3)) + 2))) ∧ ((!(ieq (firstS [szE (intAt c ((0 + (j * 3)) + 0)) (intAt c (((0 + (j * 3)) + 0) + 1)), withinS (intAt c ((0 + (j * 3)) + 2)) 0 1000]) 0)) = true → Q .ret [liP n k, gi (firstS [szE (intAt c ((0 + (j * 3)) + 0)) (intAt c (((0 + (j * 3)) + 0) + 1)), withinS (intAt c ((0 + (j * 3)) + 2)) 0 1000]), goN j] ((roH c e row).push (.cells [gi (szE (intAt c ((0 + (j * 3)) + 0)) (intAt c (((0 + (j * 3)) + 0) + 1))), gi (withinS (intAt c ((0 + (j * 3)) + 2)) 0 1000)] 3 2 false))) ∧ ((!(ieq (firstS [szE (intAt c ((0 + (j * 3)) + 0)) (intAt c (((0 + (j * 3)) + 0) + 1)), withinS (intAt c ((0 + (j * 3)) + 2)) 0 1000]) 0)) = false → ((ilt 0 (Int.ofNat j) = true → (inI64 (Int.ofNat j - 1) = true ∧ ahasIndex (Int.ofNat j - 1) n = true ∧ c[((0 + (Int.toNat (Int.ofNat j - 1) * 3)) + 0)]? = Option.some (gi (intAt c ((0 + (Int.toNat (Int.ofNat j - 1) * 3)) + 0))) ∧ c[(((0 + (Int.toNat (Int.ofNat j - 1) * 3)) + 0) + 1)]? = Option.some (gi (intAt c (((0 + (Int.toNat (Int.ofNat j - 1) * 3)) + 0) + 1))) ∧ Nat.blt j n = true ∧ c[((0 + (j * 3)) + 0)]? = Option.some (gi (intAt c ((0 + (j * 3)) + 0))) ∧ c[(((0 + (j * 3)) + 0) + 1)]? = Option.some (gi (intAt c (((0 + (j * 3)) + 0) + 1))) ∧ ((!(ilt (cpR (Prod.mk (intAt c ((0 + (Int.toNat (Int.ofNat j - 1) * 3)) + 0)) (intAt c (((0 + (Int.toNat (Int.ofNat j - 1) * 3)) + 0) + 1))) (Prod.mk (intAt c ((0 + (j * 3)) + 0)) (intAt c (((0 + (j * 3)) + 0) + 1)))) 0)) = true → ((true = true → Q .ret [liP n k, gi 11, goN j] ((roH c e row).push (.cells [gi (szE (intAt c ((0 + (j * 3)) + 0)) (intAt c (((0 + (j * 3)) + 0) + 1))), gi (withinS (intAt c ((0 + (j * 3)) + 2)) 0 1000)] 3 2 false))) ∧ (true = false → Q .normal [liP n k, gi 0, gi (fwrap IntKind.i64 (Int.ofNat (j + 1)))] ((roH c e row).push (.cells [gi (szE (intAt c ((0 + (j * 3)) + 0)) (intAt c (((0 + (j * 3)) + 0) + 1))), gi (withinS (intAt c ((0 + (j * 3)) + 2)) 0 1000)] 3 2 false))))) ∧ ((!(ilt (cpR (Prod.mk (intAt c ((0 + (Int.toNat (Int.ofNat j - 1) * 3)) + 0)) (intAt c (((0 + (Int.toNat (Int.ofNat j - 1) * 3)) + 0) + 1))) (Prod.mk (intAt c ((0 + (j * 3)) + 0)) (intAt c (((0 + (j * 3)) + 0) + 1)))) 0)) = false → (Nat.blt j n = true ∧ c[((0 + (j * 3)) + 2)]? = Option.some (gi (intAt c ((0 + (j * 3)) + 2))) ∧ inI64 (Int.ofNat j - 1) = true ∧ ahasIndex (Int.ofNat j - 1) n = true ∧ c[((0 + (Int.toNat (Int.ofNat j - 1) * 3)) + 2)]? = Option.some (gi (intAt c ((0 + (Int.toNat (Int.ofNat j - 1) * 3)) + 2))) ∧ (ilt (intAt c ((0 + (j * 3)) + 2)) (intAt c ((0 + (Int.toNat (Int.ofNat j - 1) * 3)) + 2)) = true → Q .ret [liP n k, gi 11, goN j] ((roH c e row).push (.cells [gi (szE (intAt c ((0 + (j * 3)) + 0)) (intAt c (((0 + (j * 3)) + 0) + 1))), gi (withinS (intAt c ((0 + (j * 3)) + 2)) 0 1000)] 3 2 false))) ∧ (ilt (intAt c ((0 + (j * 3)) + 2)) (intAt c ((0 + (Int.toNat (Int.ofNat j - 1) * 3)) + 2)) = false → Q .normal [liP n k, gi 0, gi (fwrap IntKind.i64 (Int.ofNat (j + 1)))] ((roH c e row).push (.cells [gi (szE (intAt c ((0 + (j * 3)) + 0)) (intAt c (((0 + (j * 3)) + 0) + 1))), gi (withinS (intAt c ((0 + (j * 3)) + 2)) 0 1000)] 3 2 false))))))) ∧ (ilt 0 (Int.ofNat j) = false → ((false = true → Q .ret [liP n k, gi 11, goN j] ((roH c e row).push (.cells [gi (szE (intAt c ((0 + (j * 3)) + 0)) (intAt c (((0 + (j * 3)) + 0) + 1))), gi (withinS (intAt c ((0 + (j * 3)) + 2)) 0 1000)] 3 2 false))) ∧ (false = false → Q .normal [liP n k, gi 0, gi (fwrap IntKind.i64 (Int.ofNat (j + 1)))] ((roH c e row).push (.cells [gi (szE (intAt c ((0 + (j * 3)) + 0)) (intAt c (((0 + (j * 3)) + 0) + 1))), gi (withinS (intAt c ((0 + (j * 3)) + 2)) 0 1000)] 3 2 false))))))))) ∧ (Nat.blt j n = false → Q (.exit 0) [liP n k, gi 0, goN j] (roH c e row)))) := by kernel_rfl
theorem rrk_body (c : List Value) (n k e row j : Nat) (x y r : Int) (g : Nat → Value) (Q : Exit → List Value → AHeap → Prop) : execC Tryz.prog (exec Tryz.prog orcMb 10) (syOf [(10, 1), (15, 2), (17, 46), (20, 1), (23, 2), (25, 3)]) askMb (noLoops _) 40 (loopOf Tryz.prog 67 0) (stOf 27 [(0, liP n k), (3, ptN 1), (5, gi r), (6, goN j)] g) (rkH c e row x y) (told 27 [0, 3, 5, 6] Q) = (((Nat.blt j n = true → (Nat.blt j n = true ∧ c[((0 + (j * 3)) + 0)]? = Option.some (gi (intAt c ((0 + (j * 3)) + 0))) ∧ c[(((0 + (j * 3)) + 0) + 1)]? = Option.some (gi (intAt c (((0 + (j * 3)) + 0) + 1))) ∧ ((!(ilt 0 (cpR (Prod.mk (intAt c ((0 + (j * 3)) + 0)) (intAt c (((0 + (j * 3)) + 0) + 1))) (Prod.mk x y)))) = true → (Nat.blt j n = true ∧ c[((0 + (j * 3)) + 2)]? = Option.some (gi (intAt c ((0 + (j * 3)) + 2))) ∧ Q .normal [liP n k, ptN 1, gi (intAt c ((0 + (j * 3)) + 2)), gi (fwrap IntKind.i64 (Int.ofNat (j + 1)))] (rkH c e row x y))) ∧ ((!(ilt 0 (cpR (Prod.mk (intAt c ((0 + (j * 3)) + 0)) (intAt c (((0 + (j * 3)) + 0) + 1))) (Prod.mk x y)))) = false → Q .normal [liP n k, ptN 1, gi r, gi (fwrap IntKind.i64 (Int.ofNat (j + 1)))] (rkH c e row x y)))) ∧ (Nat.blt j n = false → Q (.exit 0) [liP n k, ptN 1, gi r, goN j] (rkH c e row x y)))) := by kernel_rfl
theorem stp_bodyA (c : List Value) (n k e row j : Nat) (g : Nat → Value) (Q : Exit → List Value → AHeap → Prop) : execC Tryz.prog (exec Tryz.prog orcMb 10) (syOf [(9, 1), (10, 2), (11, 46)]) askMb (noLoops _) 40 (loopOf Tryz.prog 62 0) (stOf 18 [(3, nilS), (6, liP n k), (7, goN n), (8, goN j)] g) (liH c e row) (told 18 [3, 6, 7, 8] Q) = (((Nat.blt j n = true → (Nat.blt j n = true ∧ c[(0 + (j * 3))]? = Option.some (gi (intAt c (0 + (j * 3)))) ∧ c[((0 + (j * 3)) + 1)]? = Option.some (gi (intAt c ((0 + (j * 3)) + 1))) ∧ c[(((0 + (j * 3)) + 1) + 1)]? = Option.some (gi (intAt c (((0 + (j * 3)) + 1) + 1))) ∧ Q .normal [Value.slice (some ⟨nG1 + 3, 0, none⟩) 1 1, liP n k, goN n, gi (fwrap IntKind.i64 (Int.ofNat (j + 1)))] (((((liH c e row).push (.cells [gi 0, gi 0, gi 0] 200 0 false)).set (nG1 + 1) (.cells ([] ++ ([gi (intAt c (0 + (j * 3))), gi (intAt c ((0 + (j * 3)) + 1)), gi (intAt c (((0 + (j * 3)) + 1) + 1))] ++ [])) 200 0 false)).push (.cells [gi (intAt c (0 + (j * 3))), gi (intAt c ((0 + (j * 3)) + 1)), gi (intAt c (((0 + (j * 3)) + 1) + 1))] 201 4 false)).push (.cells ([] ++ [gi (intAt c (0 + (j * 3))), gi (intAt c ((0 + (j * 3)) + 1)), gi (intAt c (((0 + (j * 3)) + 1) + 1))]) 201 4 false)))) ∧ (Nat.blt j n = false → Q (.exit 0) [nilS, liP n k, goN n, goN j] (liH c e row)))) := by kernel_rfl
theorem stp_bodyD (c d : List Value) (n k e row j q : Nat) (g : Nat → Value) (Q : Exit → List Value → AHeap → Prop) : execC Tryz.prog (exec Tryz.prog orcMb 10) (syOf [(9, 1), (10, 2), (11, 46), (15, 10)]) askMb (noLoops _) 40 (loopOf Tryz.prog 62 0) (stOf 18 [(3, .slice (some ⟨nG1 + 1, 0, none⟩) q q), (6, liP n k), (7, goN n), (8, goN j)] g) (spD c d e row) (told 18 [3, 6, 7, 8] Q) = (((Nat.blt j n = true → (Nat.blt j n = true ∧ c[(0 + (j * 3))]? = Option.some (gi (intAt c (0 + (j * 3)))) ∧ c[((0 + (j * 3)) + 1)]? = Option.some (gi (intAt c ((0 + (j * 3)) + 1))) ∧ c[(((0 + (j * 3)) + 1) + 1)]? = Option.some (gi (intAt c (((0 + (j * 3)) + 1) + 1))) ∧ Nat.ble (q + 1) q = false ∧ Nat.ble (((2 * (q + 1)) + 256) * 24) 281474976710656 = true ∧ (q * 3) = List.length d ∧ Q .normal [Value.slice (some ⟨nG1 + 4, 0, none⟩) (q + 1) (q + 1), liP n k, goN n, gi (fwrap IntKind.i64 (Int.ofNat (j + 1)))] ((((((spD c d e row).push (.cells [gi 0, gi 0, gi 0] 200 0 false)).set (nG1 + 2) (.cells ([] ++ ([gi (intAt c (0 + (j * 3))), gi (intAt c ((0 + (j * 3)) + 1)), gi (intAt c (((0 + (j * 3)) + 1) + 1))] ++ [])) 200 0 false)).push (.cells [gi (intAt c (0 + (j * 3))), gi (intAt c ((0 + (j * 3)) + 1)), gi (intAt c (((0 + (j * 3)) + 1) + 1))] 201 4 false)).set (nG1 + 1) (.dead)).push (.cells (d ++ [gi (intAt c (0 + (j * 3))), gi (intAt c ((0 + (j * 3)) + 1)), gi (intAt c (((0 + (j * 3)) + 1) + 1))]) 201 4 false)))) ∧ (Nat.blt j n = false → Q (.exit 0) [slQ q q, liP n k, goN n, goN j] (spD c d e row)))) := by kernel_rfl
end Go.Proofs.YtihnnmejkpddeaaGreatDoor
