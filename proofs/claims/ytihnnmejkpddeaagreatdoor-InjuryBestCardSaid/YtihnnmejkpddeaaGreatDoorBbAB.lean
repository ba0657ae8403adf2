/-
  OWN WORK. Stage 6: the law of the best window: the inner loop.
-/
import Derived.Test.YtihnnmejkpddeaaGreatDoorBsYZ
/-! (OWN WORK. Stage 6: the law of the best window: rounds of the inner loop.) -/
namespace Go.Proofs.YtihnnmejkpddeaaGreatDoor
open Go Go.Am
noncomputable abbrev g8 (x : Int) : Value := .int .u8 x
noncomputable abbrev bbC (c : List Value) (e row lo hi : Nat) (u w : Int) (a b : Nat) (A B : Int) : List Blk := [(c, e, row, true), ([goN lo, goN hi], 26, 0, false), ([g8 u, g8 w], 129, 0, false), ([goN a, goN b], 24, 0, false), ([gi A, gi B], 28, 0, false)]
noncomputable abbrev bbH (c : List Value) (e row lo hi : Nat) (u w : Int) (a b : Nat) (A B : Int) : AHeap := canonT [] (fun _ => 0) Tryz.prog.globals.size (bbC c e row lo hi u w a b A B)
theorem bi_1 (l : List Int) (e row m k lo hi p q a b : Nat) (u w A B : Int) (g : Nat → Value) (Q : Exit → List Value → AHeap → Prop) : execC Tryz.prog (exec Tryz.prog orcWn 40) (syOf [(120, 31), (127, 31), (133, 7), (137, 7), (145, 32), (153, 31), (167, 32), (170, 32), (180, 47), (182, 32), (200, 34), (203, 7), (209, 7), (210, 32)]) (askWn true true true 0 0 lo hi) (noLoops _) 60 (loopOf Tryz.prog 11 2) (stOf 329 [(0, liP (m + 1) k), (4, ptN 1), (5, ptN 2), (7, ptN 3), (8, ptN 4), (10, goN p), (11, goN q), (109, goN (m + 1)), (110, goN p)] g) (bbH (l.map gi) e row lo hi u w a b A B) (told 329 [0, 4, 5, 7, 8, 10, 11, 109, 110] Q) = (((!(Nat.blt (m + 1) q)) = true ∧ (!(ilt (Int.ofNat hi) (fwrap IntKind.i64 (Int.ofNat q - Int.ofNat p)))) = true ∧ (List.all (List.map gi l) (flat 3) = true ∧ True) ∧ okT tiT (List.map gi l) (m + 1) ∧ clCv (TellT.dec tiT (List.map gi l)) [] ∧ (∀ y1 : List Int, (TellT.dec tiT (List.map gi l) = y1 → ((List.all (List.map gi y1) (flat 3) = true ∧ True) ∧ okT tiT (List.map gi y1) (m + 1) ∧ worC (TellT.dec tiT (List.map gi y1)) [Value.agg (Array.mk (List.take 2 (List.drop 0 ([] ++ ([goN p, goN q] ++ [])))))] ∧ (∀ y2 : List Int, (TellT.dec tiT (List.map gi y1) = y2 → (∀ y3 : Int, (∀ y4 : Int, ([Value.agg (Array.mk (List.take 2 (List.drop 0 ([] ++ ([goN p, goN q] ++ [])))))] = [Value.agg #[gi y3, gi y4]] → (ieq (worE y2 (m + 1) y3 y4) 0 = true ∧ (!(ieq (szE (rqA (sm0 (List.map gi y2) (Int.toNat y3) (Int.toNat y4) * sm0 (List.map gi y2) (Int.toNat y3) (Int.toNat y4)) (Int.ofNat (Int.toNat y4 - Int.toNat y3))) (rqB (sm0 (List.map gi y2) (Int.toNat y3) (Int.toNat y4) * sm0 (List.map gi y2) (Int.toNat y3) (Int.toNat y4)) (Int.ofNat (Int.toNat y4 - Int.toNat y3)))) 0)) = false ∧ Nat.blt p a = true ∧ ilt 0 (cpR (Prod.mk (rqA (sm0 (List.map gi y2) (Int.toNat y3) (Int.toNat y4) * sm0 (List.map gi y2) (Int.toNat y3) (Int.toNat y4)) (Int.ofNat (Int.toNat y4 - Int.toNat y3))) (rqB (sm0 (List.map gi y2) (Int.toNat y3) (Int.toNat y4) * sm0 (List.map gi y2) (Int.toNat y3) (Int.toNat y4)) (Int.ofNat (Int.toNat y4 - Int.toNat y3)))) (Prod.mk A B)) = false ∧ ieq (cpR (Prod.mk (rqA (sm0 (List.map gi y2) (Int.toNat y3) (Int.toNat y4) * sm0 (List.map gi y2) (Int.toNat y3) (Int.toNat y4)) (Int.ofNat (Int.toNat y4 - Int.toNat y3))) (rqB (sm0 (List.map gi y2) (Int.toNat y3) (Int.toNat y4) * sm0 (List.map gi y2) (Int.toNat y3) (Int.toNat y4)) (Int.ofNat (Int.toNat y4 - Int.toNat y3)))) (Prod.mk A B)) 0 = false ∧ ieq (cpR (Prod.mk (rqA (sm0 (List.map gi y2) (Int.toNat y3) (Int.toNat y4) * sm0 (List.map gi y2) (Int.toNat y3) (Int.toNat y4)) (Int.ofNat (Int.toNat y4 - Int.toNat y3))) (rqB (sm0 (List.map gi y2) (Int.toNat y3) (Int.toNat y4) * sm0 (List.map gi y2) (Int.toNat y3) (Int.toNat y4)) (Int.ofNat (Int.toNat y4 - Int.toNat y3)))) (Prod.mk A B)) 0 = false ∧ Value.agg #[goN a, goN b] = Value.agg #[goN a, goN b] ∧ Value.bool (ieq (Int.ofNat p) (Int.ofNat a) && (ieq (Int.ofNat q) (Int.ofNat b) && true)) = Value.bool false ∧ Value.agg #[goN a, goN b] = Value.agg #[goN a, goN b] ∧ Value.bool (!(ieq (Int.ofNat p) (Int.ofNat a) && (ieq (Int.ofNat q) (Int.ofNat b) && true))) = Value.bool true ∧ (List.all (List.map gi l) (flat 3) = true ∧ True) ∧ okT tiT (List.map gi l) (m + 1) ∧ clCv (TellT.dec tiT (List.map gi l)) [] ∧ (∀ y5 : List Int, (TellT.dec tiT (List.map gi l) = y5 → (Value.agg (Array.mk (List.take 2 (List.drop 0 ([] ++ ([gi (rqA (sm0 (List.map gi y2) (Int.toNat y3) (Int.toNat y4) * sm0 (List.map gi y2) (Int.toNat y3) (Int.toNat y4)) (Int.ofNat (Int.toNat y4 - Int.toNat y3))), gi (rqB (sm0 (List.map gi y2) (Int.toNat y3) (Int.toNat y4) * sm0 (List.map gi y2) (Int.toNat y3) (Int.toNat y4)) (Int.ofNat (Int.toNat y4 - Int.toNat y3)))] ++ []))))) = Value.agg (Array.mk (List.take 2 (List.drop 0 ([] ++ ([gi (rqA (sm0 (List.map gi y2) (Int.toNat y3) (Int.toNat y4) * sm0 (List.map gi y2) (Int.toNat y3) (Int.toNat y4)) (Int.ofNat (Int.toNat y4 - Int.toNat y3))), gi (rqB (sm0 (List.map gi y2) (Int.toNat y3) (Int.toNat y4) * sm0 (List.map gi y2) (Int.toNat y3) (Int.toNat y4)) (Int.ofNat (Int.toNat y4 - Int.toNat y3)))] ++ []))))) ∧ Value.agg #[goN lo, goN hi] = Value.agg #[goN lo, goN hi] ∧ Value.agg (Array.mk (List.take 2 (List.drop 0 ([] ++ ([gi (rqA (sm0 (List.map gi y2) (Int.toNat y3) (Int.toNat y4) * sm0 (List.map gi y2) (Int.toNat y3) (Int.toNat y4)) (Int.ofNat (Int.toNat y4 - Int.toNat y3))), gi (rqB (sm0 (List.map gi y2) (Int.toNat y3) (Int.toNat y4) * sm0 (List.map gi y2) (Int.toNat y3) (Int.toNat y4)) (Int.ofNat (Int.toNat y4 - Int.toNat y3)))] ++ []))))) = Value.agg (Array.mk (List.take 2 (List.drop 0 ([] ++ ([gi (rqA (sm0 (List.map gi y2) (Int.toNat y3) (Int.toNat y4) * sm0 (List.map gi y2) (Int.toNat y3) (Int.toNat y4)) (Int.ofNat (Int.toNat y4 - Int.toNat y3))), gi (rqB (sm0 (List.map gi y2) (Int.toNat y3) (Int.toNat y4) * sm0 (List.map gi y2) (Int.toNat y3) (Int.toNat y4)) (Int.ofNat (Int.toNat y4 - Int.toNat y3)))] ++ []))))) ∧ Value.agg #[goN lo, goN hi] = Value.agg #[goN lo, goN hi] ∧ (List.all (List.map gi y5) (flat 3) = true ∧ True) ∧ okT tiT (List.map gi y5) (m + 1) ∧ chkC (TellT.dec tiT (List.map gi y5)) [Value.agg #[goN lo, goN hi], Value.agg (Array.mk (List.take 2 (List.drop 0 ([] ++ ([goN p, goN q] ++ []))))), Value.agg (Array.mk (List.take 2 (List.drop 0 ([] ++ ([gi (rqA (sm0 (List.map gi y2) (Int.toNat y3) (Int.toNat y4) * sm0 (List.map gi y2) (Int.toNat y3) (Int.toNat y4)) (Int.ofNat (Int.toNat y4 - Int.toNat y3))), gi (rqB (sm0 (List.map gi y2) (Int.toNat y3) (Int.toNat y4) * sm0 (List.map gi y2) (Int.toNat y3) (Int.toNat y4)) (Int.ofNat (Int.toNat y4 - Int.toNat y3)))] ++ [])))))] ∧ (∀ y6 : List Int, (TellT.dec tiT (List.map gi y5) = y6 → (∀ y7 : Int, (∀ y8 : Int, (∀ y9 : Int, (∀ y10 : Int, (∀ y11 : Int, (∀ y12 : Int, ([Value.agg #[goN lo, goN hi], Value.agg (Array.mk (List.take 2 (List.drop 0 ([] ++ ([goN p, goN q] ++ []))))), Value.agg (Array.mk (List.take 2 (List.drop 0 ([] ++ ([gi (rqA (sm0 (List.map gi y2) (Int.toNat y3) (Int.toNat y4) * sm0 (List.map gi y2) (Int.toNat y3) (Int.toNat y4)) (Int.ofNat (Int.toNat y4 - Int.toNat y3))), gi (rqB (sm0 (List.map gi y2) (Int.toNat y3) (Int.toNat y4) * sm0 (List.map gi y2) (Int.toNat y3) (Int.toNat y4)) (Int.ofNat (Int.toNat y4 - Int.toNat y3)))] ++ [])))))] = [Value.agg #[gi y7, gi y8], Value.agg #[gi y9, gi y10], Value.agg #[gi y11, gi y12]] → (ieq (chkE y6 (m + 1) y7 y8 y9 y10 y11 y12) 0 = true ∧ (!(ieq (whenS (!(eqW (bstW (List.map gi y6) (Int.toNat y7) (Int.toNat y8) (m + 1)) y9 y10 y11 y12)) 19) 19)) = false ∧ Q .normal [liP (m + 1) k, ptN 1, ptN 2, ptN 3, ptN 4, goN p, gi (fwrap IntKind.i64 (Int.ofNat (q + 1))), goN (m + 1), goN p] (((((((((((((bbH (List.map gi l) e row lo hi u w a b A B).push (.cells (List.map gi y1) 3 2 false)).push (.cells [gi 0, gi 0] 24 0 false)).set (nG1 + 6) (.cells ([] ++ ([goN p, goN q] ++ [])) 24 0 false)).push (.cells [gi 0, gi 0] 28 0 false)).set (nG1 + 7) (.cells ([] ++ ([gi (rqA (sm0 (List.map gi y2) (Int.toNat y3) (Int.toNat y4) * sm0 (List.map gi y2) (Int.toNat y3) (Int.toNat y4)) (Int.ofNat (Int.toNat y4 - Int.toNat y3))), gi (rqB (sm0 (List.map gi y2) (Int.toNat y3) (Int.toNat y4) * sm0 (List.map gi y2) (Int.toNat y3) (Int.toNat y4)) (Int.ofNat (Int.toNat y4 - Int.toNat y3)))] ++ [])) 28 0 false)).push (.cells [gi 0, gi 0] 24 0 false)).set (nG1 + 8) (.cells ([] ++ ([goN p, goN q] ++ [])) 24 0 false)).push (.cells [gi 0, gi 0] 24 0 false)).set (nG1 + 9) (.cells ([] ++ ([goN p, goN q] ++ [])) 24 0 false)).push (.cells (List.map gi y5) 3 2 false)).push (.cells [gi 0, gi 0] 24 0 false)).set (nG1 + 11) (.cells ([] ++ ([goN p, goN q] ++ [])) 24 0 false)))))))))))))))))))))))))) := by kernel_rfl
theorem bi_2 (l : List Int) (e row m k lo hi p q b : Nat) (u w A B : Int) (g : Nat → Value) (Q : Exit → List Value → AHeap → Prop) : execC Tryz.prog (exec Tryz.prog orcWn 40) (syOf [(120, 31), (127, 31), (133, 7), (137, 7), (145, 32), (153, 32), (158, 31), (163, 31), (167, 32), (170, 32), (180, 47), (182, 32), (200, 34), (203, 7), (209, 7), (210, 32)]) (askWn true true true 0 0 lo hi) (noLoops _) 60 (loopOf Tryz.prog 11 2) (stOf 329 [(0, liP (m + 1) k), (4, ptN 1), (5, ptN 2), (7, ptN 3), (8, ptN 4), (10, goN p), (11, goN q), (109, goN (m + 1)), (110, goN p)] g) (bbH (l.map gi) e row lo hi u w p b A B) (told 329 [0, 4, 5, 7, 8, 10, 11, 109, 110] Q) = (((!(Nat.blt (m + 1) q)) = true ∧ (!(ilt (Int.ofNat hi) (fwrap IntKind.i64 (Int.ofNat q - Int.ofNat p)))) = true ∧ (List.all (List.map gi l) (flat 3) = true ∧ True) ∧ okT tiT (List.map gi l) (m + 1) ∧ clCv (TellT.dec tiT (List.map gi l)) [] ∧ (∀ y1 : List Int, (TellT.dec tiT (List.map gi l) = y1 → ((List.all (List.map gi y1) (flat 3) = true ∧ True) ∧ okT tiT (List.map gi y1) (m + 1) ∧ worC (TellT.dec tiT (List.map gi y1)) [Value.agg (Array.mk (List.take 2 (List.drop 0 ([] ++ ([goN p, goN q] ++ [])))))] ∧ (∀ y2 : List Int, (TellT.dec tiT (List.map gi y1) = y2 → (∀ y3 : Int, (∀ y4 : Int, ([Value.agg (Array.mk (List.take 2 (List.drop 0 ([] ++ ([goN p, goN q] ++ [])))))] = [Value.agg #[gi y3, gi y4]] → (ieq (worE y2 (m + 1) y3 y4) 0 = true ∧ (!(ieq (szE (rqA (sm0 (List.map gi y2) (Int.toNat y3) (Int.toNat y4) * sm0 (List.map gi y2) (Int.toNat y3) (Int.toNat y4)) (Int.ofNat (Int.toNat y4 - Int.toNat y3))) (rqB (sm0 (List.map gi y2) (Int.toNat y3) (Int.toNat y4) * sm0 (List.map gi y2) (Int.toNat y3) (Int.toNat y4)) (Int.ofNat (Int.toNat y4 - Int.toNat y3)))) 0)) = false ∧ Nat.blt p p = false ∧ ieq (Int.ofNat p) (Int.ofNat p) = true ∧ Nat.blt q b = true ∧ ilt 0 (cpR (Prod.mk (rqA (sm0 (List.map gi y2) (Int.toNat y3) (Int.toNat y4) * sm0 (List.map gi y2) (Int.toNat y3) (Int.toNat y4)) (Int.ofNat (Int.toNat y4 - Int.toNat y3))) (rqB (sm0 (List.map gi y2) (Int.toNat y3) (Int.toNat y4) * sm0 (List.map gi y2) (Int.toNat y3) (Int.toNat y4)) (Int.ofNat (Int.toNat y4 - Int.toNat y3)))) (Prod.mk A B)) = false ∧ ieq (cpR (Prod.mk (rqA (sm0 (List.map gi y2) (Int.toNat y3) (Int.toNat y4) * sm0 (List.map gi y2) (Int.toNat y3) (Int.toNat y4)) (Int.ofNat (Int.toNat y4 - Int.toNat y3))) (rqB (sm0 (List.map gi y2) (Int.toNat y3) (Int.toNat y4) * sm0 (List.map gi y2) (Int.toNat y3) (Int.toNat y4)) (Int.ofNat (Int.toNat y4 - Int.toNat y3)))) (Prod.mk A B)) 0 = false ∧ ieq (cpR (Prod.mk (rqA (sm0 (List.map gi y2) (Int.toNat y3) (Int.toNat y4) * sm0 (List.map gi y2) (Int.toNat y3) (Int.toNat y4)) (Int.ofNat (Int.toNat y4 - Int.toNat y3))) (rqB (sm0 (List.map gi y2) (Int.toNat y3) (Int.toNat y4) * sm0 (List.map gi y2) (Int.toNat y3) (Int.toNat y4)) (Int.ofNat (Int.toNat y4 - Int.toNat y3)))) (Prod.mk A B)) 0 = false ∧ Value.agg #[goN p, goN b] = Value.agg #[goN p, goN b] ∧ Value.bool (ieq (Int.ofNat p) (Int.ofNat p) && (ieq (Int.ofNat q) (Int.ofNat b) && true)) = Value.bool false ∧ Value.agg #[goN p, goN b] = Value.agg #[goN p, goN b] ∧ Value.bool (!(ieq (Int.ofNat p) (Int.ofNat p) && (ieq (Int.ofNat q) (Int.ofNat b) && true))) = Value.bool true ∧ (List.all (List.map gi l) (flat 3) = true ∧ True) ∧ okT tiT (List.map gi l) (m + 1) ∧ clCv (TellT.dec tiT (List.map gi l)) [] ∧ (∀ y5 : List Int, (TellT.dec tiT (List.map gi l) = y5 → (Value.agg (Array.mk (List.take 2 (List.drop 0 ([] ++ ([gi (rqA (sm0 (List.map gi y2) (Int.toNat y3) (Int.toNat y4) * sm0 (List.map gi y2) (Int.toNat y3) (Int.toNat y4)) (Int.ofNat (Int.toNat y4 - Int.toNat y3))), gi (rqB (sm0 (List.map gi y2) (Int.toNat y3) (Int.toNat y4) * sm0 (List.map gi y2) (Int.toNat y3) (Int.toNat y4)) (Int.ofNat (Int.toNat y4 - Int.toNat y3)))] ++ []))))) = Value.agg (Array.mk (List.take 2 (List.drop 0 ([] ++ ([gi (rqA (sm0 (List.map gi y2) (Int.toNat y3) (Int.toNat y4) * sm0 (List.map gi y2) (Int.toNat y3) (Int.toNat y4)) (Int.ofNat (Int.toNat y4 - Int.toNat y3))), gi (rqB (sm0 (List.map gi y2) (Int.toNat y3) (Int.toNat y4) * sm0 (List.map gi y2) (Int.toNat y3) (Int.toNat y4)) (Int.ofNat (Int.toNat y4 - Int.toNat y3)))] ++ []))))) ∧ Value.agg #[goN lo, goN hi] = Value.agg #[goN lo, goN hi] ∧ Value.agg (Array.mk (List.take 2 (List.drop 0 ([] ++ ([gi (rqA (sm0 (List.map gi y2) (Int.toNat y3) (Int.toNat y4) * sm0 (List.map gi y2) (Int.toNat y3) (Int.toNat y4)) (Int.ofNat (Int.toNat y4 - Int.toNat y3))), gi (rqB (sm0 (List.map gi y2) (Int.toNat y3) (Int.toNat y4) * sm0 (List.map gi y2) (Int.toNat y3) (Int.toNat y4)) (Int.ofNat (Int.toNat y4 - Int.toNat y3)))] ++ []))))) = Value.agg (Array.mk (List.take 2 (List.drop 0 ([] ++ ([gi (rqA (sm0 (List.map gi y2) (Int.toNat y3) (Int.toNat y4) * sm0 (List.map gi y2) (Int.toNat y3) (Int.toNat y4)) (Int.ofNat (Int.toNat y4 - Int.toNat y3))), gi (rqB (sm0 (List.map gi y2) (Int.toNat y3) (Int.toNat y4) * sm0 (List.map gi y2) (Int.toNat y3) (Int.toNat y4)) (Int.ofNat (Int.toNat y4 - Int.toNat y3)))] ++ []))))) ∧ Value.agg #[goN lo, goN hi] = Value.agg #[goN lo, goN hi] ∧ (List.all (List.map gi y5) (flat 3) = true ∧ True) ∧ okT tiT (List.map gi y5) (m + 1) ∧ chkC (TellT.dec tiT (List.map gi y5)) [Value.agg #[goN lo, goN hi], Value.agg (Array.mk (List.take 2 (List.drop 0 ([] ++ ([goN p, goN q] ++ []))))), Value.agg (Array.mk (List.take 2 (List.drop 0 ([] ++ ([gi (rqA (sm0 (List.map gi y2) (Int.toNat y3) (Int.toNat y4) * sm0 (List.map gi y2) (Int.toNat y3) (Int.toNat y4)) (Int.ofNat (Int.toNat y4 - Int.toNat y3))), gi (rqB (sm0 (List.map gi y2) (Int.toNat y3) (Int.toNat y4) * sm0 (List.map gi y2) (Int.toNat y3) (Int.toNat y4)) (Int.ofNat (Int.toNat y4 - Int.toNat y3)))] ++ [])))))] ∧ (∀ y6 : List Int, (TellT.dec tiT (List.map gi y5) = y6 → (∀ y7 : Int, (∀ y8 : Int, (∀ y9 : Int, (∀ y10 : Int, (∀ y11 : Int, (∀ y12 : Int, ([Value.agg #[goN lo, goN hi], Value.agg (Array.mk (List.take 2 (List.drop 0 ([] ++ ([goN p, goN q] ++ []))))), Value.agg (Array.mk (List.take 2 (List.drop 0 ([] ++ ([gi (rqA (sm0 (List.map gi y2) (Int.toNat y3) (Int.toNat y4) * sm0 (List.map gi y2) (Int.toNat y3) (Int.toNat y4)) (Int.ofNat (Int.toNat y4 - Int.toNat y3))), gi (rqB (sm0 (List.map gi y2) (Int.toNat y3) (Int.toNat y4) * sm0 (List.map gi y2) (Int.toNat y3) (Int.toNat y4)) (Int.ofNat (Int.toNat y4 - Int.toNat y3)))] ++ [])))))] = [Value.agg #[gi y7, gi y8], Value.agg #[gi y9, gi y10], Value.agg #[gi y11, gi y12]] → (ieq (chkE y6 (m + 1) y7 y8 y9 y10 y11 y12) 0 = true ∧ (!(ieq (whenS (!(eqW (bstW (List.map gi y6) (Int.toNat y7) (Int.toNat y8) (m + 1)) y9 y10 y11 y12)) 19) 19)) = false ∧ Q .normal [liP (m + 1) k, ptN 1, ptN 2, ptN 3, ptN 4, goN p, gi (fwrap IntKind.i64 (Int.ofNat (q + 1))), goN (m + 1), goN p] (((((((((((((bbH (List.map gi l) e row lo hi u w p b A B).push (.cells (List.map gi y1) 3 2 false)).push (.cells [gi 0, gi 0] 24 0 false)).set (nG1 + 6) (.cells ([] ++ ([goN p, goN q] ++ [])) 24 0 false)).push (.cells [gi 0, gi 0] 28 0 false)).set (nG1 + 7) (.cells ([] ++ ([gi (rqA (sm0 (List.map gi y2) (Int.toNat y3) (Int.toNat y4) * sm0 (List.map gi y2) (Int.toNat y3) (Int.toNat y4)) (Int.ofNat (Int.toNat y4 - Int.toNat y3))), gi (rqB (sm0 (List.map gi y2) (Int.toNat y3) (Int.toNat y4) * sm0 (List.map gi y2) (Int.toNat y3) (Int.toNat y4)) (Int.ofNat (Int.toNat y4 - Int.toNat y3)))] ++ [])) 28 0 false)).push (.cells [gi 0, gi 0] 24 0 false)).set (nG1 + 8) (.cells ([] ++ ([goN p, goN q] ++ [])) 24 0 false)).push (.cells [gi 0, gi 0] 24 0 false)).set (nG1 + 9) (.cells ([] ++ ([goN p, goN q] ++ [])) 24 0 false)).push (.cells (List.map gi y5) 3 2 false)).push (.cells [gi 0, gi 0] 24 0 false)).set (nG1 + 11) (.cells ([] ++ ([goN p, goN q] ++ [])) 24 0 false)))))))))))))))))))))))))) := by kernel_rfl
theorem bi_3 (l : List Int) (e row m k lo hi p q : Nat) (u w A B : Int) (g : Nat → Value) (Q : Exit → List Value → AHeap → Prop) : execC Tryz.prog (exec Tryz.prog orcWn 40) (syOf [(120, 31), (127, 31), (133, 7), (137, 7), (145, 32), (153, 32), (158, 31), (163, 32), (167, 32), (170, 31), (180, 34), (182, 31), (200, 47)]) (askWn true true true 0 0 lo hi) (noLoops _) 60 (loopOf Tryz.prog 11 2) (stOf 329 [(0, liP (m + 1) k), (4, ptN 1), (5, ptN 2), (7, ptN 3), (8, ptN 4), (10, goN p), (11, goN q), (109, goN (m + 1)), (110, goN p)] g) (bbH (l.map gi) e row lo hi u w p q A B) (told 329 [0, 4, 5, 7, 8, 10, 11, 109, 110] Q) = (((!(Nat.blt (m + 1) q)) = true ∧ (!(ilt (Int.ofNat hi) (fwrap IntKind.i64 (Int.ofNat q - Int.ofNat p)))) = true ∧ (List.all (List.map gi l) (flat 3) = true ∧ True) ∧ okT tiT (List.map gi l) (m + 1) ∧ clCv (TellT.dec tiT (List.map gi l)) [] ∧ (∀ y1 : List Int, (TellT.dec tiT (List.map gi l) = y1 → ((List.all (List.map gi y1) (flat 3) = true ∧ True) ∧ okT tiT (List.map gi y1) (m + 1) ∧ worC (TellT.dec tiT (List.map gi y1)) [Value.agg (Array.mk (List.take 2 (List.drop 0 ([] ++ ([goN p, goN q] ++ [])))))] ∧ (∀ y2 : List Int, (TellT.dec tiT (List.map gi y1) = y2 → (∀ y3 : Int, (∀ y4 : Int, ([Value.agg (Array.mk (List.take 2 (List.drop 0 ([] ++ ([goN p, goN q] ++ [])))))] = [Value.agg #[gi y3, gi y4]] → (ieq (worE y2 (m + 1) y3 y4) 0 = true ∧ (!(ieq (szE (rqA (sm0 (List.map gi y2) (Int.toNat y3) (Int.toNat y4) * sm0 (List.map gi y2) (Int.toNat y3) (Int.toNat y4)) (Int.ofNat (Int.toNat y4 - Int.toNat y3))) (rqB (sm0 (List.map gi y2) (Int.toNat y3) (Int.toNat y4) * sm0 (List.map gi y2) (Int.toNat y3) (Int.toNat y4)) (Int.ofNat (Int.toNat y4 - Int.toNat y3)))) 0)) = false ∧ Nat.blt p p = false ∧ ieq (Int.ofNat p) (Int.ofNat p) = true ∧ Nat.blt q q = false ∧ ilt 0 (cpR (Prod.mk (rqA (sm0 (List.map gi y2) (Int.toNat y3) (Int.toNat y4) * sm0 (List.map gi y2) (Int.toNat y3) (Int.toNat y4)) (Int.ofNat (Int.toNat y4 - Int.toNat y3))) (rqB (sm0 (List.map gi y2) (Int.toNat y3) (Int.toNat y4) * sm0 (List.map gi y2) (Int.toNat y3) (Int.toNat y4)) (Int.ofNat (Int.toNat y4 - Int.toNat y3)))) (Prod.mk A B)) = false ∧ ieq (cpR (Prod.mk (rqA (sm0 (List.map gi y2) (Int.toNat y3) (Int.toNat y4) * sm0 (List.map gi y2) (Int.toNat y3) (Int.toNat y4)) (Int.ofNat (Int.toNat y4 - Int.toNat y3))) (rqB (sm0 (List.map gi y2) (Int.toNat y3) (Int.toNat y4) * sm0 (List.map gi y2) (Int.toNat y3) (Int.toNat y4)) (Int.ofNat (Int.toNat y4 - Int.toNat y3)))) (Prod.mk A B)) 0 = true ∧ ieq (cpR (Prod.mk (rqA (sm0 (List.map gi y2) (Int.toNat y3) (Int.toNat y4) * sm0 (List.map gi y2) (Int.toNat y3) (Int.toNat y4)) (Int.ofNat (Int.toNat y4 - Int.toNat y3))) (rqB (sm0 (List.map gi y2) (Int.toNat y3) (Int.toNat y4) * sm0 (List.map gi y2) (Int.toNat y3) (Int.toNat y4)) (Int.ofNat (Int.toNat y4 - Int.toNat y3)))) (Prod.mk A B)) 0 = true ∧ Value.agg #[goN p, goN q] = Value.agg #[goN p, goN q] ∧ Value.bool (ieq (Int.ofNat p) (Int.ofNat p) && (ieq (Int.ofNat q) (Int.ofNat q) && true)) = Value.bool true ∧ Value.agg #[goN p, goN q] = Value.agg #[goN p, goN q] ∧ Value.bool (!(ieq (Int.ofNat p) (Int.ofNat p) && (ieq (Int.ofNat q) (Int.ofNat q) && true))) = Value.bool false ∧ Q .normal [liP (m + 1) k, ptN 1, ptN 2, ptN 3, ptN 4, goN p, gi (fwrap IntKind.i64 (Int.ofNat (q + 1))), goN (m + 1), goN p] ((((((((((bbH (List.map gi l) e row lo hi u w p q A B).push (.cells (List.map gi y1) 3 2 false)).push (.cells [gi 0, gi 0] 24 0 false)).set (nG1 + 6) (.cells ([] ++ ([goN p, goN q] ++ [])) 24 0 false)).push (.cells [gi 0, gi 0] 28 0 false)).set (nG1 + 7) (.cells ([] ++ ([gi (rqA (sm0 (List.map gi y2) (Int.toNat y3) (Int.toNat y4) * sm0 (List.map gi y2) (Int.toNat y3) (Int.toNat y4)) (Int.ofNat (Int.toNat y4 - Int.toNat y3))), gi (rqB (sm0 (List.map gi y2) (Int.toNat y3) (Int.toNat y4) * sm0 (List.map gi y2) (Int.toNat y3) (Int.toNat y4)) (Int.ofNat (Int.toNat y4 - Int.toNat y3)))] ++ [])) 28 0 false)).push (.cells [gi 0, gi 0] 24 0 false)).set (nG1 + 8) (.cells ([] ++ ([goN p, goN q] ++ [])) 24 0 false)).push (.cells [gi 0, gi 0] 24 0 false)).set (nG1 + 9) (.cells ([] ++ ([goN p, goN q] ++ [])) 24 0 false))))))))))))) := by kernel_rfl
theorem bi_4 (l : List Int) (e row m k lo hi p q a b : Nat) (u w A B : Int) (g : Nat → Value) (Q : Exit → List Value → AHeap → Prop) : execC Tryz.prog (exec Tryz.prog orcWn 40) (syOf [(120, 31), (127, 31), (133, 7), (137, 7), (145, 32), (153, 32), (158, 32), (167, 32), (170, 31), (180, 47), (182, 31), (193, 47), (200, 34), (203, 7), (209, 7), (210, 32)]) (askWn true true true 0 0 lo hi) (noLoops _) 60 (loopOf Tryz.prog 11 2) (stOf 329 [(0, liP (m + 1) k), (4, ptN 1), (5, ptN 2), (7, ptN 3), (8, ptN 4), (10, goN p), (11, goN q), (109, goN (m + 1)), (110, goN p)] g) (bbH (l.map gi) e row lo hi u w a b A B) (told 329 [0, 4, 5, 7, 8, 10, 11, 109, 110] Q) = (((!(Nat.blt (m + 1) q)) = true ∧ (!(ilt (Int.ofNat hi) (fwrap IntKind.i64 (Int.ofNat q - Int.ofNat p)))) = true ∧ (List.all (List.map gi l) (flat 3) = true ∧ True) ∧ okT tiT (List.map gi l) (m + 1) ∧ clCv (TellT.dec tiT (List.map gi l)) [] ∧ (∀ y1 : List Int, (TellT.dec tiT (List.map gi l) = y1 → ((List.all (List.map gi y1) (flat 3) = true ∧ True) ∧ okT tiT (List.map gi y1) (m + 1) ∧ worC (TellT.dec tiT (List.map gi y1)) [Value.agg (Array.mk (List.take 2 (List.drop 0 ([] ++ ([goN p, goN q] ++ [])))))] ∧ (∀ y2 : List Int, (TellT.dec tiT (List.map gi y1) = y2 → (∀ y3 : Int, (∀ y4 : Int, ([Value.agg (Array.mk (List.take 2 (List.drop 0 ([] ++ ([goN p, goN q] ++ [])))))] = [Value.agg #[gi y3, gi y4]] → (ieq (worE y2 (m + 1) y3 y4) 0 = true ∧ (!(ieq (szE (rqA (sm0 (List.map gi y2) (Int.toNat y3) (Int.toNat y4) * sm0 (List.map gi y2) (Int.toNat y3) (Int.toNat y4)) (Int.ofNat (Int.toNat y4 - Int.toNat y3))) (rqB (sm0 (List.map gi y2) (Int.toNat y3) (Int.toNat y4) * sm0 (List.map gi y2) (Int.toNat y3) (Int.toNat y4)) (Int.ofNat (Int.toNat y4 - Int.toNat y3)))) 0)) = false ∧ Nat.blt p a = false ∧ ieq (Int.ofNat p) (Int.ofNat a) = false ∧ ilt 0 (cpR (Prod.mk (rqA (sm0 (List.map gi y2) (Int.toNat y3) (Int.toNat y4) * sm0 (List.map gi y2) (Int.toNat y3) (Int.toNat y4)) (Int.ofNat (Int.toNat y4 - Int.toNat y3))) (rqB (sm0 (List.map gi y2) (Int.toNat y3) (Int.toNat y4) * sm0 (List.map gi y2) (Int.toNat y3) (Int.toNat y4)) (Int.ofNat (Int.toNat y4 - Int.toNat y3)))) (Prod.mk A B)) = false ∧ ieq (cpR (Prod.mk (rqA (sm0 (List.map gi y2) (Int.toNat y3) (Int.toNat y4) * sm0 (List.map gi y2) (Int.toNat y3) (Int.toNat y4)) (Int.ofNat (Int.toNat y4 - Int.toNat y3))) (rqB (sm0 (List.map gi y2) (Int.toNat y3) (Int.toNat y4) * sm0 (List.map gi y2) (Int.toNat y3) (Int.toNat y4)) (Int.ofNat (Int.toNat y4 - Int.toNat y3)))) (Prod.mk A B)) 0 = true ∧ ieq (cpR (Prod.mk (rqA (sm0 (List.map gi y2) (Int.toNat y3) (Int.toNat y4) * sm0 (List.map gi y2) (Int.toNat y3) (Int.toNat y4)) (Int.ofNat (Int.toNat y4 - Int.toNat y3))) (rqB (sm0 (List.map gi y2) (Int.toNat y3) (Int.toNat y4) * sm0 (List.map gi y2) (Int.toNat y3) (Int.toNat y4)) (Int.ofNat (Int.toNat y4 - Int.toNat y3)))) (Prod.mk A B)) 0 = true ∧ Value.agg #[goN a, goN b] = Value.agg #[goN a, goN b] ∧ Value.bool (ieq (Int.ofNat p) (Int.ofNat a) && (ieq (Int.ofNat q) (Int.ofNat b) && true)) = Value.bool false ∧ Value.agg #[goN a, goN b] = Value.agg #[goN a, goN b] ∧ Value.bool (ieq (Int.ofNat p) (Int.ofNat a) && (ieq (Int.ofNat q) (Int.ofNat b) && true)) = Value.bool false ∧ Value.agg #[goN a, goN b] = Value.agg #[goN a, goN b] ∧ Value.bool (!(ieq (Int.ofNat p) (Int.ofNat a) && (ieq (Int.ofNat q) (Int.ofNat b) && true))) = Value.bool true ∧ (List.all (List.map gi l) (flat 3) = true ∧ True) ∧ okT tiT (List.map gi l) (m + 1) ∧ clCv (TellT.dec tiT (List.map gi l)) [] ∧ (∀ y5 : List Int, (TellT.dec tiT (List.map gi l) = y5 → (Value.agg (Array.mk (List.take 2 (List.drop 0 ([] ++ ([gi (rqA (sm0 (List.map gi y2) (Int.toNat y3) (Int.toNat y4) * sm0 (List.map gi y2) (Int.toNat y3) (Int.toNat y4)) (Int.ofNat (Int.toNat y4 - Int.toNat y3))), gi (rqB (sm0 (List.map gi y2) (Int.toNat y3) (Int.toNat y4) * sm0 (List.map gi y2) (Int.toNat y3) (Int.toNat y4)) (Int.ofNat (Int.toNat y4 - Int.toNat y3)))] ++ []))))) = Value.agg (Array.mk (List.take 2 (List.drop 0 ([] ++ ([gi (rqA (sm0 (List.map gi y2) (Int.toNat y3) (Int.toNat y4) * sm0 (List.map gi y2) (Int.toNat y3) (Int.toNat y4)) (Int.ofNat (Int.toNat y4 - Int.toNat y3))), gi (rqB (sm0 (List.map gi y2) (Int.toNat y3) (Int.toNat y4) * sm0 (List.map gi y2) (Int.toNat y3) (Int.toNat y4)) (Int.ofNat (Int.toNat y4 - Int.toNat y3)))] ++ []))))) ∧ Value.agg #[goN lo, goN hi] = Value.agg #[goN lo, goN hi] ∧ Value.agg (Array.mk (List.take 2 (List.drop 0 ([] ++ ([gi (rqA (sm0 (List.map gi y2) (Int.toNat y3) (Int.toNat y4) * sm0 (List.map gi y2) (Int.toNat y3) (Int.toNat y4)) (Int.ofNat (Int.toNat y4 - Int.toNat y3))), gi (rqB (sm0 (List.map gi y2) (Int.toNat y3) (Int.toNat y4) * sm0 (List.map gi y2) (Int.toNat y3) (Int.toNat y4)) (Int.ofNat (Int.toNat y4 - Int.toNat y3)))] ++ []))))) = Value.agg (Array.mk (List.take 2 (List.drop 0 ([] ++ ([gi (rqA (sm0 (List.map gi y2) (Int.toNat y3) (Int.toNat y4) * sm0 (List.map gi y2) (Int.toNat y3) (Int.toNat y4)) (Int.ofNat (Int.toNat y4 - Int.toNat y3))), gi (rqB (sm0 (List.map gi y2) (Int.toNat y3) (Int.toNat y4) * sm0 (List.map gi y2) (Int.toNat y3) (Int.toNat y4)) (Int.ofNat (Int.toNat y4 - Int.toNat y3)))] ++ []))))) ∧ Value.agg #[goN lo, goN hi] = Value.agg #[goN lo, goN hi] ∧ (List.all (List.map gi y5) (flat 3) = true ∧ True) ∧ okT tiT (List.map gi y5) (m + 1) ∧ chkC (TellT.dec tiT (List.map gi y5)) [Value.agg #[goN lo, goN hi], Value.agg (Array.mk (List.take 2 (List.drop 0 ([] ++ ([goN p, goN q] ++ []))))), Value.agg (Array.mk (List.take 2 (List.drop 0 ([] ++ ([gi (rqA (sm0 (List.map gi y2) (Int.toNat y3) (Int.toNat y4) * sm0 (List.map gi y2) (Int.toNat y3) (Int.toNat y4)) (Int.ofNat (Int.toNat y4 - Int.toNat y3))), gi (rqB (sm0 (List.map gi y2) (Int.toNat y3) (Int.toNat y4) * sm0 (List.map gi y2) (Int.toNat y3) (Int.toNat y4)) (Int.ofNat (Int.toNat y4 - Int.toNat y3)))] ++ [])))))] ∧ (∀ y6 : List Int, (TellT.dec tiT (List.map gi y5) = y6 → (∀ y7 : Int, (∀ y8 : Int, (∀ y9 : Int, (∀ y10 : Int, (∀ y11 : Int, (∀ y12 : Int, ([Value.agg #[goN lo, goN hi], Value.agg (Array.mk (List.take 2 (List.drop 0 ([] ++ ([goN p, goN q] ++ []))))), Value.agg (Array.mk (List.take 2 (List.drop 0 ([] ++ ([gi (rqA (sm0 (List.map gi y2) (Int.toNat y3) (Int.toNat y4) * sm0 (List.map gi y2) (Int.toNat y3) (Int.toNat y4)) (Int.ofNat (Int.toNat y4 - Int.toNat y3))), gi (rqB (sm0 (List.map gi y2) (Int.toNat y3) (Int.toNat y4) * sm0 (List.map gi y2) (Int.toNat y3) (Int.toNat y4)) (Int.ofNat (Int.toNat y4 - Int.toNat y3)))] ++ [])))))] = [Value.agg #[gi y7, gi y8], Value.agg #[gi y9, gi y10], Value.agg #[gi y11, gi y12]] → (ieq (chkE y6 (m + 1) y7 y8 y9 y10 y11 y12) 0 = true ∧ (!(ieq (whenS (!(eqW (bstW (List.map gi y6) (Int.toNat y7) (Int.toNat y8) (m + 1)) y9 y10 y11 y12)) 19) 19)) = false ∧ Q .normal [liP (m + 1) k, ptN 1, ptN 2, ptN 3, ptN 4, goN p, gi (fwrap IntKind.i64 (Int.ofNat (q + 1))), goN (m + 1), goN p] (((((((((((((((bbH (List.map gi l) e row lo hi u w a b A B).push (.cells (List.map gi y1) 3 2 false)).push (.cells [gi 0, gi 0] 24 0 false)).set (nG1 + 6) (.cells ([] ++ ([goN p, goN q] ++ [])) 24 0 false)).push (.cells [gi 0, gi 0] 28 0 false)).set (nG1 + 7) (.cells ([] ++ ([gi (rqA (sm0 (List.map gi y2) (Int.toNat y3) (Int.toNat y4) * sm0 (List.map gi y2) (Int.toNat y3) (Int.toNat y4)) (Int.ofNat (Int.toNat y4 - Int.toNat y3))), gi (rqB (sm0 (List.map gi y2) (Int.toNat y3) (Int.toNat y4) * sm0 (List.map gi y2) (Int.toNat y3) (Int.toNat y4)) (Int.ofNat (Int.toNat y4 - Int.toNat y3)))] ++ [])) 28 0 false)).push (.cells [gi 0, gi 0] 24 0 false)).set (nG1 + 8) (.cells ([] ++ ([goN p, goN q] ++ [])) 24 0 false)).push (.cells [gi 0, gi 0] 24 0 false)).set (nG1 + 9) (.cells ([] ++ ([goN p, goN q] ++ [])) 24 0 false)).push (.cells [gi 0, gi 0] 24 0 false)).set (nG1 + 10) (.cells ([] ++ ([goN p, goN q] ++ [])) 24 0 false)).push (.cells (List.map gi y5) 3 2 false)).push (.cells [gi 0, gi 0] 24 0 false)).set (nG1 + 12) (.cells ([] ++ ([goN p, goN q] ++ [])) 24 0 false)))))))))))))))))))))))))) := by kernel_rfl
theorem bi_5 (l : List Int) (e row m k lo hi p q a b : Nat) (u w A B : Int) (g : Nat → Value) (Q : Exit → List Value → AHeap → Prop) : execC Tryz.prog (exec Tryz.prog orcWn 40) (syOf [(120, 31), (127, 31), (133, 7), (137, 7), (145, 32), (153, 32), (158, 32), (167, 32), (170, 32), (180, 47), (182, 32), (200, 34), (203, 7), (209, 7), (210, 32)]) (askWn true true true 0 0 lo hi) (noLoops _) 60 (loopOf Tryz.prog 11 2) (stOf 329 [(0, liP (m + 1) k), (4, ptN 1), (5, ptN 2), (7, ptN 3), (8, ptN 4), (10, goN p), (11, goN q), (109, goN (m + 1)), (110, goN p)] g) (bbH (l.map gi) e row lo hi u w a b A B) (told 329 [0, 4, 5, 7, 8, 10, 11, 109, 110] Q) = (((!(Nat.blt (m + 1) q)) = true ∧ (!(ilt (Int.ofNat hi) (fwrap IntKind.i64 (Int.ofNat q - Int.ofNat p)))) = true ∧ (List.all (List.map gi l) (flat 3) = true ∧ True) ∧ okT tiT (List.map gi l) (m + 1) ∧ clCv (TellT.dec tiT (List.map gi l)) [] ∧ (∀ y1 : List Int, (TellT.dec tiT (List.map gi l) = y1 → ((List.all (List.map gi y1) (flat 3) = true ∧ True) ∧ okT tiT (List.map gi y1) (m + 1) ∧ worC (TellT.dec tiT (List.map gi y1)) [Value.agg (Array.mk (List.take 2 (List.drop 0 ([] ++ ([goN p, goN q] ++ [])))))] ∧ (∀ y2 : List Int, (TellT.dec tiT (List.map gi y1) = y2 → (∀ y3 : Int, (∀ y4 : Int, ([Value.agg (Array.mk (List.take 2 (List.drop 0 ([] ++ ([goN p, goN q] ++ [])))))] = [Value.agg #[gi y3, gi y4]] → (ieq (worE y2 (m + 1) y3 y4) 0 = true ∧ (!(ieq (szE (rqA (sm0 (List.map gi y2) (Int.toNat y3) (Int.toNat y4) * sm0 (List.map gi y2) (Int.toNat y3) (Int.toNat y4)) (Int.ofNat (Int.toNat y4 - Int.toNat y3))) (rqB (sm0 (List.map gi y2) (Int.toNat y3) (Int.toNat y4) * sm0 (List.map gi y2) (Int.toNat y3) (Int.toNat y4)) (Int.ofNat (Int.toNat y4 - Int.toNat y3)))) 0)) = false ∧ Nat.blt p a = false ∧ ieq (Int.ofNat p) (Int.ofNat a) = false ∧ ilt 0 (cpR (Prod.mk (rqA (sm0 (List.map gi y2) (Int.toNat y3) (Int.toNat y4) * sm0 (List.map gi y2) (Int.toNat y3) (Int.toNat y4)) (Int.ofNat (Int.toNat y4 - Int.toNat y3))) (rqB (sm0 (List.map gi y2) (Int.toNat y3) (Int.toNat y4) * sm0 (List.map gi y2) (Int.toNat y3) (Int.toNat y4)) (Int.ofNat (Int.toNat y4 - Int.toNat y3)))) (Prod.mk A B)) = false ∧ ieq (cpR (Prod.mk (rqA (sm0 (List.map gi y2) (Int.toNat y3) (Int.toNat y4) * sm0 (List.map gi y2) (Int.toNat y3) (Int.toNat y4)) (Int.ofNat (Int.toNat y4 - Int.toNat y3))) (rqB (sm0 (List.map gi y2) (Int.toNat y3) (Int.toNat y4) * sm0 (List.map gi y2) (Int.toNat y3) (Int.toNat y4)) (Int.ofNat (Int.toNat y4 - Int.toNat y3)))) (Prod.mk A B)) 0 = false ∧ ieq (cpR (Prod.mk (rqA (sm0 (List.map gi y2) (Int.toNat y3) (Int.toNat y4) * sm0 (List.map gi y2) (Int.toNat y3) (Int.toNat y4)) (Int.ofNat (Int.toNat y4 - Int.toNat y3))) (rqB (sm0 (List.map gi y2) (Int.toNat y3) (Int.toNat y4) * sm0 (List.map gi y2) (Int.toNat y3) (Int.toNat y4)) (Int.ofNat (Int.toNat y4 - Int.toNat y3)))) (Prod.mk A B)) 0 = false ∧ Value.agg #[goN a, goN b] = Value.agg #[goN a, goN b] ∧ Value.bool (ieq (Int.ofNat p) (Int.ofNat a) && (ieq (Int.ofNat q) (Int.ofNat b) && true)) = Value.bool false ∧ Value.agg #[goN a, goN b] = Value.agg #[goN a, goN b] ∧ Value.bool (!(ieq (Int.ofNat p) (Int.ofNat a) && (ieq (Int.ofNat q) (Int.ofNat b) && true))) = Value.bool true ∧ (List.all (List.map gi l) (flat 3) = true ∧ True) ∧ okT tiT (List.map gi l) (m + 1) ∧ clCv (TellT.dec tiT (List.map gi l)) [] ∧ (∀ y5 : List Int, (TellT.dec tiT (List.map gi l) = y5 → (Value.agg (Array.mk (List.take 2 (List.drop 0 ([] ++ ([gi (rqA (sm0 (List.map gi y2) (Int.toNat y3) (Int.toNat y4) * sm0 (List.map gi y2) (Int.toNat y3) (Int.toNat y4)) (Int.ofNat (Int.toNat y4 - Int.toNat y3))), gi (rqB (sm0 (List.map gi y2) (Int.toNat y3) (Int.toNat y4) * sm0 (List.map gi y2) (Int.toNat y3) (Int.toNat y4)) (Int.ofNat (Int.toNat y4 - Int.toNat y3)))] ++ []))))) = Value.agg (Array.mk (List.take 2 (List.drop 0 ([] ++ ([gi (rqA (sm0 (List.map gi y2) (Int.toNat y3) (Int.toNat y4) * sm0 (List.map gi y2) (Int.toNat y3) (Int.toNat y4)) (Int.ofNat (Int.toNat y4 - Int.toNat y3))), gi (rqB (sm0 (List.map gi y2) (Int.toNat y3) (Int.toNat y4) * sm0 (List.map gi y2) (Int.toNat y3) (Int.toNat y4)) (Int.ofNat (Int.toNat y4 - Int.toNat y3)))] ++ []))))) ∧ Value.agg #[goN lo, goN hi] = Value.agg #[goN lo, goN hi] ∧ Value.agg (Array.mk (List.take 2 (List.drop 0 ([] ++ ([gi (rqA (sm0 (List.map gi y2) (Int.toNat y3) (Int.toNat y4) * sm0 (List.map gi y2) (Int.toNat y3) (Int.toNat y4)) (Int.ofNat (Int.toNat y4 - Int.toNat y3))), gi (rqB (sm0 (List.map gi y2) (Int.toNat y3) (Int.toNat y4) * sm0 (List.map gi y2) (Int.toNat y3) (Int.toNat y4)) (Int.ofNat (Int.toNat y4 - Int.toNat y3)))] ++ []))))) = Value.agg (Array.mk (List.take 2 (List.drop 0 ([] ++ ([gi (rqA (sm0 (List.map gi y2) (Int.toNat y3) (Int.toNat y4) * sm0 (List.map gi y2) (Int.toNat y3) (Int.toNat y4)) (Int.ofNat (Int.toNat y4 - Int.toNat y3))), gi (rqB (sm0 (List.map gi y2) (Int.toNat y3) (Int.toNat y4) * sm0 (List.map gi y2) (Int.toNat y3) (Int.toNat y4)) (Int.ofNat (Int.toNat y4 - Int.toNat y3)))] ++ []))))) ∧ Value.agg #[goN lo, goN hi] = Value.agg #[goN lo, goN hi] ∧ (List.all (List.map gi y5) (flat 3) = true ∧ True) ∧ okT tiT (List.map gi y5) (m + 1) ∧ chkC (TellT.dec tiT (List.map gi y5)) [Value.agg #[goN lo, goN hi], Value.agg (Array.mk (List.take 2 (List.drop 0 ([] ++ ([goN p, goN q] ++ []))))), Value.agg (Array.mk (List.take 2 (List.drop 0 ([] ++ ([gi (rqA (sm0 (List.map gi y2) (Int.toNat y3) (Int.toNat y4) * sm0 (List.map gi y2) (Int.toNat y3) (Int.toNat y4)) (Int.ofNat (Int.toNat y4 - Int.toNat y3))), gi (rqB (sm0 (List.map gi y2) (Int.toNat y3) (Int.toNat y4) * sm0 (List.map gi y2) (Int.toNat y3) (Int.toNat y4)) (Int.ofNat (Int.toNat y4 - Int.toNat y3)))] ++ [])))))] ∧ (∀ y6 : List Int, (TellT.dec tiT (List.map gi y5) = y6 → (∀ y7 : Int, (∀ y8 : Int, (∀ y9 : Int, (∀ y10 : Int, (∀ y11 : Int, (∀ y12 : Int, ([Value.agg #[goN lo, goN hi], Value.agg (Array.mk (List.take 2 (List.drop 0 ([] ++ ([goN p, goN q] ++ []))))), Value.agg (Array.mk (List.take 2 (List.drop 0 ([] ++ ([gi (rqA (sm0 (List.map gi y2) (Int.toNat y3) (Int.toNat y4) * sm0 (List.map gi y2) (Int.toNat y3) (Int.toNat y4)) (Int.ofNat (Int.toNat y4 - Int.toNat y3))), gi (rqB (sm0 (List.map gi y2) (Int.toNat y3) (Int.toNat y4) * sm0 (List.map gi y2) (Int.toNat y3) (Int.toNat y4)) (Int.ofNat (Int.toNat y4 - Int.toNat y3)))] ++ [])))))] = [Value.agg #[gi y7, gi y8], Value.agg #[gi y9, gi y10], Value.agg #[gi y11, gi y12]] → (ieq (chkE y6 (m + 1) y7 y8 y9 y10 y11 y12) 0 = true ∧ (!(ieq (whenS (!(eqW (bstW (List.map gi y6) (Int.toNat y7) (Int.toNat y8) (m + 1)) y9 y10 y11 y12)) 19) 19)) = false ∧ Q .normal [liP (m + 1) k, ptN 1, ptN 2, ptN 3, ptN 4, goN p, gi (fwrap IntKind.i64 (Int.ofNat (q + 1))), goN (m + 1), goN p] (((((((((((((bbH (List.map gi l) e row lo hi u w a b A B).push (.cells (List.map gi y1) 3 2 false)).push (.cells [gi 0, gi 0] 24 0 false)).set (nG1 + 6) (.cells ([] ++ ([goN p, goN q] ++ [])) 24 0 false)).push (.cells [gi 0, gi 0] 28 0 false)).set (nG1 + 7) (.cells ([] ++ ([gi (rqA (sm0 (List.map gi y2) (Int.toNat y3) (Int.toNat y4) * sm0 (List.map gi y2) (Int.toNat y3) (Int.toNat y4)) (Int.ofNat (Int.toNat y4 - Int.toNat y3))), gi (rqB (sm0 (List.map gi y2) (Int.toNat y3) (Int.toNat y4) * sm0 (List.map gi y2) (Int.toNat y3) (Int.toNat y4)) (Int.ofNat (Int.toNat y4 - Int.toNat y3)))] ++ [])) 28 0 false)).push (.cells [gi 0, gi 0] 24 0 false)).set (nG1 + 8) (.cells ([] ++ ([goN p, goN q] ++ [])) 24 0 false)).push (.cells [gi 0, gi 0] 24 0 false)).set (nG1 + 9) (.cells ([] ++ ([goN p, goN q] ++ [])) 24 0 false)).push (.cells (List.map gi y5) 3 2 false)).push (.cells [gi 0, gi 0] 24 0 false)).set (nG1 + 11) (.cells ([] ++ ([goN p, goN q] ++ [])) 24 0 false)))))))))))))))))))))))))) := by kernel_rfl
theorem bi_6 (l : List Int) (e row m k lo hi p q b : Nat) (u w A B : Int) (g : Nat → Value) (Q : Exit → List Value → AHeap → Prop) : execC Tryz.prog (exec Tryz.prog orcWn 40) (syOf [(120, 31), (127, 31), (133, 7), (137, 7), (145, 32), (153, 32), (158, 31), (163, 32), (167, 32), (170, 31), (180, 47), (182, 31), (193, 47), (200, 34), (203, 7), (209, 7), (210, 32)]) (askWn true true true 0 0 lo hi) (noLoops _) 60 (loopOf Tryz.prog 11 2) (stOf 329 [(0, liP (m + 1) k), (4, ptN 1), (5, ptN 2), (7, ptN 3), (8, ptN 4), (10, goN p), (11, goN q), (109, goN (m + 1)), (110, goN p)] g) (bbH (l.map gi) e row lo hi u w p b A B) (told 329 [0, 4, 5, 7, 8, 10, 11, 109, 110] Q) = (((!(Nat.blt (m + 1) q)) = true ∧ (!(ilt (Int.ofNat hi) (fwrap IntKind.i64 (Int.ofNat q - Int.ofNat p)))) = true ∧ (List.all (List.map gi l) (flat 3) = true ∧ True) ∧ okT tiT (List.map gi l) (m + 1) ∧ clCv (TellT.dec tiT (List.map gi l)) [] ∧ (∀ y1 : List Int, (TellT.dec tiT (List.map gi l) = y1 → ((List.all (List.map gi y1) (flat 3) = true ∧ True) ∧ okT tiT (List.map gi y1) (m + 1) ∧ worC (TellT.dec tiT (List.map gi y1)) [Value.agg (Array.mk (List.take 2 (List.drop 0 ([] ++ ([goN p, goN q] ++ [])))))] ∧ (∀ y2 : List Int, (TellT.dec tiT (List.map gi y1) = y2 → (∀ y3 : Int, (∀ y4 : Int, ([Value.agg (Array.mk (List.take 2 (List.drop 0 ([] ++ ([goN p, goN q] ++ [])))))] = [Value.agg #[gi y3, gi y4]] → (ieq (worE y2 (m + 1) y3 y4) 0 = true ∧ (!(ieq (szE (rqA (sm0 (List.map gi y2) (Int.toNat y3) (Int.toNat y4) * sm0 (List.map gi y2) (Int.toNat y3) (Int.toNat y4)) (Int.ofNat (Int.toNat y4 - Int.toNat y3))) (rqB (sm0 (List.map gi y2) (Int.toNat y3) (Int.toNat y4) * sm0 (List.map gi y2) (Int.toNat y3) (Int.toNat y4)) (Int.ofNat (Int.toNat y4 - Int.toNat y3)))) 0)) = false ∧ Nat.blt p p = false ∧ ieq (Int.ofNat p) (Int.ofNat p) = true ∧ Nat.blt q b = false ∧ ilt 0 (cpR (Prod.mk (rqA (sm0 (List.map gi y2) (Int.toNat y3) (Int.toNat y4) * sm0 (List.map gi y2) (Int.toNat y3) (Int.toNat y4)) (Int.ofNat (Int.toNat y4 - Int.toNat y3))) (rqB (sm0 (List.map gi y2) (Int.toNat y3) (Int.toNat y4) * sm0 (List.map gi y2) (Int.toNat y3) (Int.toNat y4)) (Int.ofNat (Int.toNat y4 - Int.toNat y3)))) (Prod.mk A B)) = false ∧ ieq (cpR (Prod.mk (rqA (sm0 (List.map gi y2) (Int.toNat y3) (Int.toNat y4) * sm0 (List.map gi y2) (Int.toNat y3) (Int.toNat y4)) (Int.ofNat (Int.toNat y4 - Int.toNat y3))) (rqB (sm0 (List.map gi y2) (Int.toNat y3) (Int.toNat y4) * sm0 (List.map gi y2) (Int.toNat y3) (Int.toNat y4)) (Int.ofNat (Int.toNat y4 - Int.toNat y3)))) (Prod.mk A B)) 0 = true ∧ ieq (cpR (Prod.mk (rqA (sm0 (List.map gi y2) (Int.toNat y3) (Int.toNat y4) * sm0 (List.map gi y2) (Int.toNat y3) (Int.toNat y4)) (Int.ofNat (Int.toNat y4 - Int.toNat y3))) (rqB (sm0 (List.map gi y2) (Int.toNat y3) (Int.toNat y4) * sm0 (List.map gi y2) (Int.toNat y3) (Int.toNat y4)) (Int.ofNat (Int.toNat y4 - Int.toNat y3)))) (Prod.mk A B)) 0 = true ∧ Value.agg #[goN p, goN b] = Value.agg #[goN p, goN b] ∧ Value.bool (ieq (Int.ofNat p) (Int.ofNat p) && (ieq (Int.ofNat q) (Int.ofNat b) && true)) = Value.bool false ∧ Value.agg #[goN p, goN b] = Value.agg #[goN p, goN b] ∧ Value.bool (ieq (Int.ofNat p) (Int.ofNat p) && (ieq (Int.ofNat q) (Int.ofNat b) && true)) = Value.bool false ∧ Value.agg #[goN p, goN b] = Value.agg #[goN p, goN b] ∧ Value.bool (!(ieq (Int.ofNat p) (Int.ofNat p) && (ieq (Int.ofNat q) (Int.ofNat b) && true))) = Value.bool true ∧ (List.all (List.map gi l) (flat 3) = true ∧ True) ∧ okT tiT (List.map gi l) (m + 1) ∧ clCv (TellT.dec tiT (List.map gi l)) [] ∧ (∀ y5 : List Int, (TellT.dec tiT (List.map gi l) = y5 → (Value.agg (Array.mk (List.take 2 (List.drop 0 ([] ++ ([gi (rqA (sm0 (List.map gi y2) (Int.toNat y3) (Int.toNat y4) * sm0 (List.map gi y2) (Int.toNat y3) (Int.toNat y4)) (Int.ofNat (Int.toNat y4 - Int.toNat y3))), gi (rqB (sm0 (List.map gi y2) (Int.toNat y3) (Int.toNat y4) * sm0 (List.map gi y2) (Int.toNat y3) (Int.toNat y4)) (Int.ofNat (Int.toNat y4 - Int.toNat y3)))] ++ []))))) = Value.agg (Array.mk (List.take 2 (List.drop 0 ([] ++ ([gi (rqA (sm0 (List.map gi y2) (Int.toNat y3) (Int.toNat y4) * sm0 (List.map gi y2) (Int.toNat y3) (Int.toNat y4)) (Int.ofNat (Int.toNat y4 - Int.toNat y3))), gi (rqB (sm0 (List.map gi y2) (Int.toNat y3) (Int.toNat y4) * sm0 (List.map gi y2) (Int.toNat y3) (Int.toNat y4)) (Int.ofNat (Int.toNat y4 - Int.toNat y3)))] ++ []))))) ∧ Value.agg #[goN lo, goN hi] = Value.agg #[goN lo, goN hi] ∧ Value.agg (Array.mk (List.take 2 (List.drop 0 ([] ++ ([gi (rqA (sm0 (List.map gi y2) (Int.toNat y3) (Int.toNat y4) * sm0 (List.map gi y2) (Int.toNat y3) (Int.toNat y4)) (Int.ofNat (Int.toNat y4 - Int.toNat y3))), gi (rqB (sm0 (List.map gi y2) (Int.toNat y3) (Int.toNat y4) * sm0 (List.map gi y2) (Int.toNat y3) (Int.toNat y4)) (Int.ofNat (Int.toNat y4 - Int.toNat y3)))] ++ []))))) = Value.agg (Array.mk (List.take 2 (List.drop 0 ([] ++ ([gi (rqA (sm0 (List.map gi y2) (Int.toNat y3) (Int.toNat y4) * sm0 (List.map gi y2) (Int.toNat y3) (Int.toNat y4)) (Int.ofNat (Int.toNat y4 - Int.toNat y3))), gi (rqB (sm0 (List.map gi y2) (Int.toNat y3) (Int.toNat y4) * sm0 (List.map gi y2) (Int.toNat y3) (Int.toNat y4)) (Int.ofNat (Int.toNat y4 - Int.toNat y3)))] ++ []))))) ∧ Value.agg #[goN lo, goN hi] = Value.agg #[goN lo, goN hi] ∧ (List.all (List.map gi y5) (flat 3) = true ∧ True) ∧ okT tiT (List.map gi y5) (m + 1) ∧ chkC (TellT.dec tiT (List.map gi y5)) [Value.agg #[goN lo, goN hi], Value.agg (Array.mk (List.take 2 (List.drop 0 ([] ++ ([goN p, goN q] ++ []))))), Value.agg (Array.mk (List.take 2 (List.drop 0 ([] ++ ([gi (rqA (sm0 (List.map gi y2) (Int.toNat y3) (Int.toNat y4) * sm0 (List.map gi y2) (Int.toNat y3) (Int.toNat y4)) (Int.ofNat (Int.toNat y4 - Int.toNat y3))), gi (rqB (sm0 (List.map gi y2) (Int.toNat y3) (Int.toNat y4) * sm0 (List.map gi y2) (Int.toNat y3) (Int.toNat y4)) (Int.ofNat (Int.toNat y4 - Int.toNat y3)))] ++ [])))))] ∧ (∀ y6 : List Int, (TellT.dec tiT (List.map gi y5) = y6 → (∀ y7 : Int, (∀ y8 : Int, (∀ y9 : Int, (∀ y10 : Int, (∀ y11 : Int, (∀ y12 : Int, ([Value.agg #[goN lo, goN hi], Value.agg (Array.mk (List.take 2 (List.drop 0 ([] ++ ([goN p, goN q] ++ []))))), Value.agg (Array.mk (List.take 2 (List.drop 0 ([] ++ ([gi (rqA (sm0 (List.map gi y2) (Int.toNat y3) (Int.toNat y4) * sm0 (List.map gi y2) (Int.toNat y3) (Int.toNat y4)) (Int.ofNat (Int.toNat y4 - Int.toNat y3))), gi (rqB (sm0 (List.map gi y2) (Int.toNat y3) (Int.toNat y4) * sm0 (List.map gi y2) (Int.toNat y3) (Int.toNat y4)) (Int.ofNat (Int.toNat y4 - Int.toNat y3)))] ++ [])))))] = [Value.agg #[gi y7, gi y8], Value.agg #[gi y9, gi y10], Value.agg #[gi y11, gi y12]] → (ieq (chkE y6 (m + 1) y7 y8 y9 y10 y11 y12) 0 = true ∧ (!(ieq (whenS (!(eqW (bstW (List.map gi y6) (Int.toNat y7) (Int.toNat y8) (m + 1)) y9 y10 y11 y12)) 19) 19)) = false ∧ Q .normal [liP (m + 1) k, ptN 1, ptN 2, ptN 3, ptN 4, goN p, gi (fwrap IntKind.i64 (Int.ofNat (q + 1))), goN (m + 1), goN p] (((((((((((((((bbH (List.map gi l) e row lo hi u w p b A B).push (.cells (List.map gi y1) 3 2 false)).push (.cells [gi 0, gi 0] 24 0 false)).set (nG1 + 6) (.cells ([] ++ ([goN p, goN q] ++ [])) 24 0 false)).push (.cells [gi 0, gi 0] 28 0 false)).set (nG1 + 7) (.cells ([] ++ ([gi (rqA (sm0 (List.map gi y2) (Int.toNat y3) (Int.toNat y4) * sm0 (List.map gi y2) (Int.toNat y3) (Int.toNat y4)) (Int.ofNat (Int.toNat y4 - Int.toNat y3))), gi (rqB (sm0 (List.map gi y2) (Int.toNat y3) (Int.toNat y4) * sm0 (List.map gi y2) (Int.toNat y3) (Int.toNat y4)) (Int.ofNat (Int.toNat y4 - Int.toNat y3)))] ++ [])) 28 0 false)).push (.cells [gi 0, gi 0] 24 0 false)).set (nG1 + 8) (.cells ([] ++ ([goN p, goN q] ++ [])) 24 0 false)).push (.cells [gi 0, gi 0] 24 0 false)).set (nG1 + 9) (.cells ([] ++ ([goN p, goN q] ++ [])) 24 0 false)).push (.cells [gi 0, gi 0] 24 0 false)).set (nG1 + 10) (.cells ([] ++ ([goN p, goN q] ++ [])) 24 0 false)).push (.cells (List.map gi y5) 3 2 false)).push (.cells [gi 0, gi 0] 24 0 false)).set (nG1 + 12) (.cells ([] ++ ([goN p, goN q] ++ [])) 24 0 false)))))))))))))))))))))))))) := by kernel_rfl
theorem bi_7 (l : List Int) (e row m k lo hi p q b : Nat) (u w A B : Int) (g : Nat → Value) (Q : Exit → List Value → AHeap → Prop) : execC Tryz.prog (exec Tryz.prog orcWn 40) (syOf [(120, 31), (127, 31), (133, 7), (137, 7), (145, 32), (153, 32), (158, 31), (163, 32), (167, 32), (170, 32), (180, 47), (182, 32), (200, 34), (203, 7), (209, 7), (210, 32)]) (askWn true true true 0 0 lo hi) (noLoops _) 60 (loopOf Tryz.prog 11 2) (stOf 329 [(0, liP (m + 1) k), (4, ptN 1), (5, ptN 2), (7, ptN 3), (8, ptN 4), (10, goN p), (11, goN q), (109, goN (m + 1)), (110, goN p)] g) (bbH (l.map gi) e row lo hi u w p b A B) (told 329 [0, 4, 5, 7, 8, 10, 11, 109, 110] Q) = (((!(Nat.blt (m + 1) q)) = true ∧ (!(ilt (Int.ofNat hi) (fwrap IntKind.i64 (Int.ofNat q - Int.ofNat p)))) = true ∧ (List.all (List.map gi l) (flat 3) = true ∧ True) ∧ okT tiT (List.map gi l) (m + 1) ∧ clCv (TellT.dec tiT (List.map gi l)) [] ∧ (∀ y1 : List Int, (TellT.dec tiT (List.map gi l) = y1 → ((List.all (List.map gi y1) (flat 3) = true ∧ True) ∧ okT tiT (List.map gi y1) (m + 1) ∧ worC (TellT.dec tiT (List.map gi y1)) [Value.agg (Array.mk (List.take 2 (List.drop 0 ([] ++ ([goN p, goN q] ++ [])))))] ∧ (∀ y2 : List Int, (TellT.dec tiT (List.map gi y1) = y2 → (∀ y3 : Int, (∀ y4 : Int, ([Value.agg (Array.mk (List.take 2 (List.drop 0 ([] ++ ([goN p, goN q] ++ [])))))] = [Value.agg #[gi y3, gi y4]] → (ieq (worE y2 (m + 1) y3 y4) 0 = true ∧ (!(ieq (szE (rqA (sm0 (List.map gi y2) (Int.toNat y3) (Int.toNat y4) * sm0 (List.map gi y2) (Int.toNat y3) (Int.toNat y4)) (Int.ofNat (Int.toNat y4 - Int.toNat y3))) (rqB (sm0 (List.map gi y2) (Int.toNat y3) (Int.toNat y4) * sm0 (List.map gi y2) (Int.toNat y3) (Int.toNat y4)) (Int.ofNat (Int.toNat y4 - Int.toNat y3)))) 0)) = false ∧ Nat.blt p p = false ∧ ieq (Int.ofNat p) (Int.ofNat p) = true ∧ Nat.blt q b = false ∧ ilt 0 (cpR (Prod.mk (rqA (sm0 (List.map gi y2) (Int.toNat y3) (Int.toNat y4) * sm0 (List.map gi y2) (Int.toNat y3) (Int.toNat y4)) (Int.ofNat (Int.toNat y4 - Int.toNat y3))) (rqB (sm0 (List.map gi y2) (Int.toNat y3) (Int.toNat y4) * sm0 (List.map gi y2) (Int.toNat y3) (Int.toNat y4)) (Int.ofNat (Int.toNat y4 - Int.toNat y3)))) (Prod.mk A B)) = false ∧ ieq (cpR (Prod.mk (rqA (sm0 (List.map gi y2) (Int.toNat y3) (Int.toNat y4) * sm0 (List.map gi y2) (Int.toNat y3) (Int.toNat y4)) (Int.ofNat (Int.toNat y4 - Int.toNat y3))) (rqB (sm0 (List.map gi y2) (Int.toNat y3) (Int.toNat y4) * sm0 (List.map gi y2) (Int.toNat y3) (Int.toNat y4)) (Int.ofNat (Int.toNat y4 - Int.toNat y3)))) (Prod.mk A B)) 0 = false ∧ ieq (cpR (Prod.mk (rqA (sm0 (List.map gi y2) (Int.toNat y3) (Int.toNat y4) * sm0 (List.map gi y2) (Int.toNat y3) (Int.toNat y4)) (Int.ofNat (Int.toNat y4 - Int.toNat y3))) (rqB (sm0 (List.map gi y2) (Int.toNat y3) (Int.toNat y4) * sm0 (List.map gi y2) (Int.toNat y3) (Int.toNat y4)) (Int.ofNat (Int.toNat y4 - Int.toNat y3)))) (Prod.mk A B)) 0 = false ∧ Value.agg #[goN p, goN b] = Value.agg #[goN p, goN b] ∧ Value.bool (ieq (Int.ofNat p) (Int.ofNat p) && (ieq (Int.ofNat q) (Int.ofNat b) && true)) = Value.bool false ∧ Value.agg #[goN p, goN b] = Value.agg #[goN p, goN b] ∧ Value.bool (!(ieq (Int.ofNat p) (Int.ofNat p) && (ieq (Int.ofNat q) (Int.ofNat b) && true))) = Value.bool true ∧ (List.all (List.map gi l) (flat 3) = true ∧ True) ∧ okT tiT (List.map gi l) (m + 1) ∧ clCv (TellT.dec tiT (List.map gi l)) [] ∧ (∀ y5 : List Int, (TellT.dec tiT (List.map gi l) = y5 → (Value.agg (Array.mk (List.take 2 (List.drop 0 ([] ++ ([gi (rqA (sm0 (List.map gi y2) (Int.toNat y3) (Int.toNat y4) * sm0 (List.map gi y2) (Int.toNat y3) (Int.toNat y4)) (Int.ofNat (Int.toNat y4 - Int.toNat y3))), gi (rqB (sm0 (List.map gi y2) (Int.toNat y3) (Int.toNat y4) * sm0 (List.map gi y2) (Int.toNat y3) (Int.toNat y4)) (Int.ofNat (Int.toNat y4 - Int.toNat y3)))] ++ []))))) = Value.agg (Array.mk (List.take 2 (List.drop 0 ([] ++ ([gi (rqA (sm0 (List.map gi y2) (Int.toNat y3) (Int.toNat y4) * sm0 (List.map gi y2) (Int.toNat y3) (Int.toNat y4)) (Int.ofNat (Int.toNat y4 - Int.toNat y3))), gi (rqB (sm0 (List.map gi y2) (Int.toNat y3) (Int.toNat y4) * sm0 (List.map gi y2) (Int.toNat y3) (Int.toNat y4)) (Int.ofNat (Int.toNat y4 - Int.toNat y3)))] ++ []))))) ∧ Value.agg #[goN lo, goN hi] = Value.agg #[goN lo, goN hi] ∧ Value.agg (Array.mk (List.take 2 (List.drop 0 ([] ++ ([gi (rqA (sm0 (List.map gi y2) (Int.toNat y3) (Int.toNat y4) * sm0 (List.map gi y2) (Int.toNat y3) (Int.toNat y4)) (Int.ofNat (Int.toNat y4 - Int.toNat y3))), gi (rqB (sm0 (List.map gi y2) (Int.toNat y3) (Int.toNat y4) * sm0 (List.map gi y2) (Int.toNat y3) (Int.toNat y4)) (Int.ofNat (Int.toNat y4 - Int.toNat y3)))] ++ []))))) = Value.agg (Array.mk (List.take 2 (List.drop 0 ([] ++ ([gi (rqA (sm0 (List.map gi y2) (Int.toNat y3) (Int.toNat y4) * sm0 (List.map gi y2) (Int.toNat y3) (Int.toNat y4)) (Int.ofNat (Int.toNat y4 - Int.toNat y3))), gi (rqB (sm0 (List.map gi y2) (Int.toNat y3) (Int.toNat y4) * sm0 (List.map gi y2) (Int.toNat y3) (Int.toNat y4)) (Int.ofNat (Int.toNat y4 - Int.toNat y3)))] ++ []))))) ∧ Value.agg #[goN lo, goN hi] = Value.agg #[goN lo, goN hi] ∧ (List.all (List.map gi y5) (flat 3) = true ∧ True) ∧ okT tiT (List.map gi y5) (m + 1) ∧ chkC (TellT.dec tiT (List.map gi y5)) [Value.agg #[goN lo, goN hi], Value.agg (Array.mk (List.take 2 (List.drop 0 ([] ++ ([goN p, goN q] ++ []))))), Value.agg (Array.mk (List.take 2 (List.drop 0 ([] ++ ([gi (rqA (sm0 (List.map gi y2) (Int.toNat y3) (Int.toNat y4) * sm0 (List.map gi y2) (Int.toNat y3) (Int.toNat y4)) (Int.ofNat (Int.toNat y4 - Int.toNat y3))), gi (rqB (sm0 (List.map gi y2) (Int.toNat y3) (Int.toNat y4) * sm0 (List.map gi y2) (Int.toNat y3) (Int.toNat y4)) (Int.ofNat (Int.toNat y4 - Int.toNat y3)))] ++ [])))))] ∧ (∀ y6 : List Int, (TellT.dec tiT (List.map gi y5) = y6 → (∀ y7 : Int, (∀ y8 : Int, (∀ y9 : Int, (∀ y10 : Int, (∀ y11 : Int, (∀ y12 : Int, ([Value.agg #[goN lo, goN hi], Value.agg (Array.mk (List.take 2 (List.drop 0 ([] ++ ([goN p, goN q] ++ []))))), Value.agg (Array.mk (List.take 2 (List.drop 0 ([] ++ ([gi (rqA (sm0 (List.map gi y2) (Int.toNat y3) (Int.toNat y4) * sm0 (List.map gi y2) (Int.toNat y3) (Int.toNat y4)) (Int.ofNat (Int.toNat y4 - Int.toNat y3))), gi (rqB (sm0 (List.map gi y2) (Int.toNat y3) (Int.toNat y4) * sm0 (List.map gi y2) (Int.toNat y3) (Int.toNat y4)) (Int.ofNat (Int.toNat y4 - Int.toNat y3)))] ++ [])))))] = [Value.agg #[gi y7, gi y8], Value.agg #[gi y9, gi y10], Value.agg #[gi y11, gi y12]] → (ieq (chkE y6 (m + 1) y7 y8 y9 y10 y11 y12) 0 = true ∧ (!(ieq (whenS (!(eqW (bstW (List.map gi y6) (Int.toNat y7) (Int.toNat y8) (m + 1)) y9 y10 y11 y12)) 19) 19)) = false ∧ Q .normal [liP (m + 1) k, ptN 1, ptN 2, ptN 3, ptN 4, goN p, gi (fwrap IntKind.i64 (Int.ofNat (q + 1))), goN (m + 1), goN p] (((((((((((((bbH (List.map gi l) e row lo hi u w p b A B).push (.cells (List.map gi y1) 3 2 false)).push (.cells [gi 0, gi 0] 24 0 false)).set (nG1 + 6) (.cells ([] ++ ([goN p, goN q] ++ [])) 24 0 false)).push (.cells [gi 0, gi 0] 28 0 false)).set (nG1 + 7) (.cells ([] ++ ([gi (rqA (sm0 (List.map gi y2) (Int.toNat y3) (Int.toNat y4) * sm0 (List.map gi y2) (Int.toNat y3) (Int.toNat y4)) (Int.ofNat (Int.toNat y4 - Int.toNat y3))), gi (rqB (sm0 (List.map gi y2) (Int.toNat y3) (Int.toNat y4) * sm0 (List.map gi y2) (Int.toNat y3) (Int.toNat y4)) (Int.ofNat (Int.toNat y4 - Int.toNat y3)))] ++ [])) 28 0 false)).push (.cells [gi 0, gi 0] 24 0 false)).set (nG1 + 8) (.cells ([] ++ ([goN p, goN q] ++ [])) 24 0 false)).push (.cells [gi 0, gi 0] 24 0 false)).set (nG1 + 9) (.cells ([] ++ ([goN p, goN q] ++ [])) 24 0 false)).push (.cells (List.map gi y5) 3 2 false)).push (.cells [gi 0, gi 0] 24 0 false)).set (nG1 + 11) (.cells ([] ++ ([goN p, goN q] ++ [])) 24 0 false)))))))))))))))))))))))))) := by kernel_rfl
theorem bi_8 (l : List Int) (e row m k lo hi p q a b : Nat) (u w A B : Int) (g : Nat → Value) (Q : Exit → List Value → AHeap → Prop) : execC Tryz.prog (exec Tryz.prog orcWn 40) (syOf [(120, 32)]) (askWn true true true 0 0 lo hi) (noLoops _) 60 (loopOf Tryz.prog 11 2) (stOf 329 [(0, liP (m + 1) k), (4, ptN 1), (5, ptN 2), (7, ptN 3), (8, ptN 4), (10, goN p), (11, goN q), (109, goN (m + 1)), (110, goN p)] g) (bbH (l.map gi) e row lo hi u w a b A B) (told 329 [0, 4, 5, 7, 8, 10, 11, 109, 110] Q) = (((!(Nat.blt (m + 1) q)) = false ∧ Q (.exit 2) [liP (m + 1) k, ptN 1, ptN 2, ptN 3, ptN 4, goN p, goN q, goN (m + 1), goN p] (bbH (List.map gi l) e row lo hi u w a b A B))) := by kernel_rfl
theorem bi_9 (l : List Int) (e row m k lo hi p q a b : Nat) (u w A B : Int) (g : Nat → Value) (Q : Exit → List Value → AHeap → Prop) : execC Tryz.prog (exec Tryz.prog orcWn 40) (syOf [(120, 31), (127, 32)]) (askWn true true true 0 0 lo hi) (noLoops _) 60 (loopOf Tryz.prog 11 2) (stOf 329 [(0, liP (m + 1) k), (4, ptN 1), (5, ptN 2), (7, ptN 3), (8, ptN 4), (10, goN p), (11, goN q), (109, goN (m + 1)), (110, goN p)] g) (bbH (l.map gi) e row lo hi u w a b A B) (told 329 [0, 4, 5, 7, 8, 10, 11, 109, 110] Q) = (((!(Nat.blt (m + 1) q)) = true ∧ (!(ilt (Int.ofNat hi) (fwrap IntKind.i64 (Int.ofNat q - Int.ofNat p)))) = false ∧ Q (.exit 2) [liP (m + 1) k, ptN 1, ptN 2, ptN 3, ptN 4, goN p, goN q, goN (m + 1), goN p] (bbH (List.map gi l) e row lo hi u w a b A B))) := by kernel_rfl
end Go.Proofs.YtihnnmejkpddeaaGreatDoor
/-! (OWN WORK. Stage 6, arithmetic: what holds of the best window.) -/
namespace Go.Proofs.YtihnnmejkpddeaaGreatDoor
open Go Go.Am
def leR (x y : P2) : Prop := x.1 * y.2 ≤ y.1 * x.2
theorem leR_refl (x : P2) : leR x x := Int.le_refl _
theorem leR_tot (x y : P2) : leR x y ∨ leR y x := Int.le_total _ _
theorem leR_trans {x m y : P2} (hx : 0 < x.2) (hm : 0 < m.2) (hy : 0 < y.2) (h1 : leR x m) (h2 : leR m y) : leR x y := by
  have e1 : x.1 * m.2 * y.2 ≤ m.1 * x.2 * y.2 := Int.mul_le_mul_of_nonneg_right h1 (Int.le_of_lt hy)
  have e2 : m.1 * y.2 * x.2 ≤ y.1 * m.2 * x.2 := Int.mul_le_mul_of_nonneg_right h2 (Int.le_of_lt hx)
  have a1 : x.1 * m.2 * y.2 = x.1 * y.2 * m.2 := by rw [Int.mul_assoc, Int.mul_comm m.2, ← Int.mul_assoc]
  have a2 : m.1 * x.2 * y.2 = m.1 * y.2 * x.2 := by rw [Int.mul_assoc, Int.mul_comm x.2, ← Int.mul_assoc]
  have a3 : y.1 * m.2 * x.2 = y.1 * x.2 * m.2 := by rw [Int.mul_assoc, Int.mul_comm m.2, ← Int.mul_assoc]
  rw [a1, a2] at e1
  rw [a3] at e2
  exact Int.le_of_mul_le_mul_right (Int.le_trans e1 e2) hm
theorem ltW_irr (x : W4) : ¬ ltW x x := by unfold ltW; omega
theorem ltW_as {x y : W4} (h : ltW x y) : ¬ ltW y x := by unfold ltW at h ⊢; omega
def beats (M y : W4) : Prop := leR y.2.2 M.2.2 ∧ (ltW y M → ¬ leR M.2.2 y.2.2)
theorem mxW_ok : ∀ (l : List W4) (m : W4) (pre : List W4), (∀ y ∈ pre ++ l, okR y.2.2) → m ∈ pre → (∀ y ∈ pre, beats m y) → (∀ x ∈ l, ltW m x) → l.Pairwise ltW → mxW m l ∈ pre ++ l ∧ ∀ y ∈ pre ++ l, beats (mxW m l) y
  | [], m, pre, _, hm, hb, _, _ => by rw [List.append_nil]; exact ⟨hm, hb⟩
  | x :: l, m, pre, ho, hm, hb, hl, hp => by
    obtain ⟨p1, p2⟩ := List.pairwise_cons.1 hp
    have hx := hl x (.head _)
    have e : pre ++ x :: l = (pre ++ [x]) ++ l := by simp
    have ox := ho x (by simp)
    have om := ho m (List.mem_append_left _ hm)
    show mxW (bif gtW x m then x else m) l ∈ _ ∧ ∀ y ∈ _, beats (mxW (bif gtW x m then x else m) l) y
    rw [gtW_lt hx, e]
    rw [e] at ho
    cases g : gtR x.2.2 m.2.2 with
    | true =>
      rw [gtR_say ox om] at g
      have g := of_decide_eq_true g
      refine mxW_ok l x (pre ++ [x]) ho (by simp) (fun y hy => ?_) p1 p2
      rcases List.mem_append.1 hy with hy | hy
      · have oy := ho y (by simp [hy])
        have h1 := (hb y hy).1
        have no : ¬ leR x.2.2 y.2.2 := fun h => by
          have := leR_trans ox.2.1 oy.2.1 om.2.1 h h1
          unfold leR at this; omega
        exact ⟨(leR_tot y.2.2 x.2.2).resolve_right no, fun _ => no⟩
      · rw [List.mem_singleton] at hy; subst hy
        exact ⟨leR_refl _, fun h => absurd h (ltW_irr _)⟩
    | false =>
      rw [gtR_say ox om] at g
      have g := of_decide_eq_false g
      refine mxW_ok l m (pre ++ [x]) ho (by simp [hm]) (fun y hy => ?_) (fun y hy => hl y (.tail _ hy)) p2
      rcases List.mem_append.1 hy with hy | hy
      · exact hb y hy
      · rw [List.mem_singleton] at hy; subst hy
        exact ⟨by unfold leR; omega, fun h => absurd h (ltW_as hx)⟩
theorem al_mem {c : List Value} {lo hi n : Nat} (h0 : 0 < lo) {y : W4} (h : y ∈ alW c lo hi n n) : ∃ p q, y = wnW c p q ∧ p < q ∧ q ≤ n ∧ p + lo ≤ q ∧ q ≤ p + hi := by
  obtain ⟨i, j, hi', hj, rfl⟩ := alW_mem h
  unfold rwN at hj
  have m1 := Nat.min_le_left (i + hi) n
  have m2 := Nat.min_le_right (i + hi) n
  exact ⟨i, i + lo + j, rfl, by omega, by omega, by omega, by omega⟩
theorem rw_in {c : List Value} {p t : Nat} : ∀ {N j : Nat}, j < N → wnW c p (t + j) ∈ rwL c p t N
  | N + 1, j, h => by
    show wnW c p (t + j) ∈ rwL c p t N ++ [wnW c p (t + N)]
    by_cases e : j = N
    · subst e; simp
    · exact List.mem_append_left _ (rw_in (by omega))
theorem al_up {c : List Value} {lo hi n i : Nat} {x : W4} (h : x ∈ rwL c i (i + lo) (rwN lo hi n i)) : ∀ {P : Nat}, i < P → x ∈ alW c lo hi n P
  | P + 1, hp => by
    show x ∈ alW c lo hi n P ++ rwL c P (P + lo) (rwN lo hi n P)
    by_cases e : i = P
    · subst e; exact List.mem_append_right _ h
    · exact List.mem_append_left _ (al_up h (by omega))
theorem al_in {c : List Value} {lo hi n p q : Nat} (h : p < q) (hq : q ≤ n) (h1 : p + lo ≤ q) (h2 : q ≤ p + hi) : wnW c p q ∈ alW c lo hi n n := by
  refine al_up (i := p) ?_ (by omega)
  have hm : q ≤ min (p + hi) n := Nat.le_min.2 ⟨h2, hq⟩
  have := rw_in (c := c) (p := p) (t := p + lo) (N := rwN lo hi n p) (j := q - (p + lo)) (by unfold rwN; omega)
  rwa [show p + lo + (q - (p + lo)) = q by omega] at this
structure Best (c : List Value) (lo hi n a b : Nat) : Prop where
  e : bstW c lo hi n = wnW c a b
  h1 : a < b
  h2 : b ≤ n
  h3 : a + lo ≤ b
  h4 : b ≤ a + hi
  le : ∀ p q, p < q → q ≤ n → p + lo ≤ q → q ≤ p + hi → leR (wtP c p q) (wtP c a b)
  lt : ∀ p q, p < q → q ≤ n → p + lo ≤ q → q ≤ p + hi → (p < a ∨ (p = a ∧ q < b)) → ¬ leR (wtP c a b) (wtP c p q)
theorem best_at {c : List Value} {row n k lo hi : Nat} (C : BsOk c row n k) (h1 : 0 < lo) (h2 : lo ≤ hi) (h3 : lo ≤ n) : ∃ a b, Best c lo hi n a b := by
  have key : bstW c lo hi n ∈ alW c lo hi n n ∧ ∀ y ∈ alW c lo hi n n, beats (bstW c lo hi n) y := by
    obtain ⟨x, l, e⟩ := alW_ne (c := c) h1 h2 h3
    have hp := alW_pw c lo hi n n
    have ho : ∀ y ∈ alW c lo hi n n, okR y.2.2 := fun y hy => by
      obtain ⟨p, q, rfl, g1, g2, _, _⟩ := al_mem h1 hy
      exact wt_ok C g1 g2
    unfold bstW
    rw [e] at hp ho ⊢
    obtain ⟨p1, p2⟩ := List.pairwise_cons.1 hp
    exact mxW_ok l x [x] ho (by simp) (fun y hy => by rw [List.mem_singleton] at hy; subst hy; exact ⟨leR_refl _, fun h => absurd h (ltW_irr _)⟩) p1 p2
  obtain ⟨k1, k2⟩ := key
  obtain ⟨a, b, e, g1, g2, g3, g4⟩ := al_mem h1 k1
  rw [e] at k2
  refine ⟨a, b, e, g1, g2, g3, g4, fun p q i1 i2 i3 i4 => (k2 _ (al_in i1 i2 i3 i4)).1, fun p q i1 i2 i3 i4 i5 => (k2 _ (al_in i1 i2 i3 i4)).2 ?_⟩
  unfold ltW wnW
  simp only [Int.ofNat_eq_natCast]
  omega
theorem cp_le {x y : P2} (hx : okR x) (hy : okR y) (h : leR x y) : ilt 0 (cpR x y) = false := by
  show gtR x y = false
  rw [gtR_say hx hy]
  unfold leR at h
  exact decide_eq_false (by omega)
theorem cp_say {x y : P2} (hx : okR x) (hy : okR y) : cpR x y = cpE (x.1 * y.2) (y.1 * x.2) := by
  unfold cpR
  rw [fwrap_in (prod_in hx.1.1 hx.1.2 hy.2.1 hy.2.2), fwrap_in (prod_in hy.1.1 hy.1.2 hx.2.1 hx.2.2)]
theorem cp_ge {x y : P2} (hx : okR x) (hy : okR y) (h : leR y x) : ilt (cpR x y) 0 = false := by
  rw [cp_say hx hy, cp_lt]
  unfold leR at h
  exact decide_eq_false (by omega)
theorem cp_ne {x y : P2} (hx : okR x) (hy : okR y) (h : ¬ leR y x) : ieq (cpR x y) 0 = false := by
  rw [cp_say hx hy, ieq_dec]
  unfold leR at h
  have h : x.1 * y.2 < y.1 * x.2 := by omega
  unfold cpE
  rw [ilt_say, decide_eq_true h]; rfl
theorem cp_self (x : P2) : ieq (cpR x x) 0 = true := by
  unfold cpR cpE
  rw [ilt_say, decide_eq_false (Int.lt_irrefl _)]; rfl
theorem rq_dvd {a b : Int} : gz a b ∣ a ∧ gz a b ∣ b := by
  unfold gz
  constructor
  · exact Int.dvd_natAbs.1 (Int.natCast_dvd_natCast.2 (Nat.gcd_dvd_left _ _))
  · exact Int.dvd_natAbs.1 (Int.natCast_dvd_natCast.2 (Nat.gcd_dvd_right _ _))
theorem rq_low {a b : Int} (hb : 0 < b) : gz (rqA a b) (rqB a b) = 1 := by
  have p : 0 < Nat.gcd a.natAbs b.natAbs := Nat.gcd_pos_of_pos_right _ (by omega)
  show Int.ofNat (Nat.gcd (a.tdiv (Int.ofNat (Nat.gcd a.natAbs b.natAbs))).natAbs (b.tdiv (Int.ofNat (Nat.gcd a.natAbs b.natAbs))).natAbs) = 1
  rw [Int.natAbs_tdiv, Int.natAbs_tdiv]
  show Int.ofNat (Nat.gcd (a.natAbs / Nat.gcd a.natAbs b.natAbs) (b.natAbs / Nat.gcd a.natAbs b.natAbs)) = 1
  rw [Nat.gcd_div (Nat.gcd_dvd_left _ _) (Nat.gcd_dvd_right _ _), Nat.div_self p]; rfl
theorem withinZ {x lo hi : Int} (h1 : lo ≤ x) (h2 : x ≤ hi) : withinS x lo hi = 0 := by
  unfold withinS
  rw [ilt_say, ilt_say, decide_eq_false (show ¬ x < lo by omega), decide_eq_false (show ¬ hi < x by omega)]; rfl
theorem sz_zero {a b : Int} (h : okR (a, b)) (hg : gz a b = 1) : szE a b = 0 := by
  obtain ⟨⟨h1, h2⟩, h3, h4⟩ := h
  have e : eqP (rqA a b, rqB a b) (a, b) = true := by
    unfold rqA rqB
    rw [hg, Int.tdiv_one, Int.tdiv_one]
    exact eqP_iff.2 rfl
  have w : ∀ {x l u : Int}, l ≤ x → x ≤ u → withinS x l u = 0 := fun {x l u} h1 h2 => withinZ h1 h2
  unfold szE
  rw [w h1 h2, w (by have h3 : 0 < b := h3; omega) h4, e, Bool.not_true, Bool.and_false]; rfl
theorem low_eq {x y : P2} (hx : okR x) (hy : okR y) (gx : gz x.1 x.2 = 1) (gy : gz y.1 y.2 = 1) (h1 : leR x y) (h2 : leR y x) : x = y := by
  obtain ⟨a, b⟩ := x
  obtain ⟨c, d⟩ := y
  obtain ⟨⟨a0, _⟩, b0, _⟩ := hx
  obtain ⟨⟨c0, _⟩, d0, _⟩ := hy
  have h : a * d = c * b := Int.le_antisymm h1 h2
  have a0 : 0 ≤ a := a0
  have b0 : 0 < b := b0
  have c0 : 0 ≤ c := c0
  have d0 : 0 < d := d0
  obtain ⟨a, rfl⟩ := Int.eq_ofNat_of_zero_le a0
  obtain ⟨b, rfl⟩ := Int.eq_ofNat_of_zero_le (Int.le_of_lt b0)
  obtain ⟨c, rfl⟩ := Int.eq_ofNat_of_zero_le c0
  obtain ⟨d, rfl⟩ := Int.eq_ofNat_of_zero_le (Int.le_of_lt d0)
  have gx : Nat.Coprime a b := by have gx : Int.ofNat (Nat.gcd a b) = Int.ofNat 1 := gx; injection gx
  have gy : Nat.Coprime c d := by have gy : Int.ofNat (Nat.gcd c d) = Int.ofNat 1 := gy; injection gy
  have h : a * d = c * b := by exact_mod_cast h
  have e1 : b ∣ d := Nat.Coprime.dvd_of_dvd_mul_left gx.symm (by rw [h]; exact Nat.dvd_mul_left _ _)
  have e2 : d ∣ b := Nat.Coprime.dvd_of_dvd_mul_left gy.symm (by rw [← h]; exact Nat.dvd_mul_left _ _)
  have e := Nat.dvd_antisymm e1 e2
  subst e
  have := Nat.eq_of_mul_eq_mul_right (by omega) h
  rw [this]
theorem rq_mono {x y d : Int} (h : x ≤ y) (hd : 0 < d) : leR (rqA x d, rqB x d) (rqA y d, rqB y d) := by
  have g1 := (gz_pos (a := x) hd).1
  have g2 := (gz_pos (a := y) hd).1
  have a1 : rqA x d * gz x d = x := Int.tdiv_mul_cancel rq_dvd.1
  have a2 : rqB x d * gz x d = d := Int.tdiv_mul_cancel rq_dvd.2
  have a3 : rqA y d * gz y d = y := Int.tdiv_mul_cancel rq_dvd.1
  have a4 : rqB y d * gz y d = d := Int.tdiv_mul_cancel rq_dvd.2
  show rqA x d * rqB y d ≤ rqA y d * rqB x d
  refine Int.le_of_mul_le_mul_right ?_ (Int.mul_pos g1 g2)
  have s : ∀ a b c e : Int, a * b * (c * e) = (a * c) * (b * e) := fun a b c e => by rw [Int.mul_assoc, ← Int.mul_assoc b c e, Int.mul_comm b c, Int.mul_assoc c b e, ← Int.mul_assoc]
  rw [s, a1, a4, Int.mul_comm (gz x d) (gz y d), s, a3, a2]
  exact Int.mul_le_mul_of_nonneg_right h (Int.le_of_lt hd)
theorem sm0_say (c : List Value) (p q : Nat) : sm0 c p q = if 0 < smC c q - smC c p then smC c q - smC c p else 0 := by
  unfold sm0
  rw [ilt_say]
  by_cases h : 0 < smC c q - smC c p
  · rw [decide_eq_true h, if_pos h]; rfl
  · rw [decide_eq_false h, if_neg h]; rfl
theorem sm0_nn (c : List Value) (p q : Nat) : 0 ≤ sm0 c p q := by
  rw [sm0_say]; split <;> omega
theorem smC_mono {c d : List Value} {n : Nat} (h : ∀ j, j < n → intAt c j ≤ intAt d j) {p : Nat} : ∀ {q : Nat}, p ≤ q → q ≤ n → smC c q - smC c p ≤ smC d q - smC d p
  | 0, hp, _ => by obtain rfl : p = 0 := by omega
                   omega
  | q + 1, hp, hq => by
    by_cases e : p = q + 1
    · subst e; omega
    · have ih := smC_mono h (p := p) (q := q) (by omega) (by omega)
      have hj := h q (by omega)
      show smC c q + intAt c (0 + q * 1) - smC c p ≤ smC d q + intAt d (0 + q * 1) - smC d p
      rw [show 0 + q * 1 = q by omega]
      omega
theorem wt_mono {c d : List Value} {n : Nat} (h : ∀ j, j < n → intAt c j ≤ intAt d j) {p q : Nat} (hp : p < q) (hq : q ≤ n) : leR (wtP c p q) (wtP d p q) := by
  have m := smC_mono h (Nat.le_of_lt hp) hq
  have s : sm0 c p q ≤ sm0 d p q := by rw [sm0_say, sm0_say]; split <;> split <;> omega
  have s0 := sm0_nn c p q
  exact rq_mono (Int.mul_le_mul s s s0 (by omega)) (by simp only [Int.ofNat_eq_natCast]; omega)
theorem smC_rev {c d : List Value} {n : Nat} (h : ∀ j, j < n → intAt d j = intAt c (n - 1 - j)) {p : Nat} : ∀ {q : Nat}, p ≤ q → q ≤ n → smC d (n - p) - smC d (n - q) = smC c q - smC c p
  | 0, hp, _ => by obtain rfl : p = 0 := by omega
                   omega
  | q + 1, hp, hq => by
    by_cases e : p = q + 1
    · subst e; omega
    · have ih := smC_rev h (p := p) (q := q) (by omega) (by omega)
      have hj := h (n - (q + 1)) (by omega)
      rw [show n - 1 - (n - (q + 1)) = q by omega] at hj
      have e1 : smC d (n - q) = smC d (n - (q + 1)) + intAt d (n - (q + 1)) := by
        rw [show n - q = n - (q + 1) + 1 by omega]
        show smC d (n - (q + 1)) + intAt d (0 + (n - (q + 1)) * 1) = _
        rw [show 0 + (n - (q + 1)) * 1 = n - (q + 1) by omega]
      show smC d (n - p) - smC d (n - (q + 1)) = smC c q + intAt c (0 + q * 1) - smC c p
      rw [show 0 + q * 1 = q by omega]
      omega
theorem wt_rev {c d : List Value} {n : Nat} (h : ∀ j, j < n → intAt d j = intAt c (n - 1 - j)) {p q : Nat} (hp : p < q) (hq : q ≤ n) : wtP d (n - q) (n - p) = wtP c p q := by
  unfold wtP
  rw [sm0_say, sm0_say, smC_rev h (Nat.le_of_lt hp) hq, show n - p - (n - q) = q - p by omega]
theorem wt_low {c : List Value} {p q : Nat} (h : p < q) : gz (wtP c p q).1 (wtP c p q).2 = 1 := rq_low (by simp only [Int.ofNat_eq_natCast]; omega)
theorem wt_sz {c : List Value} {row n k : Nat} (C : BsOk c row n k) {p q : Nat} (h : p < q) (hq : q ≤ n) : szE (wtP c p q).1 (wtP c p q).2 = 0 := sz_zero (wt_ok C h hq) (wt_low h)
theorem best_more {c d : List Value} {row n k row' k' lo hi a b a' b' : Nat} (C : BsOk c row n k) (D : BsOk d row' n k') (B : Best c lo hi n a b) (B' : Best d lo hi n a' b') (h : ∀ j, j < n → intAt c j ≤ intAt d j) : leR (wtP c a b) (wtP d a' b') :=
  leR_trans (wt_ok C B.h1 B.h2).2.1 (wt_ok D B.h1 B.h2).2.1 (wt_ok D B'.h1 B'.h2).2.1 (wt_mono h B.h1 B.h2) (B'.le a b B.h1 B.h2 B.h3 B.h4)
theorem best_wide {c : List Value} {n lo hi a b a' b' : Nat} (B : Best c lo hi n a b) (B' : Best c 1 hi n a' b') : leR (wtP c a b) (wtP c a' b') :=
  B'.le a b B.h1 B.h2 (by have := B.h1; omega) B.h4
theorem best_rev {c d : List Value} {row n k row' k' lo hi a b a' b' : Nat} (C : BsOk c row n k) (D : BsOk d row' n k') (B : Best c lo hi n a b) (B' : Best d lo hi n a' b') (h : ∀ j, j < n → intAt d j = intAt c (n - 1 - j)) : wtP d a' b' = wtP c a b := by
  have i1 := B.h1
  have i2 := B.h2
  have i3 := B.h3
  have i4 := B.h4
  have j1 := B'.h1
  have j2 := B'.h2
  have j3 := B'.h3
  have j4 := B'.h4
  have h' : ∀ j, j < n → intAt c j = intAt d (n - 1 - j) := fun j hj => by rw [h (n - 1 - j) (by omega), show n - 1 - (n - 1 - j) = j by omega]
  refine low_eq (wt_ok D j1 j2) (wt_ok C i1 i2) (wt_low j1) (wt_low i1) ?_ ?_
  · have := B.le (n - b') (n - a') (by omega) (by omega) (by omega) (by omega)
    rwa [wt_rev h' j1 j2] at this
  · have := B'.le (n - b) (n - a) (by omega) (by omega) (by omega) (by omega)
    rwa [wt_rev h i1 i2] at this
theorem best_most {c : List Value} {row n k hi a b : Nat} (C : BsOk c row n k) (hh : 1 ≤ hi) (B : Best c 1 hi n a b) {M : Int} (hM : M = 0 ∨ ∃ j, j < n ∧ M = intAt c j ∧ 0 ≤ M) : leR (M * M, 1) (wtP c a b) := by
  have ok := wt_ok C B.h1 B.h2
  rcases hM with rfl | ⟨j, hj, rfl, h0⟩
  · show 0 * 0 * _ ≤ (wtP c a b).1 * 1
    have := ok.1.1
    omega
  · have e : wtP c j (j + 1) = (intAt c j * intAt c j, 1) := by
      have s : sm0 c j (j + 1) = intAt c j := by
        rw [sm0_say]
        have : smC c (j + 1) - smC c j = intAt c j := by
          show smC c j + intAt c (0 + j * 1) - smC c j = _
          rw [show 0 + j * 1 = j by omega]; omega
        rw [this]
        split <;> omega
      unfold wtP
      rw [s, show j + 1 - j = 1 by omega]
      have g : gz (intAt c j * intAt c j) (Int.ofNat 1) = 1 := by
        unfold gz
        show Int.ofNat (Nat.gcd _ 1) = 1
        rw [Nat.gcd_one_right]; rfl
      unfold rqA rqB
      rw [g, Int.tdiv_one, Int.tdiv_one]; rfl
    have := B.le j (j + 1) (by omega) (by omega) (by omega) (by omega)
    rwa [e] at this
end Go.Proofs.YtihnnmejkpddeaaGreatDoor
/-! (OWN WORK. Stage 6: the law of the best window: a round of the inner loop.) -/
namespace Go.Proofs.YtihnnmejkpddeaaGreatDoor
open Go Go.Am
theorem ieq00 : ieq 0 0 = true := rfl
theorem tk2 (x y : Value) : Value.agg (Array.mk (List.take 2 (List.drop 0 ([] ++ ([x, y] ++ []))))) = Value.agg #[x, y] := rfl
theorem cw_ok {n p q : Nat} (h : p < q) (hq : q ≤ n) : ieq (cwE (Int.ofNat n) (Int.ofNat p) (Int.ofNat q)) 0 = true := by
  unfold cwE
  rw [ilt_say, ilt_say, ilt_say, decide_eq_false (by simp only [Int.ofNat_eq_natCast]; omega), decide_eq_true (by simp only [Int.ofNat_eq_natCast]; omega), decide_eq_false (by simp only [Int.ofNat_eq_natCast]; omega)]; rfl
theorem bb_laid (c : List Value) (e row lo hi : Nat) (u w : Int) (a b : Nat) (A B : Int) : Laid (bbC c e row lo hi u w a b A B) (nG1 + ·) (bbH c e row lo hi u w a b A B) := by
  intro q b hb
  match q, hb with
  | 0, hb => cases hb; show _ = _; kernel_rfl
  | 1, hb => cases hb; show _ = _; kernel_rfl
  | 2, hb => cases hb; show _ = _; kernel_rfl
  | 3, hb => cases hb; show _ = _; kernel_rfl
  | 4, hb => cases hb; show _ = _; kernel_rfl
theorem blt_nn {a b : Nat} (h : ¬ a < b) : Nat.blt a b = false := by rw [Bool.eq_false_iff, ne_eq, Nat.blt_eq]; exact h
structure BbOk (l : List Int) (m row k lo hi a b : Nat) : Prop where
  len : l.length = m + 1
  hs : ieq (serE l) 0 = true
  ht : ieq (lnE (Int.ofNat lo) (Int.ofNat hi)) 0 = true
  lo0 : 0 < lo
  lo1 : lo ≤ hi
  hi1 : hi ≤ 128
  lon : lo ≤ m + 1
  W : BsOk (l.map gi) row (m + 1) k
  B : Best (l.map gi) lo hi (m + 1) a b
theorem okI_ok {x : P2} (h : okR x) : okI x.1 x.2 = true := by
  obtain ⟨⟨h1, h2⟩, h3, h4⟩ := h
  exact okI_of (inI64_iff.2 ⟨by omega, by omega⟩) (inI64_iff.2 ⟨by omega, by omega⟩)
set_option maxHeartbeats 4000000 in
set_option maxRecDepth 100000 in
theorem bk_1 (l : List Int) (e row m k lo hi p q a b : Nat) (u w : Int) (g : Nat → Value) (Q : Exit → List Value → AHeap → Prop) (O : BbOk l m row k lo hi a b) (i1 : p < q) (i2 : q ≤ m + 1) (i3 : p + lo ≤ q) (i4 : q ≤ p + hi) (i5 : p < a)
    (hQ : ∀ h, Laid (bbC (l.map gi) e row lo hi u w a b (wtP (l.map gi) a b).1 (wtP (l.map gi) a b).2) (nG1 + ·) h → Q .normal [liP (m + 1) k, ptN 1, ptN 2, ptN 3, ptN 4, goN p, goN (q + 1), goN (m + 1), goN p] h) : J Tryz.prog (loopOf Tryz.prog 11 2) (stOf 329 [(0, liP (m + 1) k), (4, ptN 1), (5, ptN 2), (7, ptN 3), (8, ptN 4), (10, goN p), (11, goN q), (109, goN (m + 1)), (110, goN p)] g) (bbH (l.map gi) e row lo hi u w a b (wtP (l.map gi) a b).1 (wtP (l.map gi) a b).2) (told 329 [0, 4, 5, 7, 8, 10, 11, 109, 110] Q) := by
  have hn1 := O.W.n1
  have hs := O.hs
  have ht := O.ht
  have lo0 := O.lo0
  have lo1 := O.lo1
  have hi1 := O.hi1
  have okx : okR (wtP (l.map gi) p q) := wt_ok O.W i1 i2
  have oka : okR (wtP (l.map gi) a b) := wt_ok O.W O.B.h1 O.B.h2
  have le : leR (wtP (l.map gi) p q) (wtP (l.map gi) a b) := O.B.le p q i1 i2 i3 i4
  have hw := cw_ok i1 i2
  have hz : ieq (szE (rqA (sm0 (l.map gi) p q * sm0 (l.map gi) p q) (Int.ofNat (q - p))) (rqB (sm0 (l.map gi) p q * sm0 (l.map gi) p q) (Int.ofNat (q - p)))) 0 = true := by have h : szE (rqA (sm0 (l.map gi) p q * sm0 (l.map gi) p q) (Int.ofNat (q - p))) (rqB (sm0 (l.map gi) p q * sm0 (l.map gi) p q) (Int.ofNat (q - p))) = 0 := wt_sz O.W i1 i2; rw [h]; rfl
  have hx : ilt (Int.ofNat (m + 1)) (Int.ofNat lo) = false := by rw [ilt_say]; have := O.lon; exact decide_eq_false (by simp only [Int.ofNat_eq_natCast]; omega)
  have f1 : List.all (l.map gi) (flat 3) = true := flat_ints l
  have f2 : okT tiT (l.map gi) (m + 1) := okIv O.len (by omega)
  have f3 : clCv l [] := rfl
  have f4 : worC l [.agg #[goN p, goN q]] := rfl
  have f5 : fwrap IntKind.i64 (Int.ofNat (q + 1)) = Int.ofNat (q + 1) := fwrap_nat (by omega)
  have q1 : (!(Nat.blt (m + 1) q)) = true := by rw [blt_nn (by omega)]; rfl
  have q2 : (!(ilt (Int.ofNat hi) (fwrap IntKind.i64 (Int.ofNat q - Int.ofNat p)))) = true := by
    rw [fwrap_mid (by simp only [Int.ofNat_eq_natCast]; omega) (by simp only [Int.ofNat_eq_natCast]; omega), ilt_say, decide_eq_false (by simp only [Int.ofNat_eq_natCast]; omega)]; rfl
  have q3 : ieq (worE l (m + 1) (Int.ofNat p) (Int.ofNat q)) 0 = true := by simp only [worE, fs_cons, fs_nil, hs, hw, cond_true, ieq00]
  have q4 : (!(ieq (szE (rqA (sm0 (l.map gi) p q * sm0 (l.map gi) p q) (Int.ofNat (q - p))) (rqB (sm0 (l.map gi) p q * sm0 (l.map gi) p q) (Int.ofNat (q - p)))) 0)) = false := by rw [hz]; rfl
  have q6 : ilt 0 (cpR (Prod.mk (rqA (sm0 (l.map gi) p q * sm0 (l.map gi) p q) (Int.ofNat (q - p))) (rqB (sm0 (l.map gi) p q * sm0 (l.map gi) p q) (Int.ofNat (q - p)))) (Prod.mk (wtP (l.map gi) a b).1 (wtP (l.map gi) a b).2)) = false := cp_le okx oka le
  have q5 : Nat.blt p a = true := by rw [Nat.blt_eq]; exact i5
  have q7 : ieq (cpR (Prod.mk (rqA (sm0 (l.map gi) p q * sm0 (l.map gi) p q) (Int.ofNat (q - p))) (rqB (sm0 (l.map gi) p q * sm0 (l.map gi) p q) (Int.ofNat (q - p)))) (Prod.mk (wtP (l.map gi) a b).1 (wtP (l.map gi) a b).2)) 0 = false := cp_ne okx oka (O.B.lt p q i1 i2 i3 i4 (.inl i5))
  have f6 : chkC l [.agg #[goN lo, goN hi], .agg #[goN p, goN q], .agg #[gi (rqA (sm0 (l.map gi) p q * sm0 (l.map gi) p q) (Int.ofNat (q - p))), gi (rqB (sm0 (l.map gi) p q * sm0 (l.map gi) p q) (Int.ofNat (q - p)))]] := ⟨rfl, okI_ok okx⟩
  have ne : ¬ (p = a ∧ q = b) := by omega
  have ew : (ieq (Int.ofNat p) (Int.ofNat a) && (ieq (Int.ofNat q) (Int.ofNat b) && true)) = false := by
    rw [ieq_dec, ieq_dec, Bool.and_true, ← Bool.decide_and]; exact decide_eq_false (by simp only [Int.ofNat_eq_natCast]; omega)
  have q8 : Value.bool (ieq (Int.ofNat p) (Int.ofNat a) && (ieq (Int.ofNat q) (Int.ofNat b) && true)) = Value.bool false := by rw [ew]
  have q9 : Value.bool (!(ieq (Int.ofNat p) (Int.ofNat a) && (ieq (Int.ofNat q) (Int.ofNat b) && true))) = Value.bool true := by rw [ew]; rfl
  have q11 : ieq (chkE l (m + 1) (Int.ofNat lo) (Int.ofNat hi) (Int.ofNat p) (Int.ofNat q) (rqA (sm0 (l.map gi) p q * sm0 (l.map gi) p q) (Int.ofNat (q - p))) (rqB (sm0 (l.map gi) p q * sm0 (l.map gi) p q) (Int.ofNat (q - p)))) 0 = true := by simp only [chkE, fs_cons, fs_nil, hs, ht, hw, hz, hx, cond_true, ieq00, wh_f]
  have q12 : (!(ieq (whenS (!(eqW (bstW (l.map gi) lo hi (m + 1)) (Int.ofNat p) (Int.ofNat q) (rqA (sm0 (l.map gi) p q * sm0 (l.map gi) p q) (Int.ofNat (q - p))) (rqB (sm0 (l.map gi) p q * sm0 (l.map gi) p q) (Int.ofNat (q - p))))) 19) 19)) = false := by
    have e : eqW (wnW (l.map gi) a b) (Int.ofNat p) (Int.ofNat q) (rqA (sm0 (l.map gi) p q * sm0 (l.map gi) p q) (Int.ofNat (q - p))) (rqB (sm0 (l.map gi) p q * sm0 (l.map gi) p q) (Int.ofNat (q - p))) = false := by unfold eqW wnW; show ((ieq (Int.ofNat p) (Int.ofNat a) && (ieq (Int.ofNat q) (Int.ofNat b) && true)) && _) = false; rw [ew]; rfl
    rw [O.B.e, e]; rfl
  refine execC_ok mixed orcWn_ok (askWn_ok _ _ _ _ _ _ _) (noLoops _) (Eq.mpr (bi_1 l e row m k lo hi p q a b u w _ _ g _) ?_)
  simp only [tk2, decTv, all2, all6, forall_eq', toNat_w, and_true, true_and, f5]
  repeat' (first | assumption | exact rfl | exact trivial | apply And.intro)
  refine hQ _ fun q b hb => ?_
  match q, hb with
  | 0, hb => cases hb; show _ = _; kernel_rfl
  | 1, hb => cases hb; show _ = _; kernel_rfl
  | 2, hb => cases hb; show _ = _; kernel_rfl
  | 3, hb => cases hb; show _ = _; kernel_rfl
  | 4, hb => cases hb; show _ = _; kernel_rfl
set_option maxHeartbeats 4000000 in
set_option maxRecDepth 100000 in
theorem bk_2 (l : List Int) (e row m k lo hi p q b : Nat) (u w : Int) (g : Nat → Value) (Q : Exit → List Value → AHeap → Prop) (O : BbOk l m row k lo hi p b) (i1 : p < q) (i2 : q ≤ m + 1) (i3 : p + lo ≤ q) (i4 : q ≤ p + hi) (i5 : q < b)
    (hQ : ∀ h, Laid (bbC (l.map gi) e row lo hi u w p b (wtP (l.map gi) p b).1 (wtP (l.map gi) p b).2) (nG1 + ·) h → Q .normal [liP (m + 1) k, ptN 1, ptN 2, ptN 3, ptN 4, goN p, goN (q + 1), goN (m + 1), goN p] h) : J Tryz.prog (loopOf Tryz.prog 11 2) (stOf 329 [(0, liP (m + 1) k), (4, ptN 1), (5, ptN 2), (7, ptN 3), (8, ptN 4), (10, goN p), (11, goN q), (109, goN (m + 1)), (110, goN p)] g) (bbH (l.map gi) e row lo hi u w p b (wtP (l.map gi) p b).1 (wtP (l.map gi) p b).2) (told 329 [0, 4, 5, 7, 8, 10, 11, 109, 110] Q) := by
  have hn1 := O.W.n1
  have hs := O.hs
  have ht := O.ht
  have lo0 := O.lo0
  have lo1 := O.lo1
  have hi1 := O.hi1
  have okx : okR (wtP (l.map gi) p q) := wt_ok O.W i1 i2
  have oka : okR (wtP (l.map gi) p b) := wt_ok O.W O.B.h1 O.B.h2
  have le : leR (wtP (l.map gi) p q) (wtP (l.map gi) p b) := O.B.le p q i1 i2 i3 i4
  have hw := cw_ok i1 i2
  have hz : ieq (szE (rqA (sm0 (l.map gi) p q * sm0 (l.map gi) p q) (Int.ofNat (q - p))) (rqB (sm0 (l.map gi) p q * sm0 (l.map gi) p q) (Int.ofNat (q - p)))) 0 = true := by have h : szE (rqA (sm0 (l.map gi) p q * sm0 (l.map gi) p q) (Int.ofNat (q - p))) (rqB (sm0 (l.map gi) p q * sm0 (l.map gi) p q) (Int.ofNat (q - p))) = 0 := wt_sz O.W i1 i2; rw [h]; rfl
  have hx : ilt (Int.ofNat (m + 1)) (Int.ofNat lo) = false := by rw [ilt_say]; have := O.lon; exact decide_eq_false (by simp only [Int.ofNat_eq_natCast]; omega)
  have f1 : List.all (l.map gi) (flat 3) = true := flat_ints l
  have f2 : okT tiT (l.map gi) (m + 1) := okIv O.len (by omega)
  have f3 : clCv l [] := rfl
  have f4 : worC l [.agg #[goN p, goN q]] := rfl
  have f5 : fwrap IntKind.i64 (Int.ofNat (q + 1)) = Int.ofNat (q + 1) := fwrap_nat (by omega)
  have q1 : (!(Nat.blt (m + 1) q)) = true := by rw [blt_nn (by omega)]; rfl
  have q2 : (!(ilt (Int.ofNat hi) (fwrap IntKind.i64 (Int.ofNat q - Int.ofNat p)))) = true := by
    rw [fwrap_mid (by simp only [Int.ofNat_eq_natCast]; omega) (by simp only [Int.ofNat_eq_natCast]; omega), ilt_say, decide_eq_false (by simp only [Int.ofNat_eq_natCast]; omega)]; rfl
  have q3 : ieq (worE l (m + 1) (Int.ofNat p) (Int.ofNat q)) 0 = true := by simp only [worE, fs_cons, fs_nil, hs, hw, cond_true, ieq00]
  have q4 : (!(ieq (szE (rqA (sm0 (l.map gi) p q * sm0 (l.map gi) p q) (Int.ofNat (q - p))) (rqB (sm0 (l.map gi) p q * sm0 (l.map gi) p q) (Int.ofNat (q - p)))) 0)) = false := by rw [hz]; rfl
  have q6 : ilt 0 (cpR (Prod.mk (rqA (sm0 (l.map gi) p q * sm0 (l.map gi) p q) (Int.ofNat (q - p))) (rqB (sm0 (l.map gi) p q * sm0 (l.map gi) p q) (Int.ofNat (q - p)))) (Prod.mk (wtP (l.map gi) p b).1 (wtP (l.map gi) p b).2)) = false := cp_le okx oka le
  have q5 : Nat.blt p p = false := blt_nn (by omega)
  have d2 : ieq (Int.ofNat p) (Int.ofNat p) = true := ieq_self _
  have d3 : Nat.blt q b = true := by rw [Nat.blt_eq]; exact i5
  have q7 : ieq (cpR (Prod.mk (rqA (sm0 (l.map gi) p q * sm0 (l.map gi) p q) (Int.ofNat (q - p))) (rqB (sm0 (l.map gi) p q * sm0 (l.map gi) p q) (Int.ofNat (q - p)))) (Prod.mk (wtP (l.map gi) p b).1 (wtP (l.map gi) p b).2)) 0 = false := cp_ne okx oka (O.B.lt p q i1 i2 i3 i4 (.inr ⟨rfl, i5⟩))
  have f6 : chkC l [.agg #[goN lo, goN hi], .agg #[goN p, goN q], .agg #[gi (rqA (sm0 (l.map gi) p q * sm0 (l.map gi) p q) (Int.ofNat (q - p))), gi (rqB (sm0 (l.map gi) p q * sm0 (l.map gi) p q) (Int.ofNat (q - p)))]] := ⟨rfl, okI_ok okx⟩
  have ne : ¬ (p = p ∧ q = b) := by omega
  have ew : (ieq (Int.ofNat p) (Int.ofNat p) && (ieq (Int.ofNat q) (Int.ofNat b) && true)) = false := by
    rw [ieq_dec, ieq_dec, Bool.and_true, ← Bool.decide_and]; exact decide_eq_false (by simp only [Int.ofNat_eq_natCast]; omega)
  have q8 : Value.bool (ieq (Int.ofNat p) (Int.ofNat p) && (ieq (Int.ofNat q) (Int.ofNat b) && true)) = Value.bool false := by rw [ew]
  have q9 : Value.bool (!(ieq (Int.ofNat p) (Int.ofNat p) && (ieq (Int.ofNat q) (Int.ofNat b) && true))) = Value.bool true := by rw [ew]; rfl
  have q11 : ieq (chkE l (m + 1) (Int.ofNat lo) (Int.ofNat hi) (Int.ofNat p) (Int.ofNat q) (rqA (sm0 (l.map gi) p q * sm0 (l.map gi) p q) (Int.ofNat (q - p))) (rqB (sm0 (l.map gi) p q * sm0 (l.map gi) p q) (Int.ofNat (q - p)))) 0 = true := by simp only [chkE, fs_cons, fs_nil, hs, ht, hw, hz, hx, cond_true, ieq00, wh_f]
  have q12 : (!(ieq (whenS (!(eqW (bstW (l.map gi) lo hi (m + 1)) (Int.ofNat p) (Int.ofNat q) (rqA (sm0 (l.map gi) p q * sm0 (l.map gi) p q) (Int.ofNat (q - p))) (rqB (sm0 (l.map gi) p q * sm0 (l.map gi) p q) (Int.ofNat (q - p))))) 19) 19)) = false := by
    have e : eqW (wnW (l.map gi) p b) (Int.ofNat p) (Int.ofNat q) (rqA (sm0 (l.map gi) p q * sm0 (l.map gi) p q) (Int.ofNat (q - p))) (rqB (sm0 (l.map gi) p q * sm0 (l.map gi) p q) (Int.ofNat (q - p))) = false := by unfold eqW wnW; show ((ieq (Int.ofNat p) (Int.ofNat p) && (ieq (Int.ofNat q) (Int.ofNat b) && true)) && _) = false; rw [ew]; rfl
    rw [O.B.e, e]; rfl
  refine execC_ok mixed orcWn_ok (askWn_ok _ _ _ _ _ _ _) (noLoops _) (Eq.mpr (bi_2 l e row m k lo hi p q b u w _ _ g _) ?_)
  simp only [tk2, decTv, all2, all6, forall_eq', toNat_w, and_true, true_and, f5]
  repeat' (first | assumption | exact rfl | exact trivial | apply And.intro)
  refine hQ _ fun q b hb => ?_
  match q, hb with
  | 0, hb => cases hb; show _ = _; kernel_rfl
  | 1, hb => cases hb; show _ = _; kernel_rfl
  | 2, hb => cases hb; show _ = _; kernel_rfl
  | 3, hb => cases hb; show _ = _; kernel_rfl
  | 4, hb => cases hb; show _ = _; kernel_rfl
set_option maxHeartbeats 4000000 in
set_option maxRecDepth 100000 in
theorem bk_3 (l : List Int) (e row m k lo hi p q : Nat) (u w : Int) (g : Nat → Value) (Q : Exit → List Value → AHeap → Prop) (O : BbOk l m row k lo hi p q) (i1 : p < q) (i2 : q ≤ m + 1) (i3 : p + lo ≤ q) (i4 : q ≤ p + hi) 
    (hQ : ∀ h, Laid (bbC (l.map gi) e row lo hi u w p q (wtP (l.map gi) p q).1 (wtP (l.map gi) p q).2) (nG1 + ·) h → Q .normal [liP (m + 1) k, ptN 1, ptN 2, ptN 3, ptN 4, goN p, goN (q + 1), goN (m + 1), goN p] h) : J Tryz.prog (loopOf Tryz.prog 11 2) (stOf 329 [(0, liP (m + 1) k), (4, ptN 1), (5, ptN 2), (7, ptN 3), (8, ptN 4), (10, goN p), (11, goN q), (109, goN (m + 1)), (110, goN p)] g) (bbH (l.map gi) e row lo hi u w p q (wtP (l.map gi) p q).1 (wtP (l.map gi) p q).2) (told 329 [0, 4, 5, 7, 8, 10, 11, 109, 110] Q) := by
  have hn1 := O.W.n1
  have hs := O.hs
  have ht := O.ht
  have lo0 := O.lo0
  have lo1 := O.lo1
  have hi1 := O.hi1
  have okx : okR (wtP (l.map gi) p q) := wt_ok O.W i1 i2
  have oka : okR (wtP (l.map gi) p q) := wt_ok O.W O.B.h1 O.B.h2
  have le : leR (wtP (l.map gi) p q) (wtP (l.map gi) p q) := O.B.le p q i1 i2 i3 i4
  have hw := cw_ok i1 i2
  have hz : ieq (szE (rqA (sm0 (l.map gi) p q * sm0 (l.map gi) p q) (Int.ofNat (q - p))) (rqB (sm0 (l.map gi) p q * sm0 (l.map gi) p q) (Int.ofNat (q - p)))) 0 = true := by have h : szE (rqA (sm0 (l.map gi) p q * sm0 (l.map gi) p q) (Int.ofNat (q - p))) (rqB (sm0 (l.map gi) p q * sm0 (l.map gi) p q) (Int.ofNat (q - p))) = 0 := wt_sz O.W i1 i2; rw [h]; rfl
  have hx : ilt (Int.ofNat (m + 1)) (Int.ofNat lo) = false := by rw [ilt_say]; have := O.lon; exact decide_eq_false (by simp only [Int.ofNat_eq_natCast]; omega)
  have f1 : List.all (l.map gi) (flat 3) = true := flat_ints l
  have f2 : okT tiT (l.map gi) (m + 1) := okIv O.len (by omega)
  have f3 : clCv l [] := rfl
  have f4 : worC l [.agg #[goN p, goN q]] := rfl
  have f5 : fwrap IntKind.i64 (Int.ofNat (q + 1)) = Int.ofNat (q + 1) := fwrap_nat (by omega)
  have q1 : (!(Nat.blt (m + 1) q)) = true := by rw [blt_nn (by omega)]; rfl
  have q2 : (!(ilt (Int.ofNat hi) (fwrap IntKind.i64 (Int.ofNat q - Int.ofNat p)))) = true := by
    rw [fwrap_mid (by simp only [Int.ofNat_eq_natCast]; omega) (by simp only [Int.ofNat_eq_natCast]; omega), ilt_say, decide_eq_false (by simp only [Int.ofNat_eq_natCast]; omega)]; rfl
  have q3 : ieq (worE l (m + 1) (Int.ofNat p) (Int.ofNat q)) 0 = true := by simp only [worE, fs_cons, fs_nil, hs, hw, cond_true, ieq00]
  have q4 : (!(ieq (szE (rqA (sm0 (l.map gi) p q * sm0 (l.map gi) p q) (Int.ofNat (q - p))) (rqB (sm0 (l.map gi) p q * sm0 (l.map gi) p q) (Int.ofNat (q - p)))) 0)) = false := by rw [hz]; rfl
  have q6 : ilt 0 (cpR (Prod.mk (rqA (sm0 (l.map gi) p q * sm0 (l.map gi) p q) (Int.ofNat (q - p))) (rqB (sm0 (l.map gi) p q * sm0 (l.map gi) p q) (Int.ofNat (q - p)))) (Prod.mk (wtP (l.map gi) p q).1 (wtP (l.map gi) p q).2)) = false := cp_le okx oka le
  have q5 : Nat.blt p p = false := blt_nn (by omega)
  have d2 : ieq (Int.ofNat p) (Int.ofNat p) = true := ieq_self _
  have d3 : Nat.blt q q = false := blt_nn (by omega)
  have q7 : ieq (cpR (Prod.mk (rqA (sm0 (l.map gi) p q * sm0 (l.map gi) p q) (Int.ofNat (q - p))) (rqB (sm0 (l.map gi) p q * sm0 (l.map gi) p q) (Int.ofNat (q - p)))) (Prod.mk (wtP (l.map gi) p q).1 (wtP (l.map gi) p q).2)) 0 = true := cp_self _
  have q8 : Value.bool (ieq (Int.ofNat p) (Int.ofNat p) && (ieq (Int.ofNat q) (Int.ofNat q) && true)) = Value.bool true := by rw [ieq_self, ieq_self]; rfl
  have q9 : Value.bool (!(ieq (Int.ofNat p) (Int.ofNat p) && (ieq (Int.ofNat q) (Int.ofNat q) && true))) = Value.bool false := by rw [ieq_self, ieq_self]; rfl
  refine execC_ok mixed orcWn_ok (askWn_ok _ _ _ _ _ _ _) (noLoops _) (Eq.mpr (bi_3 l e row m k lo hi p q u w _ _ g _) ?_)
  simp only [tk2, decTv, all2, all6, forall_eq', toNat_w, and_true, true_and, f5]
  repeat' (first | assumption | exact rfl | exact trivial | apply And.intro)
  refine hQ _ fun q b hb => ?_
  match q, hb with
  | 0, hb => cases hb; show _ = _; kernel_rfl
  | 1, hb => cases hb; show _ = _; kernel_rfl
  | 2, hb => cases hb; show _ = _; kernel_rfl
  | 3, hb => cases hb; show _ = _; kernel_rfl
  | 4, hb => cases hb; show _ = _; kernel_rfl
set_option maxHeartbeats 4000000 in
set_option maxRecDepth 100000 in
theorem bk_4 (l : List Int) (e row m k lo hi p q a b : Nat) (u w : Int) (g : Nat → Value) (Q : Exit → List Value → AHeap → Prop) (O : BbOk l m row k lo hi a b) (i1 : p < q) (i2 : q ≤ m + 1) (i3 : p + lo ≤ q) (i4 : q ≤ p + hi) (i5 : a < p) (i6 : ieq (cpR (wtP (l.map gi) p q) (wtP (l.map gi) a b)) 0 = true)
    (hQ : ∀ h, Laid (bbC (l.map gi) e row lo hi u w a b (wtP (l.map gi) a b).1 (wtP (l.map gi) a b).2) (nG1 + ·) h → Q .normal [liP (m + 1) k, ptN 1, ptN 2, ptN 3, ptN 4, goN p, goN (q + 1), goN (m + 1), goN p] h) : J Tryz.prog (loopOf Tryz.prog 11 2) (stOf 329 [(0, liP (m + 1) k), (4, ptN 1), (5, ptN 2), (7, ptN 3), (8, ptN 4), (10, goN p), (11, goN q), (109, goN (m + 1)), (110, goN p)] g) (bbH (l.map gi) e row lo hi u w a b (wtP (l.map gi) a b).1 (wtP (l.map gi) a b).2) (told 329 [0, 4, 5, 7, 8, 10, 11, 109, 110] Q) := by
  have hn1 := O.W.n1
  have hs := O.hs
  have ht := O.ht
  have lo0 := O.lo0
  have lo1 := O.lo1
  have hi1 := O.hi1
  have okx : okR (wtP (l.map gi) p q) := wt_ok O.W i1 i2
  have oka : okR (wtP (l.map gi) a b) := wt_ok O.W O.B.h1 O.B.h2
  have le : leR (wtP (l.map gi) p q) (wtP (l.map gi) a b) := O.B.le p q i1 i2 i3 i4
  have hw := cw_ok i1 i2
  have hz : ieq (szE (rqA (sm0 (l.map gi) p q * sm0 (l.map gi) p q) (Int.ofNat (q - p))) (rqB (sm0 (l.map gi) p q * sm0 (l.map gi) p q) (Int.ofNat (q - p)))) 0 = true := by have h : szE (rqA (sm0 (l.map gi) p q * sm0 (l.map gi) p q) (Int.ofNat (q - p))) (rqB (sm0 (l.map gi) p q * sm0 (l.map gi) p q) (Int.ofNat (q - p))) = 0 := wt_sz O.W i1 i2; rw [h]; rfl
  have hx : ilt (Int.ofNat (m + 1)) (Int.ofNat lo) = false := by rw [ilt_say]; have := O.lon; exact decide_eq_false (by simp only [Int.ofNat_eq_natCast]; omega)
  have f1 : List.all (l.map gi) (flat 3) = true := flat_ints l
  have f2 : okT tiT (l.map gi) (m + 1) := okIv O.len (by omega)
  have f3 : clCv l [] := rfl
  have f4 : worC l [.agg #[goN p, goN q]] := rfl
  have f5 : fwrap IntKind.i64 (Int.ofNat (q + 1)) = Int.ofNat (q + 1) := fwrap_nat (by omega)
  have q1 : (!(Nat.blt (m + 1) q)) = true := by rw [blt_nn (by omega)]; rfl
  have q2 : (!(ilt (Int.ofNat hi) (fwrap IntKind.i64 (Int.ofNat q - Int.ofNat p)))) = true := by
    rw [fwrap_mid (by simp only [Int.ofNat_eq_natCast]; omega) (by simp only [Int.ofNat_eq_natCast]; omega), ilt_say, decide_eq_false (by simp only [Int.ofNat_eq_natCast]; omega)]; rfl
  have q3 : ieq (worE l (m + 1) (Int.ofNat p) (Int.ofNat q)) 0 = true := by simp only [worE, fs_cons, fs_nil, hs, hw, cond_true, ieq00]
  have q4 : (!(ieq (szE (rqA (sm0 (l.map gi) p q * sm0 (l.map gi) p q) (Int.ofNat (q - p))) (rqB (sm0 (l.map gi) p q * sm0 (l.map gi) p q) (Int.ofNat (q - p)))) 0)) = false := by rw [hz]; rfl
  have q6 : ilt 0 (cpR (Prod.mk (rqA (sm0 (l.map gi) p q * sm0 (l.map gi) p q) (Int.ofNat (q - p))) (rqB (sm0 (l.map gi) p q * sm0 (l.map gi) p q) (Int.ofNat (q - p)))) (Prod.mk (wtP (l.map gi) a b).1 (wtP (l.map gi) a b).2)) = false := cp_le okx oka le
  have q5 : Nat.blt p a = false := blt_nn (by omega)
  have d2 : ieq (Int.ofNat p) (Int.ofNat a) = false := by rw [ieq_dec]; exact decide_eq_false (by simp only [Int.ofNat_eq_natCast]; omega)
  have q7 : ieq (cpR (Prod.mk (rqA (sm0 (l.map gi) p q * sm0 (l.map gi) p q) (Int.ofNat (q - p))) (rqB (sm0 (l.map gi) p q * sm0 (l.map gi) p q) (Int.ofNat (q - p)))) (Prod.mk (wtP (l.map gi) a b).1 (wtP (l.map gi) a b).2)) 0 = true := i6
  have f6 : chkC l [.agg #[goN lo, goN hi], .agg #[goN p, goN q], .agg #[gi (rqA (sm0 (l.map gi) p q * sm0 (l.map gi) p q) (Int.ofNat (q - p))), gi (rqB (sm0 (l.map gi) p q * sm0 (l.map gi) p q) (Int.ofNat (q - p)))]] := ⟨rfl, okI_ok okx⟩
  have ne : ¬ (p = a ∧ q = b) := by omega
  have ew : (ieq (Int.ofNat p) (Int.ofNat a) && (ieq (Int.ofNat q) (Int.ofNat b) && true)) = false := by
    rw [ieq_dec, ieq_dec, Bool.and_true, ← Bool.decide_and]; exact decide_eq_false (by simp only [Int.ofNat_eq_natCast]; omega)
  have q8 : Value.bool (ieq (Int.ofNat p) (Int.ofNat a) && (ieq (Int.ofNat q) (Int.ofNat b) && true)) = Value.bool false := by rw [ew]
  have q9 : Value.bool (!(ieq (Int.ofNat p) (Int.ofNat a) && (ieq (Int.ofNat q) (Int.ofNat b) && true))) = Value.bool true := by rw [ew]; rfl
  have q11 : ieq (chkE l (m + 1) (Int.ofNat lo) (Int.ofNat hi) (Int.ofNat p) (Int.ofNat q) (rqA (sm0 (l.map gi) p q * sm0 (l.map gi) p q) (Int.ofNat (q - p))) (rqB (sm0 (l.map gi) p q * sm0 (l.map gi) p q) (Int.ofNat (q - p)))) 0 = true := by simp only [chkE, fs_cons, fs_nil, hs, ht, hw, hz, hx, cond_true, ieq00, wh_f]
  have q12 : (!(ieq (whenS (!(eqW (bstW (l.map gi) lo hi (m + 1)) (Int.ofNat p) (Int.ofNat q) (rqA (sm0 (l.map gi) p q * sm0 (l.map gi) p q) (Int.ofNat (q - p))) (rqB (sm0 (l.map gi) p q * sm0 (l.map gi) p q) (Int.ofNat (q - p))))) 19) 19)) = false := by
    have e : eqW (wnW (l.map gi) a b) (Int.ofNat p) (Int.ofNat q) (rqA (sm0 (l.map gi) p q * sm0 (l.map gi) p q) (Int.ofNat (q - p))) (rqB (sm0 (l.map gi) p q * sm0 (l.map gi) p q) (Int.ofNat (q - p))) = false := by unfold eqW wnW; show ((ieq (Int.ofNat p) (Int.ofNat a) && (ieq (Int.ofNat q) (Int.ofNat b) && true)) && _) = false; rw [ew]; rfl
    rw [O.B.e, e]; rfl
  refine execC_ok mixed orcWn_ok (askWn_ok _ _ _ _ _ _ _) (noLoops _) (Eq.mpr (bi_4 l e row m k lo hi p q a b u w _ _ g _) ?_)
  simp only [tk2, decTv, all2, all6, forall_eq', toNat_w, and_true, true_and, f5]
  repeat' (first | assumption | exact rfl | exact trivial | apply And.intro)
  refine hQ _ fun q b hb => ?_
  match q, hb with
  | 0, hb => cases hb; show _ = _; kernel_rfl
  | 1, hb => cases hb; show _ = _; kernel_rfl
  | 2, hb => cases hb; show _ = _; kernel_rfl
  | 3, hb => cases hb; show _ = _; kernel_rfl
  | 4, hb => cases hb; show _ = _; kernel_rfl
set_option maxHeartbeats 4000000 in
set_option maxRecDepth 100000 in
theorem bk_5 (l : List Int) (e row m k lo hi p q a b : Nat) (u w : Int) (g : Nat → Value) (Q : Exit → List Value → AHeap → Prop) (O : BbOk l m row k lo hi a b) (i1 : p < q) (i2 : q ≤ m + 1) (i3 : p + lo ≤ q) (i4 : q ≤ p + hi) (i5 : a < p) (i6 : ieq (cpR (wtP (l.map gi) p q) (wtP (l.map gi) a b)) 0 = false)
    (hQ : ∀ h, Laid (bbC (l.map gi) e row lo hi u w a b (wtP (l.map gi) a b).1 (wtP (l.map gi) a b).2) (nG1 + ·) h → Q .normal [liP (m + 1) k, ptN 1, ptN 2, ptN 3, ptN 4, goN p, goN (q + 1), goN (m + 1), goN p] h) : J Tryz.prog (loopOf Tryz.prog 11 2) (stOf 329 [(0, liP (m + 1) k), (4, ptN 1), (5, ptN 2), (7, ptN 3), (8, ptN 4), (10, goN p), (11, goN q), (109, goN (m + 1)), (110, goN p)] g) (bbH (l.map gi) e row lo hi u w a b (wtP (l.map gi) a b).1 (wtP (l.map gi) a b).2) (told 329 [0, 4, 5, 7, 8, 10, 11, 109, 110] Q) := by
  have hn1 := O.W.n1
  have hs := O.hs
  have ht := O.ht
  have lo0 := O.lo0
  have lo1 := O.lo1
  have hi1 := O.hi1
  have okx : okR (wtP (l.map gi) p q) := wt_ok O.W i1 i2
  have oka : okR (wtP (l.map gi) a b) := wt_ok O.W O.B.h1 O.B.h2
  have le : leR (wtP (l.map gi) p q) (wtP (l.map gi) a b) := O.B.le p q i1 i2 i3 i4
  have hw := cw_ok i1 i2
  have hz : ieq (szE (rqA (sm0 (l.map gi) p q * sm0 (l.map gi) p q) (Int.ofNat (q - p))) (rqB (sm0 (l.map gi) p q * sm0 (l.map gi) p q) (Int.ofNat (q - p)))) 0 = true := by have h : szE (rqA (sm0 (l.map gi) p q * sm0 (l.map gi) p q) (Int.ofNat (q - p))) (rqB (sm0 (l.map gi) p q * sm0 (l.map gi) p q) (Int.ofNat (q - p))) = 0 := wt_sz O.W i1 i2; rw [h]; rfl
  have hx : ilt (Int.ofNat (m + 1)) (Int.ofNat lo) = false := by rw [ilt_say]; have := O.lon; exact decide_eq_false (by simp only [Int.ofNat_eq_natCast]; omega)
  have f1 : List.all (l.map gi) (flat 3) = true := flat_ints l
  have f2 : okT tiT (l.map gi) (m + 1) := okIv O.len (by omega)
  have f3 : clCv l [] := rfl
  have f4 : worC l [.agg #[goN p, goN q]] := rfl
  have f5 : fwrap IntKind.i64 (Int.ofNat (q + 1)) = Int.ofNat (q + 1) := fwrap_nat (by omega)
  have q1 : (!(Nat.blt (m + 1) q)) = true := by rw [blt_nn (by omega)]; rfl
  have q2 : (!(ilt (Int.ofNat hi) (fwrap IntKind.i64 (Int.ofNat q - Int.ofNat p)))) = true := by
    rw [fwrap_mid (by simp only [Int.ofNat_eq_natCast]; omega) (by simp only [Int.ofNat_eq_natCast]; omega), ilt_say, decide_eq_false (by simp only [Int.ofNat_eq_natCast]; omega)]; rfl
  have q3 : ieq (worE l (m + 1) (Int.ofNat p) (Int.ofNat q)) 0 = true := by simp only [worE, fs_cons, fs_nil, hs, hw, cond_true, ieq00]
  have q4 : (!(ieq (szE (rqA (sm0 (l.map gi) p q * sm0 (l.map gi) p q) (Int.ofNat (q - p))) (rqB (sm0 (l.map gi) p q * sm0 (l.map gi) p q) (Int.ofNat (q - p)))) 0)) = false := by rw [hz]; rfl
  have q6 : ilt 0 (cpR (Prod.mk (rqA (sm0 (l.map gi) p q * sm0 (l.map gi) p q) (Int.ofNat (q - p))) (rqB (sm0 (l.map gi) p q * sm0 (l.map gi) p q) (Int.ofNat (q - p)))) (Prod.mk (wtP (l.map gi) a b).1 (wtP (l.map gi) a b).2)) = false := cp_le okx oka le
  have q5 : Nat.blt p a = false := blt_nn (by omega)
  have d2 : ieq (Int.ofNat p) (Int.ofNat a) = false := by rw [ieq_dec]; exact decide_eq_false (by simp only [Int.ofNat_eq_natCast]; omega)
  have q7 : ieq (cpR (Prod.mk (rqA (sm0 (l.map gi) p q * sm0 (l.map gi) p q) (Int.ofNat (q - p))) (rqB (sm0 (l.map gi) p q * sm0 (l.map gi) p q) (Int.ofNat (q - p)))) (Prod.mk (wtP (l.map gi) a b).1 (wtP (l.map gi) a b).2)) 0 = false := i6
  have f6 : chkC l [.agg #[goN lo, goN hi], .agg #[goN p, goN q], .agg #[gi (rqA (sm0 (l.map gi) p q * sm0 (l.map gi) p q) (Int.ofNat (q - p))), gi (rqB (sm0 (l.map gi) p q * sm0 (l.map gi) p q) (Int.ofNat (q - p)))]] := ⟨rfl, okI_ok okx⟩
  have ne : ¬ (p = a ∧ q = b) := by omega
  have ew : (ieq (Int.ofNat p) (Int.ofNat a) && (ieq (Int.ofNat q) (Int.ofNat b) && true)) = false := by
    rw [ieq_dec, ieq_dec, Bool.and_true, ← Bool.decide_and]; exact decide_eq_false (by simp only [Int.ofNat_eq_natCast]; omega)
  have q8 : Value.bool (ieq (Int.ofNat p) (Int.ofNat a) && (ieq (Int.ofNat q) (Int.ofNat b) && true)) = Value.bool false := by rw [ew]
  have q9 : Value.bool (!(ieq (Int.ofNat p) (Int.ofNat a) && (ieq (Int.ofNat q) (Int.ofNat b) && true))) = Value.bool true := by rw [ew]; rfl
  have q11 : ieq (chkE l (m + 1) (Int.ofNat lo) (Int.ofNat hi) (Int.ofNat p) (Int.ofNat q) (rqA (sm0 (l.map gi) p q * sm0 (l.map gi) p q) (Int.ofNat (q - p))) (rqB (sm0 (l.map gi) p q * sm0 (l.map gi) p q) (Int.ofNat (q - p)))) 0 = true := by simp only [chkE, fs_cons, fs_nil, hs, ht, hw, hz, hx, cond_true, ieq00, wh_f]
  have q12 : (!(ieq (whenS (!(eqW (bstW (l.map gi) lo hi (m + 1)) (Int.ofNat p) (Int.ofNat q) (rqA (sm0 (l.map gi) p q * sm0 (l.map gi) p q) (Int.ofNat (q - p))) (rqB (sm0 (l.map gi) p q * sm0 (l.map gi) p q) (Int.ofNat (q - p))))) 19) 19)) = false := by
    have e : eqW (wnW (l.map gi) a b) (Int.ofNat p) (Int.ofNat q) (rqA (sm0 (l.map gi) p q * sm0 (l.map gi) p q) (Int.ofNat (q - p))) (rqB (sm0 (l.map gi) p q * sm0 (l.map gi) p q) (Int.ofNat (q - p))) = false := by unfold eqW wnW; show ((ieq (Int.ofNat p) (Int.ofNat a) && (ieq (Int.ofNat q) (Int.ofNat b) && true)) && _) = false; rw [ew]; rfl
    rw [O.B.e, e]; rfl
  refine execC_ok mixed orcWn_ok (askWn_ok _ _ _ _ _ _ _) (noLoops _) (Eq.mpr (bi_5 l e row m k lo hi p q a b u w _ _ g _) ?_)
  simp only [tk2, decTv, all2, all6, forall_eq', toNat_w, and_true, true_and, f5]
  repeat' (first | assumption | exact rfl | exact trivial | apply And.intro)
  refine hQ _ fun q b hb => ?_
  match q, hb with
  | 0, hb => cases hb; show _ = _; kernel_rfl
  | 1, hb => cases hb; show _ = _; kernel_rfl
  | 2, hb => cases hb; show _ = _; kernel_rfl
  | 3, hb => cases hb; show _ = _; kernel_rfl
  | 4, hb => cases hb; show _ = _; kernel_rfl
set_option maxHeartbeats 4000000 in
set_option maxRecDepth 100000 in
theorem bk_6 (l : List Int) (e row m k lo hi p q b : Nat) (u w : Int) (g : Nat → Value) (Q : Exit → List Value → AHeap → Prop) (O : BbOk l m row k lo hi p b) (i1 : p < q) (i2 : q ≤ m + 1) (i3 : p + lo ≤ q) (i4 : q ≤ p + hi) (i5 : b < q) (i6 : ieq (cpR (wtP (l.map gi) p q) (wtP (l.map gi) p b)) 0 = true)
    (hQ : ∀ h, Laid (bbC (l.map gi) e row lo hi u w p b (wtP (l.map gi) p b).1 (wtP (l.map gi) p b).2) (nG1 + ·) h → Q .normal [liP (m + 1) k, ptN 1, ptN 2, ptN 3, ptN 4, goN p, goN (q + 1), goN (m + 1), goN p] h) : J Tryz.prog (loopOf Tryz.prog 11 2) (stOf 329 [(0, liP (m + 1) k), (4, ptN 1), (5, ptN 2), (7, ptN 3), (8, ptN 4), (10, goN p), (11, goN q), (109, goN (m + 1)), (110, goN p)] g) (bbH (l.map gi) e row lo hi u w p b (wtP (l.map gi) p b).1 (wtP (l.map gi) p b).2) (told 329 [0, 4, 5, 7, 8, 10, 11, 109, 110] Q) := by
  have hn1 := O.W.n1
  have hs := O.hs
  have ht := O.ht
  have lo0 := O.lo0
  have lo1 := O.lo1
  have hi1 := O.hi1
  have okx : okR (wtP (l.map gi) p q) := wt_ok O.W i1 i2
  have oka : okR (wtP (l.map gi) p b) := wt_ok O.W O.B.h1 O.B.h2
  have le : leR (wtP (l.map gi) p q) (wtP (l.map gi) p b) := O.B.le p q i1 i2 i3 i4
  have hw := cw_ok i1 i2
  have hz : ieq (szE (rqA (sm0 (l.map gi) p q * sm0 (l.map gi) p q) (Int.ofNat (q - p))) (rqB (sm0 (l.map gi) p q * sm0 (l.map gi) p q) (Int.ofNat (q - p)))) 0 = true := by have h : szE (rqA (sm0 (l.map gi) p q * sm0 (l.map gi) p q) (Int.ofNat (q - p))) (rqB (sm0 (l.map gi) p q * sm0 (l.map gi) p q) (Int.ofNat (q - p))) = 0 := wt_sz O.W i1 i2; rw [h]; rfl
  have hx : ilt (Int.ofNat (m + 1)) (Int.ofNat lo) = false := by rw [ilt_say]; have := O.lon; exact decide_eq_false (by simp only [Int.ofNat_eq_natCast]; omega)
  have f1 : List.all (l.map gi) (flat 3) = true := flat_ints l
  have f2 : okT tiT (l.map gi) (m + 1) := okIv O.len (by omega)
  have f3 : clCv l [] := rfl
  have f4 : worC l [.agg #[goN p, goN q]] := rfl
  have f5 : fwrap IntKind.i64 (Int.ofNat (q + 1)) = Int.ofNat (q + 1) := fwrap_nat (by omega)
  have q1 : (!(Nat.blt (m + 1) q)) = true := by rw [blt_nn (by omega)]; rfl
  have q2 : (!(ilt (Int.ofNat hi) (fwrap IntKind.i64 (Int.ofNat q - Int.ofNat p)))) = true := by
    rw [fwrap_mid (by simp only [Int.ofNat_eq_natCast]; omega) (by simp only [Int.ofNat_eq_natCast]; omega), ilt_say, decide_eq_false (by simp only [Int.ofNat_eq_natCast]; omega)]; rfl
  have q3 : ieq (worE l (m + 1) (Int.ofNat p) (Int.ofNat q)) 0 = true := by simp only [worE, fs_cons, fs_nil, hs, hw, cond_true, ieq00]
  have q4 : (!(ieq (szE (rqA (sm0 (l.map gi) p q * sm0 (l.map gi) p q) (Int.ofNat (q - p))) (rqB (sm0 (l.map gi) p q * sm0 (l.map gi) p q) (Int.ofNat (q - p)))) 0)) = false := by rw [hz]; rfl
  have q6 : ilt 0 (cpR (Prod.mk (rqA (sm0 (l.map gi) p q * sm0 (l.map gi) p q) (Int.ofNat (q - p))) (rqB (sm0 (l.map gi) p q * sm0 (l.map gi) p q) (Int.ofNat (q - p)))) (Prod.mk (wtP (l.map gi) p b).1 (wtP (l.map gi) p b).2)) = false := cp_le okx oka le
  have q5 : Nat.blt p p = false := blt_nn (by omega)
  have d2 : ieq (Int.ofNat p) (Int.ofNat p) = true := ieq_self _
  have d3 : Nat.blt q b = false := blt_nn (by omega)
  have q7 : ieq (cpR (Prod.mk (rqA (sm0 (l.map gi) p q * sm0 (l.map gi) p q) (Int.ofNat (q - p))) (rqB (sm0 (l.map gi) p q * sm0 (l.map gi) p q) (Int.ofNat (q - p)))) (Prod.mk (wtP (l.map gi) p b).1 (wtP (l.map gi) p b).2)) 0 = true := i6
  have f6 : chkC l [.agg #[goN lo, goN hi], .agg #[goN p, goN q], .agg #[gi (rqA (sm0 (l.map gi) p q * sm0 (l.map gi) p q) (Int.ofNat (q - p))), gi (rqB (sm0 (l.map gi) p q * sm0 (l.map gi) p q) (Int.ofNat (q - p)))]] := ⟨rfl, okI_ok okx⟩
  have ne : ¬ (p = p ∧ q = b) := by omega
  have ew : (ieq (Int.ofNat p) (Int.ofNat p) && (ieq (Int.ofNat q) (Int.ofNat b) && true)) = false := by
    rw [ieq_dec, ieq_dec, Bool.and_true, ← Bool.decide_and]; exact decide_eq_false (by simp only [Int.ofNat_eq_natCast]; omega)
  have q8 : Value.bool (ieq (Int.ofNat p) (Int.ofNat p) && (ieq (Int.ofNat q) (Int.ofNat b) && true)) = Value.bool false := by rw [ew]
  have q9 : Value.bool (!(ieq (Int.ofNat p) (Int.ofNat p) && (ieq (Int.ofNat q) (Int.ofNat b) && true))) = Value.bool true := by rw [ew]; rfl
  have q11 : ieq (chkE l (m + 1) (Int.ofNat lo) (Int.ofNat hi) (Int.ofNat p) (Int.ofNat q) (rqA (sm0 (l.map gi) p q * sm0 (l.map gi) p q) (Int.ofNat (q - p))) (rqB (sm0 (l.map gi) p q * sm0 (l.map gi) p q) (Int.ofNat (q - p)))) 0 = true := by simp only [chkE, fs_cons, fs_nil, hs, ht, hw, hz, hx, cond_true, ieq00, wh_f]
  have q12 : (!(ieq (whenS (!(eqW (bstW (l.map gi) lo hi (m + 1)) (Int.ofNat p) (Int.ofNat q) (rqA (sm0 (l.map gi) p q * sm0 (l.map gi) p q) (Int.ofNat (q - p))) (rqB (sm0 (l.map gi) p q * sm0 (l.map gi) p q) (Int.ofNat (q - p))))) 19) 19)) = false := by
    have e : eqW (wnW (l.map gi) p b) (Int.ofNat p) (Int.ofNat q) (rqA (sm0 (l.map gi) p q * sm0 (l.map gi) p q) (Int.ofNat (q - p))) (rqB (sm0 (l.map gi) p q * sm0 (l.map gi) p q) (Int.ofNat (q - p))) = false := by unfold eqW wnW; show ((ieq (Int.ofNat p) (Int.ofNat p) && (ieq (Int.ofNat q) (Int.ofNat b) && true)) && _) = false; rw [ew]; rfl
    rw [O.B.e, e]; rfl
  refine execC_ok mixed orcWn_ok (askWn_ok _ _ _ _ _ _ _) (noLoops _) (Eq.mpr (bi_6 l e row m k lo hi p q b u w _ _ g _) ?_)
  simp only [tk2, decTv, all2, all6, forall_eq', toNat_w, and_true, true_and, f5]
  repeat' (first | assumption | exact rfl | exact trivial | apply And.intro)
  refine hQ _ fun q b hb => ?_
  match q, hb with
  | 0, hb => cases hb; show _ = _; kernel_rfl
  | 1, hb => cases hb; show _ = _; kernel_rfl
  | 2, hb => cases hb; show _ = _; kernel_rfl
  | 3, hb => cases hb; show _ = _; kernel_rfl
  | 4, hb => cases hb; show _ = _; kernel_rfl
set_option maxHeartbeats 4000000 in
set_option maxRecDepth 100000 in
theorem bk_7 (l : List Int) (e row m k lo hi p q b : Nat) (u w : Int) (g : Nat → Value) (Q : Exit → List Value → AHeap → Prop) (O : BbOk l m row k lo hi p b) (i1 : p < q) (i2 : q ≤ m + 1) (i3 : p + lo ≤ q) (i4 : q ≤ p + hi) (i5 : b < q) (i6 : ieq (cpR (wtP (l.map gi) p q) (wtP (l.map gi) p b)) 0 = false)
    (hQ : ∀ h, Laid (bbC (l.map gi) e row lo hi u w p b (wtP (l.map gi) p b).1 (wtP (l.map gi) p b).2) (nG1 + ·) h → Q .normal [liP (m + 1) k, ptN 1, ptN 2, ptN 3, ptN 4, goN p, goN (q + 1), goN (m + 1), goN p] h) : J Tryz.prog (loopOf Tryz.prog 11 2) (stOf 329 [(0, liP (m + 1) k), (4, ptN 1), (5, ptN 2), (7, ptN 3), (8, ptN 4), (10, goN p), (11, goN q), (109, goN (m + 1)), (110, goN p)] g) (bbH (l.map gi) e row lo hi u w p b (wtP (l.map gi) p b).1 (wtP (l.map gi) p b).2) (told 329 [0, 4, 5, 7, 8, 10, 11, 109, 110] Q) := by
  have hn1 := O.W.n1
  have hs := O.hs
  have ht := O.ht
  have lo0 := O.lo0
  have lo1 := O.lo1
  have hi1 := O.hi1
  have okx : okR (wtP (l.map gi) p q) := wt_ok O.W i1 i2
  have oka : okR (wtP (l.map gi) p b) := wt_ok O.W O.B.h1 O.B.h2
  have le : leR (wtP (l.map gi) p q) (wtP (l.map gi) p b) := O.B.le p q i1 i2 i3 i4
  have hw := cw_ok i1 i2
  have hz : ieq (szE (rqA (sm0 (l.map gi) p q * sm0 (l.map gi) p q) (Int.ofNat (q - p))) (rqB (sm0 (l.map gi) p q * sm0 (l.map gi) p q) (Int.ofNat (q - p)))) 0 = true := by have h : szE (rqA (sm0 (l.map gi) p q * sm0 (l.map gi) p q) (Int.ofNat (q - p))) (rqB (sm0 (l.map gi) p q * sm0 (l.map gi) p q) (Int.ofNat (q - p))) = 0 := wt_sz O.W i1 i2; rw [h]; rfl
  have hx : ilt (Int.ofNat (m + 1)) (Int.ofNat lo) = false := by rw [ilt_say]; have := O.lon; exact decide_eq_false (by simp only [Int.ofNat_eq_natCast]; omega)
  have f1 : List.all (l.map gi) (flat 3) = true := flat_ints l
  have f2 : okT tiT (l.map gi) (m + 1) := okIv O.len (by omega)
  have f3 : clCv l [] := rfl
  have f4 : worC l [.agg #[goN p, goN q]] := rfl
  have f5 : fwrap IntKind.i64 (Int.ofNat (q + 1)) = Int.ofNat (q + 1) := fwrap_nat (by omega)
  have q1 : (!(Nat.blt (m + 1) q)) = true := by rw [blt_nn (by omega)]; rfl
  have q2 : (!(ilt (Int.ofNat hi) (fwrap IntKind.i64 (Int.ofNat q - Int.ofNat p)))) = true := by
    rw [fwrap_mid (by simp only [Int.ofNat_eq_natCast]; omega) (by simp only [Int.ofNat_eq_natCast]; omega), ilt_say, decide_eq_false (by simp only [Int.ofNat_eq_natCast]; omega)]; rfl
  have q3 : ieq (worE l (m + 1) (Int.ofNat p) (Int.ofNat q)) 0 = true := by simp only [worE, fs_cons, fs_nil, hs, hw, cond_true, ieq00]
  have q4 : (!(ieq (szE (rqA (sm0 (l.map gi) p q * sm0 (l.map gi) p q) (Int.ofNat (q - p))) (rqB (sm0 (l.map gi) p q * sm0 (l.map gi) p q) (Int.ofNat (q - p)))) 0)) = false := by rw [hz]; rfl
  have q6 : ilt 0 (cpR (Prod.mk (rqA (sm0 (l.map gi) p q * sm0 (l.map gi) p q) (Int.ofNat (q - p))) (rqB (sm0 (l.map gi) p q * sm0 (l.map gi) p q) (Int.ofNat (q - p)))) (Prod.mk (wtP (l.map gi) p b).1 (wtP (l.map gi) p b).2)) = false := cp_le okx oka le
  have q5 : Nat.blt p p = false := blt_nn (by omega)
  have d2 : ieq (Int.ofNat p) (Int.ofNat p) = true := ieq_self _
  have d3 : Nat.blt q b = false := blt_nn (by omega)
  have q7 : ieq (cpR (Prod.mk (rqA (sm0 (l.map gi) p q * sm0 (l.map gi) p q) (Int.ofNat (q - p))) (rqB (sm0 (l.map gi) p q * sm0 (l.map gi) p q) (Int.ofNat (q - p)))) (Prod.mk (wtP (l.map gi) p b).1 (wtP (l.map gi) p b).2)) 0 = false := i6
  have f6 : chkC l [.agg #[goN lo, goN hi], .agg #[goN p, goN q], .agg #[gi (rqA (sm0 (l.map gi) p q * sm0 (l.map gi) p q) (Int.ofNat (q - p))), gi (rqB (sm0 (l.map gi) p q * sm0 (l.map gi) p q) (Int.ofNat (q - p)))]] := ⟨rfl, okI_ok okx⟩
  have ne : ¬ (p = p ∧ q = b) := by omega
  have ew : (ieq (Int.ofNat p) (Int.ofNat p) && (ieq (Int.ofNat q) (Int.ofNat b) && true)) = false := by
    rw [ieq_dec, ieq_dec, Bool.and_true, ← Bool.decide_and]; exact decide_eq_false (by simp only [Int.ofNat_eq_natCast]; omega)
  have q8 : Value.bool (ieq (Int.ofNat p) (Int.ofNat p) && (ieq (Int.ofNat q) (Int.ofNat b) && true)) = Value.bool false := by rw [ew]
  have q9 : Value.bool (!(ieq (Int.ofNat p) (Int.ofNat p) && (ieq (Int.ofNat q) (Int.ofNat b) && true))) = Value.bool true := by rw [ew]; rfl
  have q11 : ieq (chkE l (m + 1) (Int.ofNat lo) (Int.ofNat hi) (Int.ofNat p) (Int.ofNat q) (rqA (sm0 (l.map gi) p q * sm0 (l.map gi) p q) (Int.ofNat (q - p))) (rqB (sm0 (l.map gi) p q * sm0 (l.map gi) p q) (Int.ofNat (q - p)))) 0 = true := by simp only [chkE, fs_cons, fs_nil, hs, ht, hw, hz, hx, cond_true, ieq00, wh_f]
  have q12 : (!(ieq (whenS (!(eqW (bstW (l.map gi) lo hi (m + 1)) (Int.ofNat p) (Int.ofNat q) (rqA (sm0 (l.map gi) p q * sm0 (l.map gi) p q) (Int.ofNat (q - p))) (rqB (sm0 (l.map gi) p q * sm0 (l.map gi) p q) (Int.ofNat (q - p))))) 19) 19)) = false := by
    have e : eqW (wnW (l.map gi) p b) (Int.ofNat p) (Int.ofNat q) (rqA (sm0 (l.map gi) p q * sm0 (l.map gi) p q) (Int.ofNat (q - p))) (rqB (sm0 (l.map gi) p q * sm0 (l.map gi) p q) (Int.ofNat (q - p))) = false := by unfold eqW wnW; show ((ieq (Int.ofNat p) (Int.ofNat p) && (ieq (Int.ofNat q) (Int.ofNat b) && true)) && _) = false; rw [ew]; rfl
    rw [O.B.e, e]; rfl
  refine execC_ok mixed orcWn_ok (askWn_ok _ _ _ _ _ _ _) (noLoops _) (Eq.mpr (bi_7 l e row m k lo hi p q b u w _ _ g _) ?_)
  simp only [tk2, decTv, all2, all6, forall_eq', toNat_w, and_true, true_and, f5]
  repeat' (first | assumption | exact rfl | exact trivial | apply And.intro)
  refine hQ _ fun q b hb => ?_
  match q, hb with
  | 0, hb => cases hb; show _ = _; kernel_rfl
  | 1, hb => cases hb; show _ = _; kernel_rfl
  | 2, hb => cases hb; show _ = _; kernel_rfl
  | 3, hb => cases hb; show _ = _; kernel_rfl
  | 4, hb => cases hb; show _ = _; kernel_rfl
theorem bk_all (l : List Int) (e row m k lo hi p q a b : Nat) (u w : Int) (g : Nat → Value) (Q : Exit → List Value → AHeap → Prop) (O : BbOk l m row k lo hi a b) (i1 : p < q) (i2 : q ≤ m + 1) (i3 : p + lo ≤ q) (i4 : q ≤ p + hi)
    (hQ : ∀ h, Laid (bbC (l.map gi) e row lo hi u w a b (wtP (l.map gi) a b).1 (wtP (l.map gi) a b).2) (nG1 + ·) h → Q .normal [liP (m + 1) k, ptN 1, ptN 2, ptN 3, ptN 4, goN p, goN (q + 1), goN (m + 1), goN p] h) : J Tryz.prog (loopOf Tryz.prog 11 2) (stOf 329 [(0, liP (m + 1) k), (4, ptN 1), (5, ptN 2), (7, ptN 3), (8, ptN 4), (10, goN p), (11, goN q), (109, goN (m + 1)), (110, goN p)] g) (bbH (l.map gi) e row lo hi u w a b (wtP (l.map gi) a b).1 (wtP (l.map gi) a b).2) (told 329 [0, 4, 5, 7, 8, 10, 11, 109, 110] Q) := by
  by_cases h1 : p < a
  · exact bk_1 l e row m k lo hi p q a b u w g Q O i1 i2 i3 i4 h1 hQ
  · by_cases h2 : p = a
    · subst h2
      by_cases h3 : q < b
      · exact bk_2 l e row m k lo hi p q b u w g Q O i1 i2 i3 i4 h3 hQ
      · by_cases h4 : q = b
        · subst h4
          exact bk_3 l e row m k lo hi p q u w g Q O i1 i2 i3 i4 hQ
        · cases hc : ieq (cpR (wtP (l.map gi) p q) (wtP (l.map gi) p b)) 0 with
          | true => exact bk_6 l e row m k lo hi p q b u w g Q O i1 i2 i3 i4 (by omega) hc hQ
          | false => exact bk_7 l e row m k lo hi p q b u w g Q O i1 i2 i3 i4 (by omega) hc hQ
    · cases hc : ieq (cpR (wtP (l.map gi) p q) (wtP (l.map gi) a b)) 0 with
      | true => exact bk_4 l e row m k lo hi p q a b u w g Q O i1 i2 i3 i4 (by omega) hc hQ
      | false => exact bk_5 l e row m k lo hi p q a b u w g Q O i1 i2 i3 i4 (by omega) hc hQ
end Go.Proofs.YtihnnmejkpddeaaGreatDoor
