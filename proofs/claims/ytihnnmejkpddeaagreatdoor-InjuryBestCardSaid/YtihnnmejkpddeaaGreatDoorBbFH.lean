/-
  OWN WORK. Stage 6: the law of the best window.
-/
import Derived.Test.YtihnnmejkpddeaaGreatDoorBbCE
/-! (OWN WORK. Stage 6: the law of the best window, carried out.) -/
namespace Go.Proofs.YtihnnmejkpddeaaGreatDoor
open Go Go.Am
theorem bw_1 (es : Nat → TypeId) (l : List Int) (m k e row : Nat) (c d u w : Int) (K : Value → Prop) : callC Tryz.prog (exec Tryz.prog orcWn 40) (syOf [(37, 31)]) (askWn true true true 0 0 0 0) (noLoops _) 60 11 #[liP (m + 1) k, .agg #[gi c, gi d], .agg #[g8 u, g8 w]] ((wB6 es).push (.cells (l.map gi) e row true)) (fun v _ => K v) = ((ilt 16 (Int.ofNat (m + 1)) = true ∧ K (Value.bool true))) := by kernel_rfl
theorem bw_2 (es : Nat → TypeId) (l : List Int) (m k e row : Nat) (c d u w : Int) (K : Value → Prop) : callC Tryz.prog (exec Tryz.prog orcWn 40) (syOf [(37, 32), (41, 7), (42, 31)]) (askWn true true true 0 0 0 0) (noLoops _) 60 11 #[liP (m + 1) k, .agg #[gi c, gi d], .agg #[g8 u, g8 w]] ((wB6 es).push (.cells (l.map gi) e row true)) (fun v _ => K v) = ((ilt 16 (Int.ofNat (m + 1)) = false ∧ (List.all (List.map gi l) (flat 3) = true ∧ True) ∧ okT tiT (List.map gi l) (m + 1) ∧ nonC (TellT.dec tiT (List.map gi l)) [] ∧ (!(ieq (serE (TellT.dec tiT (List.map gi l))) 0)) = true ∧ K (Value.bool true))) := by kernel_rfl
theorem bw_3 (es : Nat → TypeId) (l : List Int) (m k e row : Nat) (c d u w : Int) (K : Value → Prop) : callC Tryz.prog (exec Tryz.prog orcWn 40) (syOf [(37, 32), (41, 7), (42, 32), (47, 31)]) (askWn true true true 0 0 0 0) (noLoops _) 60 11 #[liP (m + 1) k, .agg #[gi c, gi d], .agg #[g8 u, g8 w]] ((wB6 es).push (.cells (l.map gi) e row true)) (fun v _ => K v) = ((ilt 16 (Int.ofNat (m + 1)) = false ∧ (List.all (List.map gi l) (flat 3) = true ∧ True) ∧ okT tiT (List.map gi l) (m + 1) ∧ nonC (TellT.dec tiT (List.map gi l)) [] ∧ (!(ieq (serE (TellT.dec tiT (List.map gi l))) 0)) = false ∧ (!(ieq (lnE c d) 0)) = true ∧ K (Value.bool true))) := by kernel_rfl
theorem bw_4 (es : Nat → TypeId) (l : List Int) (m k e row : Nat) (c d u w : Int) (K : Value → Prop) : callC Tryz.prog (exec Tryz.prog orcWn 40) (syOf [(37, 32), (41, 7), (42, 32), (47, 32), (54, 31)]) (askWn true true true 0 0 0 0) (noLoops _) 60 11 #[liP (m + 1) k, .agg #[gi c, gi d], .agg #[g8 u, g8 w]] ((wB6 es).push (.cells (l.map gi) e row true)) (fun v _ => K v) = ((ilt 16 (Int.ofNat (m + 1)) = false ∧ (List.all (List.map gi l) (flat 3) = true ∧ True) ∧ okT tiT (List.map gi l) (m + 1) ∧ nonC (TellT.dec tiT (List.map gi l)) [] ∧ (!(ieq (serE (TellT.dec tiT (List.map gi l))) 0)) = false ∧ (!(ieq (lnE c d) 0)) = false ∧ ilt (Int.ofNat (m + 1)) c = true ∧ K (Value.bool true))) := by kernel_rfl
theorem bw_5 (es : Nat → TypeId) (l : List Int) (m k e row lo hi a b : Nat) (u w : Int) (R1 R2 R3 : P2) (K : Value → Prop) : callC Tryz.prog (exec Tryz.prog orcWn 40) (syOf [(37, 32), (41, 7), (42, 32), (47, 32), (54, 32), (59, 7), (61, 7), (72, 32), (82, 32), (92, 32), (97, 32), (101, 7), (105, 7), (106, 32), (214, 7), (225, 2), (226, 3), (232, 2), (10232, 4), (235, 7), (237, 7), (243, 7), (247, 7), (267, 7), (269, 7), (296, 31), (301, 31), (307, 31), (313, 31), (322, 31), (327, 34)]) (askWn true true true 0 0 lo hi) (bbL l e row m k lo hi a b u w (wtP (l.map gi) a b) R1 R2 R3) 60 11 #[liP (m + 1) k, .agg #[goN lo, goN hi], .agg #[g8 u, g8 w]] ((wB6 es).push (.cells (l.map gi) e row true)) (fun v _ => K v) = ((ilt 16 (Int.ofNat (m + 1)) = false ∧ (List.all (List.map gi l) (flat 3) = true ∧ True) ∧ okT tiT (List.map gi l) (m + 1) ∧ nonC (TellT.dec tiT (List.map gi l)) [] ∧ (!(ieq (serE (TellT.dec tiT (List.map gi l))) 0)) = false ∧ (!(ieq (lnE (Int.ofNat lo) (Int.ofNat hi)) 0)) = false ∧ Nat.blt (m + 1) lo = false ∧ Value.agg #[goN lo, goN hi] = Value.agg #[goN lo, goN hi] ∧ [gi 0, gi 0] = [gi 0, gi 0] ∧ Value.agg #[goN lo, goN hi] = Value.agg #[goN lo, goN hi] ∧ (List.all (List.map gi l) (flat 3) = true ∧ True) ∧ okT tiT (List.map gi l) (m + 1) ∧ clCv (TellT.dec tiT (List.map gi l)) [] ∧ (∀ y1 : List Int, (TellT.dec tiT (List.map gi l) = y1 → ([gi 0, gi 0] = [gi 0, gi 0] ∧ [gi 0, gi 0] = [gi 0, gi 0] ∧ Value.agg #[goN lo, goN hi] = Value.agg #[goN lo, goN hi] ∧ (List.all (List.map gi y1) (flat 3) = true ∧ True) ∧ okT tiT (List.map gi y1) (m + 1) ∧ worC (TellT.dec tiT (List.map gi y1)) [Value.agg #[goN lo, goN hi]] ∧ (∀ y2 : List Int, (TellT.dec tiT (List.map gi y1) = y2 → (∀ y3 : Int, (∀ y4 : Int, ([Value.agg #[goN lo, goN hi]] = [Value.agg #[gi y3, gi y4]] → (ieq (besE y2 (m + 1) y3 y4) 0 = true ∧ [gi 0, gi 0] = [gi 0, gi 0] ∧ [gi 0, gi 0] = [gi 0, gi 0] ∧ (!(ieq (cwE (Int.ofNat (m + 1)) (((bstW (List.map gi y2) y3.toNat y4.toNat (m + 1)).1)) (((bstW (List.map gi y2) y3.toNat y4.toNat (m + 1)).snd.1))) 0)) = false ∧ ilt (fwrap IntKind.i64 (((bstW (List.map gi y2) y3.toNat y4.toNat (m + 1)).snd.1) - ((bstW (List.map gi y2) y3.toNat y4.toNat (m + 1)).1))) (Int.ofNat lo) = false ∧ ilt (Int.ofNat hi) (fwrap IntKind.i64 (((bstW (List.map gi y2) y3.toNat y4.toNat (m + 1)).snd.1) - ((bstW (List.map gi y2) y3.toNat y4.toNat (m + 1)).1))) = false ∧ (!(ieq (szE (((bstW (List.map gi y2) y3.toNat y4.toNat (m + 1)).snd.snd.1)) (((bstW (List.map gi y2) y3.toNat y4.toNat (m + 1)).snd.snd.2))) 0)) = false ∧ (List.all (List.map gi l) (flat 3) = true ∧ True) ∧ okT tiT (List.map gi l) (m + 1) ∧ clCv (TellT.dec tiT (List.map gi l)) [] ∧ (∀ y5 : List Int, (TellT.dec tiT (List.map gi l) = y5 → (Value.agg (Array.mk (List.take 2 (List.drop 0 ([] ++ ([gi (((bstW (List.map gi y2) y3.toNat y4.toNat (m + 1)).snd.snd.1)), gi (((bstW (List.map gi y2) y3.toNat y4.toNat (m + 1)).snd.snd.2))] ++ []))))) = Value.agg (Array.mk (List.take 2 (List.drop 0 ([] ++ ([gi (((bstW (List.map gi y2) y3.toNat y4.toNat (m + 1)).snd.snd.1)), gi (((bstW (List.map gi y2) y3.toNat y4.toNat (m + 1)).snd.snd.2))] ++ []))))) ∧ Value.agg (Array.mk (List.take 2 (List.drop 0 ([] ++ ([gi (((bstW (List.map gi y2) y3.toNat y4.toNat (m + 1)).1)), gi (((bstW (List.map gi y2) y3.toNat y4.toNat (m + 1)).snd.1))] ++ []))))) = Value.agg (Array.mk (List.take 2 (List.drop 0 ([] ++ ([gi (((bstW (List.map gi y2) y3.toNat y4.toNat (m + 1)).1)), gi (((bstW (List.map gi y2) y3.toNat y4.toNat (m + 1)).snd.1))] ++ []))))) ∧ Value.agg #[goN lo, goN hi] = Value.agg #[goN lo, goN hi] ∧ (List.all (List.map gi y5) (flat 3) = true ∧ True) ∧ okT tiT (List.map gi y5) (m + 1) ∧ chkC (TellT.dec tiT (List.map gi y5)) [Value.agg #[goN lo, goN hi], Value.agg (Array.mk (List.take 2 (List.drop 0 ([] ++ ([gi (((bstW (List.map gi y2) y3.toNat y4.toNat (m + 1)).1)), gi (((bstW (List.map gi y2) y3.toNat y4.toNat (m + 1)).snd.1))] ++ []))))), Value.agg (Array.mk (List.take 2 (List.drop 0 ([] ++ ([gi (((bstW (List.map gi y2) y3.toNat y4.toNat (m + 1)).snd.snd.1)), gi (((bstW (List.map gi y2) y3.toNat y4.toNat (m + 1)).snd.snd.2))] ++ [])))))] ∧ (∀ y6 : List Int, (TellT.dec tiT (List.map gi y5) = y6 → (∀ y7 : Int, (∀ y8 : Int, (∀ y9 : Int, (∀ y10 : Int, (∀ y11 : Int, (∀ y12 : Int, ([Value.agg #[goN lo, goN hi], Value.agg (Array.mk (List.take 2 (List.drop 0 ([] ++ ([gi (((bstW (List.map gi y2) y3.toNat y4.toNat (m + 1)).1)), gi (((bstW (List.map gi y2) y3.toNat y4.toNat (m + 1)).snd.1))] ++ []))))), Value.agg (Array.mk (List.take 2 (List.drop 0 ([] ++ ([gi (((bstW (List.map gi y2) y3.toNat y4.toNat (m + 1)).snd.snd.1)), gi (((bstW (List.map gi y2) y3.toNat y4.toNat (m + 1)).snd.snd.2))] ++ [])))))] = [Value.agg #[gi y7, gi y8], Value.agg #[gi y9, gi y10], Value.agg #[gi y11, gi y12]] → (ieq (chkE y6 (m + 1) y7 y8 y9 y10 y11 y12) 0 = true ∧ (!(ieq (whenS (!(eqW (bstW (List.map gi y6) (Int.toNat y7) (Int.toNat y8) (m + 1)) y9 y10 y11 y12)) 19) 0)) = false ∧ loopOf Tryz.prog 11 0 = loopOf Tryz.prog 11 0 ∧ liP (m + 1) k = liP (m + 1) k ∧ Value.pointer (some ⟨nG1 + 1, 0, none⟩) = ptN 1 ∧ Value.pointer (some ⟨nG1 + 2, 0, none⟩) = ptN 2 ∧ Value.pointer (some ⟨nG1 + 3, 0, none⟩) = ptN 3 ∧ Value.pointer (some ⟨nG1 + 4, 0, none⟩) = ptN 4 ∧ goN (m + 1) = goN (m + 1) ∧ gi 0 = goN 0 ∧ ((List.map gi l = List.map gi l ∧ e = e ∧ row = row ∧ true = true) ∧ ([goN lo, goN hi] = [goN lo, goN hi] ∧ 26 = 26 ∧ 0 = 0 ∧ false = false) ∧ ([g8 u, g8 w] = [g8 u, g8 w] ∧ 129 = 129 ∧ 0 = 0 ∧ false = false) ∧ (([] ++ ([gi (((bstW (List.map gi y2) y3.toNat y4.toNat (m + 1)).1)), gi (((bstW (List.map gi y2) y3.toNat y4.toNat (m + 1)).snd.1))] ++ [])) = [goN a, goN b] ∧ 24 = 24 ∧ 0 = 0 ∧ false = false) ∧ ([] ++ ([gi (((bstW (List.map gi y2) y3.toNat y4.toNat (m + 1)).snd.snd.1)), gi (((bstW (List.map gi y2) y3.toNat y4.toNat (m + 1)).snd.snd.2))] ++ [])) = [gi (rqA (sm0 (List.map gi l) a b * sm0 (List.map gi l) a b) (Int.ofNat (b - a))), gi (rqB (sm0 (List.map gi l) a b * sm0 (List.map gi l) a b) (Int.ofNat (b - a)))] ∧ 28 = 28 ∧ 0 = 0 ∧ false = false) ∧ BbOk l m row k lo hi a b ∧ (∀ _ : Nat → Value, ((List.all (List.map gi l) (flat 3) = true ∧ True) ∧ okT tiT (List.map gi l) (m + 1) ∧ clCv (TellT.dec tiT (List.map gi l)) [] ∧ (∀ y14 : List Int, (TellT.dec tiT (List.map gi l) = y14 → (ahasIndex (Int.tmod (fwrap IntKind.i64 u) (Int.ofNat (m + 1))) (m + 1) = true ∧ (List.map gi y14)[(0 + (Int.toNat (Int.tmod (fwrap IntKind.i64 u) (Int.ofNat (m + 1))) * 1))]? = Option.some (gi (intAt (List.map gi y14) (0 + (Int.toNat (Int.tmod (fwrap IntKind.i64 u) (Int.ofNat (m + 1))) * 1)))) ∧ ahasIndex (Int.tmod (fwrap IntKind.i64 u) (Int.ofNat (m + 1))) (m + 1) = true ∧ Nat.ble ((0 + (Int.toNat (Int.tmod (fwrap IntKind.i64 u) (Int.ofNat (m + 1))) * 1)) + List.length [gi (if (fwrap IntKind.i64 (intAt (List.map gi y14) (0 + (Int.toNat (Int.tmod (fwrap IntKind.i64 u) (Int.ofNat (m + 1))) * 1)) + fwrap IntKind.i64 w) : Int) < 16384 then fwrap IntKind.i64 (intAt (List.map gi y14) (0 + (Int.toNat (Int.tmod (fwrap IntKind.i64 u) (Int.ofNat (m + 1))) * 1)) + fwrap IntKind.i64 w) else 16384)]) (List.length (List.map gi y14)) = true ∧ Value.agg #[goN lo, goN hi] = Value.agg #[goN lo, goN hi] ∧ [gi 0, gi 0] = [gi 0, gi 0] ∧ Value.agg #[goN lo, goN hi] = Value.agg #[goN lo, goN hi] ∧ (List.all (splice (List.map gi y14) (0 + (Int.toNat (Int.tmod (fwrap IntKind.i64 u) (Int.ofNat (m + 1))) * 1)) [gi (if (fwrap IntKind.i64 (intAt (List.map gi y14) (0 + (Int.toNat (Int.tmod (fwrap IntKind.i64 u) (Int.ofNat (m + 1))) * 1)) + fwrap IntKind.i64 w) : Int) < 16384 then fwrap IntKind.i64 (intAt (List.map gi y14) (0 + (Int.toNat (Int.tmod (fwrap IntKind.i64 u) (Int.ofNat (m + 1))) * 1)) + fwrap IntKind.i64 w) else 16384)]) (flat 3) = true ∧ True) ∧ okT tiT (splice (List.map gi y14) (0 + (Int.toNat (Int.tmod (fwrap IntKind.i64 u) (Int.ofNat (m + 1))) * 1)) [gi (if (fwrap IntKind.i64 (intAt (List.map gi y14) (0 + (Int.toNat (Int.tmod (fwrap IntKind.i64 u) (Int.ofNat (m + 1))) * 1)) + fwrap IntKind.i64 w) : Int) < 16384 then fwrap IntKind.i64 (intAt (List.map gi y14) (0 + (Int.toNat (Int.tmod (fwrap IntKind.i64 u) (Int.ofNat (m + 1))) * 1)) + fwrap IntKind.i64 w) else 16384)]) (m + 1) ∧ clCv (TellT.dec tiT (splice (List.map gi y14) (0 + (Int.toNat (Int.tmod (fwrap IntKind.i64 u) (Int.ofNat (m + 1))) * 1)) [gi (if (fwrap IntKind.i64 (intAt (List.map gi y14) (0 + (Int.toNat (Int.tmod (fwrap IntKind.i64 u) (Int.ofNat (m + 1))) * 1)) + fwrap IntKind.i64 w) : Int) < 16384 then fwrap IntKind.i64 (intAt (List.map gi y14) (0 + (Int.toNat (Int.tmod (fwrap IntKind.i64 u) (Int.ofNat (m + 1))) * 1)) + fwrap IntKind.i64 w) else 16384)])) [] ∧ (∀ y15 : List Int, (TellT.dec tiT (splice (List.map gi y14) (0 + (Int.toNat (Int.tmod (fwrap IntKind.i64 u) (Int.ofNat (m + 1))) * 1)) [gi (if (fwrap IntKind.i64 (intAt (List.map gi y14) (0 + (Int.toNat (Int.tmod (fwrap IntKind.i64 u) (Int.ofNat (m + 1))) * 1)) + fwrap IntKind.i64 w) : Int) < 16384 then fwrap IntKind.i64 (intAt (List.map gi y14) (0 + (Int.toNat (Int.tmod (fwrap IntKind.i64 u) (Int.ofNat (m + 1))) * 1)) + fwrap IntKind.i64 w) else 16384)]) = y15 → ([gi 0, gi 0] = [gi 0, gi 0] ∧ [gi 0, gi 0] = [gi 0, gi 0] ∧ Value.agg #[goN lo, goN hi] = Value.agg #[goN lo, goN hi] ∧ (List.all (List.map gi y15) (flat 3) = true ∧ True) ∧ okT tiT (List.map gi y15) (m + 1) ∧ worC (TellT.dec tiT (List.map gi y15)) [Value.agg #[goN lo, goN hi]] ∧ (∀ y16 : List Int, (TellT.dec tiT (List.map gi y15) = y16 → (∀ y17 : Int, (∀ y18 : Int, ([Value.agg #[goN lo, goN hi]] = [Value.agg #[gi y17, gi y18]] → (ieq (besE y16 (m + 1) y17 y18) 0 = true ∧ [gi 0, gi 0] = [gi 0, gi 0] ∧ [gi 0, gi 0] = [gi 0, gi 0] ∧ [goN lo, goN hi][1]? = Option.some (goN hi) ∧ [gi 0, gi 0] = [gi 0, gi 0] ∧ [goN lo, goN hi][1]? = Option.some (goN hi) ∧ (List.all (List.map gi l) (flat 3) = true ∧ True) ∧ okT tiT (List.map gi l) (m + 1) ∧ clCv (TellT.dec tiT (List.map gi l)) [] ∧ (∀ y19 : List Int, (TellT.dec tiT (List.map gi l) = y19 → ([gi 0, gi 0] = [gi 0, gi 0] ∧ [gi 0, gi 0] = [gi 0, gi 0] ∧ [goN lo, goN hi][1]? = Option.some (goN hi) ∧ [gi 0, gi 0] = [gi 0, gi 0] ∧ [gi 0, gi 0] = [gi 0, gi 0] ∧ (List.all (List.map gi y19) (flat 3) = true ∧ True) ∧ okT tiT (List.map gi y19) (m + 1) ∧ worC (TellT.dec tiT (List.map gi y19)) [Value.agg (Array.mk (List.take 2 (List.drop 0 ([] ++ ([gi 1, goN hi] ++ [])))))] ∧ (∀ y20 : List Int, (TellT.dec tiT (List.map gi y19) = y20 → (∀ y21 : Int, (∀ y22 : Int, ([Value.agg (Array.mk (List.take 2 (List.drop 0 ([] ++ ([gi 1, goN hi] ++ [])))))] = [Value.agg #[gi y21, gi y22]] → (ieq (besE y20 (m + 1) y21 y22) 0 = true ∧ [gi 0, gi 0] = [gi 0, gi 0] ∧ [gi 0, gi 0] = [gi 0, gi 0] ∧ loopOf Tryz.prog 11 4 = loopOf Tryz.prog 11 4 ∧ liP (m + 1) k = liP (m + 1) k ∧ ptN 1 = ptN 1 ∧ ptN 4 = ptN 4 ∧ Value.pointer (some ⟨nG1 + 7, 0, none⟩) = ptN 7 ∧ Value.pointer (some ⟨nG1 + 10, 0, none⟩) = ptN 10 ∧ gi 0 = gi 0 ∧ gi 0 = gi 0 ∧ nilS = nilS ∧ gi (fwrap IntKind.i64 (Int.ofNat (m + 1) - 1)) = goN m ∧ ((List.map gi l = List.map gi l ∧ e = e ∧ row = row ∧ true = true) ∧ ([goN lo, goN hi] = [goN lo, goN hi] ∧ 26 = 26 ∧ 0 = 0 ∧ false = false) ∧ ([gi (rqA (sm0 (List.map gi l) a b * sm0 (List.map gi l) a b) (Int.ofNat (b - a))), gi (rqB (sm0 (List.map gi l) a b * sm0 (List.map gi l) a b) (Int.ofNat (b - a)))] = [gi (rqA (sm0 (List.map gi l) a b * sm0 (List.map gi l) a b) (Int.ofNat (b - a))), gi (rqB (sm0 (List.map gi l) a b * sm0 (List.map gi l) a b) (Int.ofNat (b - a)))] ∧ 28 = 28 ∧ 0 = 0 ∧ false = false) ∧ (([] ++ ([gi (((bstW (List.map gi y16) y17.toNat y18.toNat (m + 1)).snd.snd.1)), gi (((bstW (List.map gi y16) y17.toNat y18.toNat (m + 1)).snd.snd.2))] ++ [])) = [gi R1.1, gi R1.2] ∧ 28 = 28 ∧ 0 = 0 ∧ false = false) ∧ ([] ++ ([gi (((bstW (List.map gi y20) y21.toNat y22.toNat (m + 1)).snd.snd.1)), gi (((bstW (List.map gi y20) y21.toNat y22.toNat (m + 1)).snd.snd.2))] ++ [])) = [gi R2.1, gi R2.2] ∧ 28 = 28 ∧ 0 = 0 ∧ false = false) ∧ (List.length l = (m + 1) ∧ ((m + 1) : Nat) ≤ 128) ∧ (∀ _ : Nat → Value, (Value.agg #[goN lo, goN hi] = Value.agg #[goN lo, goN hi] ∧ [gi 0, gi 0] = [gi 0, gi 0] ∧ Value.agg #[goN lo, goN hi] = Value.agg #[goN lo, goN hi] ∧ (List.all (List.map gi (List.reverse l)) (flat 3) = true ∧ True) ∧ okT tiT (List.map gi (List.reverse l)) (m + 1) ∧ clCv (TellT.dec tiT (List.map gi (List.reverse l))) [] ∧ (∀ y24 : List Int, (TellT.dec tiT (List.map gi (List.reverse l)) = y24 → ([gi 0, gi 0] = [gi 0, gi 0] ∧ [gi 0, gi 0] = [gi 0, gi 0] ∧ Value.agg #[goN lo, goN hi] = Value.agg #[goN lo, goN hi] ∧ (List.all (List.map gi y24) (flat 3) = true ∧ True) ∧ okT tiT (List.map gi y24) (m + 1) ∧ worC (TellT.dec tiT (List.map gi y24)) [Value.agg #[goN lo, goN hi]] ∧ (∀ y25 : List Int, (TellT.dec tiT (List.map gi y24) = y25 → (∀ y26 : Int, (∀ y27 : Int, ([Value.agg #[goN lo, goN hi]] = [Value.agg #[gi y26, gi y27]] → (ieq (besE y25 (m + 1) y26 y27) 0 = true ∧ [gi 0, gi 0] = [gi 0, gi 0] ∧ [gi 0, gi 0] = [gi 0, gi 0] ∧ loopOf Tryz.prog 11 6 = loopOf Tryz.prog 11 6 ∧ liP (m + 1) k = liP (m + 1) k ∧ ptN 2 = ptN 2 ∧ ptN 3 = ptN 3 ∧ ptN 4 = ptN 4 ∧ Value.pointer (some ⟨nG1 + 7, 0, none⟩) = ptN 7 ∧ gi 0 = gi 0 ∧ gi 0 = gi 0 ∧ gi 0 = gi 0 ∧ gi 0 = gi 0 ∧ liP (m + 1) k = liP (m + 1) k ∧ goN (m + 1) = goN (m + 1) ∧ gi 0 = goN 0 ∧ ((List.map gi l = List.map gi l ∧ e = e ∧ row = row ∧ true = true) ∧ ([gi (rqA (sm0 (List.map gi l) a b * sm0 (List.map gi l) a b) (Int.ofNat (b - a))), gi (rqB (sm0 (List.map gi l) a b * sm0 (List.map gi l) a b) (Int.ofNat (b - a)))] = [gi (rqA (sm0 (List.map gi l) a b * sm0 (List.map gi l) a b) (Int.ofNat (b - a))), gi (rqB (sm0 (List.map gi l) a b * sm0 (List.map gi l) a b) (Int.ofNat (b - a)))] ∧ 28 = 28 ∧ 0 = 0 ∧ false = false) ∧ ([gi R1.1, gi R1.2] = [gi R1.1, gi R1.2] ∧ 28 = 28 ∧ 0 = 0 ∧ false = false) ∧ ([gi R2.1, gi R2.2] = [gi R2.1, gi R2.2] ∧ 28 = 28 ∧ 0 = 0 ∧ false = false) ∧ ([] ++ ([gi (((bstW (List.map gi y25) y26.toNat y27.toNat (m + 1)).snd.snd.1)), gi (((bstW (List.map gi y25) y26.toNat y27.toNat (m + 1)).snd.snd.2))] ++ [])) = [gi R3.1, gi R3.2] ∧ 28 = 28 ∧ 0 = 0 ∧ false = false) ∧ (List.length l = (m + 1) ∧ ((m + 1) : Nat) ≤ 128) ∧ (∀ _ : Nat → Value, (ieq (szE R1.1 R1.2) 0 = true ∧ ieq (szE R2.1 R2.2) 0 = true ∧ (!(ilt (cpR (Prod.mk R1.1 R1.2) (Prod.mk (rqA (sm0 (List.map gi l) a b * sm0 (List.map gi l) a b) (Int.ofNat (b - a))) (rqB (sm0 (List.map gi l) a b * sm0 (List.map gi l) a b) (Int.ofNat (b - a))))) 0)) = true ∧ (!(ilt (cpR (Prod.mk R2.1 R2.2) (Prod.mk (rqA (sm0 (List.map gi l) a b * sm0 (List.map gi l) a b) (Int.ofNat (b - a))) (rqB (sm0 (List.map gi l) a b * sm0 (List.map gi l) a b) (Int.ofNat (b - a))))) 0)) = true ∧ Value.agg #[gi R2.1, gi R2.2] = Value.agg #[gi R2.1, gi R2.2] ∧ (!(ilt (cpR (Prod.mk R2.1 R2.2) (Prod.mk (fwrap IntKind.i64 (bgJ (List.map gi l) (m + 1) * bgJ (List.map gi l) (m + 1))) 1)) 0)) = true ∧ Value.bool (ieq R3.1 (rqA (sm0 (List.map gi l) a b * sm0 (List.map gi l) a b) (Int.ofNat (b - a))) && (ieq R3.2 (rqB (sm0 (List.map gi l) a b * sm0 (List.map gi l) a b) (Int.ofNat (b - a))) && true)) = Value.bool true ∧ K (Value.bool true))))))))))))))))))))))))))))))))))))))))))))))))))))))))))))) := by kernel_rfl
end Go.Proofs.YtihnnmejkpddeaaGreatDoor
/-! (OWN WORK. Stage 6: the law of the best window: true for all series that are not empty.) -/
namespace Go.Proofs.YtihnnmejkpddeaaGreatDoor
open Go Go.Am
theorem ser_ofB {l : List Int} (h0 : 0 < l.length) (h1 : l.length ≤ 128) (hb : ∀ x ∈ l, -16384 ≤ x ∧ x ≤ 16384) : serE l = 0 := by
  have e : firstE uE l = 0 := by
    clear h0 h1
    induction l with
    | nil => rfl
    | cons x l ih =>
      have hx := hb x (.head _)
      have ux : uE x = 0 := withinZ hx.1 hx.2
      show (bif ieq (uE x) 0 then firstE uE l else uE x) = 0
      rw [ux]
      exact ih fun y hy => hb y (.tail _ hy)
  have c : cnE (Int.ofNat l.length) 128 = 0 := by
    unfold cnE whenS
    rw [ieq_dec, ilt_say, decide_eq_false (show ¬ Int.ofNat l.length = 0 by simp only [Int.ofNat_eq_natCast]; omega), decide_eq_false (show ¬ 128 < Int.ofNat l.length by simp only [Int.ofNat_eq_natCast]; omega)]
    rfl
  unfold serE
  rw [c, e]; rfl
theorem it_of {l : List Int} {j : Nat} (hj : j < l.length) : intAt (l.map gi) j = l[j] := by
  have h := (first_at hj).2
  rwa [show 0 + j * 1 = j by omega] at h
theorem spl_set : ∀ (l : List Int) (t : Nat) (v : Int), t < l.length → splice (l.map gi) (0 + t * 1) [gi v] = (l.set t v).map gi := fun l t v h => by
  rw [show 0 + t * 1 = t by omega, List.map_set]
  unfold splice
  rw [List.set_eq_take_append_cons_drop, if_pos (by rw [List.length_map]; exact h)]
  rfl
theorem wn1 (c : List Value) (p q : Nat) : (wnW c p q).1 = Int.ofNat p := rfl
theorem wn2 (c : List Value) (p q : Nat) : (wnW c p q).2.1 = Int.ofNat q := rfl
theorem wn3 (c : List Value) (p q : Nat) : (wnW c p q).2.2.1 = (wtP c p q).1 := rfl
theorem wn4 (c : List Value) (p q : Nat) : (wnW c p q).2.2.2 = (wtP c p q).2 := rfl
theorem wt1 (c : List Value) (p q : Nat) : rqA (sm0 c p q * sm0 c p q) (Int.ofNat (q - p)) = (wtP c p q).1 := rfl
theorem wt2 (c : List Value) (p q : Nat) : rqB (sm0 c p q * sm0 c p q) (Int.ofNat (q - p)) = (wtP c p q).2 := rfl
theorem tn1 : Int.toNat 1 = 1 := rfl
theorem ln_ok {lo hi : Nat} (h0 : 0 < lo) (h1 : lo ≤ hi) (h2 : hi ≤ 128) : ieq (lnE (Int.ofNat lo) (Int.ofNat hi)) 0 = true := by
  unfold lnE
  rw [withinZ (by simp only [Int.ofNat_eq_natCast]; omega) (by simp only [Int.ofNat_eq_natCast]; omega), withinZ (by simp only [Int.ofNat_eq_natCast]; omega) (by simp only [Int.ofNat_eq_natCast]; omega), ilt_say, decide_eq_false (by simp only [Int.ofNat_eq_natCast]; omega)]; rfl
theorem bes_ok {l : List Int} {n lo hi : Nat} (hs : ieq (serE l) 0 = true) (ht : ieq (lnE (Int.ofNat lo) (Int.ofNat hi)) 0 = true) (hx : ilt (Int.ofNat n) (Int.ofNat lo) = false) : ieq (besE l n (Int.ofNat lo) (Int.ofNat hi)) 0 = true := by
  simp only [besE, fs_cons, fs_nil, hs, ht, hx, cond_true, ieq00, wh_f]
set_option maxHeartbeats 8000000 in
set_option maxRecDepth 100000 in
theorem bst_f (es : Nat → TypeId) (l : List Int) (k e row : Nat) (c d u w : Int) (h0 : 0 < l.length) (hu : 0 ≤ u ∧ u ≤ 255) (hw : 0 ≤ w ∧ w ≤ 255) : CallJ Tryz.prog 11 #[liP l.length k, .agg #[gi c, gi d], .agg #[g8 u, g8 w]] ((wB6 es).push (.cells (l.map gi) e row true)) (fun v _ => v = .bool true) := by
  obtain ⟨m, hm⟩ : ∃ m, l.length = m + 1 := ⟨l.length - 1, by omega⟩
  rw [hm]
  cases hlen : ilt 16 (Int.ofNat (m + 1)) with
  | true => exact callC_ok mixed orcWn_ok (askWn_ok true true true 0 0 0 0) (Eq.mpr (bw_1 es l m k e row c d u w _) ⟨hlen, rfl⟩)
  | false =>
  have hlen' : m + 1 ≤ 16 := by rw [ilt_say] at hlen; have := of_decide_eq_false hlen; simp only [Int.ofNat_eq_natCast] at this; omega
  have f1 : List.all (l.map gi) (flat 3) = true := flat_ints l
  have f2 : okT tiT (l.map gi) (m + 1) := okIv hm (by omega)
  have f4 : nonC l [] := rfl
  cases hs : ieq (serE l) 0 with
  | false => exact callC_ok mixed orcWn_ok (askWn_ok true true true 0 0 0 0) (Eq.mpr (bw_2 es l m k e row c d u w _) ⟨hlen, ⟨f1, trivial⟩, f2, rfl, by rw [decTv, hs]; rfl, rfl⟩)
  | true =>
  have s0 : (!(ieq (serE l) 0)) = false := by rw [hs]; rfl
  cases ht : ieq (lnE c d) 0 with
  | false => exact callC_ok mixed orcWn_ok (askWn_ok true true true 0 0 0 0) (Eq.mpr (bw_3 es l m k e row c d u w _) ⟨hlen, ⟨f1, trivial⟩, f2, rfl, by rw [decTv]; exact s0, by rw [ht]; rfl, rfl⟩)
  | true =>
  have t0 : (!(ieq (lnE c d) 0)) = false := by rw [ht]; rfl
  cases hx : ilt (Int.ofNat (m + 1)) c with
  | true => exact callC_ok mixed orcWn_ok (askWn_ok true true true 0 0 0 0) (Eq.mpr (bw_4 es l m k e row c d u w _) ⟨hlen, ⟨f1, trivial⟩, f2, rfl, by rw [decTv]; exact s0, t0, hx, rfl⟩)
  | false =>
  obtain ⟨lo, hi, rfl, rfl, g3, g4, g5⟩ := ln_zero (ieq_zero ht)
  have hx' : lo ≤ m + 1 := by rw [ilt_say] at hx; have := of_decide_eq_false hx; simp only [Int.ofNat_eq_natCast] at this; omega
  have bnd := (serAll (ieq_zero hs)).2
  have C := bs_of hm (Nat.succ_pos m) (ieq_zero hs) row k
  obtain ⟨a, b, B⟩ := best_at C g3 g4 hx'
  have O : BbOk l m row k lo hi a b := ⟨hm, hs, ht, g3, g4, g5, hx', C, B⟩
  have i1 := B.h1
  have i2 := B.h2
  have i3 := B.h3
  have i4 := B.h4
  have ok := wt_ok C i1 i2
  have fu : fwrap IntKind.i64 u = u := fwrap_mid (by omega) (by omega)
  have fw : fwrap IntKind.i64 w = w := fwrap_mid (by omega) (by omega)
  obtain ⟨t, ht1, ht2⟩ : ∃ t : Nat, Int.tmod u (Int.ofNat (m + 1)) = Int.ofNat t ∧ t < m + 1 := by
    obtain ⟨U, rfl⟩ := Int.eq_ofNat_of_zero_le hu.1
    exact ⟨U % (m + 1), rfl, Nat.mod_lt _ (Nat.succ_pos m)⟩
  have tl : t < l.length := by omega
  obtain ⟨x, hx0⟩ : ∃ x, x = l[t] := ⟨_, rfl⟩
  have ix : intAt (l.map gi) (0 + t * 1) = x := by rw [hx0]; exact (first_at tl).2
  have at_ : (l.map gi)[0 + t * 1]? = some (gi x) := by have := (first_at tl).1; rwa [ix] at this
  have xb : -16384 ≤ x ∧ x ≤ 16384 := by rw [hx0]; exact bnd _ (List.getElem_mem tl)
  have fx : fwrap IntKind.i64 (x + w) = x + w := fwrap_mid (by omega) (by omega)
  obtain ⟨v, hv⟩ : ∃ v, (if (x + w : Int) < 16384 then x + w else 16384) = v := ⟨_, rfl⟩
  have vb : x ≤ v ∧ v ≤ 16384 := by rw [← hv]; split <;> omega
  have sp := spl_set l t v tl
  have lt : (l.set t v).length = m + 1 := by rw [List.length_set]; exact hm
  have vi : ∀ (j : Nat) (hj : j < m + 1), (l.set t v)[j]'(by omega) = if t = j then v else l[j]'(by omega) := fun j hj => List.getElem_set _
  have hs1 : ieq (serE (l.set t v)) 0 = true := by
    rw [ser_ofB (by omega) (by omega) (fun y hy => by
      rcases List.mem_or_eq_of_mem_set hy with h | rfl
      · exact bnd y h
      · omega)]; rfl
  have C1 := bs_of lt (Nat.succ_pos m) (ieq_zero hs1) 0 0
  obtain ⟨a1, b1, B1⟩ := best_at C1 g3 g4 hx'
  have le1 : leR (wtP (l.map gi) a b) (wtP ((l.set t v).map gi) a1 b1) := best_more C C1 B B1 fun j hj => by
    rw [it_of (by omega), it_of (by omega), vi j hj]
    split
    · rename_i h; subst h; rw [← hx0]; exact vb.1
    · exact Int.le_refl _
  have ok1 := wt_ok C1 B1.h1 B1.h2
  obtain ⟨a2, b2', B2⟩ := best_at (hi := hi) C (Nat.lt_succ_self 0) (by omega) (by omega)
  have le2 : leR (wtP (l.map gi) a b) (wtP (l.map gi) a2 b2') := best_wide B B2
  have ok2 := wt_ok C B2.h1 B2.h2
  have lr : l.reverse.length = m + 1 := by rw [List.length_reverse]; exact hm
  have hs3 : ieq (serE l.reverse) 0 = true := by
    rw [ser_ofB (by omega) (by omega) (fun y hy => bnd y (List.mem_reverse.1 hy))]; rfl
  have C3 := bs_of lr (Nat.succ_pos m) (ieq_zero hs3) 0 0
  obtain ⟨a3, b3, B3⟩ := best_at C3 g3 g4 hx'
  have e3 : (wtP (l.reverse.map gi) a3 b3) = wtP (l.map gi) a b := best_rev C C3 B B3 fun j hj => by
    rw [it_of (by omega), it_of (by omega), List.getElem_reverse]
    congr 1
    omega
  have mj := bgJ_ok (l.map gi) (m + 1) (m + 1) (Nat.le_refl _)
  have mb : (bgJ (l.map gi) (m + 1)) ≤ 16384 := by
    rcases mj.2 with h | ⟨j, hj, h, _⟩
    · omega
    · rw [h, it_of (by omega)]; exact (bnd _ (List.getElem_mem _)).2
  have mm : 0 ≤ (bgJ (l.map gi) (m + 1)) * (bgJ (l.map gi) (m + 1)) ∧ (bgJ (l.map gi) (m + 1)) * (bgJ (l.map gi) (m + 1)) ≤ 268435456 := by
    have h1 := Int.mul_nonneg mj.1 mj.1
    have h2 : (bgJ (l.map gi) (m + 1)) * (bgJ (l.map gi) (m + 1)) ≤ 16384 * 16384 := Int.mul_le_mul mb mb mj.1 (by decide)
    omega
  have fm : fwrap IntKind.i64 ((bgJ (l.map gi) (m + 1)) * (bgJ (l.map gi) (m + 1))) = (bgJ (l.map gi) (m + 1)) * (bgJ (l.map gi) (m + 1)) := fwrap_mid (by omega) (by omega)
  have le4 : leR ((bgJ (l.map gi) (m + 1)) * (bgJ (l.map gi) (m + 1)), 1) (wtP (l.map gi) a2 b2') := best_most C (by omega) B2 mj.2
  have okm : okR ((bgJ (l.map gi) (m + 1)) * (bgJ (l.map gi) (m + 1)), 1) := ⟨⟨mm.1, by show (bgJ (l.map gi) (m + 1)) * (bgJ (l.map gi) (m + 1)) ≤ _; omega⟩, Int.one_pos, (by decide : (1 : Int) ≤ 1000000)⟩
  have hw0 := cw_ok i1 i2
  have hz : ieq (szE (wtP (l.map gi) a b).1 (wtP (l.map gi) a b).2) 0 = true := by rw [wt_sz C i1 i2]; rfl
  have q1 : ieq (besE l (m + 1) (Int.ofNat lo) (Int.ofNat hi)) 0 = true := bes_ok hs ht hx
  have fb : fwrap IntKind.i64 (Int.ofNat b - Int.ofNat a) = Int.ofNat b - Int.ofNat a := fwrap_mid (by simp only [Int.ofNat_eq_natCast]; omega) (by simp only [Int.ofNat_eq_natCast]; omega)
  have q2 : (!(ieq (cwE (Int.ofNat (m + 1)) (Int.ofNat a) (Int.ofNat b)) 0)) = false := by rw [hw0]; rfl
  have q3 : ilt (Int.ofNat b - Int.ofNat a) (Int.ofNat lo) = false := by rw [ilt_say]; exact decide_eq_false (by simp only [Int.ofNat_eq_natCast]; omega)
  have q4 : ilt (Int.ofNat hi) (Int.ofNat b - Int.ofNat a) = false := by rw [ilt_say]; exact decide_eq_false (by simp only [Int.ofNat_eq_natCast]; omega)
  have q5 : (!(ieq (szE (wtP (l.map gi) a b).1 (wtP (l.map gi) a b).2) 0)) = false := by rw [hz]; rfl
  have q6 : chkC l [.agg #[gi (Int.ofNat lo), gi (Int.ofNat hi)], .agg #[gi (Int.ofNat a), gi (Int.ofNat b)], .agg #[gi (wtP (l.map gi) a b).1, gi (wtP (l.map gi) a b).2]] := ⟨rfl, okI_ok ok⟩
  have q7 : ieq (chkE l (m + 1) (Int.ofNat lo) (Int.ofNat hi) (Int.ofNat a) (Int.ofNat b) (wtP (l.map gi) a b).1 (wtP (l.map gi) a b).2) 0 = true := by simp only [chkE, fs_cons, fs_nil, hs, ht, hw0, hz, hx, cond_true, ieq00, wh_f]
  have q8 : (!(ieq (whenS (!(eqW (wnW (l.map gi) a b) (Int.ofNat a) (Int.ofNat b) (wtP (l.map gi) a b).1 (wtP (l.map gi) a b).2)) 19) 0)) = false := by
    have : eqW (wnW (l.map gi) a b) (Int.ofNat a) (Int.ofNat b) (wtP (l.map gi) a b).1 (wtP (l.map gi) a b).2 = true := by
      rw [eqW_say, wn1, wn2, wn3, wn4, ieq_self, ieq_self, ieq_self, ieq_self]; rfl
    rw [this]; rfl
  have q9 : ahasIndex (Int.ofNat t) (m + 1) = true := by show Nat.blt t (m + 1) = true; rw [Nat.blt_eq]; exact ht2
  have q10 : Nat.ble ((0 + t * 1) + List.length [gi v]) (List.length (l.map gi)) = true := by rw [Nat.ble_eq, List.length_map, hm]; show 0 + t * 1 + 1 ≤ m + 1; omega
  have f1a : List.all ((l.set t v).map gi) (flat 3) = true := flat_ints _
  have f2a : okT tiT ((l.set t v).map gi) (m + 1) := okIv lt (by omega)
  have f1b : List.all (l.reverse.map gi) (flat 3) = true := flat_ints _
  have f2b : okT tiT (l.reverse.map gi) (m + 1) := okIv lr (by omega)
  have q11 : ieq (besE (l.set t v) (m + 1) (Int.ofNat lo) (Int.ofNat hi)) 0 = true := bes_ok hs1 ht hx
  have q12 : ieq (besE l (m + 1) 1 (Int.ofNat hi)) 0 = true := bes_ok (lo := 1) hs (ln_ok (Nat.lt_succ_self 0) (by omega) g5) (by rw [ilt_say]; exact decide_eq_false (by simp only [Int.ofNat_eq_natCast]; omega))
  have q13 : ieq (besE l.reverse (m + 1) (Int.ofNat lo) (Int.ofNat hi)) 0 = true := bes_ok hs3 ht hx
  have q14 : ieq (szE (wtP ((l.set t v).map gi) a1 b1).1 (wtP ((l.set t v).map gi) a1 b1).2) 0 = true := by rw [wt_sz C1 B1.h1 B1.h2]; rfl
  have q15 : ieq (szE (wtP (l.map gi) a2 b2').1 (wtP (l.map gi) a2 b2').2) 0 = true := by rw [wt_sz C B2.h1 B2.h2]; rfl
  have q16 : (!(ilt (cpR (Prod.mk (wtP ((l.set t v).map gi) a1 b1).1 (wtP ((l.set t v).map gi) a1 b1).2) (Prod.mk (wtP (l.map gi) a b).1 (wtP (l.map gi) a b).2)) 0)) = true := by rw [cp_ge ok1 ok le1]; rfl
  have q17 : (!(ilt (cpR (Prod.mk (wtP (l.map gi) a2 b2').1 (wtP (l.map gi) a2 b2').2) (Prod.mk (wtP (l.map gi) a b).1 (wtP (l.map gi) a b).2)) 0)) = true := by rw [cp_ge ok2 ok le2]; rfl
  have q18 : (!(ilt (cpR (Prod.mk (wtP (l.map gi) a2 b2').1 (wtP (l.map gi) a2 b2').2) (Prod.mk ((bgJ (l.map gi) (m + 1)) * (bgJ (l.map gi) (m + 1))) 1)) 0)) = true := by rw [cp_ge ok2 okm le4]; rfl
  have q19 : Value.bool (ieq (wtP (l.map gi) a b).1 (wtP (l.map gi) a b).1 && (ieq (wtP (l.map gi) a b).2 (wtP (l.map gi) a b).2 && true)) = Value.bool true := b2 _ _
  have q20 : gi (fwrap IntKind.i64 (Int.ofNat (m + 1) - 1)) = goN m := by
    rw [fwrap_mid (by simp only [Int.ofNat_eq_natCast]; omega) (by simp only [Int.ofNat_eq_natCast]; omega), show Int.ofNat (m + 1) - 1 = Int.ofNat m by simp only [Int.ofNat_eq_natCast]; omega]
  have q21 : l.length = m + 1 := hm
  have q22 : m + 1 ≤ 128 := by omega
  refine callC_ok mixed orcWn_ok (askWn_ok true true true 0 0 lo hi) (Eq.mpr (bw_5 es l m k e row lo hi a b u w (wtP ((l.set t v).map gi) a1 b1) (wtP (l.map gi) a2 b2') (wtP (l.map gi) a b) _) ?_)
  simp only [tk2, decTv, all2, all6, forall_eq', toNat_w, tn1, and_true, true_and, fu, fw, ht1, ix, fx, hv, sp, B.e, B1.e, B2.e, B3.e, e3, wn1, wn2, wn3, wn4, wt1, wt2, fb, fm]
  repeat' (first | assumption | exact rfl | exact trivial | apply And.intro | intro _)
end Go.Proofs.YtihnnmejkpddeaaGreatDoor
/-! (OWN WORK. Stage 6: the law of the best window where the series is empty.) -/
namespace Go.Proofs.YtihnnmejkpddeaaGreatDoor
open Go Go.Am
noncomputable def bwSy (f : FuncId) : Sy := bif Nat.beq f 11 then syOf [(41, 55), (42, 31)] else syOf []
theorem bw_n (es : Nat → TypeId) (c d u w : Int) (K : Value → Prop) : callR Tryz.prog orcWn bwSy (askWn true true true 0 0 0 0) 60 11 #[nilS, .agg #[gi c, gi d], .agg #[g8 u, g8 w]] (wB6 es) (fun v _ => K v) = ((true = true ∧ K (Value.bool true))) := by kernel_rfl
theorem bw_e (es : Nat → TypeId) (q : Nat) (c d u w : Int) (K : Value → Prop) : callR Tryz.prog orcWn bwSy (askWn true true true 0 0 0 0) 60 11 #[.slice (some ⟨Tryz.prog.globals.size, 0, none⟩) 0 q, .agg #[gi c, gi d], .agg #[g8 u, g8 w]] ((wB6 es).push .dead) (fun v _ => K v) = ((true = true ∧ K (Value.bool true))) := by kernel_rfl
set_option maxRecDepth 100000 in
theorem bst_n (es : Nat → TypeId) (c d u w : Int) : CallJ Tryz.prog 11 #[nilS, .agg #[gi c, gi d], .agg #[g8 u, g8 w]] (wB6 es) (fun v _ => v = .bool true) :=
  CallJ.ofR mixed orcWn_ok (askWn_ok true true true 0 0 0 0) (Eq.mpr (bw_n es c d u w _) ⟨rfl, rfl⟩)
set_option maxRecDepth 100000 in
theorem bst_e (es : Nat → TypeId) (q : Nat) (c d u w : Int) : CallJ Tryz.prog 11 #[.slice (some ⟨Tryz.prog.globals.size, 0, none⟩) 0 q, .agg #[gi c, gi d], .agg #[g8 u, g8 w]] ((wB6 es).push .dead) (fun v _ => v = .bool true) :=
  CallJ.ofR mixed orcWn_ok (askWn_ok true true true 0 0 0 0) (Eq.mpr (bw_e es q c d u w _) ⟨rfl, rfl⟩)
end Go.Proofs.YtihnnmejkpddeaaGreatDoor
