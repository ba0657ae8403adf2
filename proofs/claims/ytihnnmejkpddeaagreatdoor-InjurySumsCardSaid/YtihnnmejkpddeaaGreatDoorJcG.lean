/-
  OWN WORK. Stage 6: errors of pairs; rounds of the loops over ratios.
-/
import Derived.Test.YtihnnmejkpddeaaGreatDoorJcF
namespace Go.Proofs.YtihnnmejkpddeaaGreatDoor
open Go Go.Am

theorem okI {l : List Int} {m : Nat} (hl : l.length = m + 1) (h1 : m + 1 ≤ 65536) : okT tiT (l.map gi) (m + 1) := okT_of (T := tiT) hl (Nat.succ_pos m) h1
theorem okP {l : List P2} {m : Nat} (hl : l.length = m + 1) (h1 : m + 1 ≤ 65536) : okT tpT (cellsP l) (m + 1) := okT_of (T := tpT) hl (Nat.succ_pos m) h1
theorem decT (l : List Int) : TellT.dec tiT (l.map gi) = l := decI_map l
theorem decU (l : List P2) : TellT.dec tpT (cellsP l) = l := decQ_cells l
noncomputable def orcJd : Orc := orElse 35 (s1O tiT nonC serO) orcJc
set_option maxRecDepth 100000 in
theorem orcJd_ok : OrcOk Tryz.prog orcJd := by
  refine s1O_ok orcJc_ok (fun _ _ _ _ => rfl) ?_
  rintro l m k e row r hl h1 rfl
  refine callC_ok mixed orcJc_ok askJc_ok (Eq.mpr (pse_run l m e row k _) ⟨⟨flat_ints l, trivial⟩, okI hl h1, rfl, ?_⟩)
  rw [decT]
  show gi (firstS [cnE (Int.ofNat (m + 1)) 128, firstE uE l]) = gi (serE l)
  unfold serE; rw [hl]
noncomputable def askJd : Asks := asksV Tryz.prog.globals.size 35 (s1AY tiT nonC serO) askJc
theorem askJd_ok : AsksOk orcJd askJd := asksV_ok (s1A_ok fun _ _ _ h => ⟨h, rfl⟩) askJc_ok
noncomputable abbrev cSe : Value := clF 35
noncomputable abbrev cQc : Value := clF 149
noncomputable abbrev i2H (a : List Int) (e row : Nat) (b : List Int) (e' row' : Nat) : AHeap := canon Tryz.prog [(a.map gi, e, row), (b.map gi, e', row')]
theorem cpa_run (a b : List Int) (m e row k m' e' row' k' : Nat) (K : Value → Prop) : callC Tryz.prog (exec Tryz.prog orcJd 10) (syOf [(9, 7), (12, 7)]) askJd (noLoops _) 40 104 #[liP (m + 1) k, slQ (m' + 1) k', cSe] (i2H a e row b e' row') (fun v _ => K v) = (((List.all (List.map gi a) (flat 3) = true ∧ True) ∧ okT tiT (List.map gi a) (m + 1) ∧ nonC (TellT.dec tiT (List.map gi a)) [] ∧ (List.all (List.map gi b) (flat 3) = true ∧ True) ∧ okT tiT (List.map gi b) (m' + 1) ∧ nonC (TellT.dec tiT (List.map gi b)) [] ∧ K (gi (firstS [serE (TellT.dec tiT (List.map gi a)), serE (TellT.dec tiT (List.map gi b)), whenS (!(ieq (Int.ofNat (m + 1)) (Int.ofNat (m' + 1)))) 2])))) := by kernel_rfl
noncomputable abbrev mxH3 (c : List Value) (e row : Nat) (y m : P2) : AHeap := canonT [] (fun _ => 0) Tryz.prog.globals.size [(c, e, row, true), ([gi y.1, gi y.2], 28, 0, false), ([gi m.1, gi m.2], 28, 0, false)]
theorem mxf_body (c : List Value) (e row n k j : Nat) (m1 m2 y1 y2 : Int) (g : Nat → Value) (Q : Exit → List Value → AHeap → Prop) : execC Tryz.prog (exec Tryz.prog orcJd 10) (syOf [(17, 1), (23, 2), (24, 46), (27, 1), (30, 2), (31, 46)]) askJd (noLoops _) 40 (loopOf Tryz.prog 161 0) (stOf 33 [(0, liP n k), (1, cQc), (4, ptN 1), (5, ptN 2), (6, goN j)] g) (mxH3 c e row (y1, y2) (m1, m2)) (told 33 [0, 1, 4, 5, 6] Q) = (((Nat.blt j n = true → (Nat.blt j n = true ∧ c[(0 + (j * 2))]? = Option.some (gi (intAt c (0 + (j * 2)))) ∧ c[((0 + (j * 2)) + 1)]? = Option.some (gi (intAt c ((0 + (j * 2)) + 1))) ∧ (ilt 0 (cpR (Prod.mk (intAt c (0 + (j * 2))) (intAt c ((0 + (j * 2)) + 1))) (Prod.mk m1 m2)) = true → (Nat.blt j n = true ∧ c[(0 + (j * 2))]? = Option.some (gi (intAt c (0 + (j * 2)))) ∧ c[((0 + (j * 2)) + 1)]? = Option.some (gi (intAt c ((0 + (j * 2)) + 1))) ∧ Q .normal [liP n k, cQc, ptN 1, ptN 2, gi (fwrap IntKind.i64 (Int.ofNat (j + 1)))] ((mxH3 c e row (Prod.mk y1 y2) (Prod.mk m1 m2)).set (nG1 + 2) (.cells ([] ++ ([gi (intAt c (0 + (j * 2))), gi (intAt c ((0 + (j * 2)) + 1))] ++ [])) 28 0 false)))) ∧ (ilt 0 (cpR (Prod.mk (intAt c (0 + (j * 2))) (intAt c ((0 + (j * 2)) + 1))) (Prod.mk m1 m2)) = false → Q .normal [liP n k, cQc, ptN 1, ptN 2, gi (fwrap IntKind.i64 (Int.ofNat (j + 1)))] (mxH3 c e row (Prod.mk y1 y2) (Prod.mk m1 m2))))) ∧ (Nat.blt j n = false → Q (.exit 0) [liP n k, cQc, ptN 1, ptN 2, goN j] (mxH3 c e row (Prod.mk y1 y2) (Prod.mk m1 m2))))) := by kernel_rfl
noncomputable abbrev ixH2 (c : List Value) (e row : Nat) (m : P2) : AHeap := canonT [] (fun _ => 0) Tryz.prog.globals.size [(c, e, row, true), ([gi m.1, gi m.2], 28, 0, false)]
theorem ixf_body (c : List Value) (e row n k j : Nat) (m1 m2 : Int) (g : Nat → Value) (Q : Exit → List Value → AHeap → Prop) : execC Tryz.prog (exec Tryz.prog orcJd 10) (syOf [(9, 1), (14, 2), (15, 46), (16, 48)]) askJd (noLoops _) 40 (loopOf Tryz.prog 162 0) (stOf 19 [(0, liP n k), (3, ptN 1), (4, gi 0), (7, goN n), (8, goN j)] g) (ixH2 c e row (m1, m2)) (told 19 [0, 3, 4, 7, 8] Q) = (((Nat.blt j n = true → (Nat.blt j n = true ∧ c[(0 + (j * 2))]? = Option.some (gi (intAt c (0 + (j * 2)))) ∧ c[((0 + (j * 2)) + 1)]? = Option.some (gi (intAt c ((0 + (j * 2)) + 1))) ∧ ((ieq m1 (intAt c (0 + (j * 2))) && (ieq m2 (intAt c ((0 + (j * 2)) + 1)) && true)) = true → Q .ret [liP n k, ptN 1, goN j, goN n, goN j] (ixH2 c e row (Prod.mk m1 m2))) ∧ ((ieq m1 (intAt c (0 + (j * 2))) && (ieq m2 (intAt c ((0 + (j * 2)) + 1)) && true)) = false → Q .normal [liP n k, ptN 1, gi 0, goN n, gi (fwrap IntKind.i64 (Int.ofNat (j + 1)))] (ixH2 c e row (Prod.mk m1 m2))))) ∧ (Nat.blt j n = false → Q (.exit 0) [liP n k, ptN 1, gi 0, goN n, goN j] (ixH2 c e row (Prod.mk m1 m2))))) := by kernel_rfl
end Go.Proofs.YtihnnmejkpddeaaGreatDoor
