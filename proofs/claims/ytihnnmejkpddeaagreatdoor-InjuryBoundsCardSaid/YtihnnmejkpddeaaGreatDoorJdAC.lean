/-
  OWN WORK. Stage 6: values of traces.
-/
import Derived.Test.YtihnnmejkpddeaaGreatDoorJcAE
/-! (OWN WORK. Stage 6: values of traces: their cells; small functions of a value, carried out.) -/
namespace Go.Proofs.YtihnnmejkpddeaaGreatDoor
open Go Go.Am
noncomputable abbrev slN (i n k : Nat) : Value := .slice (some ⟨Tryz.prog.globals.size + i, 0, none⟩) n k
noncomputable def shB (n : Nat) : Bool := bif !ilt 40 (Int.ofNat n) then true else ieq (Int.ofNat n) 129
noncomputable def shX (vs : List Value) (B : List Cells) : Option Out := s1Y none (fun _ n r => match r with
 | [] => some (.plain (.bool (shB n)))
 | _ => none) vs B
noncomputable def shY (vs : List Value) (B : List Cells) (K : Out → Prop) : Prop := s1Y False (fun _ n r => match r with
 | [] => K (.plain (.bool (shB n)))
 | _ => False) vs B
theorem shY_ok (vs : List Value) (B : List Cells) (K : Out → Prop) (h : shY vs B K) : ∃ o, shX vs B = some o ∧ K o := by
 rcases s1Y_inv (z := False) (f := fun _ n r => match r with
 | [] => K (.plain (.bool (shB n)))
 | _ => False) (vs := vs) (B := B) with q | ⟨cs, n, k, e, row, r, rfl, rfl⟩
 ·unfold shY at h; rw [q] at h; exact h.elim
 ·unfold shY at h
  rw [s1Y_at] at h
  unfold shX
  rw [s1Y_at]
  match r, h with
  | [], h => exact ⟨_, rfl, h⟩
abbrev V4 := Int × Int × Bool × Bool
noncomputable abbrev v4V (q : V4) : Value := .agg #[gi q.1, gi q.2.1, .bool q.2.2.1, .bool q.2.2.2]
noncomputable def v4j (q : V4) : List Value := [gi q.1, gi q.2.1, .bool q.2.2.1, .bool q.2.2.2]
noncomputable def cellsV : List V4 → List Value
 | [] => []
 | q :: l => gi q.1 :: gi q.2.1 :: .bool q.2.2.1 :: .bool q.2.2.2 :: cellsV l
theorem cellsV_flat : ∀ l : List V4, (cellsV l).all (flat 3) = true
 | [] => rfl
 | _ :: l => cellsV_flat l
noncomputable def boolOf : Value → Bool
 | .bool b => b
 | _ => false
noncomputable def decV : List Value → List V4
 | a :: b :: c :: d :: r => (intOf a, intOf b, boolOf c, boolOf d) :: decV r
 | _ => []
theorem decV_cells : ∀ l : List V4, decV (cellsV l) = l
 | [] => rfl
 | q :: l => by
  show (q.1, q.2.1, q.2.2.1, q.2.2.2) :: decV (cellsV l) = q :: l
  rw [decV_cells l]
noncomputable def tvT : TellT V4 := ⟨cellsV, decV, decV_cells, cellsV_flat⟩
theorem cellsV_len : ∀ l : List V4, (cellsV l).length = l.length * 4
 | [] => rfl
 | _ :: l => by
  show (cellsV l).length + 1 + 1 + 1 + 1 = (l.length + 1) * 4
  rw [cellsV_len l]; omega
theorem cellsV_at : ∀ {l : List V4} {j : Nat} (hj : j < l.length), (cellsV l)[0 + j * 4]? = some (gi l[j].1) ∧ (cellsV l)[0 + j * 4 + 1]? = some (gi l[j].2.1) ∧ (cellsV l)[0 + j * 4 + 2]? = some (.bool l[j].2.2.1) ∧ (cellsV l)[0 + j * 4 + 3]? = some (.bool l[j].2.2.2)
 | q :: l, 0, _ => ⟨rfl, rfl, rfl, rfl⟩
 | q :: l, j + 1, h => by
  have ih := cellsV_at (l := l) (j := j) (by simpa using h)
  rw [show 0 + (j + 1) * 4 = 0 + j * 4 + 4 by omega]
  exact ih
theorem cellsV_app : ∀ (a b : List V4), cellsV (a ++ b) = cellsV a ++ cellsV b
 | [], _ => rfl
 | q :: a, b => by
  show _ :: _ :: _ :: _ :: cellsV (a ++ b) = _
  rw [cellsV_app a b]; rfl
theorem le_run (a b : Int) (c d : Bool) (K : Value → Prop) : callC Tryz.prog (exec Tryz.prog orcJc 10) (syOf [(4, 1)]) askJc (noLoops _) 20 120 #[v4V (a, b, c, d)] (emp Tryz.prog) (fun v _ => K v) = (((c = true → K (gi (-2097152))) ∧ (c = false → K (gi a)))) := by kernel_rfl
theorem mo_run (a b : Int) (c d : Bool) (K : Value → Prop) : callC Tryz.prog (exec Tryz.prog orcJc 10) (syOf [(4, 1)]) askJc (noLoops _) 20 166 #[v4V (a, b, c, d)] (emp Tryz.prog) (fun v _ => K v) = (((d = true → K (gi 2097152)) ∧ (d = false → K (gi b)))) := by kernel_rfl
theorem ma_run (a b : Int) (c d : Bool) (K : Value → Prop) : callC Tryz.prog (exec Tryz.prog orcJc 10) (syOf []) askJc (noLoops _) 20 135 #[v4V (a, b, c, d)] (emp Tryz.prog) (fun v _ => K v) = (K (gi (if (IntKind.wrap .i64 (0 - a) : Int) > b then IntKind.wrap .i64 (0 - a) else b))) := by kernel_rfl
theorem io_t (a b : Int) (d : Bool) (K : Value → Prop) : callC Tryz.prog (exec Tryz.prog orcJc 10) (syOf []) askJc (noLoops _) 20 137 #[v4V (a, b, true, d)] (emp Tryz.prog) (fun v _ => K v) = (K (Value.bool true)) := by kernel_rfl
theorem io_f (a b : Int) (d : Bool) (K : Value → Prop) : callC Tryz.prog (exec Tryz.prog orcJc 10) (syOf []) askJc (noLoops _) 20 137 #[v4V (a, b, false, d)] (emp Tryz.prog) (fun v _ => K v) = (K (Value.bool d)) := by kernel_rfl
theorem rl_least (a b : Int) (c d : Bool) (K : Value → Prop) : callC Tryz.prog (exec Tryz.prog orcJc 10) (syOf [(11, 1), (13, 1)]) askJc (noLoops _) 20 138 #[v4V (a, b, c, d)] (emp Tryz.prog) (fun v _ => K v) = (((c = true → ((d = true → K (gi 0)) ∧ (d = false → K (gi (if (fwrap IntKind.i64 (0 - b) : Int) > 0 then fwrap IntKind.i64 (0 - b) else 0))))) ∧ (c = false → ((d = true → K (gi (if (0 : Int) > (if (a : Int) > 0 then a else 0) then 0 else (if (a : Int) > 0 then a else 0)))) ∧ (d = false → K (gi (if (fwrap IntKind.i64 (0 - b) : Int) > (if (a : Int) > 0 then a else 0) then fwrap IntKind.i64 (0 - b) else (if (a : Int) > 0 then a else 0)))))))) := by kernel_rfl
theorem rl_most (a b : Int) (c d : Bool) (K : Value → Prop) : callC Tryz.prog (exec Tryz.prog orcJc 10) (syOf []) askJc (noLoops _) 20 139 #[v4V (a, b, c, d)] (emp Tryz.prog) (fun v _ => K v) = (K (gi (if (fwrap IntKind.i64 (0 - a) : Int) > b then fwrap IntKind.i64 (0 - a) else b))) := by kernel_rfl
theorem inw_run (a b x y : Int) (K : Value → Prop) : callC Tryz.prog (exec Tryz.prog orcJc 10) (syOf []) askJc (noLoops _) 20 131 #[.agg #[gi a, gi b], gi x, gi y] (emp Tryz.prog) (fun v _ => K v) = (([gi a, gi b][1]? = Option.some (gi b) ∧ [gi a, gi b][0]? = Option.some (gi a) ∧ [gi a, gi b][1]? = Option.some (gi b) ∧ [gi a, gi b][1]? = Option.some (gi b) ∧ [gi a, gi b][0]? = Option.some (gi a) ∧ K (gi (firstS [withinS a x y, withinS b x y, whenS (ilt b a) 11])))) := by kernel_rfl
end Go.Proofs.YtihnnmejkpddeaaGreatDoor
/-! (OWN WORK. Stage 6: small functions of a value as known calls.) -/
namespace Go.Proofs.YtihnnmejkpddeaaGreatDoor
open Go Go.Am
noncomputable def v4L (f : Int → Int → Bool → Bool → Value) : List Value → Option Value
 | [.agg x] => match x.toList with
  | [.int .i64 a, .int .i64 b, .bool c, .bool d] => some (f a b c d)
  | _ => none
 | _ => none
theorem v4L_inv {f : Int → Int → Bool → Bool → Value} {l : List Value} {v : Value} (h : v4L f l = some v) : ∃ a b c d, l = [v4V (a, b, c, d)] ∧ v = f a b c d := by
 unfold v4L at h
 split at h
 ·split at h
  ·rename_i ha
   injection h with h
   exact ⟨_, _, _, _, by rw [agg_eq ha], h.symm⟩
  ·cases h
 ·cases h
noncomputable def leL (a _b : Int) (c _d : Bool) : Value := gi (bif c then -2097152 else a)
noncomputable def moLv (_a b : Int) (_c d : Bool) : Value := gi (bif d then 2097152 else b)
noncomputable def opL (_a _b : Int) (c d : Bool) : Value := .bool (c || d)
noncomputable def mabX (a b : Int) : Int := if (IntKind.wrap .i64 (0 - a) : Int) > b then IntKind.wrap .i64 (0 - a) else b
noncomputable def mabR (a b : Int) : Int := if (fwrap IntKind.i64 (0 - a) : Int) > b then fwrap IntKind.i64 (0 - a) else b
noncomputable def mx3 (x y : Int) : Int := if (y : Int) > (if (x : Int) > 0 then x else 0) then y else (if (x : Int) > 0 then x else 0)
noncomputable def larR (a b : Int) (c d : Bool) : Int := mx3 (bif c then 0 else a) (bif d then 0 else fwrap IntKind.i64 (0 - b))
noncomputable def laX (a b : Int) (c d : Bool) : Int := mx3 (bif c then -2097152 else a) (IntKind.wrap .i64 (0 - bif d then 2097152 else b))
noncomputable def inwL : List Value → Option Value
 | [.agg x, .int .i64 p, .int .i64 q] => match x.toList with
  | [.int .i64 a, .int .i64 b] => some (gi (firstS [withinS a p q, withinS b p q, whenS (ilt b a) 11]))
  | _ => none
 | _ => none
noncomputable def orcKa : Orc := orElse 131 (flatSpec inwL) (orElse 138 (flatSpec (v4L fun a b c d => gi (larR a b c d))) (orElse 139 (flatSpec (v4L fun a b _ _ => gi (mabR a b))) (orElse 137 (flatSpec (v4L opL)) (orElse 135 (flatSpec (v4L fun a b _ _ => gi (mabX a b))) (orElse 166 (flatSpec (v4L moLv)) (orElse 120 (flatSpec (v4L leL)) orcJc))))))
set_option maxRecDepth 100000 in
theorem orcKa_ok : OrcOk Tryz.prog orcKa := by
 refine flatSpec_ok (fun l v h => ?_) (flatSpec_ok (fun l v h => ?_) (flatSpec_ok (fun l v h => ?_) (flatSpec_ok (fun l v h => ?_) (flatSpec_ok (fun l v h => ?_) (flatSpec_ok (fun l v h => ?_) (flatSpec_ok (fun l v h => ?_) orcJc_ok))))))
 ·unfold inwL at h
  split at h
  ·split at h
   ·rename_i ha
    cases h
    obtain rfl := agg_eq ha
    exact ⟨rfl, rfl, callC_ok mixed orcJc_ok askJc_ok (Eq.mpr (inw_run _ _ _ _ _) ⟨rfl, rfl, rfl, rfl, rfl, rfl⟩)⟩
   ·cases h
  ·cases h
 ·obtain ⟨a, b, c, d, rfl, rfl⟩ := v4L_inv h
  refine ⟨rfl, rfl, callC_ok mixed orcJc_ok askJc_ok (Eq.mpr (rl_least a b c d _) ?_)⟩
  cases c with
  | true =>
   refine ⟨fun _ => ?_, (fun h => nomatch h)⟩
   cases d with
   | true => exact ⟨fun _ => rfl, (fun h => nomatch h)⟩
   | false => exact ⟨(fun h => nomatch h), fun _ => rfl⟩
  | false =>
   refine ⟨(fun h => nomatch h), fun _ => ?_⟩
   cases d with
   | true => exact ⟨fun _ => rfl, (fun h => nomatch h)⟩
   | false => exact ⟨(fun h => nomatch h), fun _ => rfl⟩
 ·obtain ⟨a, b, c, d, rfl, rfl⟩ := v4L_inv h
  exact ⟨rfl, rfl, callC_ok mixed orcJc_ok askJc_ok (Eq.mpr (rl_most a b c d _) rfl)⟩
 ·obtain ⟨a, b, c, d, rfl, rfl⟩ := v4L_inv h
  cases c with
  | true => exact ⟨rfl, rfl, callC_ok mixed orcJc_ok askJc_ok (Eq.mpr (io_t a b d _) rfl)⟩
  | false => exact ⟨rfl, rfl, callC_ok mixed orcJc_ok askJc_ok (Eq.mpr (io_f a b d _) rfl)⟩
 ·obtain ⟨a, b, c, d, rfl, rfl⟩ := v4L_inv h
  exact ⟨rfl, rfl, callC_ok mixed orcJc_ok askJc_ok (Eq.mpr (ma_run a b c d _) rfl)⟩
 ·obtain ⟨a, b, c, d, rfl, rfl⟩ := v4L_inv h
  exact ⟨rfl, rfl, callC_ok mixed orcJc_ok askJc_ok (Eq.mpr (mo_run a b c d _) ⟨fun h => by rw [h]; rfl, fun h => by rw [h]; rfl⟩)⟩
 ·obtain ⟨a, b, c, d, rfl, rfl⟩ := v4L_inv h
  exact ⟨rfl, rfl, callC_ok mixed orcJc_ok askJc_ok (Eq.mpr (le_run a b c d _) ⟨fun h => by rw [h]; rfl, fun h => by rw [h]; rfl⟩)⟩
noncomputable def askKa (_ : Nat) : Asks := skipA 131 (skipA 138 (skipA 139 (skipA 137 (skipA 135 (skipA 166 (skipA 120 askJc))))))
theorem askKa_ok (n : Nat) : AsksOk orcKa (askKa n) := skipA_ok (skipA_ok (skipA_ok (skipA_ok (skipA_ok (skipA_ok (skipA_ok askJc_ok))))))
theorem la_run (a b : Int) (c d : Bool) (K : Value → Prop) : callC Tryz.prog (exec Tryz.prog orcKa 10) (syOf []) (askKa 0) (noLoops _) 20 134 #[v4V (a, b, c, d)] (emp Tryz.prog) (fun v _ => K v) = (Value.agg #[gi a, gi b, Value.bool c, Value.bool d] = Value.agg #[gi a, gi b, Value.bool c, Value.bool d] ∧ K (gi (laX a b c d))) := by kernel_rfl
theorem ctv_run (a b : Int) (c d : Bool) (K : Value → Prop) : callC Tryz.prog (exec Tryz.prog orcKa 10) (syOf []) (askKa 0) (noLoops _) 20 130 #[v4V (a, b, c, d)] (emp Tryz.prog) (fun v _ => K v) = (K (gi (firstS [withinS a (-16384) 16384, withinS b (-16384) 16384, whenS (ilt b a) 11]))) := by kernel_rfl
end Go.Proofs.YtihnnmejkpddeaaGreatDoor
/-! (OWN WORK. Stage 6: absolute values of values of traces and their check as known calls; rounds of loops over traces.) -/
namespace Go.Proofs.YtihnnmejkpddeaaGreatDoor
open Go Go.Am
noncomputable def ctL (a b : Int) (_ _ : Bool) : Int := firstS [withinS a (-16384) 16384, withinS b (-16384) 16384, whenS (ilt b a) 11]
noncomputable def orcKb : Orc := orElse 134 (flatSpec (v4L fun a b c d => gi (laX a b c d))) (orElse 130 (flatSpec (v4L fun a b c d => gi (ctL a b c d))) orcKa)
set_option maxRecDepth 100000 in
theorem orcKb_ok : OrcOk Tryz.prog orcKb := by
 refine flatSpec_ok (fun l v h => ?_) (flatSpec_ok (fun l v h => ?_) orcKa_ok)
 ·obtain ⟨a, b, c, d, rfl, rfl⟩ := v4L_inv h
  exact ⟨rfl, rfl, callC_ok mixed orcKa_ok (askKa_ok 0) (Eq.mpr (la_run a b c d _) ⟨rfl, rfl⟩)⟩
 ·obtain ⟨a, b, c, d, rfl, rfl⟩ := v4L_inv h
  exact ⟨rfl, rfl, callC_ok mixed orcKa_ok (askKa_ok 0) (Eq.mpr (ctv_run a b c d _) rfl)⟩
noncomputable def askKb (n : Nat) : Asks := skipA 134 (skipA 130 (askKa n))
theorem askKb_ok (n : Nat) : AsksOk orcKb (askKb n) := skipA_ok (skipA_ok (askKa_ok n))
noncomputable abbrev cCt1 : Value := clF 130
noncomputable abbrev cIo : Value := clF 137
theorem eb_val (c : List Value) (e row n k j : Nat) (g : Nat → Value) (Q : Exit → List Value → AHeap → Prop) : execC Tryz.prog (exec Tryz.prog orcKb 10) (syOf [(11, 1), (12, 2), (13, 46), (18, 1)]) (askKb 0) (noLoops _) 40 (loopOf Tryz.prog 129 0) (stOf 21 [(1, cCt1), (4, gi 0), (8, liP n k), (9, goN n), (10, goN j)] g) (liH c e row) (told 21 [1, 4, 8, 9, 10] Q) = (((Nat.blt j n = true → (Nat.blt j n = true ∧ c[(0 + (j * 4))]? = Option.some (gi (intAt c (0 + (j * 4)))) ∧ c[((0 + (j * 4)) + 1)]? = Option.some (gi (intAt c ((0 + (j * 4)) + 1))) ∧ c[(((0 + (j * 4)) + 1) + 1)]? = Option.some (Value.bool (boolAt c (((0 + (j * 4)) + 1) + 1))) ∧ c[((((0 + (j * 4)) + 1) + 1) + 1)]? = Option.some (Value.bool (boolAt c ((((0 + (j * 4)) + 1) + 1) + 1))) ∧ ((!(ieq (ctL (intAt c (0 + (j * 4))) (intAt c ((0 + (j * 4)) + 1)) (boolAt c (((0 + (j * 4)) + 1) + 1)) (boolAt c ((((0 + (j * 4)) + 1) + 1) + 1))) 0)) = true → Q .ret [cCt1, gi (ctL (intAt c (0 + (j * 4))) (intAt c ((0 + (j * 4)) + 1)) (boolAt c (((0 + (j * 4)) + 1) + 1)) (boolAt c ((((0 + (j * 4)) + 1) + 1) + 1))), liP n k, goN n, goN j] (((liH c e row).push (.cells [gi 0, gi 0, Value.bool false, Value.bool false] 174 0 false)).set (nG1 + 1) (.cells ([] ++ ([gi (intAt c (0 + (j * 4))), gi (intAt c ((0 + (j * 4)) + 1)), Value.bool (boolAt c (((0 + (j * 4)) + 1) + 1)), Value.bool (boolAt c ((((0 + (j * 4)) + 1) + 1) + 1))] ++ [])) 174 0 false))) ∧ ((!(ieq (ctL (intAt c (0 + (j * 4))) (intAt c ((0 + (j * 4)) + 1)) (boolAt c (((0 + (j * 4)) + 1) + 1)) (boolAt c ((((0 + (j * 4)) + 1) + 1) + 1))) 0)) = false → Q .normal [cCt1, gi 0, liP n k, goN n, gi (fwrap IntKind.i64 (Int.ofNat (j + 1)))] (((liH c e row).push (.cells [gi 0, gi 0, Value.bool false, Value.bool false] 174 0 false)).set (nG1 + 1) (.cells ([] ++ ([gi (intAt c (0 + (j * 4))), gi (intAt c ((0 + (j * 4)) + 1)), Value.bool (boolAt c (((0 + (j * 4)) + 1) + 1)), Value.bool (boolAt c ((((0 + (j * 4)) + 1) + 1) + 1))] ++ [])) 174 0 false))))) ∧ (Nat.blt j n = false → Q (.exit 0) [cCt1, gi 0, liP n k, goN n, goN j] (liH c e row)))) := by kernel_rfl
theorem rb_tr (c : List Value) (e row n k j : Nat) (g : Nat → Value) (Q : Exit → List Value → AHeap → Prop) : execC Tryz.prog (exec Tryz.prog orcKb 10) (syOf [(15, 1), (20, 2), (22, 3), (26, 2), (28, 3), (32, 2), (34, 3), (37, 2), (39, 3), (45, 1)]) (askKb 0) (noLoops _) 40 (loopOf Tryz.prog 53 0) (stOf 47 [(0, liP n k), (2, gi 0), (4, goN j)] g) (liH c e row) (told 47 [0, 2, 4] Q) = (((Nat.blt j n = true → (Nat.blt j n = true ∧ c[((0 + (j * 4)) + 0)]? = Option.some (gi (intAt c ((0 + (j * 4)) + 0))) ∧ Nat.blt j n = true ∧ c[((0 + (j * 4)) + 1)]? = Option.some (gi (intAt c ((0 + (j * 4)) + 1))) ∧ Nat.blt j n = true ∧ c[((0 + (j * 4)) + 0)]? = Option.some (gi (intAt c ((0 + (j * 4)) + 0))) ∧ Nat.blt j n = true ∧ c[((0 + (j * 4)) + 1)]? = Option.some (gi (intAt c ((0 + (j * 4)) + 1))) ∧ c[((0 + (j * 4)) + 1)]? = Option.some (gi (intAt c ((0 + (j * 4)) + 1))) ∧ c[((0 + (j * 4)) + 0)]? = Option.some (gi (intAt c ((0 + (j * 4)) + 0))) ∧ c[((0 + (j * 4)) + 1)]? = Option.some (gi (intAt c ((0 + (j * 4)) + 1))) ∧ c[((0 + (j * 4)) + 1)]? = Option.some (gi (intAt c ((0 + (j * 4)) + 1))) ∧ c[((0 + (j * 4)) + 0)]? = Option.some (gi (intAt c ((0 + (j * 4)) + 0))) ∧ ((!(ieq (firstS [uE (intAt c ((0 + (j * 4)) + 0)), uE (intAt c ((0 + (j * 4)) + 1)), whenS (ilt (intAt c ((0 + (j * 4)) + 1)) (intAt c ((0 + (j * 4)) + 0))) 11]) 0)) = true → Q .ret [liP n k, gi (firstS [uE (intAt c ((0 + (j * 4)) + 0)), uE (intAt c ((0 + (j * 4)) + 1)), whenS (ilt (intAt c ((0 + (j * 4)) + 1)) (intAt c ((0 + (j * 4)) + 0))) 11]), goN j] ((liH c e row).push (.cells [gi (uE (intAt c ((0 + (j * 4)) + 0))), gi (uE (intAt c ((0 + (j * 4)) + 1))), gi (whenS (ilt (intAt c ((0 + (j * 4)) + 1)) (intAt c ((0 + (j * 4)) + 0))) 11)] 3 2 false))) ∧ ((!(ieq (firstS [uE (intAt c ((0 + (j * 4)) + 0)), uE (intAt c ((0 + (j * 4)) + 1)), whenS (ilt (intAt c ((0 + (j * 4)) + 1)) (intAt c ((0 + (j * 4)) + 0))) 11]) 0)) = false → Q .normal [liP n k, gi 0, gi (fwrap IntKind.i64 (Int.ofNat (j + 1)))] ((liH c e row).push (.cells [gi (uE (intAt c ((0 + (j * 4)) + 0))), gi (uE (intAt c ((0 + (j * 4)) + 1))), gi (whenS (ilt (intAt c ((0 + (j * 4)) + 1)) (intAt c ((0 + (j * 4)) + 0))) 11)] 3 2 false))))) ∧ (Nat.blt j n = false → Q (.exit 0) [liP n k, gi 0, goN j] (liH c e row)))) := by kernel_rfl
theorem ixv_body (c : List Value) (e row n k j : Nat) (g : Nat → Value) (Q : Exit → List Value → AHeap → Prop) : execC Tryz.prog (exec Tryz.prog orcKb 10) (syOf [(9, 1), (14, 2), (15, 46), (16, 1)]) (askKb 0) (noLoops _) 40 (loopOf Tryz.prog 165 0) (stOf 19 [(0, liP n k), (1, cIo), (4, gi 0), (7, goN n), (8, goN j)] g) (liH c e row) (told 19 [0, 1, 4, 7, 8] Q) = (((Nat.blt j n = true → (Nat.blt j n = true ∧ c[(0 + (j * 4))]? = Option.some (gi (intAt c (0 + (j * 4)))) ∧ c[((0 + (j * 4)) + 1)]? = Option.some (gi (intAt c ((0 + (j * 4)) + 1))) ∧ c[(((0 + (j * 4)) + 1) + 1)]? = Option.some (Value.bool (boolAt c (((0 + (j * 4)) + 1) + 1))) ∧ c[((((0 + (j * 4)) + 1) + 1) + 1)]? = Option.some (Value.bool (boolAt c ((((0 + (j * 4)) + 1) + 1) + 1))) ∧ ((boolAt c (((0 + (j * 4)) + 1) + 1) || boolAt c ((((0 + (j * 4)) + 1) + 1) + 1)) = true → Q .ret [liP n k, cIo, goN j, goN n, goN j] (liH c e row)) ∧ ((boolAt c (((0 + (j * 4)) + 1) + 1) || boolAt c ((((0 + (j * 4)) + 1) + 1) + 1)) = false → Q .normal [liP n k, cIo, gi 0, goN n, gi (fwrap IntKind.i64 (Int.ofNat (j + 1)))] (liH c e row)))) ∧ (Nat.blt j n = false → Q (.exit 0) [liP n k, cIo, gi 0, goN n, goN j] (liH c e row)))) := by kernel_rfl
theorem va_bodyA (c : List Value) (n k e row j : Nat) (g : Nat → Value) (Q : Exit → List Value → AHeap → Prop) : execC Tryz.prog (exec Tryz.prog orcKb 10) (syOf [(9, 1), (10, 2), (11, 46)]) (askKb 0) (noLoops _) 40 (loopOf Tryz.prog 51 0) (stOf 18 [(3, nilS), (6, liP n k), (7, goN n), (8, goN j)] g) (liH c e row) (told 18 [3, 6, 7, 8] Q) = (((Nat.blt j n = true → (Nat.blt j n = true ∧ c[(0 + (j * 4))]? = Option.some (gi (intAt c (0 + (j * 4)))) ∧ c[((0 + (j * 4)) + 1)]? = Option.some (gi (intAt c ((0 + (j * 4)) + 1))) ∧ c[(((0 + (j * 4)) + 1) + 1)]? = Option.some (Value.bool (boolAt c (((0 + (j * 4)) + 1) + 1))) ∧ c[((((0 + (j * 4)) + 1) + 1) + 1)]? = Option.some (Value.bool (boolAt c ((((0 + (j * 4)) + 1) + 1) + 1))) ∧ Q .normal [Value.slice (some ⟨nG1 + 3, 0, none⟩) 1 1, liP n k, goN n, gi (fwrap IntKind.i64 (Int.ofNat (j + 1)))] (((((liH c e row).push (.cells [gi 0, gi 0, Value.bool false, Value.bool false] 179 0 false)).set (nG1 + 1) (.cells ([] ++ ([gi (intAt c (0 + (j * 4))), gi (intAt c ((0 + (j * 4)) + 1)), Value.bool (boolAt c (((0 + (j * 4)) + 1) + 1)), Value.bool (boolAt c ((((0 + (j * 4)) + 1) + 1) + 1))] ++ [])) 179 0 false)).push (.cells [gi (intAt c (0 + (j * 4))), gi (intAt c ((0 + (j * 4)) + 1)), Value.bool (boolAt c (((0 + (j * 4)) + 1) + 1)), Value.bool (boolAt c ((((0 + (j * 4)) + 1) + 1) + 1))] 174 5 false)).push (.cells ([] ++ [gi (intAt c (0 + (j * 4))), gi (intAt c ((0 + (j * 4)) + 1)), Value.bool (boolAt c (((0 + (j * 4)) + 1) + 1)), Value.bool (boolAt c ((((0 + (j * 4)) + 1) + 1) + 1))]) 174 5 false)))) ∧ (Nat.blt j n = false → Q (.exit 0) [nilS, liP n k, goN n, goN j] (liH c e row)))) := by kernel_rfl
theorem va_bodyD (c d : List Value) (n k e row j q : Nat) (g : Nat → Value) (Q : Exit → List Value → AHeap → Prop) : execC Tryz.prog (exec Tryz.prog orcKb 10) (syOf [(9, 1), (10, 2), (11, 46), (15, 10)]) (askKb 0) (noLoops _) 40 (loopOf Tryz.prog 51 0) (stOf 18 [(3, .slice (some ⟨nG1 + 1, 0, none⟩) q q), (6, liP n k), (7, goN n), (8, goN j)] g) (canonT [] (fun _ => 0) Tryz.prog.globals.size [(c, e, row, true), (d, 174, 5, false)]) (told 18 [3, 6, 7, 8] Q) = (((Nat.blt j n = true → (Nat.blt j n = true ∧ c[(0 + (j * 4))]? = Option.some (gi (intAt c (0 + (j * 4)))) ∧ c[((0 + (j * 4)) + 1)]? = Option.some (gi (intAt c ((0 + (j * 4)) + 1))) ∧ c[(((0 + (j * 4)) + 1) + 1)]? = Option.some (Value.bool (boolAt c (((0 + (j * 4)) + 1) + 1))) ∧ c[((((0 + (j * 4)) + 1) + 1) + 1)]? = Option.some (Value.bool (boolAt c ((((0 + (j * 4)) + 1) + 1) + 1))) ∧ Nat.ble (q + 1) q = false ∧ Nat.ble (((2 * (q + 1)) + 256) * 24) 281474976710656 = true ∧ (q * 4) = List.length d ∧ Q .normal [Value.slice (some ⟨nG1 + 4, 0, none⟩) (q + 1) (q + 1), liP n k, goN n, gi (fwrap IntKind.i64 (Int.ofNat (j + 1)))] ((((((canonT [] (fun x => 0) 4 [Prod.mk c (Prod.mk e (Prod.mk row true)), Prod.mk d (Prod.mk 174 (Prod.mk 5 false))]).push (.cells [gi 0, gi 0, Value.bool false, Value.bool false] 179 0 false)).set (nG1 + 2) (.cells ([] ++ ([gi (intAt c (0 + (j * 4))), gi (intAt c ((0 + (j * 4)) + 1)), Value.bool (boolAt c (((0 + (j * 4)) + 1) + 1)), Value.bool (boolAt c ((((0 + (j * 4)) + 1) + 1) + 1))] ++ [])) 179 0 false)).push (.cells [gi (intAt c (0 + (j * 4))), gi (intAt c ((0 + (j * 4)) + 1)), Value.bool (boolAt c (((0 + (j * 4)) + 1) + 1)), Value.bool (boolAt c ((((0 + (j * 4)) + 1) + 1) + 1))] 174 5 false)).set (nG1 + 1) (.dead)).push (.cells (d ++ [gi (intAt c (0 + (j * 4))), gi (intAt c ((0 + (j * 4)) + 1)), Value.bool (boolAt c (((0 + (j * 4)) + 1) + 1)), Value.bool (boolAt c ((((0 + (j * 4)) + 1) + 1) + 1))]) 174 5 false)))) ∧ (Nat.blt j n = false → Q (.exit 0) [slQ q q, liP n k, goN n, goN j] (canonT [] (fun x => 0) 4 [Prod.mk c (Prod.mk e (Prod.mk row true)), Prod.mk d (Prod.mk 174 (Prod.mk 5 false))])))) := by kernel_rfl
end Go.Proofs.YtihnnmejkpddeaaGreatDoor
