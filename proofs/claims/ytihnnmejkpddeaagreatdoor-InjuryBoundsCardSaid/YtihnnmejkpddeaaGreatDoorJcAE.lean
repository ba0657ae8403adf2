/-
  OWN WORK. Stage 6: names, checks of series.
-/
import Derived.Test.YtihnnmejkpddeaaGreatDoorEuM
import Derived.Test.YtihnnmejkpddeaaGreatDoorLsA
import Derived.Test.YtihnnmejkpddeaaGreatDoorAmV
/-! (OWN WORK. Stage 6: small functions, carried out: how ratios compare, absolute values, sums by limits, numbers of elements, limits.) -/
namespace Go.Proofs.YtihnnmejkpddeaaGreatDoor
open Go Go.Am
theorem nan_run (x : Int) (K : Value → Prop) : callC Tryz.prog (exec Tryz.prog orcEv 10) (syOf []) askEv (noLoops _) 20 194 #[gi x] (emp Tryz.prog) (fun v _ => K v) = (K (Value.bool (!(ieq x x)))) := by kernel_rfl
noncomputable def nanL : List Value → Option Value
 | [.int .i64 _] => some (.bool false)
 | _ => none
noncomputable def orcJa : Orc := orElse 194 (flatSpec nanL) orcEv
set_option maxRecDepth 100000 in
theorem orcJa_ok : OrcOk Tryz.prog orcJa := by
 refine flatSpec_ok (fun l v h => ?_) orcEv_ok
 unfold nanL at h
 split at h
 ·cases h
  exact ⟨rfl, rfl, callC_ok mixed orcEv_ok askEv_ok (Eq.mpr (nan_run _ _) (by rw [ieq_self]; rfl))⟩
 ·cases h
noncomputable def askJa : Asks := skipA 194 askEv
theorem askJa_ok : AsksOk orcJa askJa := skipA_ok askEv_ok
end Go.Proofs.YtihnnmejkpddeaaGreatDoor
/-! (OWN WORK. Stage 6: small functions, carried out: integers that compare, absolute values, numbers of elements, limits.) -/
namespace Go.Proofs.YtihnnmejkpddeaaGreatDoor
open Go Go.Am
theorem cp_run (x y : Int) (K : Value → Prop) : callC Tryz.prog (exec Tryz.prog orcJa 10) (syOf [(16, 1), (19, 1)]) askJa (noLoops _) 20 178 #[gi x, gi y] (emp Tryz.prog) (fun v _ => K v) = (((ilt x y = true → K (gi (-1))) ∧ (ilt x y = false → ((ilt y x = true → K (gi 1)) ∧ (ilt y x = false → K (gi 0)))))) := by kernel_rfl
theorem ab_run (x : Int) (K : Value → Prop) : callC Tryz.prog (exec Tryz.prog orcJa 10) (syOf []) askJa (noLoops _) 20 164 #[gi x] (emp Tryz.prog) (fun v _ => K v) = (K (gi (if (IntKind.wrap .i64 (0 - x) : Int) > x then IntKind.wrap .i64 (0 - x) else x))) := by kernel_rfl
theorem ra_abs (x : Int) (K : Value → Prop) : callC Tryz.prog (exec Tryz.prog orcJa 10) (syOf []) askJa (noLoops _) 20 112 #[gi x] (emp Tryz.prog) (fun v _ => K v) = (K (gi (if (fwrap IntKind.i64 (0 - x) : Int) > x then fwrap IntKind.i64 (0 - x) else x))) := by kernel_rfl
theorem ct_run (x y : Int) (K : Value → Prop) : callC Tryz.prog (exec Tryz.prog orcJa 10) (syOf []) askJa (noLoops _) 20 102 #[gi x, gi y] (emp Tryz.prog) (fun v _ => K v) = (K (gi (firstS [whenS (ieq x 0) 12, whenS (ilt y x) 5]))) := by kernel_rfl
theorem cc_run (x y : Int) (K : Value → Prop) : callC Tryz.prog (exec Tryz.prog orcJa 10) (syOf []) askJa (noLoops _) 20 93 #[gi x, gi y] (emp Tryz.prog) (fun v _ => K v) = (K (gi (firstS [whenS (ieq x 0) 12, whenS (ilt y x) 5]))) := by kernel_rfl
theorem cu_run (x : Int) (K : Value → Prop) : callC Tryz.prog (exec Tryz.prog orcJa 10) (syOf []) askJa (noLoops _) 20 96 #[gi x] (emp Tryz.prog) (fun v _ => K v) = (K (gi (withinS x (-16384) 16384))) := by kernel_rfl
theorem cl_run (x : Int) (K : Value → Prop) : callC Tryz.prog (exec Tryz.prog orcJa 10) (syOf []) askJa (noLoops _) 20 30 #[gi x] (emp Tryz.prog) (fun v _ => K v) = (K (gi (withinS x (-16384) 16384))) := by kernel_rfl
theorem cs_run (x : Int) (K : Value → Prop) : callC Tryz.prog (exec Tryz.prog orcJa 10) (syOf []) askJa (noLoops _) 20 100 #[gi x] (emp Tryz.prog) (fun v _ => K v) = (K (gi (withinS x 1 128))) := by kernel_rfl
theorem cn_run (x : Int) (K : Value → Prop) : callC Tryz.prog (exec Tryz.prog orcJa 10) (syOf []) askJa (noLoops _) 20 31 #[gi x] (emp Tryz.prog) (fun v _ => K v) = (K (gi (withinS x 1 128))) := by kernel_rfl
theorem en_run (x y : Int) (K : Value → Prop) : callC Tryz.prog (exec Tryz.prog orcJa 10) (syOf []) askJa (noLoops _) 20 89 #[gi x, gi y] (emp Tryz.prog) (fun v _ => K v) = (K (gi (whenS (ilt x y) 16))) := by kernel_rfl
theorem li_run (x y : Int) (K : Value → Prop) : callR Tryz.prog orcJa (fun _ => syOf [(20, 15)]) askJa 80 105 #[.agg #[gi x, gi y]] (emp Tryz.prog) (fun v _ => K v) = (K (gi (whenS (!(ieq (if (1000 : Int) < (if (1 : Int) > x then 1 else x) then 1000 else (if (1 : Int) > x then 1 else x)) x && (ieq (if (1000 : Int) < (if (1 : Int) > y then 1 else y) then 1000 else (if (1 : Int) > y then 1 else y)) y && true))) 3))) := by kernel_rfl
theorem rl_run (x y : Int) (K : Value → Prop) : callC Tryz.prog (exec Tryz.prog orcJa 10) (syOf []) askJa (noLoops _) 20 38 #[.agg #[gi x, gi y]] (emp Tryz.prog) (fun v _ => K v) = ([gi x, gi y][1]? = Option.some (gi y) ∧ K (gi (firstS [withinS x 1 1000, withinS y 1 1000]))) := by kernel_rfl
end Go.Proofs.YtihnnmejkpddeaaGreatDoor
/-! (OWN WORK. Stage 6: small functions, as known calls.) -/
namespace Go.Proofs.YtihnnmejkpddeaaGreatDoor
open Go Go.Am
noncomputable def uE (x : Int) : Int := withinS x (-16384) 16384
noncomputable def cnE (x y : Int) : Int := firstS [whenS (ieq x 0) 12, whenS (ilt y x) 5]
noncomputable def limE (x y : Int) : Int := firstS [withinS x 1 1000, withinS y 1 1000]
noncomputable def cpL : List Value → Option Value
 | [.int .i64 x, .int .i64 y] => some (gi (cpE x y))
 | _ => none
noncomputable def cnL : List Value → Option Value
 | [.int .i64 x, .int .i64 y] => some (gi (cnE x y))
 | _ => none
noncomputable def enL : List Value → Option Value
 | [.int .i64 x, .int .i64 y] => some (gi (whenS (ilt x y) 16))
 | _ => none
noncomputable def uL : List Value → Option Value
 | [.int .i64 x] => some (gi (uE x))
 | _ => none
noncomputable def smL : List Value → Option Value
 | [.int .i64 x] => some (gi (withinS x 1 128))
 | _ => none
noncomputable def abP (x : Int) : Int := if IntKind.wrap .i64 (0 - x) > x then IntKind.wrap .i64 (0 - x) else x
noncomputable def abR (x : Int) : Int := if fwrap .i64 (0 - x) > x then fwrap .i64 (0 - x) else x
noncomputable def abPL : List Value → Option Value
 | [.int .i64 x] => some (gi (abP x))
 | _ => none
noncomputable def abRL : List Value → Option Value
 | [.int .i64 x] => some (gi (abR x))
 | _ => none
noncomputable def limL : List Value → Option Value
 | [.agg a] => match a.toList with
  | [.int .i64 x, .int .i64 y] => some (gi (limE x y))
  | _ => none
 | _ => none
theorem nr_eq (x : Int) : ieq (if (1000 : Int) < (if (1 : Int) > x then 1 else x) then 1000 else (if (1 : Int) > x then 1 else x)) x = (!ilt x 1 && !ilt 1000 x) := by
 rw [ieq_dec, ilt_say, ilt_say, Bool.eq_iff_iff]
 simp only [decide_eq_true_eq, Bool.and_eq_true, Bool.not_eq_true', decide_eq_false_iff_not]
 split <;> split <;> omega
theorem lim_same (x y : Int) : whenS (!(ieq (if (1000 : Int) < (if (1 : Int) > x then 1 else x) then 1000 else (if (1 : Int) > x then 1 else x)) x && (ieq (if (1000 : Int) < (if (1 : Int) > y then 1 else y) then 1000 else (if (1 : Int) > y then 1 else y)) y && true))) 3 = limE x y := by
 rw [nr_eq, nr_eq]
 unfold limE withinS
 cases ilt x 1 <;> cases ilt 1000 x <;> cases ilt y 1 <;> cases ilt 1000 y <;> rfl
noncomputable def orcJb : Orc := orElse 105 (flatSpec limL) (orElse 38 (flatSpec limL) (orElse 89 (flatSpec enL) (orElse 31 (flatSpec smL) (orElse 100 (flatSpec smL) (orElse 30 (flatSpec uL) (orElse 96 (flatSpec uL) (orElse 93 (flatSpec cnL) (orElse 102 (flatSpec cnL) (orElse 112 (flatSpec abRL) (orElse 164 (flatSpec abPL) (orElse 178 (flatSpec cpL) orcJa)))))))))))
theorem cp_ok {x y : Int} : (ilt x y = true → gi (-1) = gi (cpE x y)) ∧ (ilt x y = false → ((ilt y x = true → gi 1 = gi (cpE x y)) ∧ (ilt y x = false → gi 0 = gi (cpE x y)))) := by
 unfold cpE
 cases ilt x y <;> cases ilt y x <;> refine ⟨fun h => ?_, fun h => ⟨fun h => ?_, fun h => ?_⟩⟩ <;> first | rfl | contradiction
set_option maxRecDepth 100000 in
theorem orcJb_ok : OrcOk Tryz.prog orcJb := by
 refine flatSpec_ok (fun l v h => ?_) (flatSpec_ok (fun l v h => ?_) (flatSpec_ok (fun l v h => ?_) (flatSpec_ok (fun l v h => ?_) (flatSpec_ok (fun l v h => ?_) (flatSpec_ok (fun l v h => ?_) (flatSpec_ok (fun l v h => ?_) (flatSpec_ok (fun l v h => ?_) (flatSpec_ok (fun l v h => ?_) (flatSpec_ok (fun l v h => ?_) (flatSpec_ok (fun l v h => ?_) (flatSpec_ok (fun l v h => ?_) orcJa_ok)))))))))))
 ·unfold limL at h
  split at h
  ·split at h
   ·rename_i ha
    cases h
    obtain rfl := agg_eq ha
    exact ⟨rfl, rfl, CallJ.ofR mixed orcJa_ok askJa_ok (Eq.mpr (li_run _ _ _) (congrArg gi (lim_same _ _)))⟩
   ·cases h
  ·cases h
 ·unfold limL at h
  split at h
  ·split at h
   ·rename_i ha
    cases h
    obtain rfl := agg_eq ha
    exact ⟨rfl, rfl, callC_ok mixed orcJa_ok askJa_ok (Eq.mpr (rl_run _ _ _) ⟨rfl, rfl⟩)⟩
   ·cases h
  ·cases h
 ·unfold enL at h
  split at h
  ·cases h; exact ⟨rfl, rfl, callC_ok mixed orcJa_ok askJa_ok (Eq.mpr (en_run _ _ _) rfl)⟩
  ·cases h
 ·unfold smL at h
  split at h
  ·cases h; exact ⟨rfl, rfl, callC_ok mixed orcJa_ok askJa_ok (Eq.mpr (cn_run _ _) rfl)⟩
  ·cases h
 ·unfold smL at h
  split at h
  ·cases h; exact ⟨rfl, rfl, callC_ok mixed orcJa_ok askJa_ok (Eq.mpr (cs_run _ _) rfl)⟩
  ·cases h
 ·unfold uL at h
  split at h
  ·cases h; exact ⟨rfl, rfl, callC_ok mixed orcJa_ok askJa_ok (Eq.mpr (cl_run _ _) rfl)⟩
  ·cases h
 ·unfold uL at h
  split at h
  ·cases h; exact ⟨rfl, rfl, callC_ok mixed orcJa_ok askJa_ok (Eq.mpr (cu_run _ _) rfl)⟩
  ·cases h
 ·unfold cnL at h
  split at h
  ·cases h; exact ⟨rfl, rfl, callC_ok mixed orcJa_ok askJa_ok (Eq.mpr (cc_run _ _ _) rfl)⟩
  ·cases h
 ·unfold cnL at h
  split at h
  ·cases h; exact ⟨rfl, rfl, callC_ok mixed orcJa_ok askJa_ok (Eq.mpr (ct_run _ _ _) rfl)⟩
  ·cases h
 ·unfold abRL at h
  split at h
  ·cases h; exact ⟨rfl, rfl, callC_ok mixed orcJa_ok askJa_ok (Eq.mpr (ra_abs _ _) rfl)⟩
  ·cases h
 ·unfold abPL at h
  split at h
  ·cases h; exact ⟨rfl, rfl, callC_ok mixed orcJa_ok askJa_ok (Eq.mpr (ab_run _ _) rfl)⟩
  ·cases h
 ·unfold cpL at h
  split at h
  ·cases h; exact ⟨rfl, rfl, callC_ok mixed orcJa_ok askJa_ok (Eq.mpr (cp_run _ _ _) cp_ok)⟩
  ·cases h
noncomputable def askJb : Asks := skipA 105 (skipA 38 (skipA 89 (skipA 31 (skipA 100 (skipA 30 (skipA 96 (skipA 93 (skipA 102 (skipA 112 (skipA 164 (skipA 178 askJa)))))))))))
theorem askJb_ok : AsksOk orcJb askJb := skipA_ok (skipA_ok (skipA_ok (skipA_ok (skipA_ok (skipA_ok (skipA_ok (skipA_ok (skipA_ok (skipA_ok (skipA_ok (skipA_ok askJa_ok)))))))))))
end Go.Proofs.YtihnnmejkpddeaaGreatDoor
/-! (OWN WORK. Stage 6: ratios that compare, sums by limits; rounds of the loops that look for errors.) -/
namespace Go.Proofs.YtihnnmejkpddeaaGreatDoor
open Go Go.Am
theorem qc_run (a b c d : Int) (K : Value → Prop) : callC Tryz.prog (exec Tryz.prog orcJb 10) (syOf []) askJb (noLoops _) 20 149 #[.agg #[gi a, gi b], .agg #[gi c, gi d]] (emp Tryz.prog) (fun v _ => K v) = (K (gi (cpE (fwrap IntKind.i64 (a * d)) (fwrap IntKind.i64 (c * b))))) := by kernel_rfl
theorem rc_run (a b c d : Int) (K : Value → Prop) : callC Tryz.prog (exec Tryz.prog orcJb 10) (syOf [(19, 1), (22, 1)]) askJb (noLoops _) 20 77 #[.agg #[gi a, gi b], .agg #[gi c, gi d]] (emp Tryz.prog) (fun v _ => K v) = (((ilt (fwrap IntKind.i64 (a * d)) (fwrap IntKind.i64 (c * b)) = true → K (gi (-1))) ∧ (ilt (fwrap IntKind.i64 (a * d)) (fwrap IntKind.i64 (c * b)) = false → ((ilt (fwrap IntKind.i64 (c * b)) (fwrap IntKind.i64 (a * d)) = true → K (gi 1)) ∧ (ilt (fwrap IntKind.i64 (c * b)) (fwrap IntKind.i64 (a * d)) = false → K (gi 0)))))) := by kernel_rfl
theorem su_run (x y a b : Int) (K : Value → Prop) : callC Tryz.prog (exec Tryz.prog orcJb 10) (syOf [(10, 33), (14, 33), (15, 33), (20, 33), (21, 7)]) askJb (noLoops _) 20 111 #[gi x, gi y, .agg #[gi a, gi b]] (emp Tryz.prog) (fun v _ => K v) = ((inI64 (x * b) = true ∧ inI64 (y * a) = true ∧ inI64 ((x * b) + (y * a)) = true ∧ inI64 (a * b) = true ∧ dvB ((x * b) + (y * a)) (a * b) = true ∧ K (Value.agg (Array.mk (List.take 2 (List.drop 0 ([] ++ ([gi (rqA ((x * b) + (y * a)) (a * b)), gi (rqB ((x * b) + (y * a)) (a * b))] ++ [])))))))) := by kernel_rfl
noncomputable abbrev clF (f : FuncId) : Value := .func (.func f) #[] #[]
noncomputable abbrev cUn : Value := clF 96
theorem eb_int (c : List Value) (e row n k j : Nat) (g : Nat → Value) (Q : Exit → List Value → AHeap → Prop) : execC Tryz.prog (exec Tryz.prog orcJb 10) (syOf [(11, 1), (12, 2), (13, 3), (18, 1)]) askJb (noLoops _) 40 (loopOf Tryz.prog 103 0) (stOf 21 [(1, cUn), (4, gi 0), (8, liP n k), (9, goN n), (10, goN j)] g) (liH c e row) (told 21 [1, 4, 8, 9, 10] Q) = (((Nat.blt j n = true → (Nat.blt j n = true ∧ c[(0 + (j * 1))]? = Option.some (gi (intAt c (0 + (j * 1)))) ∧ ((!(ieq (uE (intAt c (0 + (j * 1)))) 0)) = true → Q .ret [cUn, gi (uE (intAt c (0 + (j * 1)))), liP n k, goN n, goN j] (liH c e row)) ∧ ((!(ieq (uE (intAt c (0 + (j * 1)))) 0)) = false → Q .normal [cUn, gi 0, liP n k, goN n, gi (fwrap IntKind.i64 (Int.ofNat (j + 1)))] (liH c e row)))) ∧ (Nat.blt j n = false → Q (.exit 0) [cUn, gi 0, liP n k, goN n, goN j] (liH c e row)))) := by kernel_rfl
theorem rb_ser (c : List Value) (e row n k j : Nat) (g : Nat → Value) (Q : Exit → List Value → AHeap → Prop) : execC Tryz.prog (exec Tryz.prog orcJb 10) (syOf [(15, 1), (20, 2), (21, 3), (24, 1)]) askJb (noLoops _) 40 (loopOf Tryz.prog 19 0) (stOf 26 [(0, liP n k), (2, gi 0), (4, goN j)] g) (liH c e row) (told 26 [0, 2, 4] Q) = (((Nat.blt j n = true → (Nat.blt j n = true ∧ c[(0 + (j * 1))]? = Option.some (gi (intAt c (0 + (j * 1)))) ∧ ((!(ieq (uE (intAt c (0 + (j * 1)))) 0)) = true → Q .ret [liP n k, gi (uE (intAt c (0 + (j * 1)))), goN j] (liH c e row)) ∧ ((!(ieq (uE (intAt c (0 + (j * 1)))) 0)) = false → Q .normal [liP n k, gi 0, gi (fwrap IntKind.i64 (Int.ofNat (j + 1)))] (liH c e row)))) ∧ (Nat.blt j n = false → Q (.exit 0) [liP n k, gi 0, goN j] (liH c e row)))) := by kernel_rfl
end Go.Proofs.YtihnnmejkpddeaaGreatDoor
/-! (OWN WORK. Stage 6: the errors of a series; ratios that compare and sums by limits, as known calls.) -/
namespace Go.Proofs.YtihnnmejkpddeaaGreatDoor
open Go Go.Am
set_option maxRecDepth 100000 in
theorem eac_loop (l : List Int) (e row k : Nat) (hl : l.length ≤ 65536) : ∀ a : AAct, a.n = 21 → a.marks = [] → [1, 4, 8, 9, 10].map a.tmp = [cUn, gi 0, liP l.length k, goN l.length, goN 0] →
  J Tryz.prog (.loop (loopOf Tryz.prog 103 0)) a (liH (l.map gi) e row) (told 21 [1, 4, 8, 9, 10] fun ex vs h => h = liH (l.map gi) e row ∧ ((ex = .exit 0 ∧ firstE uE l = 0) ∨ (ex = .ret ∧ ∃ j, vs = [cUn, gi (firstE uE l), liP l.length k, goN l.length, goN j]))) := by
 refine scan_rule _ (fun j => [cUn, gi 0, liP l.length k, goN l.length, goN j]) (fun j => firstE uE l = firstE uE (l.drop j)) l.length rfl _ ?_ ?_
 ·intro j hj hI g
  refine execC_ok mixed orcJb_ok askJb_ok (noLoops _) (Eq.mpr (eb_int _ e row _ k j g _) ⟨fun hlt => ?_, fun hge => absurd (blt_false hge) (by omega)⟩)
  obtain ⟨h1, h2⟩ := first_at hj
  rw [firstE_drop hj] at hI
  refine ⟨hlt, h1, fun h3 => ⟨rfl, .inr ⟨rfl, j, ?_⟩⟩, fun h3 => ⟨?_, ?_, rfl⟩⟩
  ·rw [h2] at h3 ⊢
   rw [hI, not_ieqT h3]; rfl
  ·rw [h2] at h3
   rw [hI, not_ieqF h3]; rfl
  ·rw [fwrap_nat (by omega)]
 ·intro hI g
  exact execC_ok mixed orcJb_ok askJb_ok (noLoops _) (Eq.mpr (eb_int _ e row _ k _ g _) ⟨fun hlt => absurd (blt_true hlt) (by omega), fun _ => ⟨rfl, .inl ⟨rfl, by rw [hI, firstE_end (Nat.le_refl _)]⟩⟩⟩)
set_option maxRecDepth 100000 in
theorem ser_loop (l : List Int) (e row k : Nat) (hl : l.length ≤ 65536) : ∀ a : AAct, a.n = 26 → a.marks = [] → [0, 2, 4].map a.tmp = [liP l.length k, gi 0, goN 0] →
  J Tryz.prog (.loop (loopOf Tryz.prog 19 0)) a (liH (l.map gi) e row) (told 26 [0, 2, 4] fun ex vs h => h = liH (l.map gi) e row ∧ ((ex = .exit 0 ∧ firstE uE l = 0) ∨ (ex = .ret ∧ ∃ j, vs = [liP l.length k, gi (firstE uE l), goN j]))) := by
 refine scan_rule _ (fun j => [liP l.length k, gi 0, goN j]) (fun j => firstE uE l = firstE uE (l.drop j)) l.length rfl _ ?_ ?_
 ·intro j hj hI g
  refine execC_ok mixed orcJb_ok askJb_ok (noLoops _) (Eq.mpr (rb_ser _ e row _ k j g _) ⟨fun hlt => ?_, fun hge => absurd (blt_false hge) (by omega)⟩)
  obtain ⟨h1, h2⟩ := first_at hj
  rw [firstE_drop hj] at hI
  refine ⟨hlt, h1, fun h3 => ⟨rfl, .inr ⟨rfl, j, ?_⟩⟩, fun h3 => ⟨?_, ?_, rfl⟩⟩
  ·rw [h2] at h3 ⊢
   rw [hI, not_ieqT h3]; rfl
  ·rw [h2] at h3
   rw [hI, not_ieqF h3]; rfl
  ·rw [fwrap_nat (by omega)]
 ·intro hI g
  exact execC_ok mixed orcJb_ok askJb_ok (noLoops _) (Eq.mpr (rb_ser _ e row _ k _ g _) ⟨fun hlt => absurd (blt_true hlt) (by omega), fun _ => ⟨rfl, .inl ⟨rfl, by rw [hI, firstE_end (Nat.le_refl _)]⟩⟩⟩)
noncomputable def eacL (l : List Int) (n e row k : Nat) : Loops Tryz.prog where
 body := fun _ => loopOf Tryz.prog 103 0
 spec := fun _ a h c => entry a 21 [(1, cUn), (4, gi 0), (8, liP n k), (9, goN n), (10, goN 0)] (h = liH (l.map gi) e row ∧ (l.length = n ∧ n ≤ 65536) ∧ (firstE uE l = 0 → ∀ g, c (.exit 0) (stOf 21 [] g) (liH (l.map gi) e row)) ∧ ∀ g, c .ret (stOf 21 [(4, gi (firstE uE l))] g) (liH (l.map gi) e row))
 ok := fun i a h c q => by
  obtain ⟨h1, h2, h3, rfl, ⟨rfl, hs⟩, h4, h5⟩ := entry_facts q
  refine J.of_told (eac_loop l e row k hs a h1 h2 ?_) ?_
  ·simp only [List.map_cons, List.map_nil]
   rw [h3 (1, cUn) (by simp), h3 (4, gi 0) (by simp), h3 (8, liP l.length k) (by simp), h3 (9, goN l.length) (by simp), h3 (10, goN 0) (by simp)]
  ·rintro ex vs h' g ⟨rfl, ⟨rfl, ha⟩ | ⟨rfl, j, rfl⟩⟩
   ·exact h4 ha (ov ([1, 4, 8, 9, 10].zip vs) g)
   ·exact h5 (ov [(1, cUn), (8, liP l.length k), (9, goN l.length), (10, goN j)] g)
noncomputable def serL (l : List Int) (n e row k : Nat) : Loops Tryz.prog where
 body := fun _ => loopOf Tryz.prog 19 0
 spec := fun _ a h c => entry a 26 [(0, liP n k), (2, gi 0), (4, goN 0)] (h = liH (l.map gi) e row ∧ (l.length = n ∧ n ≤ 65536) ∧ (firstE uE l = 0 → ∀ g, c (.exit 0) (stOf 26 [] g) (liH (l.map gi) e row)) ∧ ∀ g, c .ret (stOf 26 [(2, gi (firstE uE l))] g) (liH (l.map gi) e row))
 ok := fun i a h c q => by
  obtain ⟨h1, h2, h3, rfl, ⟨rfl, hs⟩, h4, h5⟩ := entry_facts q
  refine J.of_told (ser_loop l e row k hs a h1 h2 ?_) ?_
  ·simp only [List.map_cons, List.map_nil]
   rw [h3 (0, liP l.length k) (by simp), h3 (2, gi 0) (by simp), h3 (4, goN 0) (by simp)]
  ·rintro ex vs h' g ⟨rfl, ⟨rfl, ha⟩ | ⟨rfl, j, rfl⟩⟩
   ·exact h4 ha (ov ([0, 2, 4].zip vs) g)
   ·exact h5 (ov [(0, liP l.length k), (4, goN j)] g)
noncomputable abbrev serHm (l : List Int) (e row : Nat) : AHeap := canon Tryz.prog [(l.map gi, e, row)]
theorem eac_run (l : List Int) (m e row k : Nat) (K : Value → Prop) : callC Tryz.prog (exec Tryz.prog orcJb 10) (syOf []) askJb (eacL l (m + 1) e row k) 40 103 #[liP (m + 1) k, cUn] (liH (l.map gi) e row) (fun v _ => K v) = ((loopOf Tryz.prog 103 0 = loopOf Tryz.prog 103 0 ∧ cUn = cUn ∧ gi 0 = gi 0 ∧ liP (m + 1) k = liP (m + 1) k ∧ goN (m + 1) = goN (m + 1) ∧ gi 0 = goN 0 ∧ liH (List.map gi l) e row = liH (List.map gi l) e row ∧ (List.length l = (m + 1) ∧ ((m + 1) : Nat) ≤ 65536) ∧ (firstE uE l = 0 → (∀ _ : Nat → Value, K (gi 0))) ∧ (∀ _ : Nat → Value, K (gi (firstE uE l))))) := by kernel_rfl
theorem ser_run (l : List Int) (m e row k : Nat) (K : Value → Prop) : callC Tryz.prog (exec Tryz.prog orcJb 10) (syOf [(10, 1)]) askJb (serL l (m + 1) e row k) 40 19 #[liP (m + 1) k] (liH (l.map gi) e row) (fun v _ => K v) = ((((!(ieq (cnE (Int.ofNat (m + 1)) 128) 0)) = true → K (gi (cnE (Int.ofNat (m + 1)) 128))) ∧ ((!(ieq (cnE (Int.ofNat (m + 1)) 128) 0)) = false → (loopOf Tryz.prog 19 0 = loopOf Tryz.prog 19 0 ∧ liP (m + 1) k = liP (m + 1) k ∧ gi 0 = gi 0 ∧ gi 0 = goN 0 ∧ liH (List.map gi l) e row = liH (List.map gi l) e row ∧ (List.length l = (m + 1) ∧ ((m + 1) : Nat) ≤ 65536) ∧ (firstE uE l = 0 → (∀ _ : Nat → Value, K (gi 0))) ∧ (∀ _ : Nat → Value, K (gi (firstE uE l))))))) := by kernel_rfl
end Go.Proofs.YtihnnmejkpddeaaGreatDoor
/-! (OWN WORK. Stage 6: the errors of a series, ratios that compare and sums by limits, as known calls.) -/
namespace Go.Proofs.YtihnnmejkpddeaaGreatDoor
open Go Go.Am
theorem firstS_one (x : Int) : firstS [x] = x := by
 show (bif ieq x 0 then 0 else x) = x
 cases h : ieq x 0 with
 | false => rfl
 | true =>
  rw [ieq_dec] at h
  exact (of_decide_eq_true h).symm
noncomputable def serE (l : List Int) : Int := firstS [cnE (Int.ofNat l.length) 128, firstE uE l]
theorem ser_no {l : List Int} {m : Nat} (hl : l.length = m + 1) (h : (!(ieq (cnE (Int.ofNat (m + 1)) 128) 0)) = true) : serE l = cnE (Int.ofNat (m + 1)) 128 := by
 unfold serE
 rw [hl]
 show (bif ieq (cnE (Int.ofNat (m + 1)) 128) 0 then _ else _) = _
 rw [not_ieqT h]; rfl
theorem ser_go {l : List Int} {m : Nat} (hl : l.length = m + 1) (h : (!(ieq (cnE (Int.ofNat (m + 1)) 128) 0)) = false) : serE l = firstE uE l := by
 unfold serE
 rw [hl]
 show (bif ieq (cnE (Int.ofNat (m + 1)) 128) 0 then firstS [firstE uE l] else _) = _
 rw [not_ieqF h, firstS_one]; rfl
def oneC {α : Type} (c : Value) (_ : List α) (r : List Value) : Prop := r = [c]
def nonC {α : Type} (_ : List α) (r : List Value) : Prop := r = []
noncomputable abbrev eacO (_ : Nat) (l : List Int) (_ : List Value) : Out := .plain (gi (firstE uE l))
noncomputable abbrev serO (_ : Nat) (l : List Int) (_ : List Value) : Out := .plain (gi (serE l))
noncomputable def qcL : List Value → Option Value
 | [.agg x, .agg y] => match x.toList, y.toList with
  | [.int .i64 a, .int .i64 b], [.int .i64 c, .int .i64 d] => some (gi (cpR (a, b) (c, d)))
  | _, _ => none
 | _ => none
noncomputable def sumB (x y a b : Int) : Bool := (inI64 (x * b) && (inI64 (y * a) && (inI64 (x * b + y * a) && inI64 (a * b)))) && dvB (x * b + y * a) (a * b)
noncomputable abbrev sumV (x y a b : Int) : Value := rqV (x * b + y * a) (a * b)
noncomputable def sumLL : List Value → Option (Bool × Value)
 | [.int .i64 x, .int .i64 y, .agg l] => match l.toList with
  | [.int .i64 a, .int .i64 b] => some (sumB x y a b, sumV x y a b)
  | _ => none
 | _ => none
noncomputable def orcJc : Orc := orElse 19 (s1O tiT nonC serO) (orElse 103 (s1O tiT (oneC cUn) eacO) (orElse 111 (condO sumLL) (orElse 77 (flatSpec qcL) (orElse 149 (flatSpec qcL) orcJb))))
set_option maxRecDepth 100000 in
theorem orcJc_ok : OrcOk Tryz.prog orcJc := by
 refine s1O_ok (s1O_ok (condO_ok (fun l v h => ?_) (flatSpec_ok (fun l v h => ?_) (flatSpec_ok (fun l v h => ?_) orcJb_ok))) (fun _ _ _ _ => rfl) ?_) (fun _ _ _ _ => rfl) ?_
 ·unfold sumLL at h
  split at h
  ·split at h
   ·rename_i ha
    injection h with h
    injection h with h1 h2
    obtain rfl := agg_eq ha
    unfold sumB at h1
    simp only [Bool.and_eq_true] at h1
    obtain ⟨⟨k1, k2, k3, k4⟩, k5⟩ := h1
    subst h2
    exact ⟨rfl, rfl, callC_ok mixed orcJb_ok askJb_ok (Eq.mpr (su_run _ _ _ _ _) ⟨k1, k2, k3, k4, k5, rfl⟩)⟩
   ·cases h
  ·cases h
 ·unfold qcL at h
  split at h
  ·split at h
   ·rename_i ha hb
    cases h
    obtain rfl := agg_eq ha
    obtain rfl := agg_eq hb
    exact ⟨rfl, rfl, callC_ok mixed orcJb_ok askJb_ok (Eq.mpr (rc_run _ _ _ _ _) cp_ok)⟩
   ·cases h
  ·cases h
 ·unfold qcL at h
  split at h
  ·split at h
   ·rename_i ha hb
    cases h
    obtain rfl := agg_eq ha
    obtain rfl := agg_eq hb
    exact ⟨rfl, rfl, callC_ok mixed orcJb_ok askJb_ok (Eq.mpr (qc_run _ _ _ _ _) rfl)⟩
   ·cases h
  ·cases h
 ·rintro l m k e row r hl h1 rfl
  exact callC_ok mixed orcJb_ok askJb_ok (Eq.mpr (eac_run l m e row k _) ⟨rfl, rfl, rfl, rfl, rfl, rfl, rfl, ⟨hl, h1⟩, fun h _ => by show gi 0 = gi (firstE uE l); rw [h], fun _ => rfl⟩)
 ·rintro l m k e row r hl h1 rfl
  refine callC_ok mixed orcJb_ok askJb_ok (Eq.mpr (ser_run l m e row k _) ⟨fun h => ?_, fun h => ?_⟩)
  ·show gi (cnE (Int.ofNat (m + 1)) 128) = gi (serE l)
   rw [ser_no hl h]
  ·exact ⟨rfl, rfl, rfl, rfl, rfl, ⟨hl, h1⟩, fun h' _ => by show gi 0 = gi (serE l); rw [ser_go hl h, h'], fun _ => by show gi (firstE uE l) = gi (serE l); rw [ser_go hl h]⟩
noncomputable def askJc : Asks := asksV Tryz.prog.globals.size 19 (s1AY tiT nonC serO) (asksV Tryz.prog.globals.size 103 (s1AY tiT (oneC cUn) eacO) (asksF 111 sumLL (skipA 77 (skipA 149 askJb))))
theorem askJc_ok : AsksOk orcJc askJc := asksV_ok (s1A_ok fun _ _ _ h => ⟨h, rfl⟩) (asksV_ok (s1A_ok fun _ _ _ h => ⟨h, rfl⟩) (asksF_ok (skipA_ok (skipA_ok askJb_ok))))
theorem pse_run (l : List Int) (m e row k : Nat) (K : Value → Prop) : callC Tryz.prog (exec Tryz.prog orcJc 10) (syOf [(7, 7)]) askJc (noLoops _) 40 35 #[liP (m + 1) k] (serHm l e row) (fun v _ => K v) = (((List.all (List.map gi l) (flat 3) = true ∧ True) ∧ okT tiT (List.map gi l) (m + 1) ∧ oneC cUn (TellT.dec tiT (List.map gi l)) [Value.func (.func 96) #[] #[]] ∧ K (gi (firstS [cnE (Int.ofNat (m + 1)) 128, firstE uE (TellT.dec tiT (List.map gi l))])))) := by kernel_rfl
end Go.Proofs.YtihnnmejkpddeaaGreatDoor
