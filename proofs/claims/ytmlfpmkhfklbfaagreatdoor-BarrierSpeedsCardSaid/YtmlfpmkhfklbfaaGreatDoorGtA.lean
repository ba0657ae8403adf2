/-
  OWN WORK. Gates: triples of numbers as cells; small functions.
-/
import Derived.Test.YtmlfpmkhfklbfaaGreatDoorSgD
import Derived.Test.YtmlfpmkhfklbfaaGreatDoorAm22
namespace Go.Proofs.YtmlfpmkhfklbfaaGreatDoor
open Go Go.Am

abbrev P3 := Int × Int × Int
noncomputable def cells3 : List P3 → List Value
  | [] => []
  | q :: l => gi q.1 :: gi q.2.1 :: gi q.2.2 :: cells3 l
noncomputable def dec3 : List Value → Option (List P3)
  | [] => some []
  | .int .i64 a :: .int .i64 b :: .int .i64 c :: r => (dec3 r).map ((a, b, c) :: ·)
  | _ => none
theorem dec3_cells : ∀ l : List P3, dec3 (cells3 l) = some l
  | [] => rfl
  | q :: l => by
    show (dec3 (cells3 l)).map ((q.1, q.2.1, q.2.2) :: ·) = _
    rw [dec3_cells l]; rfl
theorem dec3_some {c : List Value} {l : List P3} (h : dec3 c = some l) : c = cells3 l := by
  induction c using dec3.induct generalizing l with
  | case1 => cases h; rfl
  | case2 a b c r ih =>
    unfold dec3 at h
    obtain ⟨l', hl, rfl⟩ := Option.map_eq_some_iff.1 h
    rw [ih hl]; rfl
  | case3 c h1 h2 =>
    unfold dec3 at h
    split at h
    · exact absurd rfl h1
    · exact absurd rfl (h2 _ _ _ _)
    · cases h
theorem cells3_len : ∀ l : List P3, (cells3 l).length = l.length * 3
  | [] => rfl
  | q :: l => by
    show (cells3 l).length + 1 + 1 + 1 = (l.length + 1) * 3
    rw [cells3_len l]; omega
theorem cells3_flat : ∀ l : List P3, (cells3 l).all (flat 3) = true
  | [] => rfl
  | q :: l => cells3_flat l
noncomputable def t3 : Tell P3 := ⟨cells3, dec3, dec3_cells, dec3_some, cells3_flat⟩
theorem up_run (a b : Int) (K : Value → Prop) : callC Tryz.prog (exec Tryz.prog orcSd 10) (syOf [(8, 7)]) askSd (noLoops _) 20 90 #[gi a, gi b] (emp Tryz.prog) (fun v _ => K v) = (((ilt 0 b && small (IntKind.wrap .i64 (0 - a))) = true ∧ K (gi (IntKind.wrap .i64 (0 - floorE (IntKind.wrap .i64 (0 - a)) b))))) := by kernel_rfl
theorem Ceil_run (a b : Int) (K : Value → Prop) : callC Tryz.prog (exec Tryz.prog orcSd 10) (syOf [(8, 7)]) askSd (noLoops _) 20 58 #[gi a, gi b] (emp Tryz.prog) (fun v _ => K v) = (((ilt 0 b && small (fwrap IntKind.i64 (0 - a))) = true ∧ K (gi (fwrap IntKind.i64 (0 - floorE (fwrap IntKind.i64 (0 - a)) b))))) := by kernel_rfl
theorem floorE_le {a b : Int} (h1 : -1099511627776 ≤ a) (h2 : a ≤ 1099511627776) : -1099511627777 ≤ floorE a b ∧ floorE a b ≤ 1099511627776 := by
  have := Int.natAbs_tdiv_le_natAbs a b
  unfold floorE
  cases ilt (a.tmod b) 0 <;> simp only [cond_true, cond_false] <;> omega
theorem small_of {a : Int} (h1 : -1099511627776 ≤ a) (h2 : a ≤ 1099511627776) : small a = true := by
  unfold small
  rw [ilt_say, ilt_say, decide_eq_false (by omega), decide_eq_false (by omega)]; rfl
noncomputable def ceilE (a b : Int) : Int := 0 - floorE (0 - a) b
noncomputable def ceilL : List Value → Option (Bool × Value)
  | [.int .i64 a, .int .i64 b] => some (ilt 0 b && small a, gi (ceilE a b))
  | _ => none
theorem ceilL_some {l : List Value} {v : Value} (h : ceilL l = some (true, v)) : ∃ a b, l = [gi a, gi b] ∧ v = gi (ceilE a b) ∧ ilt 0 b = true ∧ -1099511627776 ≤ a ∧ a ≤ 1099511627776 := by
  unfold ceilL at h
  split at h
  · rename_i a b
    injection h with h
    injection h with h1 h2
    rw [Bool.and_eq_true] at h1
    obtain ⟨h3, h4⟩ := small_le h1.2
    exact ⟨a, b, rfl, h2.symm, h1.1, h3, h4⟩
  · cases h
noncomputable def orcTa : Orc := orElse 58 (condO ceilL) (orElse 90 (condO ceilL) orcSd)
set_option maxRecDepth 100000 in
theorem orcTa_ok : OrcOk Tryz.prog orcTa := by
  refine condO_ok (fun l v h => ?_) (condO_ok (fun l v h => ?_) orcSd_ok)
  · obtain ⟨a, b, rfl, rfl, hb, h1, h2⟩ := ceilL_some h
    have w : fwrap IntKind.i64 (0 - a) = 0 - a := fwrap_mid (by omega) (by omega)
    obtain ⟨f1, f2⟩ := floorE_le (a := 0 - a) (b := b) (by omega) (by omega)
    refine ⟨rfl, rfl, callC_ok mixed orcSd_ok askSd_ok (Eq.mpr (Ceil_run a b _) ?_)⟩
    rw [w, fwrap_mid (by omega) (by omega), hb, small_of (by omega) (by omega)]
    exact ⟨rfl, rfl⟩
  · obtain ⟨a, b, rfl, rfl, hb, h1, h2⟩ := ceilL_some h
    have w : IntKind.wrap .i64 (0 - a) = 0 - a := wrap_small (by omega) (by omega)
    obtain ⟨f1, f2⟩ := floorE_le (a := 0 - a) (b := b) (by omega) (by omega)
    refine ⟨rfl, rfl, callC_ok mixed orcSd_ok askSd_ok (Eq.mpr (up_run a b _) ?_)⟩
    rw [w, wrap_small (by omega) (by omega), hb, small_of (by omega) (by omega)]
    exact ⟨rfl, rfl⟩
noncomputable def askTa : Asks := asksF 58 ceilL (asksF 90 ceilL askSd)
theorem askTa_ok : AsksOk orcTa askTa := asksF_ok (asksF_ok askSd_ok)
theorem ci_run (a b l h : Int) (K : Value → Prop) : callC Tryz.prog (exec Tryz.prog orcTa 10) (syOf []) askTa (noLoops _) 20 65 #[.agg #[gi a, gi b], gi l, gi h] (emp Tryz.prog) (fun v _ => K v) = (([gi a, gi b][1]? = Option.some (gi b) ∧ [gi a, gi b][0]? = Option.some (gi a) ∧ [gi a, gi b][1]? = Option.some (gi b) ∧ [gi a, gi b][1]? = Option.some (gi b) ∧ [gi a, gi b][0]? = Option.some (gi a) ∧ K (gi (firstS [withinS a l h, withinS b l h, whenS (ilt b a) 11])))) := by kernel_rfl
theorem ce_run (a b l h : Int) (K : Value → Prop) : callC Tryz.prog (exec Tryz.prog orcTa 10) (syOf []) askTa (noLoops _) 20 56 #[.agg #[gi a, gi b], gi l, gi h] (emp Tryz.prog) (fun v _ => K v) = (([gi a, gi b][1]? = Option.some (gi b) ∧ [gi a, gi b][0]? = Option.some (gi a) ∧ [gi a, gi b][1]? = Option.some (gi b) ∧ [gi a, gi b][1]? = Option.some (gi b) ∧ [gi a, gi b][0]? = Option.some (gi a) ∧ K (gi (firstS [withinS a l h, withinS b l h, whenS (ilt b a) 11])))) := by kernel_rfl
theorem fw_run (p a b p' a' b' : Int) (K : Value → Prop) : callC Tryz.prog (exec Tryz.prog orcTa 10) (syOf [(26, 15)]) askTa (noLoops _) 20 66 #[.agg #[gi p, gi a, gi b], .agg #[gi p', gi a', gi b']] (emp Tryz.prog) (fun v _ => K v) = (K (Value.bool (ieq (if (fwrap IntKind.i64 (p' + 1) : Int) > p then fwrap IntKind.i64 (p' + 1) else p) p && ((ieq (if (fwrap IntKind.i64 (b' + 1) : Int) > a then fwrap IntKind.i64 (b' + 1) else a) a && (ieq b b && true)) && true)))) := by kernel_rfl
theorem st_run (p a b p' a' b' : Int) (K : Value → Prop) : callC Tryz.prog (exec Tryz.prog orcTa 10) (syOf [(10, 33), (11, 33), (19, 33), (20, 7), (28, 33), (29, 7)]) askTa (noLoops _) 20 49 #[.agg #[gi p, gi a, gi b], .agg #[gi p', gi a', gi b']] (emp Tryz.prog) (fun v _ => K v) = ((inI64 (p' - p) = true ∧ inI64 ((p' - p) * 1000000) = true ∧ inI64 (b' - a) = true ∧ inI64 (a' - b) = true ∧ (ilt 0 (b' - a) && small ((p' - p) * 1000000)) = true ∧ [gi p, gi a, gi b][2]? = Option.some (gi b) ∧ [gi p', gi a', gi b'][1]? = Option.some (gi a') ∧ (ilt 0 (a' - b) && small ((p' - p) * 1000000)) = true ∧ K (Value.agg (Array.mk (List.take 2 (List.drop 0 ([] ++ ([gi (floorE ((p' - p) * 1000000) (b' - a)), gi (ceilE ((p' - p) * 1000000) (a' - b))] ++ [])))))))) := by kernel_rfl
theorem cm_run (a b a' b' : Int) (K : Value → Prop) : callC Tryz.prog (exec Tryz.prog orcTa 10) (syOf []) askTa (noLoops _) 20 50 #[.agg #[gi a, gi b], .agg #[gi a', gi b']] (emp Tryz.prog) (fun v _ => K v) = (K (Value.agg (Array.mk (List.take 2 (List.drop 0 ([] ++ ([gi (if (a' : Int) > a then a' else a), gi (if (b' : Int) < b then b' else b)] ++ []))))))) := by kernel_rfl
theorem ac_run (a b : Int) (K : Value → Prop) : callC Tryz.prog (exec Tryz.prog orcTa 10) (syOf [(5, 1), (11, 1)]) askTa (noLoops _) 20 52 #[.agg #[gi a, gi b]] (emp Tryz.prog) (fun v _ => K v) = (((ilt a 0 = true → K (gi 14)) ∧ (ilt a 0 = false → (((!(ilt a b)) = true → K (gi 14)) ∧ ((!(ilt a b)) = false → K (gi (whenS (ilt 1000000 b) 14))))))) := by kernel_rfl
theorem cp_run (a b : Int) (K : Value → Prop) : callC Tryz.prog (exec Tryz.prog orcTa 10) (syOf [(5, 1), (11, 1)]) askTa (noLoops _) 20 12 #[.agg #[gi a, gi b]] (emp Tryz.prog) (fun v _ => K v) = (((ilt a 0 = true → K (gi 14)) ∧ (ilt a 0 = false → (((!(ilt a b)) = true → K (gi 14)) ∧ ((!(ilt a b)) = false → K (gi (whenS (ilt 1000000 b) 14))))))) := by kernel_rfl
noncomputable def itE (a b l h : Int) : Int := firstS [withinS a l h, withinS b l h, whenS (ilt b a) 11]
noncomputable def fwB (p a b p' b' : Int) : Bool := ieq (if (fwrap IntKind.i64 (p' + 1) : Int) > p then fwrap IntKind.i64 (p' + 1) else p) p && ((ieq (if (fwrap IntKind.i64 (b' + 1) : Int) > a then fwrap IntKind.i64 (b' + 1) else a) a && (ieq b b && true)) && true)
noncomputable def acE (a b : Int) : Int := whenS (ilt a 0 || (!ilt a b || ilt 1000000 b)) 14
noncomputable def cmP (x y : P2) : P2 := (if (y.1 : Int) > x.1 then y.1 else x.1, if (y.2 : Int) < x.2 then y.2 else x.2)
noncomputable def stP (x y : P3) : P2 := (floorE ((y.1 - x.1) * 1000000) (y.2.2 - x.2.1), ceilE ((y.1 - x.1) * 1000000) (y.2.1 - x.2.2))
noncomputable def stB (x y : P3) : Bool := inI64 (y.1 - x.1) && (inI64 ((y.1 - x.1) * 1000000) && (inI64 (y.2.2 - x.2.1) && (inI64 (y.2.1 - x.2.2) && ((ilt 0 (y.2.2 - x.2.1) && small ((y.1 - x.1) * 1000000)) && (ilt 0 (y.2.1 - x.2.2) && small ((y.1 - x.1) * 1000000))))))
noncomputable def itL : List Value → Option Value
  | [.agg a, .int .i64 l, .int .i64 h] => match a.toList with
    | [.int .i64 x, .int .i64 y] => some (gi (itE x y l h))
    | _ => none
  | _ => none
noncomputable def fwL : List Value → Option Value
  | [.agg x, .agg y] => match x.toList, y.toList with
    | [.int .i64 p, .int .i64 a, .int .i64 b], [.int .i64 p', .int .i64 _, .int .i64 b'] => some (.bool (fwB p a b p' b'))
    | _, _ => none
  | _ => none
noncomputable def stL3 : List Value → Option (Bool × Value)
  | [.agg x, .agg y] => match x.toList, y.toList with
    | [.int .i64 p, .int .i64 a, .int .i64 b], [.int .i64 p', .int .i64 a', .int .i64 b'] => some (stB (p, a, b) (p', a', b'), .agg #[gi (stP (p, a, b) (p', a', b')).1, gi (stP (p, a, b) (p', a', b')).2])
    | _, _ => none
  | _ => none
noncomputable def cmL : List Value → Option Value
  | [.agg x, .agg y] => match x.toList, y.toList with
    | [.int .i64 a, .int .i64 b], [.int .i64 a', .int .i64 b'] => some (.agg #[gi (cmP (a, b) (a', b')).1, gi (cmP (a, b) (a', b')).2])
    | _, _ => none
  | _ => none
noncomputable def acL : List Value → Option Value
  | [.agg x] => match x.toList with
    | [.int .i64 a, .int .i64 b] => some (gi (acE a b))
    | _ => none
  | _ => none
theorem agg_eq {a : Array Value} {l : List Value} (h : a.toList = l) : a = ⟨l⟩ := by rw [← h]
theorem ac_all {a b : Int} {K : Value → Prop} (h : K (gi (acE a b))) : (ilt a 0 = true → K (gi 14)) ∧ (ilt a 0 = false → (((!(ilt a b)) = true → K (gi 14)) ∧ ((!(ilt a b)) = false → K (gi (whenS (ilt 1000000 b) 14))))) := by
  unfold acE at h
  cases h1 : ilt a 0 <;> rw [h1] at h
  · refine ⟨fun q => (by cases q), fun _ => ?_⟩
    cases h2 : (!ilt a b) <;> rw [h2] at h
    · exact ⟨fun q => (by cases q), fun _ => h⟩
    · exact ⟨fun _ => h, fun q => (by cases q)⟩
  · exact ⟨fun _ => h, fun q => (by cases q)⟩
noncomputable def orcTb : Orc := orElse 12 (flatSpec acL) (orElse 52 (flatSpec acL) (orElse 50 (flatSpec cmL) (orElse 49 (condO stL3) (orElse 66 (flatSpec fwL) (orElse 56 (flatSpec itL) (orElse 65 (flatSpec itL) orcTa))))))
set_option maxRecDepth 100000 in
theorem orcTb_ok : OrcOk Tryz.prog orcTb := by
  refine flatSpec_ok (fun l v h => ?_) (flatSpec_ok (fun l v h => ?_) (flatSpec_ok (fun l v h => ?_) (condO_ok (fun l v h => ?_) (flatSpec_ok (fun l v h => ?_) (flatSpec_ok (fun l v h => ?_) (flatSpec_ok (fun l v h => ?_) orcTa_ok))))))
  · unfold acL at h
    split at h
    · split at h
      · rename_i ha
        cases h
        obtain rfl := agg_eq ha
        exact ⟨rfl, rfl, callC_ok mixed orcTa_ok askTa_ok (Eq.mpr (cp_run _ _ _) (ac_all (K := fun u => u = gi (acE _ _)) rfl))⟩
      · cases h
    · cases h
  · unfold acL at h
    split at h
    · split at h
      · rename_i ha
        cases h
        obtain rfl := agg_eq ha
        exact ⟨rfl, rfl, callC_ok mixed orcTa_ok askTa_ok (Eq.mpr (ac_run _ _ _) (ac_all (K := fun u => u = gi (acE _ _)) rfl))⟩
      · cases h
    · cases h
  · unfold cmL at h
    split at h
    · split at h
      · rename_i ha hb
        cases h
        obtain rfl := agg_eq ha
        obtain rfl := agg_eq hb
        exact ⟨rfl, rfl, callC_ok mixed orcTa_ok askTa_ok (Eq.mpr (cm_run _ _ _ _ _) rfl)⟩
      · cases h
    · cases h
  · unfold stL3 at h
    split at h
    · split at h
      · rename_i ha hb
        injection h with h
        injection h with h1 h2
        obtain rfl := agg_eq ha
        obtain rfl := agg_eq hb
        unfold stB at h1
        simp only [Bool.and_eq_true] at h1
        obtain ⟨k1, k2, k3, k4, ⟨k5, k6⟩, k7, k8⟩ := h1
        subst h2
        exact ⟨rfl, rfl, callC_ok mixed orcTa_ok askTa_ok (Eq.mpr (st_run _ _ _ _ _ _ _) ⟨k1, k2, k3, k4, by rw [k5, k6]; rfl, rfl, rfl, by rw [k7, k8]; rfl, rfl⟩)⟩
      · cases h
    · cases h
  · unfold fwL at h
    split at h
    · split at h
      · rename_i ha hb
        cases h
        obtain rfl := agg_eq ha
        obtain rfl := agg_eq hb
        exact ⟨rfl, rfl, callC_ok mixed orcTa_ok askTa_ok (Eq.mpr (fw_run _ _ _ _ _ _ _) rfl)⟩
      · cases h
    · cases h
  · unfold itL at h
    split at h
    · split at h
      · rename_i ha
        cases h
        obtain rfl := agg_eq ha
        exact ⟨rfl, rfl, callC_ok mixed orcTa_ok askTa_ok (Eq.mpr (ce_run _ _ _ _ _) ⟨rfl, rfl, rfl, rfl, rfl, rfl⟩)⟩
      · cases h
    · cases h
  · unfold itL at h
    split at h
    · split at h
      · rename_i ha
        cases h
        obtain rfl := agg_eq ha
        exact ⟨rfl, rfl, callC_ok mixed orcTa_ok askTa_ok (Eq.mpr (ci_run _ _ _ _ _) ⟨rfl, rfl, rfl, rfl, rfl, rfl⟩)⟩
      · cases h
    · cases h
noncomputable def askTb : Asks := skipA 12 (skipA 52 (skipA 50 (asksF 49 stL3 (skipA 66 (skipA 56 (skipA 65 askTa))))))
theorem askTb_ok : AsksOk orcTb askTb := skipA_ok (skipA_ok (skipA_ok (asksF_ok (skipA_ok (skipA_ok (skipA_ok askTa_ok))))))
end Go.Proofs.YtmlfpmkhfklbfaaGreatDoor
