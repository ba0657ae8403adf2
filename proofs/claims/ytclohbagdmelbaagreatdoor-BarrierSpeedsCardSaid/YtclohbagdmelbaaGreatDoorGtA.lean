/-
  OWN WORK. Gates: triples of numbers as cells; small functions.
-/
import Derived.Test.YtclohbagdmelbaaGreatDoorGtA0
import Derived.Test.YtclohbagdmelbaaGreatDoorAm22
namespace Go.Proofs.YtclohbagdmelbaaGreatDoor
open Go Go.Am

abbrev P3 := Int × Int × Int
noncomputable def cells3 : List P3 → List Value
  | [] => []
  | q :: l => gi q.1 :: gi q.2.1 :: gi q.2.2 :: cells3 l
noncomputable def dec3 : List Value → Option (List P3)
  | [] => some []
  | .int .i64 a :: .int .i64 b :: .int .i64 c :: r => (dec3 r).map ((a, b, c) :: ·)
  | _ => none
theorem dec3_cells : ∀ l : List P3, dec3 (cells3 l) = some l
  | [] => rfl
  | q :: l => by
    show (dec3 (cells3 l)).map ((q.1, q.2.1, q.2.2) :: ·) = _
    rw [dec3_cells l]; rfl
theorem dec3_some {c : List Value} {l : List P3} (h : dec3 c = some l) : c = cells3 l := by
  induction c using dec3.induct generalizing l with
  | case1 => cases h; rfl
  | case2 a b c r ih =>
    unfold dec3 at h
    obtain ⟨l', hl, rfl⟩ := Option.map_eq_some_iff.1 h
    rw [ih hl]; rfl
  | case3 c h1 h2 =>
    unfold dec3 at h
    split at h
    · exact absurd rfl h1
    · exact absurd rfl (h2 _ _ _ _)
    · cases h
theorem cells3_len : ∀ l : List P3, (cells3 l).length = l.length * 3
  | [] => rfl
  | q :: l => by
    show (cells3 l).length + 1 + 1 + 1 = (l.length + 1) * 3
    rw [cells3_len l]; omega
theorem cells3_flat : ∀ l : List P3, (cells3 l).all (flat 3) = true
  | [] => rfl
  | q :: l => cells3_flat l
noncomputable def t3 : Tell P3 := ⟨cells3, dec3, dec3_cells, dec3_some, cells3_flat⟩
theorem fw_run (p a b p' a' b' : Int) (K : Value → Prop) : callC Tryz.prog (exec Tryz.prog orcTi 10) (syOf [(26, 15)]) askTi (noLoops _) 20 59 #[.agg #[gi p, gi a, gi b], .agg #[gi p', gi a', gi b']] (emp Tryz.prog) (fun v _ => K v) = (K (Value.bool (ieq (if (fwrap IntKind.i64 (p' + 1) : Int) > p then fwrap IntKind.i64 (p' + 1) else p) p && ((ieq (if (fwrap IntKind.i64 (b' + 1) : Int) > a then fwrap IntKind.i64 (b' + 1) else a) a && (ieq b b && true)) && true)))) := by kernel_rfl
theorem st_run (p a b p' a' b' : Int) (K : Value → Prop) : callC Tryz.prog (exec Tryz.prog orcTi 10) (syOf [(10, 33), (11, 33), (19, 33), (20, 7), (28, 33), (29, 7)]) askTi (noLoops _) 20 41 #[.agg #[gi p, gi a, gi b], .agg #[gi p', gi a', gi b']] (emp Tryz.prog) (fun v _ => K v) = ((inI64 (p' - p) = true ∧ inI64 ((p' - p) * 1000000) = true ∧ inI64 (b' - a) = true ∧ inI64 (a' - b) = true ∧ (ilt 0 (b' - a) && small ((p' - p) * 1000000)) = true ∧ [gi p, gi a, gi b][2]? = Option.some (gi b) ∧ [gi p', gi a', gi b'][1]? = Option.some (gi a') ∧ (ilt 0 (a' - b) && small ((p' - p) * 1000000)) = true ∧ K (Value.agg (Array.mk (List.take 2 (List.drop 0 ([] ++ ([gi (floorE ((p' - p) * 1000000) (b' - a)), gi (ceilE ((p' - p) * 1000000) (a' - b))] ++ [])))))))) := by kernel_rfl
theorem cm_run (a b a' b' : Int) (K : Value → Prop) : callC Tryz.prog (exec Tryz.prog orcTi 10) (syOf []) askTi (noLoops _) 20 42 #[.agg #[gi a, gi b], .agg #[gi a', gi b']] (emp Tryz.prog) (fun v _ => K v) = (K (Value.agg (Array.mk (List.take 2 (List.drop 0 ([] ++ ([gi (if (a' : Int) > a then a' else a), gi (if (b' : Int) < b then b' else b)] ++ []))))))) := by kernel_rfl
theorem ac_run (a b : Int) (K : Value → Prop) : callC Tryz.prog (exec Tryz.prog orcTi 10) (syOf [(5, 1), (11, 1)]) askTi (noLoops _) 20 44 #[.agg #[gi a, gi b]] (emp Tryz.prog) (fun v _ => K v) = (((ilt a 0 = true → K (gi 14)) ∧ (ilt a 0 = false → (((!(ilt a b)) = true → K (gi 14)) ∧ ((!(ilt a b)) = false → K (gi (whenS (ilt 1000000 b) 14))))))) := by kernel_rfl
theorem cp_run (a b : Int) (K : Value → Prop) : callC Tryz.prog (exec Tryz.prog orcTi 10) (syOf [(5, 1), (11, 1)]) askTi (noLoops _) 20 11 #[.agg #[gi a, gi b]] (emp Tryz.prog) (fun v _ => K v) = (((ilt a 0 = true → K (gi 14)) ∧ (ilt a 0 = false → (((!(ilt a b)) = true → K (gi 14)) ∧ ((!(ilt a b)) = false → K (gi (whenS (ilt 1000000 b) 14))))))) := by kernel_rfl
noncomputable def fwB (p a b p' b' : Int) : Bool := ieq (if (fwrap IntKind.i64 (p' + 1) : Int) > p then fwrap IntKind.i64 (p' + 1) else p) p && ((ieq (if (fwrap IntKind.i64 (b' + 1) : Int) > a then fwrap IntKind.i64 (b' + 1) else a) a && (ieq b b && true)) && true)
noncomputable def acE (a b : Int) : Int := whenS (ilt a 0 || (!ilt a b || ilt 1000000 b)) 14
noncomputable def cmP (x y : P2) : P2 := (if (y.1 : Int) > x.1 then y.1 else x.1, if (y.2 : Int) < x.2 then y.2 else x.2)
noncomputable def stP (x y : P3) : P2 := (floorE ((y.1 - x.1) * 1000000) (y.2.2 - x.2.1), ceilE ((y.1 - x.1) * 1000000) (y.2.1 - x.2.2))
noncomputable def stB (x y : P3) : Bool := inI64 (y.1 - x.1) && (inI64 ((y.1 - x.1) * 1000000) && (inI64 (y.2.2 - x.2.1) && (inI64 (y.2.1 - x.2.2) && ((ilt 0 (y.2.2 - x.2.1) && small ((y.1 - x.1) * 1000000)) && (ilt 0 (y.2.1 - x.2.2) && small ((y.1 - x.1) * 1000000))))))
noncomputable def fwL : List Value → Option Value
  | [.agg x, .agg y] => match x.toList, y.toList with
    | [.int .i64 p, .int .i64 a, .int .i64 b], [.int .i64 p', .int .i64 _, .int .i64 b'] => some (.bool (fwB p a b p' b'))
    | _, _ => none
  | _ => none
noncomputable def stL3 : List Value → Option (Bool × Value)
  | [.agg x, .agg y] => match x.toList, y.toList with
    | [.int .i64 p, .int .i64 a, .int .i64 b], [.int .i64 p', .int .i64 a', .int .i64 b'] => some (stB (p, a, b) (p', a', b'), .agg #[gi (stP (p, a, b) (p', a', b')).1, gi (stP (p, a, b) (p', a', b')).2])
    | _, _ => none
  | _ => none
noncomputable def cmL : List Value → Option Value
  | [.agg x, .agg y] => match x.toList, y.toList with
    | [.int .i64 a, .int .i64 b], [.int .i64 a', .int .i64 b'] => some (.agg #[gi (cmP (a, b) (a', b')).1, gi (cmP (a, b) (a', b')).2])
    | _, _ => none
  | _ => none
noncomputable def acL : List Value → Option Value
  | [.agg x] => match x.toList with
    | [.int .i64 a, .int .i64 b] => some (gi (acE a b))
    | _ => none
  | _ => none
theorem ac_all {a b : Int} {K : Value → Prop} (h : K (gi (acE a b))) : (ilt a 0 = true → K (gi 14)) ∧ (ilt a 0 = false → (((!(ilt a b)) = true → K (gi 14)) ∧ ((!(ilt a b)) = false → K (gi (whenS (ilt 1000000 b) 14))))) := by
  unfold acE at h
  cases h1 : ilt a 0 <;> rw [h1] at h
  · refine ⟨fun q => (by cases q), fun _ => ?_⟩
    cases h2 : (!ilt a b) <;> rw [h2] at h
    · exact ⟨fun q => (by cases q), fun _ => h⟩
    · exact ⟨fun _ => h, fun q => (by cases q)⟩
  · exact ⟨fun _ => h, fun q => (by cases q)⟩
noncomputable def orcTb : Orc := orElse 11 (flatSpec acL) (orElse 44 (flatSpec acL) (orElse 42 (flatSpec cmL) (orElse 41 (condO stL3) (orElse 59 (flatSpec fwL) orcTi))))
set_option maxRecDepth 100000 in
theorem orcTb_ok : OrcOk Tryz.prog orcTb := by
  refine flatSpec_ok (fun l v h => ?_) (flatSpec_ok (fun l v h => ?_) (flatSpec_ok (fun l v h => ?_) (condO_ok (fun l v h => ?_) (flatSpec_ok (fun l v h => ?_) orcTi_ok))))
  · unfold acL at h
    split at h
    · split at h
      · rename_i ha
        cases h
        obtain rfl := agg_eq ha
        exact ⟨rfl, rfl, callC_ok mixed orcTi_ok askTi_ok (Eq.mpr (cp_run _ _ _) (ac_all (K := fun u => u = gi (acE _ _)) rfl))⟩
      · cases h
    · cases h
  · unfold acL at h
    split at h
    · split at h
      · rename_i ha
        cases h
        obtain rfl := agg_eq ha
        exact ⟨rfl, rfl, callC_ok mixed orcTi_ok askTi_ok (Eq.mpr (ac_run _ _ _) (ac_all (K := fun u => u = gi (acE _ _)) rfl))⟩
      · cases h
    · cases h
  · unfold cmL at h
    split at h
    · split at h
      · rename_i ha hb
        cases h
        obtain rfl := agg_eq ha
        obtain rfl := agg_eq hb
        exact ⟨rfl, rfl, callC_ok mixed orcTi_ok askTi_ok (Eq.mpr (cm_run _ _ _ _ _) rfl)⟩
      · cases h
    · cases h
  · unfold stL3 at h
    split at h
    · split at h
      · rename_i ha hb
        injection h with h
        injection h with h1 h2
        obtain rfl := agg_eq ha
        obtain rfl := agg_eq hb
        unfold stB at h1
        simp only [Bool.and_eq_true] at h1
        obtain ⟨k1, k2, k3, k4, ⟨k5, k6⟩, k7, k8⟩ := h1
        subst h2
        exact ⟨rfl, rfl, callC_ok mixed orcTi_ok askTi_ok (Eq.mpr (st_run _ _ _ _ _ _ _) ⟨k1, k2, k3, k4, by rw [k5, k6]; rfl, rfl, rfl, by rw [k7, k8]; rfl, rfl⟩)⟩
      · cases h
    · cases h
  · unfold fwL at h
    split at h
    · split at h
      · rename_i ha hb
        cases h
        obtain rfl := agg_eq ha
        obtain rfl := agg_eq hb
        exact ⟨rfl, rfl, callC_ok mixed orcTi_ok askTi_ok (Eq.mpr (fw_run _ _ _ _ _ _ _) rfl)⟩
      · cases h
    · cases h
noncomputable def askTb : Asks := skipA 11 (skipA 44 (skipA 42 (asksF 41 stL3 (skipA 59 askTi))))
theorem askTb_ok : AsksOk orcTb askTb := skipA_ok (skipA_ok (skipA_ok (asksF_ok (skipA_ok askTi_ok))))
end Go.Proofs.YtclohbagdmelbaaGreatDoor
