/-
  OWN WORK. Samples with others between them, by the program: known for all samples.
-/
import Derived.Test.YtnlkkapeldhemaaGreatDoorRaD
namespace Go.Proofs.YtnlkkapeldhemaaGreatDoor
open Go Go.Am

theorem sr_run (l : List Nat) (n k e row : Nat) (st : Int) (K : Value → AHeap → Prop) : callC Tryz.prog (exec Tryz.prog orcRj 10) (syOf [(8, 7), (26, 1), (29, 7), (32, 7), (33, 7)]) askRj (noLoops _) 40 35 #[liP n k, gi st] (liH (l.map gf) e row) K = ((∃ x1 : List Nat, (List.map gf l = List.map gf x1 ∧ (0 : Nat) < n ∧ (n : Nat) ≤ List.length x1 ∧ (n : Nat) ≤ 1000000 ∧ (n : Nat) ≤ k ∧ ((!(ieq (firstS [csE (List.take n x1), withinS st 1 16, whenS (ieq (Int.ofNat n) 0) 12, whenS (ilt 4096 (fwrap IntKind.i64 (fwrap IntKind.i64 (fwrap IntKind.i64 (Int.ofNat n - 1) * st) + 1))) 5]) 0)) = true → K (Value.tuple #[nilS, gi (firstS [csE (List.take n x1), withinS st 1 16, whenS (ieq (Int.ofNat n) 0) 12, whenS (ilt 4096 (fwrap IntKind.i64 (fwrap IntKind.i64 (fwrap IntKind.i64 (Int.ofNat n - 1) * st) + 1))) 5])]) ((liH (List.map gf l) e row).push (.cells [csR (List.take n x1) [], gi (withinS st 1 16), gi (whenS (ieq (Int.ofNat n) 0) 12), gi (whenS (ilt 4096 (fwrap IntKind.i64 (fwrap IntKind.i64 (fwrap IntKind.i64 (Int.ofNat n - 1) * st) + 1))) 5)] 29 2 false))) ∧ ((!(ieq (firstS [csE (List.take n x1), withinS st 1 16, whenS (ieq (Int.ofNat n) 0) 12, whenS (ilt 4096 (fwrap IntKind.i64 (fwrap IntKind.i64 (fwrap IntKind.i64 (Int.ofNat n - 1) * st) + 1))) 5]) 0)) = false → (∃ x2 : List Nat, (List.map gf l = List.map gf x2 ∧ (0 : Nat) < n ∧ (n : Nat) ≤ List.length x2 ∧ (n : Nat) ≤ 65536 ∧ validL (List.take n x2) ∧ (∃ x3 : List Int, (unitsL (List.take n x2) = List.map gi x3 ∧ true = true ∧ (0 : Nat) < n ∧ (n : Nat) ≤ List.length x3 ∧ (n : Nat) ≤ 65536 ∧ (n : Nat) ≤ n ∧ neB (Value.agg #[Value.func (.func 100) #[] #[]]) = true ∧ (List.take n x3 = [] → False) ∧ okL (List.take n x3) ∧ (1 : Int) ≤ st ∧ (st : Int) ≤ 16 ∧ (((List.length (List.take n x3) - 1) * Int.toNat st) : Nat) ≤ 65535 ∧ (∀ y4 : List Int, (y4 = stL (List.take n x3) (Int.toNat st) → (∃ x5 : List Int, (List.map gi y4 = List.map gi x5 ∧ (0 : Nat) < List.length y4 ∧ (List.length y4 : Nat) ≤ List.length x5 ∧ (List.length y4 : Nat) ≤ 65536 ∧ okL (List.take (List.length y4) x5) ∧ K (Value.tuple #[Value.slice (some ⟨N1 + 4, 0, none⟩) (List.length y4) (List.length y4), gi 0]) (((((liH (List.map gf l) e row).push (.cells [csR (List.take n x1) [], gi (withinS st 1 16), gi (whenS (ieq (Int.ofNat n) 0) 12), gi (whenS (ilt 4096 (fwrap IntKind.i64 (fwrap IntKind.i64 (fwrap IntKind.i64 (Int.ofNat n - 1) * st) + 1))) 5)] 29 2 false)).push (.cells (unitsL (List.take n x2)) 3 2 false)).push (.cells (List.map gi y4) 3 2 false)).push (.cells (samL (List.take (List.length y4) x5)) 69 2 false)))))))))))))) := by kernel_rfl
theorem sr_nil (st : Int) (K : Value → AHeap → Prop) : callC Tryz.prog (exec Tryz.prog orcRj 40) (syOf [(26, 31)]) askRj (noLoops _) 40 35 #[nilS, gi st] (emp Tryz.prog) K = (((!(ieq (firstS [0, withinS st 1 16, 12, whenS (ilt 4096 (fwrap IntKind.i64 (fwrap IntKind.i64 ((-1) * st) + 1))) 5]) 0)) = true ∧ K (Value.tuple #[nilS, gi (firstS [0, withinS st 1 16, 12, whenS (ilt 4096 (fwrap IntKind.i64 (fwrap IntKind.i64 ((-1) * st) + 1))) 5])]) ((emp Tryz.prog).push (.cells [csR [] [], gi (withinS st 1 16), gi 12, gi (whenS (ilt 4096 (fwrap IntKind.i64 (fwrap IntKind.i64 ((-1) * st) + 1))) 5)] 29 2 false)))) := by kernel_rfl
theorem sr_emp (k : Nat) (st : Int) (K : Value → AHeap → Prop) : callC Tryz.prog (exec Tryz.prog orcRj 40) (syOf [(26, 31)]) askRj (noLoops _) 40 35 #[.slice (some ⟨0, 0, none⟩) 0 k, gi st] (emp Tryz.prog) K = (((!(ieq (firstS [0, withinS st 1 16, 12, whenS (ilt 4096 (fwrap IntKind.i64 (fwrap IntKind.i64 ((-1) * st) + 1))) 5]) 0)) = true ∧ K (Value.tuple #[nilS, gi (firstS [0, withinS st 1 16, 12, whenS (ilt 4096 (fwrap IntKind.i64 (fwrap IntKind.i64 ((-1) * st) + 1))) 5])]) ((emp Tryz.prog).push (.cells [csR [] [], gi (withinS st 1 16), gi 12, gi (whenS (ilt 4096 (fwrap IntKind.i64 (fwrap IntKind.i64 ((-1) * st) + 1))) 5)] 29 2 false)))) := by kernel_rfl
noncomputable def shE (l : List Nat) (st : Int) : Int := firstS [csE l, withinS st 1 16, whenS (ieq (Int.ofNat l.length) 0) 12, whenS (ilt 4096 (fwrap IntKind.i64 (fwrap IntKind.i64 (fwrap IntKind.i64 (Int.ofNat l.length - 1) * st) + 1))) 5]
noncomputable def shL (l : List Nat) (st : Int) : List Nat := (stL (l.map unitE) st.toNat).map sampleE
noncomputable def shOut (l : List Nat) (st : Int) : Out := bif ieq (shE l st) 0 then .fresh (tupM [] (shL l st).length [gi 0]) ((shL l st).map gf) 69 else .plain (.tuple #[nilS, gi (shE l st)])
noncomputable def shX : List Nat → List Value → Option Out := fun l r => match r with
  | [.int .i64 st] => some (shOut l st)
  | _ => none
noncomputable def shY (bb : Bool) : List Nat → List Value → (Out → Prop) → Prop := fun l r K => match r with
  | [.int .i64 st] => ieq (shE l st) 0 = bb ∧ Bool.rec (motive := fun _ => Prop) (K (.plain (.tuple #[nilS, gi (shE l st)])))
      (∀ xs, xs = shL l st → K (.fresh (tupM [] xs.length [gi 0]) (xs.map gf) 69)) bb
  | _ => False
theorem shX_some {l : List Nat} {r : List Value} {o : Out} (h : shX l r = some o) : ∃ st, r = [gi st] ∧ o = shOut l st := by
  unfold shX at h
  split at h
  · cases h; exact ⟨_, rfl, rfl⟩
  · cases h
theorem shY_ok (bb : Bool) (l : List Nat) (r : List Value) (K : Out → Prop) (h : shY bb l r K) : ∃ o, shX l r = some o ∧ K o := by
  unfold shY at h
  split at h
  · refine ⟨_, rfl, ?_⟩
    unfold shOut
    rw [h.1]
    cases bb with
    | true => exact h.2 _ rfl
    | false => exact h.2
  · exact h.elim
theorem shOut_bad {l : List Nat} {st : Int} (h : shE l st ≠ 0) : shOut l st = .plain (.tuple #[nilS, gi (shE l st)]) := by
  unfold shOut; rw [ieq_ne h]; rfl
theorem shOut_good {l : List Nat} {st : Int} (h : shE l st = 0) : shOut l st = .fresh (tupM [] (shL l st).length [gi 0]) ((shL l st).map gf) 69 := by
  unfold shOut; rw [h]; rfl
theorem when_zero {b : Bool} {x : Int} (hx : x ≠ 0) (h : whenS b x = 0) : b = false := by
  cases b with
  | false => rfl
  | true => exact absurd h hx
theorem mul_wrap {n a : Nat} (hn : n ≤ 4096) (h0 : 0 < n) (ha : a ≤ 16) : fwrap IntKind.i64 (fwrap IntKind.i64 (fwrap IntKind.i64 (Int.ofNat n - 1) * Int.ofNat a) + 1) = Int.ofNat ((n - 1) * a + 1) := by
  have h1 : (n - 1) * a ≤ 4095 * 16 := Nat.mul_le_mul (by omega) ha
  have e1 : Int.ofNat n - 1 = Int.ofNat (n - 1) := by simp only [Int.ofNat_eq_natCast]; omega
  rw [e1, fwrap_nat (by omega), show Int.ofNat (n - 1) * Int.ofNat a = Int.ofNat ((n - 1) * a) from rfl, fwrap_nat (by omega), show Int.ofNat ((n - 1) * a) + 1 = Int.ofNat ((n - 1) * a + 1) from rfl, fwrap_nat (by omega)]
theorem shE_zero {l : List Nat} {st : Int} (h : shE l st = 0) : csE l = 0 ∧ 0 < l.length ∧ ∃ a : Nat, st = a ∧ 1 ≤ a ∧ a ≤ 16 ∧ (l.length - 1) * a ≤ 4095 := by
  have h' := firstS_zero h
  have e1 := h' _ (.head _)
  obtain ⟨_, hle⟩ := cs_zero e1
  have e2 := within_zero (h' (withinS st 1 16) (by simp))
  have e3 := when_zero (by decide) (h' _ (.tail _ (.tail _ (.head _))))
  have e4 := when_zero (by decide) (h' _ (.tail _ (.tail _ (.tail _ (.head _)))))
  have h0 : 0 < l.length := by
    rw [ieq_dec] at e3
    have := of_decide_eq_false e3
    simp only [Int.ofNat_eq_natCast] at this
    omega
  obtain ⟨a, rfl⟩ := Int.eq_ofNat_of_zero_le (show 0 ≤ st by omega)
  refine ⟨e1, h0, a, rfl, by omega, by omega, ?_⟩
  rw [show (a : Int) = Int.ofNat a from rfl, mul_wrap hle h0 (by omega), ilt_dec] at e4
  have := of_decide_eq_false e4
  simp only [Int.ofNat_eq_natCast] at this
  omega
theorem units_ok {l : List Nat} (h : validL l) : okL (l.map unitE) := by
  intro u hu
  obtain ⟨x, hx, rfl⟩ := List.mem_map.1 hu
  obtain ⟨_, _, h1, h2⟩ := unit_ok (h x hx)
  exact ⟨h1, h2⟩
theorem okI_getD {l : List Int} (h : okL l) (i : Nat) : okI (l.getD i 0) := by
  rw [List.getD_eq_getElem?_getD]
  cases hi : l[i]? with
  | none => exact ⟨by decide, by decide⟩
  | some u => exact h _ (List.mem_of_getElem? hi)
theorem stE_ok {l : List Int} {st p : Nat} (h : okL l) (h1 : 1 ≤ st) (h2 : st ≤ 16) : okI (stE l st p) := by
  obtain ⟨a, b⟩ := stW_le (l := l) (st := st) (i := p / st) (q := p % st) (Nat.le_of_lt (Nat.mod_lt _ (by omega))) h2 (okI_getD h _) (okI_getD h _)
  exact near_ok (by omega) a b
theorem stL_ok {l : List Int} {st : Nat} (h : okL l) (h1 : 1 ≤ st) (h2 : st ≤ 16) : okL (stL l st) := by
  intro u hu
  rcases List.mem_append.1 hu with hu | hu
  · obtain ⟨p, _, rfl⟩ := List.mem_map.1 hu
    exact stE_ok h h1 h2
  · rw [List.mem_singleton.1 hu]
    exact okI_getD h _
theorem stL_length (l : List Int) (st : Nat) : (stL l st).length = (l.length - 1) * st + 1 := by
  unfold stL
  rw [List.length_append, stX_length]; rfl
theorem shL_length (l : List Nat) (st : Int) : (shL l st).length = (l.length - 1) * st.toNat + 1 := by
  unfold shL
  rw [List.length_map, stL_length, List.length_map]
theorem shE_nil (st : Int) : firstS [0, withinS st 1 16, 12, whenS (ilt 4096 (fwrap IntKind.i64 (fwrap IntKind.i64 ((-1) * st) + 1))) 5] = shE [] st := by unfold shE; rw [csE_nil]; rfl
theorem shE_none (st : Int) : shE [] st ≠ 0 := by
  intro h
  have := (shE_zero h).2.1
  simp at this
noncomputable def orcRk : Orc := orElse 35 (genO dF 65536 false shX) orcRj
set_option maxRecDepth 100000 in
theorem orcRk_ok : OrcOk Tryz.prog orcRk := by
  refine genO_ok dF_some (fun _ => rfl) globs_pos orcRj_ok ?_ ?_ ?_ ?_
  · intro l r o h
    obtain ⟨st, rfl, rfl⟩ := shX_some h
    unfold shOut
    cases ieq (shE l st) 0 with
    | true => exact ⟨names_tup rfl rfl, flat_floats _⟩
    | false => rfl
  · intro r o h
    obtain ⟨st, rfl, rfl⟩ := shX_some h
    rw [shOut_bad (shE_none st)]
    exact callC_ok mixed orcRj_ok askRj_ok (Eq.mpr (sr_nil st _) ⟨by rw [shE_nil, ieq_ne (shE_none st)]; rfl, by rw [shE_nil]; rfl⟩)
  · intro r k o h
    obtain ⟨st, rfl, rfl⟩ := shX_some h
    rw [shOut_bad (shE_none st)]
    exact callC_ok mixed orcRj_ok askRj_ok (Eq.mpr (sr_emp k st _) ⟨by rw [shE_nil, ieq_ne (shE_none st)]; rfl, by rw [shE_nil]; rfl⟩)
  · intro l off n r el row k o ho hw h0 h1 h2 h3 h
    obtain rfl := ho rfl
    rw [List.drop_zero] at h
    obtain ⟨st, rfl, rfl⟩ := shX_some h
    have hlen : (l.take n).length = n := by rw [List.length_take]; omega
    have hE : firstS [csE (l.take n), withinS st 1 16, whenS (ieq (Int.ofNat n) 0) 12, whenS (ilt 4096 (fwrap IntKind.i64 (fwrap IntKind.i64 (fwrap IntKind.i64 (Int.ofNat n - 1) * st) + 1))) 5] = shE (l.take n) st := by
      unfold shE
      rw [hlen]
    refine callC_ok mixed orcRj_ok askRj_ok (Eq.mpr (sr_run l n k el row st _) ⟨l, rfl, h0, by omega, by omega, h3, fun hz => ?_, fun hz => ?_⟩)
    · rw [hE] at hz ⊢
      rw [shOut_bad (not_ieq hz)]
      rfl
    · rw [hE] at hz
      have hz := not_ieq' hz
      rw [shOut_good hz]
      obtain ⟨hc, _, a, rfl, p1, p2, p3⟩ := shE_zero hz
      obtain ⟨hv, _⟩ := cs_zero hc
      rw [hlen] at p3
      have ht : ((l.take n).map unitE).take n = (l.take n).map unitE := List.take_of_length_le (by rw [List.length_map, hlen]; omega)
      have hs : (stL ((l.take n).map unitE) a).length = (n - 1) * a + 1 := by rw [stL_length, List.length_map, hlen]
      refine ⟨l, rfl, h0, by omega, h2, hv, (l.take n).map unitE, rfl, rfl, h0, by rw [List.length_map, hlen]; omega, h2, Nat.le_refl _, rfl, ?_, ?_, by omega, by omega, ?_, fun y hy => ?_⟩
      · rw [ht]
        intro hn
        have := congrArg List.length hn
        rw [List.length_map, hlen] at this
        simp at this; omega
      · rw [ht]; exact units_ok hv
      · rw [ht, List.length_map, hlen]
        show (n - 1) * a ≤ 65535
        omega
      · rw [ht] at hy
        have hy : y = stL ((l.take n).map unitE) a := hy
        have hyl : y.length = (n - 1) * a + 1 := by rw [hy, hs]
        refine ⟨y, rfl, by omega, Nat.le_refl _, by omega, ?_, ?_⟩
        · rw [List.take_length, hy]
          exact stL_ok (units_ok hv) p1 p2
        · rw [List.take_length]
          have hL : shL (l.take n) (a : Int) = y.map sampleE := by rw [hy]; rfl
          rw [hL]
          refine ⟨N1 + 4, ?_, ?_⟩
          · rw [List.length_map]; rfl
          · rw [AHeap.get_push_eq (by kernel_rfl)]; rfl
noncomputable def askRk (bb : Bool) : Asks := asksG 35 gf 65536 (shY bb) askRj
theorem askRk_ok (bb : Bool) : AsksOk orcRk (askRk bb) := asksG_ok (d := dF) (e := gf) (fun _ => rfl) (shY_ok bb) askRj_ok
end Go.Proofs.YtnlkkapeldhemaaGreatDoor
