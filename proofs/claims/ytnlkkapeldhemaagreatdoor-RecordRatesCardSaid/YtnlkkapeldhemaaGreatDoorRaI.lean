/-
  OWN WORK. RecordRates on the abstract machine: it returns true, for all samples and numbers.
-/
import Derived.Test.YtnlkkapeldhemaaGreatDoorRaH
namespace Go.Proofs.YtnlkkapeldhemaaGreatDoor
open Go Go.Am

noncomputable def mE (l : List Nat) (st : Int) : Int := firstS [csE l, withinS st 1 16]
noncomputable def rgE (st fr : Int) : Int := withinS fr 0 (fwrap IntKind.i64 (st - 1))
theorem firstS_cons (x : Int) (l : List Int) : firstS (x :: l) = bif ieq x 0 then firstS l else x := rfl
theorem firstS_one (x : Int) : firstS [x] = x := by
  rw [firstS_cons]
  cases h : ieq x 0 with
  | true =>
    rw [ieq_dec] at h
    rw [show x = 0 by simpa using h]; rfl
  | false => rfl
theorem firstS_two {c a : Int} (r : List Int) (h : firstS [c, a] ≠ 0) : firstS (c :: a :: r) = firstS [c, a] := by
  rw [firstS_cons, firstS_cons] at h
  rw [firstS_cons, firstS_cons, firstS_cons c [a], firstS_cons a []]
  cases h1 : ieq c 0 with
  | false => rfl
  | true =>
    rw [h1] at h
    cases h2 : ieq a 0 with
    | false => rfl
    | true => rw [h2] at h; exact absurd rfl h
theorem thE_m {l : List Nat} {st : Int} (fr : Int) (h : mE l st ≠ 0) : thE l st fr = mE l st := firstS_two _ h
theorem shE_m {l : List Nat} {st : Int} (h : mE l st ≠ 0) : shE l st = mE l st := firstS_two _ h
theorem mE_zero {l : List Nat} {st : Int} (h : mE l st = 0) : csE l = 0 ∧ withinS st 1 16 = 0 ∧ 1 ≤ st ∧ st ≤ 16 := by
  have h' := firstS_zero h
  have e2 := h' (withinS st 1 16) (by simp)
  exact ⟨h' _ (.head _), e2, (within_zero e2).1, (within_zero e2).2⟩
theorem thE_r {l : List Nat} {st : Int} (fr : Int) (h : mE l st = 0) : thE l st fr = rgE st fr := by
  obtain ⟨h1, h2, _⟩ := mE_zero h
  unfold thE
  rw [h1, h2]
  exact firstS_one _
theorem shE_sq {l : List Nat} {st : Int} (h : mE l st = 0) : shE l st = sqE l st := by
  obtain ⟨h1, h2, h3, h4⟩ := mE_zero h
  obtain ⟨_, hle⟩ := cs_zero h1
  unfold shE sqE
  rw [h1, h2]
  show firstS [whenS (ieq (Int.ofNat l.length) 0) 12, _] = _
  obtain ⟨a, rfl⟩ := Int.eq_ofNat_of_zero_le (show 0 ≤ st by omega)
  cases h0 : ieq (Int.ofNat l.length) 0 with
  | true => rfl
  | false =>
    rw [ieq_dec] at h0
    have h0 := of_decide_eq_false h0
    have hpos : 0 < l.length := by simp only [Int.ofNat_eq_natCast] at h0; omega
    show firstS [whenS _ 5] = _
    rw [firstS_one, show (a : Int) = Int.ofNat a from rfl, mul_wrap hle hpos (by omega), mul_nat hpos]
    rfl
theorem sqB_of {l : List Nat} {st : Int} (h : mE l st = 0) : sqB l st = true := by
  obtain ⟨h1, _, h3, h4⟩ := mE_zero h
  exact sqB_iff.2 ⟨h1, h3, h4⟩
theorem both_zero {l : List Nat} {st fr : Int} (h : mE l st = 0) (hr : rgE st fr = 0) : ∃ a b : Nat, st = a ∧ fr = b ∧ 1 ≤ a ∧ a ≤ 16 ∧ b ≤ a - 1 := by
  have := thE_r fr h
  rw [hr] at this
  exact (thE_zero this).2
theorem ThB_of {l : List Nat} {st fr : Int} (h : mE l st = 0) (hr : rgE st fr = 0) : ThB st fr = true := by
  obtain ⟨a, b, rfl, rfl, p1, p2, p3⟩ := both_zero h hr
  unfold ThB
  simp only [Bool.and_eq_true, ilt_dec, Bool.not_eq_true', decide_eq_false_iff_not, decide_eq_true_eq]
  omega
theorem thL_same {l : List Nat} {st fr : Int} (h : mE l st = 0) (hr : rgE st fr = 0) : SameF (thL l st fr) (thL l st fr) ∧ (thL l st fr).length ≤ l.length := by
  obtain ⟨hv, _⟩ := cs_zero (mE_zero h).1
  obtain ⟨a, b, rfl, rfl, p1, p2, p3⟩ := both_zero h hr
  have hlt := fun j => (cntT_lt (n := l.length) (j := j) p1 p3).1
  refine ⟨SameF.self fun x hx => ?_, ?_⟩
  · obtain ⟨i, hi, rfl⟩ := List.mem_map.1 (show x ∈ (List.range (cntT l.length a b)).map fun i => l.getD (b + i * a) 0 from hx)
    have hi := hlt i (by simpa using hi)
    refine hv _ (List.mem_of_getElem? (i := b + i * a) ?_)
    rw [List.getD_eq_getElem?_getD, List.getElem?_eq_getElem hi]; rfl
  · show (thP l a b (cntT l.length a b)).length ≤ _
    rw [thP_length]
    apply Nat.le_of_not_lt
    intro hc
    have := hlt l.length hc
    have := Nat.le_mul_of_pos_right l.length (show 0 < a by omega)
    omega
theorem thN_false {l : List Nat} {st fr : Int} (h : thN l st fr = false) : 0 < (thL l st fr).length := by
  unfold thN at h
  cases hx : thL l st fr with
  | nil => rw [hx] at h; cases h
  | cons x xs => simp
theorem SameF.snoc {A : List Nat} {x y : Nat} (hA : ∀ z ∈ A, fin32 z) (hxy : ne32 x y = false) : SameF (A ++ [x]) (A ++ [y]) := by
  refine ⟨by simp, fun j h h' => ?_⟩
  by_cases hj : j < A.length
  · rw [List.getElem_append_left hj, List.getElem_append_left hj]
    exact ne32_self (hA _ (List.getElem_mem hj))
  · have h2 : j = A.length := by simp only [List.length_append, List.length_cons, List.length_nil] at h; omega
    subst h2
    simpa using hxy
theorem sample_fin32 {u : Int} (h : okI u) : fin32 (sampleE u) := by
  obtain ⟨b, hb, hf, _⟩ := smI_some h.1 h.2
  unfold sampleE
  rw [hb]; exact hf
theorem sh_same {l : List Nat} {st : Int} (h : mE l st = 0) (h0 : 0 < l.length) : SameF (shL l st) (sqL l st) := by
  obtain ⟨h1, _, h3, h4⟩ := mE_zero h
  obtain ⟨hv, _⟩ := cs_zero h1
  obtain ⟨a, rfl⟩ := Int.eq_ofNat_of_zero_le (show 0 ≤ st by omega)
  have hl : l.length - 1 < l.length := by omega
  have e1 : shL l (a : Int) = sqX l a ((l.length - 1) * a) ++ [sampleE (unitE l[l.length - 1])] := by
    show (stX (l.map unitE) a (((l.map unitE).length - 1) * a) ++ [(l.map unitE).getD ((l.map unitE).length - 1) 0]).map sampleE = _
    rw [List.length_map, unit_getD hl, List.map_append]; rfl
  have e2 : sqL l (a : Int) = sqX l a ((l.length - 1) * a) ++ [l[l.length - 1]] := by
    show sqX l a ((l.length - 1) * a) ++ [l.getD (l.length - 1) 0] = _
    rw [List.getD_eq_getElem?_getD, List.getElem?_eq_getElem hl]; rfl
  rw [e1, e2]
  refine SameF.snoc (fun z hz => ?_) (sample_unit (hv _ (List.getElem_mem hl)))
  obtain ⟨u, hu, rfl⟩ := List.mem_map.1 hz
  obtain ⟨p, _, rfl⟩ := List.mem_map.1 hu
  exact sample_fin32 (stE_ok (units_ok hv) (by omega) (by omega))
theorem sh_len {l : List Nat} {st : Int} (h : shE l st = 0) : 0 < (shL l st).length ∧ (shL l st).length ≤ 65536 := by
  obtain ⟨_, _, a, rfl, _, _, p⟩ := shE_zero h
  rw [shL_length]
  show 0 < (l.length - 1) * a + 1 ∧ (l.length - 1) * a + 1 ≤ 65536
  omega
set_option maxRecDepth 100000 in
theorem ra_full (l : List Nat) (k e : Nat) (es : Nat → TypeId) (st fr : Int) (h0 : 0 < l.length) (h1 : l.length ≤ 9223372036854775807) (hk : l.length ≤ k) : CallJ Tryz.prog 5 #[liP l.length k, gi st, gi fr] (argH es (l.map gf) e) (fun v _ => v = .bool true) := by
  have ht : l.take l.length = l := List.take_length
  have hle := Nat.le_refl l.length
  have hm1 : (!shortB (l.take l.length).length) = false → l.length ≤ 4097 := fun h => by rw [ht] at h; exact short_le h
  have hm2 : (!ieq (Int.ofNat l.length) 300) = false → l.length ≤ 4097 := fun h => by
    rw [ieq_dec] at h
    simp only [Bool.not_eq_false', decide_eq_true_eq, Int.ofNat_eq_natCast] at h
    omega
  by_cases hm : mE l st = 0
  · have hz : ieq (firstS [csE (l.take l.length), withinS st 1 16]) 0 = true := by rw [ht]; exact ieq_z hm
    have hB : sqB (l.take l.length) st = true := by rw [ht]; exact sqB_of hm
    have hsq := shE_sq hm
    have hth := thE_r fr hm
    by_cases hr : rgE st fr = 0
    · have hrz : ieq (withinS fr 0 (fwrap IntKind.i64 (st - 1))) 0 = true := ieq_z hr
      have hrz' : ieq 0 (withinS fr 0 (fwrap IntKind.i64 (st - 1))) = true := by rw [show withinS fr 0 (fwrap IntKind.i64 (st - 1)) = 0 from hr]; rfl
      have hT : ieq (thE (l.take l.length) st fr) 0 = true := by rw [ht]; exact ieq_z (by rw [hth, hr])
      have hTB := ThB_of hm hr
      obtain ⟨hS, hSl⟩ := thL_same hm hr
      cases hn : thN l st fr with
      | true =>
        have hn' : thN (l.take l.length) st fr = true := by rw [ht]; exact hn
        by_cases hs : shE l st = 0
        · have hs1 : ieq (shE (l.take l.length) st) 0 = true := by rw [ht]; exact ieq_z hs
          have hs2 : ieq (sqE (l.take l.length) st) 0 = true := by rw [ht]; exact ieq_z (by rw [← hsq, hs])
          obtain ⟨q1, q2⟩ := sh_len hs
          refine callC_ok mixed orcRl_ok (askRm_ok true true true true true) (Eq.mpr (ra_C11 l l.length k e es st fr _) ⟨l, rfl, h0, hle, h1, hk, fun _ => ⟨fun _ => rfl, fun h3 => ?_⟩, fun h3 => ?_⟩)
          all_goals
            have hn1 : l.length ≤ 4097 := by first | exact hm1 h3 | exact hm2 h3
            refine ⟨l, rfl, h0, hle, by omega, l, by rw [ht], rfl, h0, hle, by omega, hle, hT, hn', l, rfl, h0, hle, by omega, l, by rw [ht], rfl, h0, hle, by omega, hle, hs1, fun y6 e6 => ?_⟩
            refine ⟨l, rfl, h0, hle, by omega, hk, hz, hrz, l, rfl, rfl, h0, hle, by omega, hk, hTB, hn', hz, l, rfl, rfl, h0, hle, by omega, hk, hB, hs2, fun y10 e10 => ?_⟩
            subst e6 e10
            rw [ht] at *
            exact ⟨rfl, rfl, rfl, rfl, hrz', by kernel_rfl, q1, shL l st, sqL l st, rfl, rfl, rfl, rfl, q2, sh_same hm h0, rfl, rfl⟩
        · have hs1 : ieq (shE (l.take l.length) st) 0 = false := by rw [ht]; exact ieq_ne hs
          have hs2 : ieq (sqE (l.take l.length) st) 0 = false := by rw [ht]; exact ieq_ne (by rw [← hsq]; exact hs)
          have hs3 : ieq (shE (l.take l.length) st) (sqE (l.take l.length) st) = true := by rw [ht, hsq]; exact ieq_self _
          refine callC_ok mixed orcRl_ok (askRm_ok false false true true true) (Eq.mpr (ra_C10 l l.length k e es st fr _) ⟨l, rfl, h0, hle, h1, hk, fun _ => ⟨fun _ => rfl, fun h3 => ?_⟩, fun h3 => ?_⟩)
          all_goals
            have hn1 : l.length ≤ 4097 := by first | exact hm1 h3 | exact hm2 h3
            exact ⟨l, rfl, h0, hle, by omega, l, by rw [ht], rfl, h0, hle, by omega, hle, hT, hn', l, rfl, h0, hle, by omega, l, by rw [ht], rfl, h0, hle, by omega, hle, hs1, l, rfl, h0, hle, by omega, hk, hz, hrz, l, rfl, rfl, h0, hle, by omega, hk, hTB, hn', hz, l, rfl, rfl, h0, hle, by omega, hk, hB, hs2, rfl, rfl, rfl, rfl, hrz', rfl, rfl, rfl, rfl, hs3, rfl⟩
      | false =>
        have hn' : thN (l.take l.length) st fr = false := by rw [ht]; exact hn
        have hpos := thN_false hn
        by_cases hs : shE l st = 0
        · have hs1 : ieq (shE (l.take l.length) st) 0 = true := by rw [ht]; exact ieq_z hs
          have hs2 : ieq (sqE (l.take l.length) st) 0 = true := by rw [ht]; exact ieq_z (by rw [← hsq, hs])
          obtain ⟨q1, q2⟩ := sh_len hs
          refine callC_ok mixed orcRl_ok (askRm_ok true true false true false) (Eq.mpr (ra_C01 l l.length k e es st fr _) ⟨l, rfl, h0, hle, h1, hk, fun _ => ⟨fun _ => rfl, fun h3 => ?_⟩, fun h3 => ?_⟩)
          all_goals
            have hn1 : l.length ≤ 4097 := by first | exact hm1 h3 | exact hm2 h3
            refine ⟨l, rfl, h0, hle, by omega, l, by rw [ht], rfl, h0, hle, by omega, hle, hT, hn', fun y4 e4 => ⟨l, rfl, h0, hle, by omega, l, by rw [ht], rfl, h0, hle, by omega, hle, hs1, fun y7 e7 => ?_⟩⟩
            refine ⟨l, rfl, h0, hle, by omega, hk, hz, hrz, l, rfl, rfl, h0, hle, by omega, hk, hTB, hn', fun y10 e10 => ⟨hz, l, rfl, rfl, h0, hle, by omega, hk, hB, hs2, fun y12 e12 => ?_⟩⟩
            subst e4 e7 e10 e12
            rw [ht] at *
            exact ⟨by kernel_rfl, hpos, thL l st fr, thL l st fr, rfl, rfl, rfl, rfl, by omega, hS, hrz', by kernel_rfl, q1, shL l st, sqL l st, rfl, rfl, rfl, rfl, q2, sh_same hm h0, rfl, rfl⟩
        · have hs1 : ieq (shE (l.take l.length) st) 0 = false := by rw [ht]; exact ieq_ne hs
          have hs2 : ieq (sqE (l.take l.length) st) 0 = false := by rw [ht]; exact ieq_ne (by rw [← hsq]; exact hs)
          have hs3 : ieq (shE l st) (sqE l st) = true := by rw [hsq]; exact ieq_self _
          refine callC_ok mixed orcRl_ok (askRm_ok false false false true false) (Eq.mpr (ra_C00 l l.length k e es st fr _) ⟨l, rfl, h0, hle, h1, hk, fun _ => ⟨fun _ => rfl, fun h3 => ?_⟩, fun h3 => ?_⟩)
          all_goals
            have hn1 : l.length ≤ 4097 := by first | exact hm1 h3 | exact hm2 h3
            refine ⟨l, rfl, h0, hle, by omega, l, by rw [ht], rfl, h0, hle, by omega, hle, hT, hn', fun y4 e4 => ⟨l, rfl, h0, hle, by omega, l, by rw [ht], rfl, h0, hle, by omega, hle, hs1, ?_⟩⟩
            refine ⟨l, rfl, h0, hle, by omega, hk, hz, hrz, l, rfl, rfl, h0, hle, by omega, hk, hTB, hn', fun y9 e9 => ⟨hz, l, rfl, rfl, h0, hle, by omega, hk, hB, hs2, ?_⟩⟩
            subst e4 e9
            rw [ht] at *
            exact ⟨by kernel_rfl, hpos, thL l st fr, thL l st fr, rfl, rfl, rfl, rfl, by omega, hS, hrz', rfl, rfl, rfl, rfl, hs3, rfl⟩
    · have hrz : ieq (withinS fr 0 (fwrap IntKind.i64 (st - 1))) 0 = false := ieq_ne hr
      have hT : ieq (thE (l.take l.length) st fr) 0 = false := by rw [ht, hth]; exact ieq_ne hr
      have hT2 : ieq (thE (l.take l.length) st fr) (withinS fr 0 (fwrap IntKind.i64 (st - 1))) = true := by rw [ht, hth]; exact ieq_self _
      by_cases hs : shE l st = 0
      · have hs1 : ieq (shE (l.take l.length) st) 0 = true := by rw [ht]; exact ieq_z hs
        have hs2 : ieq (sqE (l.take l.length) st) 0 = true := by rw [ht]; exact ieq_z (by rw [← hsq, hs])
        obtain ⟨q1, q2⟩ := sh_len hs
        refine callC_ok mixed orcRl_ok (askRm_ok true true false false false) (Eq.mpr (ra_B1 l l.length k e es st fr _) ⟨l, rfl, h0, hle, h1, hk, fun _ => ⟨fun _ => rfl, fun h3 => ?_⟩, fun h3 => ?_⟩)
        all_goals
          have hn1 : l.length ≤ 4097 := by first | exact hm1 h3 | exact hm2 h3
          refine ⟨l, rfl, h0, hle, by omega, l, by rw [ht], rfl, h0, hle, by omega, hle, hT, l, rfl, h0, hle, by omega, l, by rw [ht], rfl, h0, hle, by omega, hle, hs1, fun y6 e6 => ?_⟩
          refine ⟨l, rfl, h0, hle, by omega, hk, hz, hrz, hz, l, rfl, rfl, h0, hle, by omega, hk, hB, hs2, fun y9 e9 => ?_⟩
          subst e6 e9
          rw [ht] at *
          exact ⟨rfl, rfl, rfl, rfl, hT2, by kernel_rfl, q1, shL l st, sqL l st, rfl, rfl, rfl, rfl, q2, sh_same hm h0, rfl, rfl⟩
      · have hs1 : ieq (shE (l.take l.length) st) 0 = false := by rw [ht]; exact ieq_ne hs
        have hs2 : ieq (sqE (l.take l.length) st) 0 = false := by rw [ht]; exact ieq_ne (by rw [← hsq]; exact hs)
        have hs3 : ieq (shE (l.take l.length) st) (sqE (l.take l.length) st) = true := by rw [ht, hsq]; exact ieq_self _
        refine callC_ok mixed orcRl_ok (askRm_ok false false false false false) (Eq.mpr (ra_B0 l l.length k e es st fr _) ⟨l, rfl, h0, hle, h1, hk, fun _ => ⟨fun _ => rfl, fun h3 => ?_⟩, fun h3 => ?_⟩)
        all_goals
          have hn1 : l.length ≤ 4097 := by first | exact hm1 h3 | exact hm2 h3
          exact ⟨l, rfl, h0, hle, by omega, l, by rw [ht], rfl, h0, hle, by omega, hle, hT, l, rfl, h0, hle, by omega, l, by rw [ht], rfl, h0, hle, by omega, hle, hs1, l, rfl, h0, hle, by omega, hk, hz, hrz, hz, l, rfl, rfl, h0, hle, by omega, hk, hB, hs2, rfl, rfl, rfl, rfl, hT2, rfl, rfl, rfl, rfl, hs3, rfl⟩
  · have hz : ieq (firstS [csE (l.take l.length), withinS st 1 16]) 0 = false := by rw [ht]; exact ieq_ne hm
    have hT : ieq (thE (l.take l.length) st fr) 0 = false := by rw [ht, thE_m fr hm]; exact ieq_ne hm
    have hT2 : ieq (thE (l.take l.length) st fr) (firstS [csE (l.take l.length), withinS st 1 16]) = true := by rw [ht, thE_m fr hm]; exact ieq_self _
    have hs1 : ieq (shE (l.take l.length) st) 0 = false := by rw [ht, shE_m hm]; exact ieq_ne hm
    have hs3 : ieq (shE (l.take l.length) st) (firstS [csE (l.take l.length), withinS st 1 16]) = true := by rw [ht, shE_m hm]; exact ieq_self _
    refine callC_ok mixed orcRl_ok (askRm_ok false false false false false) (Eq.mpr (ra_A l l.length k e es st fr _) ⟨l, rfl, h0, hle, h1, hk, fun _ => ⟨fun _ => rfl, fun h3 => ?_⟩, fun h3 => ?_⟩)
    all_goals
      have hn1 : l.length ≤ 4097 := by first | exact hm1 h3 | exact hm2 h3
      exact ⟨l, rfl, h0, hle, by omega, l, by rw [ht], rfl, h0, hle, by omega, hle, hT, l, rfl, h0, hle, by omega, l, by rw [ht], rfl, h0, hle, by omega, hle, hs1, l, rfl, h0, hle, by omega, hk, hz, hz, hz, rfl, rfl, rfl, rfl, hT2, rfl, rfl, rfl, rfl, hs3, rfl⟩
theorem m_nil (st : Int) : firstS [0, withinS st 1 16] = mE [] st := by unfold mE; rw [csE_nil]
theorem thN_nil {st fr : Int} (h : mE [] st = 0) (hr : rgE st fr = 0) : thN [] st fr = true := by
  obtain ⟨a, b, rfl, rfl, p1, _, _⟩ := both_zero h hr
  unfold thN
  rw [thL_nil p1]; rfl
set_option maxRecDepth 100000 in
theorem ra_nil (es : Nat → TypeId) (st fr : Int) : CallJ Tryz.prog 5 #[nilS, gi st, gi fr] (base tabs es Tryz.prog.globals.size) (fun v _ => v = .bool true) := by
  have hs1 : ieq (shE [] st) 0 = false := ieq_ne (shE_none st)
  by_cases hm : mE [] st = 0
  · have hz : ieq (firstS [0, withinS st 1 16]) 0 = true := by rw [m_nil]; exact ieq_z hm
    have hsq := shE_sq hm
    have hs2 : ieq (sqE [] st) 0 = false := rfl
    have hs3 : ieq (shE [] st) (sqE [] st) = true := by rw [hsq]; rfl
    have hB := sqB_of hm
    have hth := thE_r fr hm
    by_cases hr : rgE st fr = 0
    · have hT : ieq (thE [] st fr) 0 = true := ieq_z (by rw [hth, hr])
      have hrz' : ieq 0 (withinS fr 0 (fwrap IntKind.i64 (st - 1))) = true := by rw [show withinS fr 0 (fwrap IntKind.i64 (st - 1)) = 0 from hr]; rfl
      exact callC_ok mixed orcRl_ok (askRe0_ok true) (Eq.mpr (ra_nC es st fr _) ⟨rfl, hT, thN_nil hm hr, rfl, hs1, hz, ieq_z hr, rfl, rfl, ThB_of hm hr, thN_nil hm hr, hz, rfl, rfl, hB, hs2, rfl, rfl, rfl, rfl, hrz', rfl, rfl, rfl, rfl, hs3, rfl⟩)
    · have hT : ieq (thE [] st fr) 0 = false := by rw [hth]; exact ieq_ne hr
      have hT2 : ieq (thE [] st fr) (withinS fr 0 (fwrap IntKind.i64 (st - 1))) = true := by rw [hth]; exact ieq_self _
      exact callC_ok mixed orcRl_ok (askRe0_ok false) (Eq.mpr (ra_nB es st fr _) ⟨rfl, hT, rfl, hs1, hz, ieq_ne hr, hz, rfl, rfl, hB, hs2, rfl, rfl, rfl, rfl, hT2, rfl, rfl, rfl, rfl, hs3, rfl⟩)
  · have hz : ieq (firstS [0, withinS st 1 16]) 0 = false := by rw [m_nil]; exact ieq_ne hm
    have hT : ieq (thE [] st fr) 0 = false := by rw [thE_m fr hm]; exact ieq_ne hm
    have hT2 : ieq (thE [] st fr) (firstS [0, withinS st 1 16]) = true := by rw [thE_m fr hm, m_nil]; exact ieq_self _
    have hs3 : ieq (shE [] st) (firstS [0, withinS st 1 16]) = true := by rw [shE_m hm, m_nil]; exact ieq_self _
    exact callC_ok mixed orcRl_ok (askRe0_ok false) (Eq.mpr (ra_nA es st fr _) ⟨rfl, hT, rfl, hs1, hz, hz, hz, rfl, rfl, rfl, rfl, hT2, rfl, rfl, rfl, rfl, hs3, rfl⟩)
set_option maxRecDepth 100000 in
theorem ra_emp (k : Nat) (es : Nat → TypeId) (st fr : Int) : CallJ Tryz.prog 5 #[.slice (some ⟨Tryz.prog.globals.size, 0, none⟩) 0 k, gi st, gi fr] ((base tabs es Tryz.prog.globals.size).push .dead) (fun v _ => v = .bool true) := by
  have hs1 : ieq (shE [] st) 0 = false := ieq_ne (shE_none st)
  by_cases hm : mE [] st = 0
  · have hz : ieq (firstS [0, withinS st 1 16]) 0 = true := by rw [m_nil]; exact ieq_z hm
    have hsq := shE_sq hm
    have hs2 : ieq (sqE [] st) 0 = false := rfl
    have hs3 : ieq (shE [] st) (sqE [] st) = true := by rw [hsq]; rfl
    have hB := sqB_of hm
    have hth := thE_r fr hm
    by_cases hr : rgE st fr = 0
    · have hT : ieq (thE [] st fr) 0 = true := ieq_z (by rw [hth, hr])
      have hrz' : ieq 0 (withinS fr 0 (fwrap IntKind.i64 (st - 1))) = true := by rw [show withinS fr 0 (fwrap IntKind.i64 (st - 1)) = 0 from hr]; rfl
      exact callC_ok mixed orcRl_ok (askRe0_ok true) (Eq.mpr (ra_eC k es st fr _) ⟨rfl, hT, thN_nil hm hr, rfl, hs1, hz, ieq_z hr, rfl, ThB_of hm hr, thN_nil hm hr, hz, rfl, hB, hs2, rfl, rfl, rfl, rfl, hrz', rfl, rfl, rfl, rfl, hs3, rfl⟩)
    · have hT : ieq (thE [] st fr) 0 = false := by rw [hth]; exact ieq_ne hr
      have hT2 : ieq (thE [] st fr) (withinS fr 0 (fwrap IntKind.i64 (st - 1))) = true := by rw [hth]; exact ieq_self _
      exact callC_ok mixed orcRl_ok (askRe0_ok false) (Eq.mpr (ra_eB k es st fr _) ⟨rfl, hT, rfl, hs1, hz, ieq_ne hr, hz, rfl, hB, hs2, rfl, rfl, rfl, rfl, hT2, rfl, rfl, rfl, rfl, hs3, rfl⟩)
  · have hz : ieq (firstS [0, withinS st 1 16]) 0 = false := by rw [m_nil]; exact ieq_ne hm
    have hT : ieq (thE [] st fr) 0 = false := by rw [thE_m fr hm]; exact ieq_ne hm
    have hT2 : ieq (thE [] st fr) (firstS [0, withinS st 1 16]) = true := by rw [thE_m fr hm, m_nil]; exact ieq_self _
    have hs3 : ieq (shE [] st) (firstS [0, withinS st 1 16]) = true := by rw [shE_m hm, m_nil]; exact ieq_self _
    exact callC_ok mixed orcRl_ok (askRe0_ok false) (Eq.mpr (ra_eA k es st fr _) ⟨rfl, hT, rfl, hs1, hz, hz, hz, rfl, rfl, rfl, rfl, hT2, rfl, rfl, rfl, rfl, hs3, rfl⟩)
end Go.Proofs.YtnlkkapeldhemaaGreatDoor
