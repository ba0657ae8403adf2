/-
  OWN WORK. The triggered record, by the program: known for all samples.
-/
import Derived.Test.YtnlkkapeldhemaaGreatDoorTgB
import Derived.Test.YtnlkkapeldhemaaGreatDoorLw0
namespace Go.Proofs.YtnlkkapeldhemaaGreatDoor
open Go Go.Am

theorem tgF_some {lv b : Int} : ∀ {l : List Int} {i j : Nat}, tgF lv b l i = some j → i ≤ j ∧ j < i + l.length ∧ b ≤ Int.ofNat j
  | [], i, j, h => by cases h
  | u :: l, i, j, h => by
    unfold tgF at h
    split at h
    · obtain ⟨h1, h2, h3⟩ := tgF_some h
      exact ⟨by omega, by simp only [List.length_cons]; omega, h3⟩
    · rename_i hb
      split at h
      · cases h
        rw [ilt_dec] at hb
        have := of_decide_eq_false hb
        exact ⟨Nat.le_refl _, by simp only [List.length_cons]; omega, by omega⟩
      · obtain ⟨h1, h2, h3⟩ := tgF_some h
        exact ⟨by omega, by simp only [List.length_cons]; omega, h3⟩
noncomputable def trF (l : List Nat) (lv b : Int) : Option Nat := tgF lv b (l.map unitE) 0
noncomputable def rE (l : List Nat) (lv b a : Int) : Int := match trF l lv b with
  | none => 7
  | some i => bif ilt (Int.ofNat l.length - Int.ofNat i) a then 16 else 0
noncomputable def pE (l : List Nat) (lv b a : Int) : Int := firstS [csE l, withinS lv 1 16384, withinS b 0 4096, withinS a 1 4096]
noncomputable def trE (l : List Nat) (lv b a : Int) : Int := bif ieq (pE l lv b a) 0 then rE l lv b a else pE l lv b a
noncomputable def trI (l : List Nat) (lv b : Int) : Nat := (trF l lv b).getD 0
noncomputable def trS (l : List Nat) (lv b a : Int) : List Nat := (l.drop (trI l lv b - b.toNat)).take (b + a).toNat
noncomputable def trGood (l : List Nat) (lv b a : Int) : Out := .fresh (tupM [] (trS l lv b a).length [gi (Int.ofNat (trI l lv b)), gi 0]) ((trS l lv b a).map gf) 69
noncomputable def trBad (x : Int) : Out := .plain (.tuple #[nilS, gi 0, gi x])
noncomputable def trOut (l : List Nat) (lv b a : Int) : Out := bif ieq (trE l lv b a) 0 then trGood l lv b a else trBad (trE l lv b a)
noncomputable def trX : List Nat → List Value → Option Out := fun l r => match r with
  | [.int .i64 lv, .int .i64 b, .int .i64 a] => some (trOut l lv b a)
  | _ => none
noncomputable def trY (bb : Bool) : List Nat → List Value → (Out → Prop) → Prop := fun l r K => match r with
  | [.int .i64 lv, .int .i64 b, .int .i64 a] => ieq (trE l lv b a) 0 = bb ∧ Bool.rec (motive := fun _ => Prop) (K (trBad (trE l lv b a)))
      (∀ i seg, i = trI l lv b → seg = trS l lv b a → K (.fresh (tupM [] seg.length [gi (Int.ofNat i), gi 0]) (seg.map gf) 69)) bb
  | _ => False
theorem trX_some {l : List Nat} {r : List Value} {o : Out} (h : trX l r = some o) : ∃ lv b a, r = [gi lv, gi b, gi a] ∧ o = trOut l lv b a := by
  unfold trX at h
  split at h
  · cases h; exact ⟨_, _, _, rfl, rfl⟩
  · cases h
theorem trY_ok (bb : Bool) (l : List Nat) (r : List Value) (K : Out → Prop) (h : trY bb l r K) : ∃ o, trX l r = some o ∧ K o := by
  unfold trY at h
  split at h
  · refine ⟨_, rfl, ?_⟩
    unfold trOut
    rw [h.1]
    cases bb with
    | true => exact h.2 _ _ rfl rfl
    | false => exact h.2
  · exact h.elim
theorem trOut_ok (l : List Nat) (lv b a : Int) : (trOut l lv b a).Ok := by
  unfold trOut
  cases ieq (trE l lv b a) 0 with
  | true => exact ⟨names_tup rfl rfl, flat_floats _⟩
  | false => rfl
theorem ieq_ne {x y : Int} (h : x ≠ y) : ieq x y = false := by rw [ieq_dec]; exact decide_eq_false h
theorem within_zero {x lo hi : Int} (h : withinS x lo hi = 0) : lo ≤ x ∧ x ≤ hi := by
  unfold withinS whenS at h
  rw [ilt_dec, ilt_dec] at h
  by_cases h1 : x < lo
  · rw [decide_eq_true h1] at h; cases h
  · by_cases h2 : hi < x
    · rw [decide_eq_true h2, Bool.or_true] at h; cases h
    · omega
theorem pE_zero {l : List Nat} {lv b a : Int} (h : pE l lv b a = 0) : csE l = 0 ∧ trC lv b a = 0 ∧ (1 ≤ lv ∧ lv ≤ 16384) ∧ (0 ≤ b ∧ b ≤ 4096) ∧ 1 ≤ a ∧ a ≤ 4096 := by
  have h' := firstS_zero h
  have e1 := h' _ (.head _)
  have e2 := h' (withinS lv 1 16384) (by simp)
  have e3 := h' (withinS b 0 4096) (by simp)
  have e4 := h' (withinS a 1 4096) (by simp)
  refine ⟨e1, ?_, within_zero e2, within_zero e3, within_zero e4⟩
  unfold trC
  rw [e2, e3, e4]
  rfl
theorem trE_bad {l : List Nat} {lv b a : Int} (h : pE l lv b a ≠ 0) : trE l lv b a = pE l lv b a ∧ ieq (trE l lv b a) 0 = false := by
  have : trE l lv b a = pE l lv b a := by unfold trE; rw [ieq_ne h]; rfl
  exact ⟨this, by rw [this]; exact ieq_ne h⟩
theorem trE_good {l : List Nat} {lv b a : Int} (h : pE l lv b a = 0) : trE l lv b a = rE l lv b a := by
  unfold trE; rw [h]; rfl
theorem out_bad {l : List Nat} {lv b a x : Int} (h : trE l lv b a = x) (hx : x ≠ 0) : trOut l lv b a = trBad x := by
  unfold trOut; rw [h, ieq_ne hx]; rfl
theorem out_good {l : List Nat} {lv b a : Int} (h : trE l lv b a = 0) : trOut l lv b a = trGood l lv b a := by
  unfold trOut; rw [h]; rfl
set_option maxRecDepth 100000 in
theorem tr_call (l : List Nat) (n el row k : Nat) (lv b a : Int) (hw : row = 0 ∨ row = 2) (h0 : 0 < n) (h1 : n ≤ l.length) (h2 : n ≤ 1000000) (h3 : n ≤ k) : CallJ Tryz.prog 29 #[liP n k, gi lv, gi b, gi a] (liH (l.map gf) el row) (trOut (l.take n) lv b a).Got := by
  have hlen : (l.take n).length = n := by rw [List.length_take]; omega
  have hrow : (Nat.beq row 0 || Nat.beq row 2) = true := by rcases hw with rfl | rfl <;> rfl
  refine callC_ok mixed orcTa_ok askTa_ok (Eq.mpr (tr_run l n k el row lv b a _) ⟨l, rfl, h0, h1, h2, h3, fun hp => ?_, fun hp => ?_⟩)
  · have hp := not_ieq hp
    obtain ⟨e1, e2⟩ := trE_bad (l := l.take n) hp
    rw [out_bad e1 hp]
    rfl
  · have hp : pE (l.take n) lv b a = 0 := not_ieq' hp
    obtain ⟨p1, p2, ⟨p3, p4⟩, ⟨p5, p6⟩, p7, p8⟩ := pE_zero hp
    obtain ⟨hva, hle⟩ := cs_zero p1
    rw [hlen] at hle
    have ht : ((l.take n).map unitE).take n = (l.take n).map unitE := List.take_of_length_le (by rw [List.length_map]; omega)
    have he := trE_good hp
    refine ⟨l, rfl, h0, h1, by omega, hva, (l.take n).map unitE, rfl, rfl, h0, by rw [List.length_map]; omega, by omega, Nat.le_refl _, ?_, fun q hq => ?_⟩
    · rw [ht]
      intro hn
      have := congrArg List.length hn
      rw [List.length_map, hlen] at this
      simp at this; omega
    · rw [ht] at hq
      have hq : q = trF (l.take n) lv b := hq
      refine ⟨fun hs => ?_, fun hs => ?_⟩
      · have hq0 : q = none := by cases q with
          | none => rfl
          | some i => cases hs
        have : trE (l.take n) lv b a = 7 := by rw [he]; unfold rE; rw [← hq, hq0]
        rw [out_bad this (by decide)]
        rfl
      · obtain ⟨i, rfl⟩ : ∃ i, q = some i := by cases q with
          | none => cases hs
          | some i => exact ⟨i, rfl⟩
        obtain ⟨_, i2, i3⟩ := tgF_some (show tgF lv b ((l.take n).map unitE) 0 = some i from hq.symm)
        rw [List.length_map, hlen, Nat.zero_add] at i2
        have ei : trI (l.take n) lv b = i := by unfold trI; rw [← hq]; rfl
        obtain ⟨bn, rfl⟩ := Int.eq_ofNat_of_zero_le p5
        obtain ⟨an, rfl⟩ := Int.eq_ofNat_of_zero_le (Int.le_trans (by decide) p7)
        simp only [Int.ofNat_eq_natCast] at i3
        have hr : rE (l.take n) lv bn an = bif ilt (Int.ofNat n - Int.ofNat i) an then 16 else 0 := by
          unfold rE
          rw [← hq]
          simp only [hlen]
        show inI64 (Int.ofNat n - Int.ofNat i) = true ∧ _
        refine ⟨?_, fun hs2 => ?_, fun hs2 => ?_⟩
        · rw [show Int.ofNat n - Int.ofNat i = Int.ofNat (n - i) by simp only [Int.ofNat_eq_natCast]; omega]
          exact inI64_nat (by omega)
        · have : trE (l.take n) lv bn an = 16 := by rw [he, hr]; rw [show ilt (Int.ofNat n - Int.ofNat i) an = true from hs2]; rfl
          rw [out_bad this (by decide)]
          rfl
        · have hs2 : ilt (Int.ofNat n - Int.ofNat i) an = false := hs2
          have : trE (l.take n) lv bn an = 0 := by rw [he, hr, hs2]; rfl
          rw [out_good this]
          rw [ilt_dec] at hs2
          have hs2 := of_decide_eq_false hs2
          simp only [Int.ofNat_eq_natCast] at hs2
          have a1 : Int.ofNat ((some i).getD 0) - (bn : Int) = Int.ofNat (i - bn) := by show Int.ofNat i - (bn : Int) = _; simp only [Int.ofNat_eq_natCast]; omega
          have a2 : Int.ofNat ((some i).getD 0) + (an : Int) = Int.ofNat (i + an) := rfl
          have e1 : Int.toNat (Int.ofNat (i + an)) - Int.toNat (Int.ofNat (i - bn)) = bn + an := by
            show (i + an) - (i - bn) = _; omega
          have e2 : 0 + Int.toNat (Int.ofNat (i - bn)) * 1 = i - bn := by show 0 + (i - bn) * 1 = _; omega
          have e3 : Int.toNat (Int.ofNat (i - bn)) = i - bn := rfl
          rw [a1, a2, e1, e2, e3]
          have hseg : (l.drop (i - bn)).take (bn + an) = trS (l.take n) lv bn an := by
            unfold trS
            rw [ei, show ((bn : Int) + (an : Int)).toNat = bn + an by omega, show (bn : Int).toNat = bn by simp, List.drop_take, List.take_take, Nat.min_eq_left (by omega)]
          have hsl : ((l.drop (i - bn)).take (bn + an)).length = bn + an := by rw [List.length_take, List.length_drop]; omega
          refine ⟨inI64_nat (by omega), inI64_nat (by omega), by simp only [Int.ofNat_eq_natCast]; omega, by simp only [Int.ofNat_eq_natCast]; omega, by simp only [Int.ofNat_eq_natCast]; omega, by simp only [Int.ofNat_eq_natCast]; omega, hrow, l, rfl, hrow, by omega, by omega, by omega, by omega, ?_, fun y hy => ?_⟩
          · intro hn
            rw [hn] at hsl
            simp at hsl; omega
          · rw [hseg] at hy
            subst hy
            refine ⟨N1 + 3, ?_, ?_⟩
            · rw [show Int.ofNat ((some i).getD 0) = Int.ofNat (trI (l.take n) lv bn) by rw [ei]; rfl]
              rfl
            · rw [AHeap.get_push, if_pos (by rfl)]
theorem csE_nil : csE [] = 0 := by kernel_rfl
theorem tr_none {lv b a : Int} : trE [] lv b a ≠ 0 := by
  by_cases h : pE [] lv b a = 0
  · rw [trE_good h]
    exact (by decide : (7 : Int) ≠ 0)
  · rw [(trE_bad h).1]; exact h
noncomputable def orcTb : Orc := orElse 29 (genO dF 1000000 false trX) orcTa
set_option maxRecDepth 100000 in
theorem orcTb_ok : OrcOk Tryz.prog orcTb := by
  refine genO_ok dF_some (fun _ => rfl) globs_pos orcTa_ok ?_ ?_ ?_ ?_
  · intro l r o h
    obtain ⟨lv, b, a, rfl, rfl⟩ := trX_some h
    exact trOut_ok _ _ _ _
  · intro r o h
    obtain ⟨lv, b, a, rfl, rfl⟩ := trX_some h
    refine callC_ok mixed orcTa_ok askTa_ok (Eq.mpr (tr_nil lv b a _) ⟨fun hp => ?_, fun hp => ?_⟩)
    · have hp := not_ieq hp
      rw [out_bad (trE_bad (l := []) hp).1 hp]
      rfl
    · have hp : pE [] lv b a = 0 := not_ieq' hp
      rw [out_bad (x := 7) (by rw [trE_good hp]; rfl) (by decide)]
      rfl
  · intro r k o h
    obtain ⟨lv, b, a, rfl, rfl⟩ := trX_some h
    refine callC_ok mixed orcTa_ok askTa_ok (Eq.mpr (tr_emp k lv b a _) ⟨fun hp => ?_, fun hp => ?_⟩)
    · have hp := not_ieq hp
      rw [out_bad (trE_bad (l := []) hp).1 hp]
      rfl
    · have hp : pE [] lv b a = 0 := not_ieq' hp
      rw [out_bad (x := 7) (by rw [trE_good hp]; rfl) (by decide)]
      rfl
  · intro l off n r el row k o ho hw h0 h1 h2 h3 h
    obtain rfl := ho rfl
    obtain ⟨lv, b, a, rfl, rfl⟩ := trX_some h
    rw [List.drop_zero]
    exact tr_call l n el row k lv b a hw h0 (by omega) h2 h3
noncomputable def askTb (bb : Bool) : Asks := asksG 29 gf 1000000 (trY bb) askTa
theorem askTb_ok (bb : Bool) : AsksOk orcTb (askTb bb) := asksG_ok (d := dF) (e := gf) (fun _ => rfl) (trY_ok bb) askTa_ok
end Go.Proofs.YtnlkkapeldhemaaGreatDoor
