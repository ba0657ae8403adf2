/-
  OWN WORK. The sum of a span, by the program: Sum.
-/
import Derived.Test.YtpdpaifagakipaaGreatDoorSuJ
namespace Go.Proofs.YtpdpaifagakipaaGreatDoor
open Go Go.Am

noncomputable def sErr (l : List Nat) (f t : Int) (n : Nat) : Int := firstS [csE l, spanE f t (Int.ofNat n)]
noncomputable abbrev wAt (L : List Int) (t : Int) : Int := intAt (preV L) (0 + t.toNat * 1)
theorem rsum_run (l : List Nat) (n k e row : Nat) (f t : Int) (K : Value → Prop) : callC Tryz.prog (exec Tryz.prog orcPd 10) (syOf [(9, 7), (17, 1), (20, 7), (21, 7), (25, 2), (26, 3), (30, 2), (31, 3)]) askPd (noLoops _) 20 32 #[liP n k, .agg #[gi f, gi t]] (liH (l.map gf) e row) (fun v _ => K v) =
  (∃ l₁ : List Nat, l.map gf = l₁.map gf ∧ 0 < n ∧ n ≤ l₁.length ∧ n ≤ 1000000 ∧ n ≤ k ∧ goN n = goN n ∧ Value.agg #[gi f, gi t] = .agg #[gi f, gi t] ∧
    ((!ieq (sErr (l₁.take n) f t n) 0) = true → K (.tuple #[gi 0, gi (sErr (l₁.take n) f t n)])) ∧
    ((!ieq (sErr (l₁.take n) f t n) 0) = false → ∃ l₂ : List Nat, l.map gf = l₂.map gf ∧ 0 < n ∧ n ≤ l₂.length ∧ n ≤ 65536 ∧ validL (l₂.take n) ∧
      ∃ l₃ : List Int, unitsL (l₂.take n) = l₃.map gi ∧ 0 < n ∧ n ≤ l₃.length ∧ n ≤ 65535 ∧ True ∧
        ahasIndex t (n + 1) = true ∧ (preV (l₃.take n))[0 + t.toNat * 1]? = some (gi (wAt (l₃.take n) t)) ∧ ahasIndex f (n + 1) = true ∧ (preV (l₃.take n))[0 + f.toNat * 1]? = some (gi (wAt (l₃.take n) f)) ∧
        K (.tuple #[gi (fwrap .i64 (wAt (l₃.take n) t - wAt (l₃.take n) f)), gi 0]))) := by kernel_rfl
theorem rsum_nilE (f t : Int) (K : Value → Prop) : callC Tryz.prog (exec Tryz.prog orcPd 10) (syOf [(17, 1)]) askPd (noLoops _) 20 32 #[.slice none 0 0, .agg #[gi f, gi t]] (emp Tryz.prog) (fun v _ => K v) =
  (goN 0 = goN 0 ∧ Value.agg #[gi f, gi t] = .agg #[gi f, gi t] ∧ ((!ieq (sErr [] f t 0) 0) = true → K (.tuple #[gi 0, gi (sErr [] f t 0)])) ∧ ((!ieq (sErr [] f t 0) 0) = false → False)) := by kernel_rfl
theorem rsum_empE (k : Nat) (f t : Int) (K : Value → Prop) : callC Tryz.prog (exec Tryz.prog orcPd 10) (syOf [(17, 1)]) askPd (noLoops _) 20 32 #[.slice (some ⟨0, 0, none⟩) 0 k, .agg #[gi f, gi t]] (emp Tryz.prog) (fun v _ => K v) =
  (goN 0 = goN 0 ∧ Value.agg #[gi f, gi t] = .agg #[gi f, gi t] ∧ ((!ieq (sErr [] f t 0) 0) = true → K (.tuple #[gi 0, gi (sErr [] f t 0)])) ∧ ((!ieq (sErr [] f t 0) 0) = false → False)) := by kernel_rfl
theorem rsum_nil : (call Tryz.prog orcPd 40 32 #[.slice none 0 0, .agg #[gi 0, gi 0]] (emp Tryz.prog)).map (·.1) = some (.tuple #[gi 0, gi 0]) := by kernel_rfl
theorem rsum_emp (k : Nat) (K : Value → Prop) : callC Tryz.prog (exec Tryz.prog orcPd 40) (syOf []) askPd (noLoops _) 40 32 #[.slice (some ⟨0, 0, none⟩) 0 k, .agg #[gi 0, gi 0]] (emp Tryz.prog) (fun v _ => K v) =
  (goN 0 = goN 0 ∧ Value.agg #[gi 0, gi 0] = .agg #[gi 0, gi 0] ∧ K (.tuple #[gi 0, gi 0])) := by kernel_rfl
noncomputable def smT : List Value → Bool
  | [.agg x] => match x.toList with
    | [.int .i64 _, .int .i64 _] => true
    | _ => false
  | _ => false
noncomputable def sumE (l : List Nat) (f t : Int) : Int := bif ieq (sErr l f t l.length) 0 then spanW l f.toNat t.toNat else 0
noncomputable def smV (l : List Nat) (f t : Int) : Value := .tuple #[gi (sumE l f t), gi (sErr l f t l.length)]
noncomputable def smR : List Nat → List Value → Value := fun l r => match r with
  | [.agg x] => match x.toList with
    | [.int .i64 f, .int .i64 t] => smV l f t
    | _ => gi 0
  | _ => gi 0
theorem smT_some {r : List Value} (h : smT r = true) : ∃ f t, r = [.agg #[gi f, gi t]] := by
  unfold smT at h
  split at h
  · rename_i x
    split at h
    · rename_i f t hx
      exact ⟨f, t, by rw [show x = #[gi f, gi t] by rw [← hx]]⟩
    · cases h
  · cases h
theorem smR_of (l : List Nat) (f t : Int) : smR l [.agg #[gi f, gi t]] = smV l f t := rfl
theorem spanE_zero {f t : Int} {n : Nat} (h : spanE f t (Int.ofNat n) = 0) : ∃ a b : Nat, f = Int.ofNat a ∧ t = Int.ofNat b ∧ a ≤ b ∧ b ≤ n := by
  have h1 : spanB f t (Int.ofNat n) = false := by
    unfold spanE whenS at h
    cases hb : spanB f t (Int.ofNat n) with
    | false => rfl
    | true => rw [hb] at h; cases h
  unfold spanB at h1
  simp only [Bool.or_eq_false_iff, ilt_dec, decide_eq_false_iff_not, Int.not_lt, Int.ofNat_eq_natCast] at h1
  obtain ⟨h1, h3, h4⟩ := h1
  obtain ⟨a, rfl⟩ := Int.eq_ofNat_of_zero_le h1
  obtain ⟨b, rfl⟩ := Int.eq_ofNat_of_zero_le (Int.le_trans h1 h3)
  exact ⟨a, b, rfl, rfl, by omega, by omega⟩
theorem sErr_zero {l : List Nat} {f t : Int} {n : Nat} (h : sErr l f t n = 0) : csE l = 0 ∧ spanE f t (Int.ofNat n) = 0 :=
  ⟨firstS_zero h _ (.head _), firstS_zero h _ (.tail _ (.head _))⟩
theorem sumE_zero {l : List Nat} {f t : Int} (h : sErr l f t l.length = 0) : sumE l f t = spanW l f.toNat t.toNat := by
  unfold sumE
  rw [show ieq (sErr l f t l.length) 0 = true by rw [h]; rfl]
  rfl
theorem sumE_err {l : List Nat} {f t : Int} (h : sErr l f t l.length ≠ 0) : sumE l f t = 0 := by
  unfold sumE
  rw [show ieq (sErr l f t l.length) 0 = false by rw [ieq_dec]; exact decide_eq_false h]
  rfl
theorem smV_zero {l : List Nat} {f t : Int} (h : sErr l f t l.length = 0) : smV l f t = .tuple #[gi (spanW l f.toNat t.toNat), gi 0] := by
  unfold smV
  rw [sumE_zero h, h]
theorem smV_err {l : List Nat} {f t : Int} (h : sErr l f t l.length ≠ 0) : smV l f t = .tuple #[gi 0, gi (sErr l f t l.length)] := by
  unfold smV
  rw [sumE_err h]
theorem not_ieq {x : Int} (h : (!ieq x 0) = true) : x ≠ 0 := by rw [ieq_dec] at h; simpa using h
theorem not_ieq' {x : Int} (h : (!ieq x 0) = false) : x = 0 := by rw [ieq_dec] at h; simpa using h
theorem not_ieq0 {x : Int} (h : x ≠ 0) (h' : (!ieq x 0) = false) : False := h (not_ieq' h')
theorem wAt_of {L : List Int} {b : Nat} (hb : b ≤ L.length) : (preV L)[0 + (Int.ofNat b).toNat * 1]? = some (gi (wAt L (Int.ofNat b))) ∧ wAt L (Int.ofNat b) = wsum (L.take b) := int_at (pre_at hb)
noncomputable def orcPf : Orc := orElse 32 (sliceO dF 1000000 smT smR) orcPe
set_option maxRecDepth 100000 in
theorem rsum_none {f t : Int} {s : Value} (he : ∀ K : Value → Prop, ((goN 0 = goN 0 ∧ Value.agg #[gi f, gi t] = .agg #[gi f, gi t] ∧ ((!ieq (sErr [] f t 0) 0) = true → K (.tuple #[gi 0, gi (sErr [] f t 0)])) ∧ ((!ieq (sErr [] f t 0) 0) = false → False))) → CallJ Tryz.prog 32 #[s, .agg #[gi f, gi t]] (emp Tryz.prog) (fun v _ => K v))
    (hz : f = 0 → t = 0 → CallJ Tryz.prog 32 #[s, .agg #[gi 0, gi 0]] (emp Tryz.prog) (fun v _ => v = .tuple #[gi 0, gi 0])) : CallJ Tryz.prog 32 #[s, .agg #[gi f, gi t]] (emp Tryz.prog) (fun v _ => v = smV [] f t) := by
  by_cases h : sErr [] f t 0 = 0
  · obtain ⟨a, b, rfl, rfl, h1, h2⟩ := spanE_zero (sErr_zero h).2
    obtain rfl : b = 0 := by omega
    obtain rfl : a = 0 := by omega
    rw [smV_zero h]
    exact hz rfl rfl
  · refine he _ ⟨rfl, rfl, fun _ => (smV_err h).symm, fun h' => not_ieq0 h h'⟩
set_option maxRecDepth 100000 in
theorem orcPf_ok : OrcOk Tryz.prog orcPf := by
  refine sliceO_ok dF_some (fun _ => rfl) globs_pos orcPe_ok ?_ ?_ ?_ ?_
  · intro l r h
    obtain ⟨f, t, rfl⟩ := smT_some h
    rw [smR_of]
    rfl
  · intro r h
    obtain ⟨f, t, rfl⟩ := smT_some h
    rw [smR_of]
    exact rsum_none (fun K hK => callC_ok mixed orcPd_ok askPd_ok (Eq.mpr (rsum_nilE f t K) hK)) fun _ _ => CallJ.of_call mixed orcPd_ok rsum_nil fun _ => rfl
  · intro r k h
    obtain ⟨f, t, rfl⟩ := smT_some h
    rw [smR_of]
    exact rsum_none (fun K hK => callC_ok mixed orcPd_ok askPd_ok (Eq.mpr (rsum_empE k f t K) hK)) fun _ _ => callC_ok mixed orcPd_ok askPd_ok (Eq.mpr (rsum_emp k _) ⟨rfl, rfl, rfl⟩)
  · intro l n r el row k h0 h1 h2 h3 h
    obtain ⟨f, t, rfl⟩ := smT_some h
    rw [smR_of]
    have hlen : (l.take n).length = n := by rw [List.length_take]; omega
    refine callC_ok mixed orcPd_ok askPd_ok (Eq.mpr (rsum_run l n k el row f t _) ⟨l, rfl, h0, h1, h2, h3, rfl, rfl, fun he => ?_, fun he => ?_⟩)
    · have he := not_ieq he
      rw [smV_err (by rw [hlen]; exact he), hlen]
    · have he := not_ieq' he
      obtain ⟨hc, hs⟩ := sErr_zero he
      obtain ⟨hva, hle⟩ := cs_zero hc
      rw [hlen] at hle
      obtain ⟨a, b, rfl, rfl, hab, hb⟩ := spanE_zero hs
      have hul : ((l.take n).map unitE).length = n := by rw [List.length_map, hlen]
      have ht : ((l.take n).map unitE).take n = (l.take n).map unitE := List.take_of_length_le (by omega)
      obtain ⟨b1, b2⟩ := wAt_of (L := (l.take n).map unitE) (b := b) (by omega)
      obtain ⟨a1, a2⟩ := wAt_of (L := (l.take n).map unitE) (b := a) (by omega)
      refine ⟨l, rfl, h0, h1, by omega, hva, (l.take n).map unitE, rfl, h0, by omega, by omega, trivial, ?_, ?_, ?_, ?_, ?_⟩
      · show Nat.blt b (n + 1) = true
        rw [Nat.blt_eq]; omega
      · rw [ht]; exact b1
      · show Nat.blt a (n + 1) = true
        rw [Nat.blt_eq]; omega
      · rw [ht]; exact a1
      · rw [ht, a2, b2, span_diff hva (by omega) hab (by omega), smV_zero (by rw [hlen]; exact he)]
        rfl
noncomputable def askPf (b : Bool) : Asks := asksO 32 gf 1000000 smT smR (askPr b askPd)
theorem askPf_ok (b : Bool) : AsksOk orcPf (askPf b) := asksO_ok (d := dF) (e := gf) (fun _ => rfl) (askPe_ok b)
end Go.Proofs.YtpdpaifagakipaaGreatDoor
