/-
  OWN WORK. The triggered record, by the reference: known for all valid samples.
-/
import Derived.Test.YtnlkkapeldhemaaGreatDoorTgD
namespace Go.Proofs.YtnlkkapeldhemaaGreatDoor
open Go Go.Am

theorem absI_w (u : Int) : (if (fwrap IntKind.i64 (0 - u) : Int) > u then fwrap IntKind.i64 (0 - u) else u) = absI u := by
  unfold absI
  rw [fwrap_eq]
theorem tgF_skip {lv : Int} {bn : Nat} {L : List Int} : ∀ {j : Nat}, j ≤ bn → tgF lv (Int.ofNat bn) L 0 = tgF lv (Int.ofNat bn) (L.drop j) j
  | 0, _ => by rw [List.drop_zero]
  | j + 1, hj => by
    rw [tgF_skip (j := j) (by omega)]
    by_cases hl : j < L.length
    · rw [tgF_drop hl, show ilt (Int.ofNat j) (Int.ofNat bn) = true by rw [ilt_dec]; exact decide_eq_true (by simp only [Int.ofNat_eq_natCast]; omega)]
    · rw [tgF_end (by omega), tgF_end (by omega)]
def roOut (l : List Nat) (n bn an : Nat) (lv : Int) (ex : Exit) (vs : List Value) (h : AHeap) : Prop :=
  (ex = .exit 0 ∧ (∃ v0 v1 v2 v3 v4, vs = [v0, v1, v2, v3, nilS, gi 0, gi 0, v4]) ∧ trF (l.take n) lv bn = none) ∨
  (ex = .ret ∧ (∃ v0 v1 v2 v3 v4, vs = [v0, v1, v2, v3, nilS, gi 0, gi 16, v4]) ∧ rE (l.take n) lv bn an = 16) ∨
  (ex = .ret ∧ (∃ v0 v1 v2 v3 v4, vs = [v0, v1, v2, v3, slO (trS (l.take n) lv bn an).length (trS (l.take n) lv bn an).length, goN (trI (l.take n) lv bn), gi 0, v4]) ∧ rE (l.take n) lv bn an = 0 ∧
    h.get (N1 + 1) = some (.cells ((trS (l.take n) lv bn an).map gf) 69 2 false))
set_option maxRecDepth 100000 in
theorem ro_loop (l : List Nat) (n e row k bn an : Nat) (lv : Int) (hn : n ≤ l.length) (hle : n ≤ 65536) (hbn : bn ≤ 65536) (han : an ≤ 65536) (h0 : 0 < an) (hval : ∀ x ∈ l.take n, smpE x = 0) : ∀ (a : AAct) (h : AHeap), h.get N1 = some (.cells (l.map gf) e row true) → a.n = 58 → a.marks = [] → [0, 1, 2, 3, 8, 9, 10, 11].map a.tmp = [liP n k, gi lv, goN bn, goN an, nilS, gi 0, gi 0, goN bn] →
    J Tryz.prog (.loop (loopOf Tryz.prog 32 0)) a h (told 58 [0, 1, 2, 3, 8, 9, 10, 11] (roOut l n bn an lv)) := by
  intro a h hs ha hk hv
  have hlen : (l.take n).length = n := by rw [List.length_take]; omega
  have hul : ((l.take n).map unitE).length = n := by rw [List.length_map, hlen]
  refine loop_rule (fun q vs h => ∃ i, bn ≤ i ∧ i ≤ bn + n ∧ q = bn + n - i ∧ vs = [liP n k, gi lv, goN bn, goN an, nilS, gi 0, gi 0, goN i] ∧ h.get N1 = some (.cells (l.map gf) e row true) ∧ trF (l.take n) lv bn = tgF lv (Int.ofNat bn) (((l.take n).map unitE).drop i) i) _ ?_ n _ _ a ⟨bn, Nat.le_refl _, by omega, by omega, rfl, hs, tgF_skip (Nat.le_refl _)⟩ ha hk hv
  rintro q vs h g ⟨i, hbi, hin, rfl, rfl, hs, hf⟩
  refine J.reheap (es := fun _ => 0) (vs₂ := [liP n k, gi lv, goN bn, goN an, nilS, gi 0, gi 0, goN i]) (B := [(l.map gf, e, row, true)]) (ids := [N1]) globs_pos (by decide) (by decide) rfl (by simp) (by simp) ?_ (by kernel_rfl) ?_ fun g' => ?_
  · intro q b' i hb hi
    match q, hb, hi with
    | 0, hb, hi => cases hb; cases hi; exact ⟨hs, flat_floats l⟩
  · intro i hi
    simp only [List.mem_cons, List.not_mem_nil, or_false] at hi
    subst hi
    exact ⟨(0, liP n k), by simp, by simp [named]⟩
  · refine execC_ok mixed orcTb_ok askTs_ok (riLoops l n e row k i an (i - bn) (bn + an)) (Eq.mpr (ro_body l n k e row bn an i (i - bn) (bn + an) lv g' _) ⟨fun hlt => ?_, fun hge => ?_⟩)
    · have hi' := blt_true hlt
      have hil : i < l.length := by omega
      obtain ⟨h1, h2⟩ := float_at hil
      have hva : smpE l[i] = 0 := hval _ (List.mem_of_getElem? (i := i) (by rw [List.getElem?_take, if_pos hi', List.getElem?_eq_getElem hil]))
      have hd := tgF_drop (lv := lv) (b := Int.ofNat bn) (l := (l.take n).map unitE) (j := i) (by omega)
      rw [List.getElem_map, List.getElem_take, show ilt (Int.ofNat i) (Int.ofNat bn) = false by rw [ilt_dec]; exact decide_eq_false (by simp only [Int.ofNat_eq_natCast]; omega)] at hd
      rw [h2, absI_w]
      refine ⟨hlt, h2 ▸ h1, by rw [hva]; rfl, fun hc => ?_, fun hc => ?_⟩
      · refine ⟨bn + n - (i + 1), by omega, i + 1, by omega, by omega, rfl, by rw [fwrap_nat (by omega)], gH1_src _ _ _, ?_⟩
        rw [hf, hd, hc]
        rfl
      · have hfi : trF (l.take n) lv bn = some i := by rw [hf, hd, hc]; rfl
        have hr : rE (l.take n) lv bn an = bif ilt (Int.ofNat n - Int.ofNat i) an then 16 else 0 := by
          unfold rE
          rw [hfi]
          simp only [hlen]
        have ei : trI (l.take n) lv bn = i := by unfold trI; rw [hfi]; rfl
        refine ⟨by rw [show Int.ofNat n - Int.ofNat i = Int.ofNat (n - i) by simp only [Int.ofNat_eq_natCast]; omega]; exact inI64_nat (by omega), fun hs2 => ?_, fun hs2 => ?_⟩
        · exact .inr (.inl ⟨rfl, ⟨_, _, _, _, _, rfl⟩, by rw [hr]; rw [show ilt (Int.ofNat n - Int.ofNat i) an = true from hs2]; rfl⟩)
        · have hr0 : rE (l.take n) lv bn an = 0 := by rw [hr]; rw [show ilt (Int.ofNat n - Int.ofNat i) an = false from hs2]; rfl
          rw [ilt_dec] at hs2
          have hs2 := of_decide_eq_false hs2
          simp only [Int.ofNat_eq_natCast] at hs2
          have hseg : (l.drop (i - bn)).take (bn + an) = trS (l.take n) lv bn an := by
            unfold trS
            rw [ei, show ((bn : Int) + (an : Int)).toNat = bn + an by omega, show (bn : Int).toNat = bn by simp, List.drop_take, List.take_take, Nat.min_eq_left (by omega)]
          have hsl : (trS (l.take n) lv bn an).length = bn + an := by rw [← hseg, List.length_take, List.length_drop]; omega
          refine ⟨by rw [show Int.ofNat i - Int.ofNat bn = Int.ofNat (i - bn) by simp only [Int.ofNat_eq_natCast]; omega]; exact inI64_nat (by omega), rfl, rfl, rfl, rfl, rfl, by rw [show Int.ofNat i - Int.ofNat bn = Int.ofNat (i - bn) by simp only [Int.ofNat_eq_natCast]; omega], gH1_src _ _ _, ⟨by omega, by omega, hn, hle, by omega⟩, fun y1 y2 hy => ?_⟩
          refine .inr (.inr ⟨rfl, by rw [hsl, ei]; exact ⟨_, _, _, _, _, rfl⟩, hr0, ?_⟩)
          rw [← hseg]; exact hy
    · have hge := blt_false hge
      exact .inl ⟨rfl, ⟨_, _, _, _, _, rfl⟩, by rw [hf, tgF_end (by omega)]⟩
noncomputable def roLoops (l : List Nat) (n e row k bn an : Nat) (lv : Int) : Loops Tryz.prog where
  body := fun _ => loopOf Tryz.prog 32 0
  spec := fun _ a h c => entry a 58 [(0, liP n k), (1, gi lv), (2, goN bn), (3, goN an), (8, nilS), (9, gi 0), (10, gi 0), (11, goN bn)] (h = liH (l.map gf) e row ∧ (n ≤ l.length ∧ n ≤ 65536 ∧ bn ≤ 65536 ∧ an ≤ 65536 ∧ 0 < an ∧ ∀ x ∈ l.take n, smpE x = 0) ∧
    (trF (l.take n) lv bn = none → ∀ g h', c (.exit 0) (stOf 58 [(8, nilS), (9, gi 0), (10, gi 0)] g) h') ∧
    (rE (l.take n) lv bn an = 16 → ∀ g h', c .ret (stOf 58 [(8, nilS), (9, gi 0), (10, gi 16)] g) h') ∧
    (rE (l.take n) lv bn an = 0 → ∀ g h' i seg, i = trI (l.take n) lv bn → seg = trS (l.take n) lv bn an → h'.get (N1 + 1) = some (.cells (seg.map gf) 69 2 false) → c .ret (stOf 58 [(8, slO seg.length seg.length), (9, goN i), (10, gi 0)] g) h'))
  ok := fun i' a h c q => by
    obtain ⟨h1, h2, h3, rfl, ⟨hs1, hs2, hs3, hs4, hs5, hs6⟩, k1, k2, k3⟩ := entry_facts q
    refine J.of_told (ro_loop l n e row k bn an lv hs1 hs2 hs3 hs4 hs5 hs6 a _ ?_ h1 h2 ?_) ?_
    · rw [canon_get, if_pos (Nat.le_refl _), Nat.sub_self]; rfl
    · simp only [List.map_cons, List.map_nil]
      rw [h3 (0, liP n k) (by simp), h3 (1, gi lv) (by simp), h3 (2, goN bn) (by simp), h3 (3, goN an) (by simp), h3 (8, nilS) (by simp), h3 (9, gi 0) (by simp), h3 (10, gi 0) (by simp), h3 (11, goN bn) (by simp)]
    · rintro ex vs h' g (⟨rfl, ⟨v0, v1, v2, v3, v4, rfl⟩, hq⟩ | ⟨rfl, ⟨v0, v1, v2, v3, v4, rfl⟩, hq⟩ | ⟨rfl, ⟨v0, v1, v2, v3, v4, rfl⟩, hq, hd⟩)
      · refine cast ?_ (k1 hq (ov [(0, v0), (1, v1), (2, v2), (3, v3), (11, v4)] g) h')
        congr 1
      · refine cast ?_ (k2 hq (ov [(0, v0), (1, v1), (2, v2), (3, v3), (11, v4)] g) h')
        congr 1
      · refine cast ?_ (k3 hq (ov [(0, v0), (1, v1), (2, v2), (3, v3), (11, v4)] g) h' _ _ rfl rfl hd)
        congr 1
theorem Tr_run (l : List Nat) (n k e row bn an : Nat) (lv : Int) (K : Value → AHeap → Prop) : callC Tryz.prog (exec Tryz.prog orcTb 10) (syOf []) askTs (roLoops l n e row k bn an lv) 40 32 #[liP n k, gi lv, goN bn, goN an] (liH (l.map gf) e row) K = ((loopOf Tryz.prog 32 0 = loopOf Tryz.prog 32 0 ∧ liP n k = liP n k ∧ gi lv = gi lv ∧ goN bn = goN bn ∧ goN an = goN an ∧ nilS = nilS ∧ gi 0 = gi 0 ∧ gi 0 = gi 0 ∧ goN bn = goN bn ∧ liH (List.map gf l) e row = liH (List.map gf l) e row ∧ ((n : Nat) ≤ List.length l ∧ (n : Nat) ≤ 65536 ∧ (bn : Nat) ≤ 65536 ∧ (an : Nat) ≤ 65536 ∧ (0 : Nat) < an ∧ (∀ y1 : Nat, (List.Mem y1 (List.take n l) → smpE y1 = 0))) ∧ (trF (List.take n l) lv (Int.ofNat bn) = Option.none → (∀ _ : Nat → Value, (∀ y2 : AHeap, K (Value.tuple #[nilS, gi 0, gi 7]) y2))) ∧ (rE (List.take n l) lv (Int.ofNat bn) (Int.ofNat an) = 16 → (∀ _ : Nat → Value, (∀ y2 : AHeap, K (Value.tuple #[nilS, gi 0, gi 16]) y2))) ∧ (rE (List.take n l) lv (Int.ofNat bn) (Int.ofNat an) = 0 → (∀ _ : Nat → Value, (∀ y2 : AHeap, (∀ y3 : Nat, (∀ y4 : List Nat, (y3 = trI (List.take n l) lv (Int.ofNat bn) → (y4 = trS (List.take n l) lv (Int.ofNat bn) (Int.ofNat an) → (AHeap.get y2 9 = Option.some (.cells (List.map gf y4) 69 2 false) → K (Value.tuple #[slO (List.length y4) (List.length y4), goN y3, gi 0]) y2)))))))))) := by kernel_rfl
theorem rn1_body (bn an : Nat) (lv : Int) (g : Nat → Value) (h : AHeap) (Q : Exit → List Value → AHeap → Prop) : execC Tryz.prog (exec Tryz.prog orcTb 10) (syOf [(19, 32)]) askTs (noLoops _) 40 (loopOf Tryz.prog 32 0) (stOf 58 [(0, nilS), (1, gi lv), (2, goN bn), (3, goN an), (8, nilS), (9, gi 0), (10, gi 0), (11, goN bn)] g) h (told 58 [8, 9, 10] Q) = ((ilt (Int.ofNat bn) 0 = false ∧ Q (.exit 0) [nilS, gi 0, gi 0] h)) := by kernel_rfl
theorem rn2_body (bn an k : Nat) (lv : Int) (g : Nat → Value) (h : AHeap) (Q : Exit → List Value → AHeap → Prop) : execC Tryz.prog (exec Tryz.prog orcTb 10) (syOf [(19, 32)]) askTs (noLoops _) 40 (loopOf Tryz.prog 32 0) (stOf 58 [(0, .slice (some ⟨0, 0, none⟩) 0 k), (1, gi lv), (2, goN bn), (3, goN an), (8, nilS), (9, gi 0), (10, gi 0), (11, goN bn)] g) h (told 58 [8, 9, 10] Q) = ((ilt (Int.ofNat bn) 0 = false ∧ Q (.exit 0) [nilS, gi 0, gi 0] h)) := by kernel_rfl
set_option maxRecDepth 100000 in
theorem rn_body (s : Value) (hs : s = nilS ∨ ∃ k, s = .slice (some ⟨0, 0, none⟩) 0 k) (bn an : Nat) (lv : Int) (g : Nat → Value) (h : AHeap) : J Tryz.prog (loopOf Tryz.prog 32 0) (stOf 58 [(0, s), (1, gi lv), (2, goN bn), (3, goN an), (8, nilS), (9, gi 0), (10, gi 0), (11, goN bn)] g) h (told 58 [8, 9, 10] fun ex vs _ => ex = .exit 0 ∧ vs = [nilS, gi 0, gi 0]) := by
  have hb : Nat.blt bn 0 = false := by
    cases hh : Nat.blt bn 0 with
    | false => rfl
    | true => have := blt_true hh; omega
  rcases hs with rfl | ⟨k, rfl⟩
  · exact execC_ok mixed orcTb_ok askTs_ok (noLoops _) (Eq.mpr (rn1_body bn an lv g h _) ⟨hb, rfl, rfl⟩)
  · exact execC_ok mixed orcTb_ok askTs_ok (noLoops _) (Eq.mpr (rn2_body bn an k lv g h _) ⟨hb, rfl, rfl⟩)
noncomputable def rnLoops (s : Value) (hs : s = nilS ∨ ∃ k, s = .slice (some ⟨0, 0, none⟩) 0 k) (bn an : Nat) (lv : Int) : Loops Tryz.prog where
  body := fun _ => loopOf Tryz.prog 32 0
  spec := fun _ a h c => entry a 58 [(0, s), (1, gi lv), (2, goN bn), (3, goN an), (8, nilS), (9, gi 0), (10, gi 0), (11, goN bn)] (∀ g h', c (.exit 0) (stOf 58 [(8, nilS), (9, gi 0), (10, gi 0)] g) h')
  ok := fun i' a h c q => by
    obtain ⟨h1, h2, h3, h4⟩ := entry_facts q
    refine J.of_told (n := 58) (ts := [8, 9, 10]) (Out := fun ex vs _ => ex = .exit 0 ∧ vs = [nilS, gi 0, gi 0]) ?_ ?_
    · refine J.of_facts h1 h2 h3 fun g => J.loop ((rn_body s hs bn an lv g h).mono fun ex a' h' q => ?_)
      obtain ⟨q1, q2, rfl, q3⟩ := told_facts q
      simp only [onNormal, told, q1, q2]
      simpa using q3
    · rintro ex vs h' g ⟨rfl, rfl⟩
      exact h4 g h'
theorem Tr_nil (bn an : Nat) (lv : Int) (K : Value → AHeap → Prop) : callC Tryz.prog (exec Tryz.prog orcTb 10) (syOf []) askTs (rnLoops nilS (.inl rfl) bn an lv) 40 32 #[nilS, gi lv, goN bn, goN an] (emp Tryz.prog) K = ((loopOf Tryz.prog 32 0 = loopOf Tryz.prog 32 0 ∧ nilS = nilS ∧ gi lv = gi lv ∧ goN bn = goN bn ∧ goN an = goN an ∧ nilS = nilS ∧ gi 0 = gi 0 ∧ gi 0 = gi 0 ∧ goN bn = goN bn ∧ (∀ _ : Nat → Value, (∀ y2 : AHeap, K (Value.tuple #[nilS, gi 0, gi 7]) y2)))) := by kernel_rfl
theorem Tr_emp (bn an k : Nat) (lv : Int) (K : Value → AHeap → Prop) : callC Tryz.prog (exec Tryz.prog orcTb 10) (syOf []) askTs (rnLoops (.slice (some ⟨0, 0, none⟩) 0 k) (.inr ⟨k, rfl⟩) bn an lv) 40 32 #[.slice (some ⟨0, 0, none⟩) 0 k, gi lv, goN bn, goN an] (emp Tryz.prog) K = ((loopOf Tryz.prog 32 0 = loopOf Tryz.prog 32 0 ∧ Value.slice (some ⟨0, 0, none⟩) 0 k = Value.slice (some ⟨0, 0, none⟩) 0 k ∧ gi lv = gi lv ∧ goN bn = goN bn ∧ goN an = goN an ∧ nilS = nilS ∧ gi 0 = gi 0 ∧ gi 0 = gi 0 ∧ goN bn = goN bn ∧ (∀ _ : Nat → Value, (∀ y2 : AHeap, K (Value.tuple #[nilS, gi 0, gi 7]) y2)))) := by kernel_rfl
noncomputable def rOut (l : List Nat) (lv b a : Int) : Out := bif ieq (rE l lv b a) 0 then trGood l lv b a else trBad (rE l lv b a)
noncomputable def RC (l : List Nat) (lv b a : Int) : Bool := allB l && ieq (trC lv b a) 0
noncomputable def RX : List Nat → List Value → Option Out := fun l r => match r with
  | [.int .i64 lv, .int .i64 b, .int .i64 a] => bif RC l lv b a then some (rOut l lv b a) else none
  | _ => none
noncomputable def RY (bb : Bool) : List Nat → List Value → (Out → Prop) → Prop := fun l r K => match r with
  | [.int .i64 lv, .int .i64 b, .int .i64 a] => RC l lv b a = true ∧ ieq (rE l lv b a) 0 = bb ∧ Bool.rec (motive := fun _ => Prop) (K (trBad (rE l lv b a)))
      (∀ i seg, i = trI l lv b → seg = trS l lv b a → K (.fresh (tupM [] seg.length [gi (Int.ofNat i), gi 0]) (seg.map gf) 69)) bb
  | _ => False
theorem RX_some {l : List Nat} {r : List Value} {o : Out} (h : RX l r = some o) : ∃ lv b a, r = [gi lv, gi b, gi a] ∧ o = rOut l lv b a ∧ validL l ∧ trC lv b a = 0 := by
  unfold RX at h
  split at h
  · rename_i lv b a
    cases hc : RC l lv b a with
    | false => rw [hc] at h; cases h
    | true =>
      rw [hc] at h
      cases h
      unfold RC at hc
      rw [Bool.and_eq_true, allB_iff, ieq_dec] at hc
      exact ⟨_, _, _, rfl, rfl, hc.1, by simpa using hc.2⟩
  · cases h
theorem RY_ok (bb : Bool) (l : List Nat) (r : List Value) (K : Out → Prop) (h : RY bb l r K) : ∃ o, RX l r = some o ∧ K o := by
  unfold RY at h
  split at h
  · rename_i lv b a
    refine ⟨rOut l lv b a, ?_, ?_⟩
    · show (bif RC l lv b a then some (rOut l lv b a) else none) = _
      rw [h.1]; rfl
    · unfold rOut
      rw [h.2.1]
      cases bb with
      | true => exact h.2.2 _ _ rfl rfl
      | false => exact h.2.2
  · exact h.elim
theorem trC_zero {lv b a : Int} (h : trC lv b a = 0) : (1 ≤ lv ∧ lv ≤ 16384) ∧ (0 ≤ b ∧ b ≤ 4096) ∧ 1 ≤ a ∧ a ≤ 4096 := by
  have h' := firstS_zero h
  exact ⟨within_zero (h' _ (.head _)), within_zero (h' (withinS b 0 4096) (by simp)), within_zero (h' (withinS a 1 4096) (by simp))⟩
theorem rOut_bad {l : List Nat} {lv b a x : Int} (h : rE l lv b a = x) (hx : x ≠ 0) : rOut l lv b a = trBad x := by
  unfold rOut; rw [h, ieq_ne hx]; rfl
theorem rOut_good {l : List Nat} {lv b a : Int} (h : rE l lv b a = 0) : rOut l lv b a = trGood l lv b a := by
  unfold rOut; rw [h]; rfl
noncomputable def orcTc : Orc := orElse 32 (genO dF 65536 false RX) orcTb
set_option maxRecDepth 100000 in
theorem orcTc_ok : OrcOk Tryz.prog orcTc := by
  refine genO_ok dF_some (fun _ => rfl) globs_pos orcTb_ok ?_ ?_ ?_ ?_
  · intro l r o h
    obtain ⟨lv, b, a, rfl, rfl, _, _⟩ := RX_some h
    unfold rOut
    cases ieq (rE l lv b a) 0 with
    | true => exact ⟨names_tup rfl rfl, flat_floats _⟩
    | false => rfl
  · intro r o h
    obtain ⟨lv, b, a, rfl, rfl, _, h3⟩ := RX_some h
    obtain ⟨_, ⟨p5, _⟩, p7, _⟩ := trC_zero h3
    obtain ⟨bn, rfl⟩ := Int.eq_ofNat_of_zero_le p5
    obtain ⟨an, rfl⟩ := Int.eq_ofNat_of_zero_le (Int.le_trans (by decide) p7)
    rw [rOut_bad (x := 7) rfl (by decide)]
    exact callC_ok mixed orcTb_ok askTs_ok (Eq.mpr (Tr_nil bn an lv _) ⟨rfl, rfl, rfl, rfl, rfl, rfl, rfl, rfl, rfl, fun _ _ => rfl⟩)
  · intro r k o h
    obtain ⟨lv, b, a, rfl, rfl, _, h3⟩ := RX_some h
    obtain ⟨_, ⟨p5, _⟩, p7, _⟩ := trC_zero h3
    obtain ⟨bn, rfl⟩ := Int.eq_ofNat_of_zero_le p5
    obtain ⟨an, rfl⟩ := Int.eq_ofNat_of_zero_le (Int.le_trans (by decide) p7)
    rw [rOut_bad (x := 7) rfl (by decide)]
    exact callC_ok mixed orcTb_ok askTs_ok (Eq.mpr (Tr_emp bn an k lv _) ⟨rfl, rfl, rfl, rfl, rfl, rfl, rfl, rfl, rfl, fun _ _ => rfl⟩)
  · intro l off n r el row k o ho hw h0 h1 h2 h3 h
    obtain rfl := ho rfl
    rw [List.drop_zero] at h
    obtain ⟨lv, b, a, rfl, rfl, hva, h3⟩ := RX_some h
    obtain ⟨_, ⟨p5, p6⟩, p7, p8⟩ := trC_zero h3
    obtain ⟨bn, rfl⟩ := Int.eq_ofNat_of_zero_le p5
    obtain ⟨an, rfl⟩ := Int.eq_ofNat_of_zero_le (Int.le_trans (by decide) p7)
    refine callC_ok mixed orcTb_ok askTs_ok (Eq.mpr (Tr_run l n k el row bn an lv _) ⟨rfl, rfl, rfl, rfl, rfl, rfl, rfl, rfl, rfl, rfl, ⟨by omega, h2, by omega, by omega, by omega, hva⟩, fun hq _ _ => ?_, fun hq _ _ => ?_, fun hq _ y2 i seg hi hseg hy => ?_⟩)
    · have : rOut (l.take n) lv bn an = trBad 7 := rOut_bad (by unfold rE; rw [show trF (l.take n) lv bn = none from hq]) (by decide)
      rw [this]
      rfl
    · have : rOut (l.take n) lv bn an = trBad 16 := rOut_bad hq (by decide)
      rw [this]
      rfl
    · have : rOut (l.take n) lv bn an = trGood (l.take n) lv bn an := rOut_good hq
      rw [this]
      subst hi hseg
      exact ⟨N1 + 1, rfl, hy⟩
noncomputable def askTc (b1 b2 : Bool) : Asks := asksG 32 gf 65536 (RY b2) (askTb b1)
theorem askTc_ok (b1 b2 : Bool) : AsksOk orcTc (askTc b1 b2) := asksG_ok (d := dF) (e := gf) (fun _ => rfl) (RY_ok b2) (askTb_ok b1)
end Go.Proofs.YtnlkkapeldhemaaGreatDoor
