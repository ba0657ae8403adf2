/-
  OWN WORK. Prefix sums, by the reference: the loop.
-/
import Derived.Test.YtpdpaifagakipaaGreatDoorSuG
namespace Go.Proofs.YtpdpaifagakipaaGreatDoor
open Go Go.Am

noncomputable def pfxL (l : List Nat) (j : Nat) : List Int := (List.range j).map fun i => spanW l 0 i
theorem pfxL_length (l : List Nat) (j : Nat) : (pfxL l j).length = j := by simp [pfxL]
theorem pfxL_succ (l : List Nat) (j : Nat) : pfxL l (j + 1) = pfxL l j ++ [spanW l 0 j] := by simp [pfxL, List.range_succ]
theorem pfxL_pre {l : List Nat} {n : Nat} (hn : n ≤ l.length) : pfxL l (n + 1) = preL ((l.take n).map unitE) := by
  unfold pfxL preL
  rw [show ((l.take n).map unitE).length = n by rw [List.length_map, List.length_take]; omega]
  refine List.map_congr_left fun i hi => ?_
  have hi : i < n + 1 := by simpa using hi
  unfold spanW spanU
  rw [← List.map_take, List.take_take, Nat.min_eq_left (by omega), List.drop_zero]
theorem spC_of {l : List Nat} {n j : Nat} (hn : n ≤ l.length) (hv : ∀ x ∈ l.take n, smpE x = 0) (hj : j ≤ n) : spC (l.take n) (s0 j) = true := by
  show (!spanB 0 (Int.ofNat j) (Int.ofNat (l.take n).length) && allB (l.take n)) = true
  rw [allB_iff.2 hv, show (l.take n).length = n by rw [List.length_take]; omega]
  unfold spanB
  simp [ilt_dec]
  omega
theorem spR_of {l : List Nat} {n j : Nat} (hj : j ≤ n) : spR (l.take n) (s0 j) = gi (spanW l 0 j) := by
  show gi (spanW (l.take n) 0 j) = _
  rw [spanW_take hj]
theorem SC_src (c : List Value) (e row : Nat) : (SC c e row).get N1 = some (.cells c e row true) := by
  rw [canonT_get (T := []) rfl, if_pos (Nat.le_refl _), Nat.sub_self]; rfl
theorem SC_n (c : List Value) (e row : Nat) : (SC c e row).n = N1 + 1 := canonT_n (T := []) rfl _
theorem gf_inj {l l' : List Nat} (h : l.map gf = l'.map gf) : l = l' := by
  induction l generalizing l' with
  | nil => cases l' with
    | nil => rfl
    | cons y l' => cases h
  | cons x l ih => cases l' with
    | nil => cases h
    | cons y l' =>
      simp only [List.map_cons, List.cons.injEq] at h
      obtain ⟨h1, h2⟩ := h
      cases h1
      rw [ih h2]
def PInv (l : List Nat) (n k e row j : Nat) (vs : List Value) (h : AHeap) : Prop :=
  h.get N1 = some (.cells (l.map gf) e row true) ∧ (j = 0 ∧ vs = [liP n k, nilV, goN 0] ∨ ∃ b, (b = N1 + 2 ∨ b = N1 + 3) ∧ 0 < j ∧ vs = [liP n k, slAt b j, goN j] ∧ h.get b = some (icv ((pfxL l j).map gi)))
set_option maxRecDepth 100000 in
theorem px_more (l : List Nat) (n e row k j b : Nat) (h : AHeap) (g : Nat → Value) (hn : n ≤ l.length) (h0 : 0 < n) (hl : n ≤ 65536) (hval : ∀ x ∈ l.take n, smpE x = 0) (hj : 0 < j) (hjn : j ≤ n + 1) (hb : N1 < b)
    (hr : amapM (renV Tryz.prog.globals.size [N1, b]) [liP n k, slAt b j, goN j] = some [liP n k, slO j j, goN j]) (hs : h.get N1 = some (.cells (l.map gf) e row true)) (hd : h.get b = some (icv ((pfxL l j).map gi))) (Q : Exit → List Value → AHeap → Prop)
    (hQ : j ≤ n → ∀ h', PInv l n k e row (j + 1) [liP n k, slAt (N1 + 3) (j + 1), goN (j + 1)] h' → Q .normal [liP n k, slAt (N1 + 3) (j + 1), goN (j + 1)] h')
    (hE : j = n + 1 → Q (.exit 0) [liP n k, slO j j, goN j] (MH (l.map gf) e row ((pfxL l j).map gi))) :
    J Tryz.prog (loopOf Tryz.prog 34 0) (stOf 19 [(0, liP n k), (3, slAt b j), (4, goN j)] g) h (told 19 [0, 3, 4] Q) := by
  refine J.reheap (ts := [0, 3, 4]) (vs := [liP n k, slAt b j, goN j]) (es := fun _ => 0) (vs₂ := [liP n k, slO j j, goN j]) (B := [(l.map gf, e, row, true), ((pfxL l j).map gi, 3, 2, false)]) (ids := [N1, b]) globs_pos (by decide) (by decide) rfl (List.nodup_cons.2 ⟨fun h => Nat.ne_of_lt hb (List.mem_singleton.1 h), List.nodup_cons.2 ⟨List.not_mem_nil, List.nodup_nil⟩⟩) (fun i hi => by
    simp only [List.mem_cons, List.not_mem_nil, or_false] at hi
    rcases hi with rfl | rfl
    · exact Nat.le_refl _
    · exact Nat.le_of_lt hb) ?_ hr ?_ fun g' => ?_
  · intro q b' i hb hi
    match q, hb, hi with
    | 0, hb, hi => cases hb; cases hi; exact ⟨hs, flat_floats l⟩
    | 1, hb, hi => cases hb; cases hi; exact ⟨hd, flat_ints _⟩
  · intro i hi
    simp only [List.mem_cons, List.not_mem_nil, or_false] at hi
    rcases hi with rfl | rfl
    · exact ⟨(0, liP n k), by simp, by simp [named]⟩
    · exact ⟨(3, slAt i j), by simp, by simp [named]⟩
  · refine execC_ok mixed orcPc_ok askPc_ok (noLoops _) (Eq.mpr (px_next _ _ n k j e row g' _) ?_)
    refine ⟨fun hle => ?_, fun hgt => ?_⟩
    · have hj' : j ≤ n := by simpa [ilt_dec] using hle
      refine ⟨l, rfl, h0, hn, by omega, spC_of hn hval hj', ?_, by rw [Nat.ble_eq]; omega, by rw [List.length_map, pfxL_length]; omega, ?_⟩
      · cases hh : Nat.ble (j + 1) j with
        | false => rfl
        | true => rw [Nat.ble_eq] at hh; omega
      · rw [show Value.int .i64 (fwrap .i64 (Int.ofNat (j + 1))) = goN (j + 1) by rw [fwrap_nat (by omega)], spR_of hj']
        refine hQ hj' _ ⟨?_, .inr ⟨N1 + 3, .inr rfl, Nat.succ_pos _, rfl, ?_⟩⟩
        · rw [AHeap.get_push, if_neg (by show ¬ N1 = (MH (l.map gf) e row ((pfxL l j).map gi)).n + 1; rw [MH_n]; omega), AHeap.get_set, if_neg (by omega), AHeap.get_push, if_neg (by rw [MH_n]; omega)]
          exact MH_src _ _ _ _
        · rw [AHeap.get_push, if_pos (by rfl), pfxL_succ, List.map_append]
          rfl
    · have hj' : n < j := by simpa [ilt_dec] using hgt
      exact hE (by omega)
set_option maxRecDepth 100000 in
theorem px_loop (l : List Nat) (n e row k : Nat) (h₀ : AHeap) (hn : n ≤ l.length) (h0 : 0 < n) (hl : n ≤ 65536) (hval : ∀ x ∈ l.take n, smpE x = 0) (hs : h₀.get N1 = some (.cells (l.map gf) e row true)) :
    ∀ s : AAct, s.n = 19 → s.marks = [] → [0, 3, 4].map s.tmp = [liP n k, nilV, goN 0] →
    J Tryz.prog (.loop (loopOf Tryz.prog 34 0)) s h₀ (told 19 [0, 3, 4] fun ex vs h => ex = .exit 0 ∧ vs = [liP n k, slO (n + 1) (n + 1), goN (n + 1)] ∧ h.get (N1 + 1) = some (icv ((preL ((l.take n).map unitE)).map gi))) := by
  intro s ha hm hv
  refine loop_rule (fun m vs h => ∃ j, j ≤ n + 1 ∧ m = n + 1 - j ∧ PInv l n k e row j vs h) _ ?_ (n + 1) _ _ s ⟨0, Nat.zero_le _, rfl, hs, .inl ⟨rfl, rfl⟩⟩ ha hm hv
  rintro m vs h g ⟨j, hj, rfl, hs, ⟨rfl, rfl⟩ | ⟨b, hb, hj0, rfl, hd⟩⟩
  · refine J.reheap (es := fun _ => 0) (vs₂ := [liP n k, nilV, goN 0]) (B := [(l.map gf, e, row, true)]) (ids := [N1]) globs_pos (by decide) (by decide) rfl (by simp) (by simp) ?_ (by kernel_rfl) ?_ fun g' => ?_
    · intro q b' i hb hi
      match q, hb, hi with
      | 0, hb, hi => cases hb; cases hi; exact ⟨hs, flat_floats l⟩
    · intro i hi
      simp only [List.mem_cons, List.not_mem_nil, or_false] at hi
      subst hi
      exact ⟨(0, liP n k), by simp, by simp [named]⟩
    · refine execC_ok mixed orcPc_ok askPc_ok (noLoops _) (Eq.mpr (px_first _ n k e row g' _) ⟨fun _ => ?_, fun h => by cases h⟩)
      refine ⟨l, rfl, h0, hn, by omega, spC_of hn hval (Nat.zero_le _), n + 1 - 1, by omega, 1, by omega, rfl, ?_, .inr ⟨N1 + 2, .inl rfl, Nat.one_pos, rfl, ?_⟩⟩
      · rw [AHeap.get_push, if_neg (by show ¬ N1 = (SC (l.map gf) e row).n + 1; rw [SC_n]; omega), AHeap.get_push, if_neg (by rw [SC_n]; omega)]
        exact SC_src _ _ _
      · rw [AHeap.get_push, if_pos (by rfl), spR_of (Nat.zero_le _)]
        rfl
  · have hr : amapM (renV Tryz.prog.globals.size [N1, b]) [liP n k, slAt b j, goN j] = some [liP n k, slO j j, goN j] := by
      rcases hb with rfl | rfl
      · kernel_rfl
      · kernel_rfl
    refine px_more l n e row k j b h g hn h0 hl hval hj0 hj (by omega) hr hs hd _ (fun hjn h' hp => ⟨n + 1 - (j + 1), by omega, j + 1, by omega, rfl, hp⟩) fun hj => ?_
    subst hj
    refine ⟨rfl, rfl, ?_⟩
    rw [MH_dst, pfxL_pre hn]
end Go.Proofs.YtpdpaifagakipaaGreatDoor
