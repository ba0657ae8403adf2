/-
  OWN WORK. Prefix sums, by the program.
-/
import Derived.Test.YtnlkkapeldhemaaGreatDoorSuB
namespace Go.Proofs.YtnlkkapeldhemaaGreatDoor
open Go Go.Am

noncomputable def dI : Value → Option Int
  | .int .i64 x => some x
  | _ => none
theorem dI_some (v : Value) (x : Int) (h : dI v = some x) : v = gi x := by
  unfold dI at h
  split at h
  · cases h; rfl
  · cases h
noncomputable def wsum (l : List Int) : Int := l.foldl (fun a u => fwrap .i64 (a + u)) 0
theorem wsum_succ {l : List Int} {j : Nat} (hj : j < l.length) : wsum (l.take (j + 1)) = fwrap .i64 (wsum (l.take j) + l[j]) := by
  unfold wsum
  rw [List.take_add_one, List.getElem?_eq_getElem hj, List.foldl_append]
  rfl
noncomputable def fillP (l : List Int) (n j : Nat) : List Int := (List.range (n + 1)).map fun i => if i ≤ j then wsum (l.take i) else 0
noncomputable def preL (l : List Int) : List Int := (List.range (l.length + 1)).map fun i => wsum (l.take i)
theorem fillP_length (l : List Int) (n j : Nat) : (fillP l n j).length = n + 1 := by simp [fillP]
theorem fillP_zero (l : List Int) (n : Nat) : (fillP l n 0).map gi = List.replicate (n + 1) (gi 0) := by
  rw [List.eq_replicate_iff]
  refine ⟨by simp [fillP], fun b hb => ?_⟩
  obtain ⟨x, hx, rfl⟩ := List.mem_map.1 hb
  unfold fillP at hx
  obtain ⟨i, _, rfl⟩ := List.mem_map.1 hx
  by_cases h : i ≤ 0
  · obtain rfl : i = 0 := by omega
    rw [if_pos (Nat.le_refl _)]; rfl
  · rw [if_neg h]
theorem fillP_at {l : List Int} {n j i : Nat} (hi : i ≤ j) (hn : i ≤ n) : (fillP l n j)[i]? = some (wsum (l.take i)) := by
  unfold fillP
  rw [List.getElem?_map, List.getElem?_range (by omega)]
  simp [hi]
theorem fillP_end {l : List Int} {n : Nat} (hn : n ≤ l.length) : fillP l n n = preL (l.take n) := by
  unfold fillP preL
  rw [show (l.take n).length = n by rw [List.length_take]; omega]
  refine List.map_congr_left fun i hi => ?_
  have hi : i < n + 1 := by simpa using hi
  rw [if_pos (by omega), List.take_take, Nat.min_eq_left (by omega)]
theorem fillP_set {l : List Int} {n j : Nat} (hj : j < n) (hl : j < l.length) : (fillP l n j).set (j + 1) (fwrap .i64 (wsum (l.take j) + l[j])) = fillP l n (j + 1) := by
  rw [← wsum_succ hl]
  apply List.ext_getElem?
  intro i
  rw [List.getElem?_set]
  by_cases e : j + 1 = i
  · subst e
    rw [if_pos rfl, if_pos (by rw [fillP_length]; omega), fillP_at (Nat.le_refl _) (by omega)]
  · rw [if_neg e]
    unfold fillP
    by_cases hi : i < n + 1
    · simp only [List.getElem?_map, List.getElem?_range hi, Option.map_some, Option.some.injEq]
      by_cases h1 : i ≤ j
      · rw [if_pos h1, if_pos (by omega)]
      · rw [if_neg h1, if_neg (by omega)]
    · simp [hi]
noncomputable def atJ (j : Nat) : Nat := 0 + (fwrap .i64 (Int.ofNat (j + 1))).toNat * 1
theorem pf_body (c c' : List Value) (n k j e row : Nat) (g : Nat → Value) (Q : Exit → List Value → AHeap → Prop) :
    execC Tryz.prog (exec Tryz.prog orcZ 10) (syOf [(13, 1), (15, 2), (16, 3), (22, 2), (23, 3), (26, 2), (10026, 4)]) askZ (noLoops _) 40 (loopOf Tryz.prog 130 0) (stOf 29 [(3, slO (n + 1) (n + 1)), (10, liP n k), (11, goN n), (12, goN j)] g) (MH c e row c') (told 29 [3, 10, 11, 12] Q) =
    ((Nat.blt j n = true → Nat.blt j n = true ∧ c[0 + j * 1]? = some (gi (intAt c (0 + j * 1))) ∧ Nat.blt j (n + 1) = true ∧ c'[0 + j * 1]? = some (gi (intAt c' (0 + j * 1))) ∧ ahasIndex (fwrap .i64 (Int.ofNat (j + 1))) (n + 1) = true ∧ Nat.ble (atJ j + 1) c'.length = true ∧
      Q .normal [slO (n + 1) (n + 1), liP n k, goN n, .int .i64 (fwrap .i64 (Int.ofNat (j + 1)))] ((MH c e row c').set (N1 + 1) (.cells (splice c' (atJ j) [gi (fwrap .i64 (intAt c' (0 + j * 1) + intAt c (0 + j * 1)))]) 3 2 false))) ∧
     (Nat.blt j n = false → Q (.exit 0) [slO (n + 1) (n + 1), liP n k, goN n, goN j] (MH c e row c'))) := by kernel_rfl
theorem int_at {l : List Int} {j : Nat} {x : Int} (h : l[j]? = some x) : (l.map gi)[0 + j * 1]? = some (gi (intAt (l.map gi) (0 + j * 1))) ∧ intAt (l.map gi) (0 + j * 1) = x := by
  have e : (l.map gi)[0 + j * 1]? = some (gi x) := by rw [Nat.zero_add, Nat.mul_one, List.getElem?_map, h]; rfl
  constructor
  · unfold intAt; rw [e]
  · unfold intAt; rw [e]
set_option maxRecDepth 100000 in
theorem pf_loop (l : List Int) (n e row k : Nat) (h₀ : AHeap) (hn : n ≤ l.length) (hl : n ≤ 65536) (hs : h₀.get N1 = some (.cells (l.map gi) e row true)) (hd : h₀.get (N1 + 1) = some (.cells ((fillP l n 0).map gi) 3 2 false)) :
    ∀ a : AAct, a.n = 29 → a.marks = [] → [3, 10, 11, 12].map a.tmp = [slO (n + 1) (n + 1), liP n k, goN n, goN 0] →
    J Tryz.prog (.loop (loopOf Tryz.prog 130 0)) a h₀ (told 29 [3, 10, 11, 12] fun ex vs h => ex = .exit 0 ∧ vs = [slO (n + 1) (n + 1), liP n k, goN n, goN n] ∧ h.get (N1 + 1) = some (.cells ((preL (l.take n)).map gi) 3 2 false)) := by
  intro a ha hm hv
  refine loop_rule (fun m vs h => ∃ j, j ≤ n ∧ m = n - j ∧ vs = [slO (n + 1) (n + 1), liP n k, goN n, goN j] ∧ h.get N1 = some (.cells (l.map gi) e row true) ∧ h.get (N1 + 1) = some (.cells ((fillP l n j).map gi) 3 2 false)) _ ?_ n _ _ a ⟨0, Nat.zero_le _, rfl, rfl, hs, hd⟩ ha hm hv
  rintro m vs h g ⟨j, hj, rfl, rfl, hs, hd⟩
  refine J.reheap (es := fun _ => 0) (vs₂ := [slO (n + 1) (n + 1), liP n k, goN n, goN j]) (B := [(l.map gi, e, row, true), ((fillP l n j).map gi, 3, 2, false)]) (ids := [N1, N1 + 1]) globs_pos (by decide) (by decide) rfl (by simp) (by simp) ?_ (by kernel_rfl) ?_ fun g' => ?_
  · intro q b i hb hi
    match q, hb, hi with
    | 0, hb, hi => cases hb; cases hi; exact ⟨hs, flat_ints l⟩
    | 1, hb, hi => cases hb; cases hi; exact ⟨hd, flat_ints _⟩
  · intro i hi
    simp only [List.mem_cons, List.not_mem_nil, or_false] at hi
    rcases hi with rfl | rfl
    · exact ⟨(10, liP n k), by simp, by simp [named]⟩
    · exact ⟨(3, slO (n + 1) (n + 1)), by simp, by simp [named]⟩
  · refine execC_ok mixed orcZ_ok askZ_ok (noLoops _) (Eq.mpr (pf_body _ _ n k j e row g' _) ?_)
    refine ⟨fun hlt => ?_, fun hge => ?_⟩
    · have hj' := blt_true hlt
      have hjl : j < l.length := by omega
      obtain ⟨h1, h2⟩ := int_at (List.getElem?_eq_getElem hjl)
      obtain ⟨h3, h4⟩ := int_at (fillP_at (l := l) (n := n) (Nat.le_refl j) hj)
      have hat : atJ j = 0 + (j + 1) * 1 := by unfold atJ; rw [fwrap_nat (by omega)]; rfl
      rw [h4, h2, hat, fwrap_nat (show j + 1 < 9223372036854775808 by omega)]
      refine ⟨hlt, h2 ▸ h1, by rw [Nat.blt_eq]; omega, h4 ▸ h3, ?_, by rw [Nat.ble_eq, List.length_map, fillP_length]; omega, n - (j + 1), by omega, j + 1, hj', rfl, rfl, ?_, ?_⟩
      · show Nat.blt (j + 1) (n + 1) = true
        rw [Nat.blt_eq]; omega
      · rw [AHeap.get_set, if_neg (by omega)]
        exact MH_src _ _ _ _
      · rw [AHeap.get_set, if_pos rfl, splice_map (by rw [fillP_length]; omega), fillP_set hj' hjl]
    · have hge := blt_false hge
      obtain rfl : j = n := by omega
      refine ⟨rfl, rfl, ?_⟩
      rw [← fillP_end hn]
      exact MH_dst _ _ _ _
noncomputable def pfLoops (l : List Int) (n e row k : Nat) : Loops Tryz.prog where
  body := fun _ => loopOf Tryz.prog 130 0
  spec := fun _ a h c => entry a 29 [(3, slO (n + 1) (n + 1)), (10, liP n k), (11, goN n), (12, goN 0)] (h = mkH (l.map gi) e row (List.replicate (n + 1) (gi 0)) ∧ (n ≤ l.length ∧ n ≤ 65535) ∧
    ∀ g h', h'.get (N1 + 1) = some (.cells ((preL (l.take n)).map gi) 3 2 false) → c (.exit 0) (stOf 29 [(3, slO (n + 1) (n + 1))] g) h')
  ok := fun i a h c q => by
    obtain ⟨h1, h2, h3, rfl, ⟨hs1, hs2⟩, h4⟩ := entry_facts q
    refine J.of_told (pf_loop l n e row k _ hs1 (by omega) ?_ ?_ a h1 h2 ?_) ?_
    · rw [AHeap.get_push, if_neg (by rw [canon_n]; simp)]
      rw [canon_get, if_pos (Nat.le_refl _), Nat.sub_self]; rfl
    · rw [AHeap.get_push, if_pos (by rw [canon_n]; rfl), fillP_zero]
    · simp only [List.map_cons, List.map_nil]
      rw [h3 (3, slO (n + 1) (n + 1)) (by simp), h3 (10, liP n k) (by simp), h3 (11, goN n) (by simp), h3 (12, goN 0) (by simp)]
    · rintro ex vs h' g ⟨rfl, rfl, hg⟩
      exact h4 (ov [(10, liP n k), (11, goN n), (12, goN n)] g) h' hg
theorem pf_run (l : List Int) (n e row k : Nat) (K : Value → AHeap → Prop) : callC Tryz.prog (exec Tryz.prog orcZ 10) (syOf [(8, 33), (9, 9)]) askZ (pfLoops l n e row k) 20 130 #[liP n k] (liH (l.map gi) e row) K =
  (inI64 (Int.ofNat (n + 1)) = true ∧ n + 1 = n + 1 ∧ Nat.ble (n + 1) 65536 = true ∧ loopOf Tryz.prog 130 0 = loopOf Tryz.prog 130 0 ∧ slO (n + 1) (n + 1) = slO (n + 1) (n + 1) ∧ liP n k = liP n k ∧ goN n = goN n ∧ goN 0 = goN 0 ∧
    mkH (l.map gi) e row (List.replicate (n + 1) (gi 0)) = mkH (l.map gi) e row (List.replicate (n + 1) (gi 0)) ∧ (n ≤ l.length ∧ n ≤ 65535) ∧
    ∀ (_ : Nat → Value) (h' : AHeap), h'.get (N1 + 1) = some (.cells ((preL (l.take n)).map gi) 3 2 false) → K (slO (n + 1) (n + 1)) h') := by kernel_rfl
theorem inI64_nat {m : Nat} (h : m < 9223372036854775808) : inI64 (Int.ofNat m) = true := by
  show Nat.blt m 9223372036854775808 = true
  rw [Nat.blt_eq]; exact h
noncomputable def preX : List Int → Option (List Value) := fun l => some ((preL l).map gi)
noncomputable def preV (l : List Int) : List Value := (preL l).map gi
noncomputable def orcPa : Orc := orElse 130 (mapO dI 65535 (fun n => n + 1) noT preX 3) orcZ
set_option maxRecDepth 100000 in
theorem orcPa_ok : OrcOk Tryz.prog orcPa := by
  refine mapO_ok dI_some (fun _ => rfl) orcZ_ok (fun l xs h => by cases h; exact flat_ints _) fun l n r xs el row k h0 h1 h2 ht hx => ?_
  obtain rfl := noT_some ht
  cases hx
  exact callC_ok mixed orcZ_ok askZ_ok (Eq.mpr (pf_run l n el row k _) ⟨inI64_nat (by omega), rfl, by rw [Nat.ble_eq]; omega, rfl, rfl, rfl, rfl, rfl, rfl, ⟨h1, h2⟩, fun _ h' hg => ⟨_, rfl, hg⟩⟩)
noncomputable def askPa : Asks := asksM 130 gi 65535 (fun n => n + 1) noT (fun _ => True) preV 3 askZ
theorem askPa_ok : AsksOk orcPa askPa := asksM_ok (d := dI) (e := gi) (fun _ => rfl) (fun _ _ => rfl) askZ_ok
end Go.Proofs.YtnlkkapeldhemaaGreatDoor
