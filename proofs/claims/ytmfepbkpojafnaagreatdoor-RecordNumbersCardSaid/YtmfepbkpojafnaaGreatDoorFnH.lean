/-
  OWN WORK. Permutations, as the program makes them: the call.
-/
import Derived.Test.YtmfepbkpojafnaaGreatDoorFnG
namespace Go.Proofs.YtmfepbkpojafnaaGreatDoor
open Go Go.Am

noncomputable def fillL (q j : Nat) : List Int := (List.range q).map fun i => if i < j then Int.ofNat i else 0
noncomputable def rangeL (q : Nat) : List Int := (List.range q).map Int.ofNat
theorem fillL_length (q j : Nat) : (fillL q j).length = q := by simp [fillL]
theorem fillL_zero (q : Nat) : (fillL q 0).map gi = List.replicate q (gi 0) := by
  rw [List.eq_replicate_iff]
  refine ⟨by simp [fillL], fun b hb => ?_⟩
  obtain ⟨x, hx, rfl⟩ := List.mem_map.1 hb
  unfold fillL at hx
  obtain ⟨i, _, rfl⟩ := List.mem_map.1 hx
  rw [if_neg (Nat.not_lt_zero i)]
theorem fillL_end (q : Nat) : fillL q q = rangeL q := by
  unfold fillL rangeL
  refine List.map_congr_left fun i hi => ?_
  rw [if_pos (by simpa using hi)]
theorem fillL_set {q j : Nat} (hj : j < q) : (fillL q j).set j (Int.ofNat j) = fillL q (j + 1) := by
  apply List.ext_getElem?
  intro i
  unfold fillL
  rw [List.getElem?_set]
  by_cases e : j = i
  · subst e
    simp [hj]
  · rw [if_neg e]
    by_cases hi : i < q
    · simp only [List.getElem?_map, List.getElem?_range hi, Option.map_some, Option.some.injEq]
      by_cases h1 : i < j
      · rw [if_pos h1, if_pos (by omega)]
      · rw [if_neg h1, if_neg (by omega)]
    · simp [hi]
set_option maxRecDepth 100000 in
theorem fill_loop (o : AObj) (q : Nat) (hq : q ≤ 256) (n : Int) : ∀ a : AAct, a.n = 63 → a.marks = [] → [0, 1, 7, 24, 25].map a.tmp = [gi n, goN q, slD q, goN q, goN 0] →
    J Tryz.prog (.loop (loopOf Tryz.prog 10 0)) a (HD o ((fillL q 0).map gi)) (told 63 [0, 1, 7, 24, 25] fun e vs h => e = .exit 0 ∧ h = HD o ((rangeL q).map gi) ∧ vs = [gi n, goN q, slD q, goN q, goN q]) := by
  intro a hn hm hv
  refine loop_rule (fun m vs h => ∃ j, j ≤ q ∧ m = q - j ∧ vs = [gi n, goN q, slD q, goN q, goN j] ∧ h = HD o ((fillL q j).map gi)) _ ?_ q _ _ a ⟨0, Nat.zero_le _, rfl, rfl, rfl⟩ hn hm hv
  rintro m vs h g ⟨j, hj, rfl, rfl, rfl⟩
  refine execC_ok mixed orcF_ok (noAsks_ok _) (noLoops _) (Eq.mpr (fill_body o _ q j n g _) ?_)
  refine ⟨fun hlt => ?_, fun hge => ?_⟩
  · have hl := blt_true hlt
    refine ⟨hlt, ?_, q - (j + 1), by omega, j + 1, hl, rfl, by rw [fwrap_nat (by omega)], ?_⟩
    · rw [Nat.ble_eq, List.length_map, fillL_length]
      omega
    · rw [show goN j = gi (Int.ofNat j) from rfl, splice_map (by rw [fillL_length]; exact hl), fillL_set hl]
  · have hge := blt_false hge
    obtain rfl : j = q := by omega
    exact ⟨rfl, by rw [fillL_end], rfl⟩
set_option maxRecDepth 100000 in
theorem hbP (o : AObj) (q : Nat) : ∀ c x v g (Q : Exit → List Value → AHeap → Prop), ShufC c q x v (Q .normal [slD q, gi (stepX x), .int .i64 (fwrap .i64 (v - 1))] (HD o (swC c v (kX x v)))) (Q (.exit 2) [slD q, gi x, gi v] (HD o c)) →
    J Tryz.prog (loopOf Tryz.prog 10 2) (stOf 63 [(7, slD q), (9, gi x), (10, gi v)] g) (HD o c) (told 63 [7, 9, 10] Q) := fun c x v g Q hq =>
  execC_ok mixed orcF_ok (noAsks_ok _) (noLoops _) (Eq.mpr (shuf_body o c q x v g Q) ⟨fun h => by
    obtain ⟨h1, h2, h3, h4, h5, h6, h7, h8⟩ := hq.1 h
    exact ⟨h1, h2, h3, h4, h5, h4, h6, h2, h7, h8⟩, hq.2⟩)
noncomputable def drawLoops (o : AObj) (n : Int) (q : Nat) : Loops Tryz.prog where
  body := fun i => loopOf Tryz.prog 10 i
  spec := fun i a h k => match i with
    | 0 => entry a 63 [(0, gi n), (1, goN q), (7, slD q), (24, goN q), (25, goN 0)] (h = HD o (List.replicate q (gi 0)) ∧ q ≤ 256 ∧ ∀ g, k (.exit 0) (stOf 63 [(0, gi n), (1, goN q), (7, slD q)] g) (HD o ((rangeL q).map gi)))
    | 2 => entry a 63 [(7, slD q), (9, gi n), (10, .int .i64 (fwrap .i64 (Int.ofNat q - 1)))] (h = HD o ((rangeL q).map gi) ∧ (q ≤ 256 ∧ 0 ≤ n ∧ n ≤ 2147483399) ∧ ∀ g, k (.exit 2) (stOf 63 [(7, slD q)] g) (HD o ((drawS n q).map gi)))
    | _ => False
  ok := fun i a h k s => by
    split at s
    · obtain ⟨h1, h2, h3, rfl, hs, h4⟩ := entry_facts s
      rw [← fillL_zero]
      refine J.of_told (fill_loop o q hs n a h1 h2 ?_) ?_
      · simp only [List.map_cons, List.map_nil]
        rw [h3 (0, gi n) (by simp), h3 (1, goN q) (by simp), h3 (7, slD q) (by simp), h3 (24, goN q) (by simp), h3 (25, goN 0) (by simp)]
      · rintro e vs h' g ⟨rfl, rfl, rfl⟩
        exact h4 (ov [(24, goN q), (25, goN q)] g)
    · obtain ⟨h1, h2, h3, rfl, ⟨hs1, hs2, hs3⟩, h4⟩ := entry_facts s
      refine J.of_told (shuf_loop hs1 (hbP o q) (rangeL q) (by simp [rangeL]) n hs2 hs3 a h1 h2 ?_) ?_
      · simp only [List.map_cons, List.map_nil]
        rw [h3 (7, slD q) (by simp), h3 (9, gi n) (by simp), h3 (10, .int .i64 (fwrap .i64 (Int.ofNat q - 1))) (by simp)]
      · rintro e vs h' g ⟨rfl, rfl, y, v, rfl⟩
        exact h4 (ov [(9, gi y), (10, gi v)] g)
    · exact s.elim
noncomputable abbrev drawO1 (n : Int) (y : Int) : AObj := .cells [gi (withinS n 0 999999999), gi (withinS y 0 256)] 27 2 false
theorem draw_run (n : Int) (q : Nat) (K : Value → AHeap → Prop) : callC Tryz.prog (exec Tryz.prog orcF 10) (syOf [(19, 1), (22, 9)]) noAsks (drawLoops (drawO1 n (Int.ofNat q)) n q) 60 10 #[gi n, goN q] (emp Tryz.prog) K =
  (((!ieq (drawE n (Int.ofNat q)) 0) = true → K (.tuple #[nilS, gi (drawE n (Int.ofNat q))]) ((emp Tryz.prog).push (drawO1 n (Int.ofNat q)))) ∧
   ((!ieq (drawE n (Int.ofNat q)) 0) = false → q = q ∧ Nat.ble q 65536 = true ∧ loopOf Tryz.prog 10 0 = loopOf Tryz.prog 10 0 ∧
     gi n = gi n ∧ goN q = goN q ∧ slD q = slD q ∧ goN q = goN q ∧ goN 0 = goN 0 ∧ HD (drawO1 n (Int.ofNat q)) (List.replicate q (gi 0)) = HD (drawO1 n (Int.ofNat q)) (List.replicate q (gi 0)) ∧ q ≤ 256 ∧ ∀ _ : Nat → Value,
     loopOf Tryz.prog 10 2 = loopOf Tryz.prog 10 2 ∧ slD q = slD q ∧ gi n = gi n ∧ Value.int .i64 (fwrap .i64 (Int.ofNat q - 1)) = .int .i64 (fwrap .i64 (Int.ofNat q - 1)) ∧
       HD (drawO1 n (Int.ofNat q)) ((rangeL q).map gi) = HD (drawO1 n (Int.ofNat q)) ((rangeL q).map gi) ∧ (q ≤ 256 ∧ 0 ≤ n ∧ n ≤ 2147483399) ∧ ∀ _ : Nat → Value,
         K (.tuple #[slD q, gi 0]) (HD (drawO1 n (Int.ofNat q)) ((drawS n q).map gi)))) := by kernel_rfl
theorem draw_fail (n y : Int) (K : Value → AHeap → Prop) : callC Tryz.prog (exec Tryz.prog orcF 10) (syOf [(19, 1), (22, 99)]) noAsks (noLoops _) 60 10 #[gi n, gi y] (emp Tryz.prog) K =
  (((!ieq (drawE n y) 0) = true → K (.tuple #[nilS, gi (drawE n y)]) ((emp Tryz.prog).push (drawO1 n y))) ∧ ((!ieq (drawE n y) 0) = false → False)) := by kernel_rfl
theorem drawE_zero {x y : Int} (h : drawE x y = 0) : (0 ≤ x ∧ x ≤ 999999999) ∧ 0 ≤ y ∧ y ≤ 256 := by
  unfold drawE at h
  simp only [firstS, ieq_dec] at h
  rw [withinS_eq x, withinS_eq y] at h
  by_cases h1 : 0 ≤ x ∧ x ≤ 999999999
  · by_cases h2 : 0 ≤ y ∧ y ≤ 256
    · exact ⟨h1, h2⟩
    · rw [if_pos h1, if_neg h2] at h
      simp at h
  · rw [if_neg h1] at h
    simp at h
noncomputable def drawO : Array Value → AHeap → Option (Value × AHeap) := fun args h => match args.toList with
  | [.int .i64 x, .int .i64 y] => if drawE x y = 0 then some (.tuple #[.slice (some ⟨h.n, 0, none⟩) y.toNat y.toNat, gi 0], h.push (.cells ((drawS x y.toNat).map gi) 3 2 false)) else some (.tuple #[nilS, gi (drawE x y)], h)
  | _ => none
theorem ren_slice {m r n k : Nat} : Ren (fun j => if j = m then some r else none) (.slice (some ⟨r, 0, none⟩) n k) (.slice (some ⟨m, 0, none⟩) n k) := .slice (by simp)
theorem fresh_draw {f : FuncId} {x : Int} {q : Nat} {args : Array Value} {xs : List Int} {h : AHeap} (ha : args.toList.all (flat 3) = true) (hc : CallJ Tryz.prog f args (emp Tryz.prog) (fun v h' => ∃ r, v = .tuple #[.slice (some ⟨r, 0, none⟩) q q, gi x] ∧ h'.get r = some (.cells (xs.map gi) 3 2 false))) :
    ∀ ρ args' w, HRel ρ h w → Globs Tryz.prog ρ → ARel (VRel ρ) args args' → CallsIn (fence none) 0 Tryz.prog f args' w (CPost ρ h w (.tuple #[.slice (some ⟨h.n, 0, none⟩) q q, gi x]) (h.push (.cells (xs.map gi) 3 2 false))) :=
  CallJ.fresh (flat_ints xs) (fun r => .tuple #[.slice (some ⟨r, 0, none⟩) q q, gi x])
    (fun r m => .tuple (l := [.slice (some ⟨r, 0, none⟩) q q, gi x]) (l₂ := [.slice (some ⟨m, 0, none⟩) q q, gi x]) rfl fun i a b ha hb => by
      match i, ha, hb with
      | 0, ha, hb => cases ha; cases hb; exact ren_slice
      | 1, ha, hb => cases ha; cases hb; exact .flat rfl)
    (fun r ρ c hv => by
      obtain ⟨vs, rfl, h1, h2⟩ := hv.unfold
      have hlt : 0 < vs.size := by rw [← h1]; exact Nat.zero_lt_succ _
      exact Mentions.born (.inl ⟨0, q, q, rfl⟩) (h2 0 _ vs[0] rfl (Array.getElem?_eq_getElem hlt)))
    (Small.emp ha) hc
theorem fresh_slice {f : FuncId} {q : Nat} {args : Array Value} {xs : List Int} {h : AHeap} (ha : args.toList.all (flat 3) = true) (hc : CallJ Tryz.prog f args (emp Tryz.prog) (fun v h' => ∃ r, v = .slice (some ⟨r, 0, none⟩) q q ∧ h'.get r = some (.cells (xs.map gi) 3 2 false))) :
    ∀ ρ args' w, HRel ρ h w → Globs Tryz.prog ρ → ARel (VRel ρ) args args' → CallsIn (fence none) 0 Tryz.prog f args' w (CPost ρ h w (.slice (some ⟨h.n, 0, none⟩) q q) (h.push (.cells (xs.map gi) 3 2 false))) :=
  CallJ.fresh (flat_ints xs) (fun r => .slice (some ⟨r, 0, none⟩) q q) (fun _ _ => ren_slice) (fun r ρ c hv => Mentions.born (.inl ⟨0, q, q, rfl⟩) hv) (Small.emp ha) hc
theorem HD_get (o : AObj) (c : List Value) : (HD o c).get (Tryz.prog.globals.size + 1) = some (.cells c 3 2 false) := by
  rw [AHeap.get_push]
  exact if_pos rfl
set_option maxRecDepth 100000 in
theorem drawO_ok : OrcOk Tryz.prog (orElse 10 drawO orcF) := by
  refine orElse_ok orcF_ok fun args h v h' hk => ?_
  unfold drawO at hk
  split at hk
  · rename_i x y ha
    have : args = #[gi x, gi y] := by rw [← ha]
    subst this
    split at hk
    · rename_i he
      cases hk
      obtain ⟨hx, hy⟩ := drawE_zero he
      obtain ⟨q, rfl⟩ : ∃ q : Nat, y = Int.ofNat q := ⟨y.toNat, by simp only [Int.ofNat_eq_natCast]; omega⟩
      have hq : q ≤ 256 := by have := hy.2; simp only [Int.ofNat_eq_natCast] at this; omega
      refine fresh_draw rfl (callC_ok mixed orcF_ok (noAsks_ok _) (Eq.mpr (draw_run x q _) ⟨fun h1 => ?_, fun _ => ?_⟩))
      · rw [he] at h1
        exact absurd h1 (by decide)
      · refine ⟨rfl, by rw [Nat.ble_eq]; omega, rfl, rfl, rfl, rfl, rfl, rfl, rfl, hq, fun _ => ⟨rfl, rfl, rfl, rfl, rfl, ⟨hq, hx.1, by omega⟩, fun _ => ⟨_, rfl, HD_get _ _⟩⟩⟩
    · rename_i he
      cases hk
      refine plain_flat rfl rfl (callC_ok mixed orcF_ok (noAsks_ok _) (Eq.mpr (draw_fail x y _) ⟨fun _ => rfl, fun h1 => ?_⟩))
      rw [ieq_dec] at h1
      exact he (by simpa using h1)
  · cases hk
end Go.Proofs.YtmfepbkpojafnaaGreatDoor
