/-
  OWN WORK. The sum of a span, by the reference: its loop.
-/
import Derived.Test.YtpdpaifagakipaaGreatDoorSuD
namespace Go.Proofs.YtpdpaifagakipaaGreatDoor
open Go Go.Am

noncomputable def spanU (l : List Nat) (a b : Nat) : List Int := ((l.take b).drop a).map unitE
noncomputable def spanW (l : List Nat) (a b : Nat) : Int := wsum (spanU l a b)
theorem wsum_snoc (L : List Int) (u : Int) : wsum (L ++ [u]) = fwrap .i64 (wsum L + u) := by
  unfold wsum
  rw [List.foldl_append]
  rfl
theorem spanW_zero (l : List Nat) (a : Nat) : spanW l a a = 0 := by
  unfold spanW spanU
  rw [List.drop_eq_nil_of_le (by rw [List.length_take]; omega)]
  rfl
theorem spanW_succ {l : List Nat} {a j : Nat} (ha : a ≤ j) (hj : j < l.length) : spanW l a (j + 1) = fwrap .i64 (spanW l a j + unitE l[j]) := by
  unfold spanW spanU
  rw [List.take_add_one, List.getElem?_eq_getElem hj, List.drop_append_of_le_length (by rw [List.length_take]; omega), List.map_append]
  exact wsum_snoc _ _
theorem ilt_nat (i b : Nat) : ilt (Int.ofNat i) (Int.ofNat b) = Nat.blt i b := rfl
theorem SH_src (c : List Value) (e row : Nat) (f t : Int) : (SH c e row f t).get N1 = some (.cells c e row true) := by
  rw [canonT_get (T := []) rfl, if_pos (Nat.le_refl _), Nat.sub_self]; rfl
theorem SH_dst (c : List Value) (e row : Nat) (f t : Int) : (SH c e row f t).get (N1 + 1) = some (.cells [gi f, gi t] 66 0 false) := by
  rw [canonT_get (T := []) rfl, if_pos (Nat.le_succ _), show N1 + 1 - Tryz.prog.globals.size = 1 by unfold N1; omega]; rfl
set_option maxRecDepth 100000 in
theorem sm_loop (l : List Nat) (n e row k a b : Nat) (h₀ : AHeap) (hab : a ≤ b) (hb : b ≤ n) (hn : n ≤ l.length) (hl : n ≤ 1000000) (hval : ∀ x ∈ l.take n, smpE x = 0) (hs : h₀.get N1 = some (.cells (l.map gf) e row true)) (hd : h₀.get (N1 + 1) = some (.cells [gi (Int.ofNat a), gi (Int.ofNat b)] 66 0 false)) :
    ∀ s : AAct, s.n = 23 → s.marks = [] → [0, 3, 5, 6].map s.tmp = [liP n k, spP, gi 0, gi (Int.ofNat a)] →
    J Tryz.prog (.loop (loopOf Tryz.prog 35 0)) s h₀ (told 23 [0, 3, 5, 6] fun ex vs h => ex = .exit 0 ∧ vs = [liP n k, spP, gi (spanW l a b), gi (Int.ofNat b)]) := by
  intro s ha hm hv
  refine loop_rule (fun m vs h => ∃ j, a ≤ j ∧ j ≤ b ∧ m = b - j ∧ vs = [liP n k, spP, gi (spanW l a j), gi (Int.ofNat j)] ∧ h.get N1 = some (.cells (l.map gf) e row true) ∧ h.get (N1 + 1) = some (.cells [gi (Int.ofNat a), gi (Int.ofNat b)] 66 0 false)) _ ?_ (b - a) _ _ s ⟨a, Nat.le_refl _, hab, rfl, by rw [spanW_zero], hs, hd⟩ ha hm hv
  rintro m vs h g ⟨j, haj, hj, rfl, rfl, hs, hd⟩
  refine J.reheap (es := fun _ => 0) (vs₂ := [liP n k, spP, gi (spanW l a j), gi (Int.ofNat j)]) (B := [(l.map gf, e, row, true), ([gi (Int.ofNat a), gi (Int.ofNat b)], 66, 0, false)]) (ids := [N1, N1 + 1]) globs_pos (by decide) (by decide) rfl (by simp) (by simp) ?_ (by kernel_rfl) ?_ fun g' => ?_
  · intro q b i hb hi
    match q, hb, hi with
    | 0, hb, hi => cases hb; cases hi; exact ⟨hs, flat_floats l⟩
    | 1, hb, hi => cases hb; cases hi; exact ⟨hd, rfl⟩
  · intro i hi
    simp only [List.mem_cons, List.not_mem_nil, or_false] at hi
    rcases hi with rfl | rfl
    · exact ⟨(0, liP n k), by simp, by simp [named]⟩
    · exact ⟨(3, spP), by simp, by simp [named]⟩
  · refine execC_ok mixed orcPa_ok askPa_ok (noLoops _) (Eq.mpr (sm_body _ n k e row _ _ _ _ g' _) ?_)
    refine ⟨fun hlt => ?_, fun hge => ?_⟩
    · have hj' := blt_true (show Nat.blt j b = true from hlt)
      have hjl : j < l.length := by omega
      obtain ⟨h1, h2⟩ := float_at hjl
      have h1' : (l.map gf)[0 + (Int.ofNat j).toNat * 1]? = _ := h1
      have h2' : floatAt (l.map gf) (0 + (Int.ofNat j).toNat * 1) = l[j] := h2
      have hv : smpE l[j] = 0 := hval _ (List.mem_of_getElem? (i := j) (by rw [List.getElem?_take, if_pos (by omega), List.getElem?_eq_getElem hjl]))
      rw [h2']
      refine ⟨?_, h2 ▸ h1, by rw [hv]; rfl, b - (j + 1), by omega, j + 1, by omega, hj', rfl, ?_, SH_src _ _ _ _ _, SH_dst _ _ _ _ _⟩
      · show Nat.blt j n = true
        rw [Nat.blt_eq]; omega
      · have e1 : fwrap .i64 (Int.ofNat (j + 1)) = Int.ofNat (j + 1) := fwrap_nat (by omega)
        rw [spanW_succ haj hjl, show Int.ofNat j + 1 = Int.ofNat (j + 1) from rfl, e1]
    · have hge := blt_false (show Nat.blt j b = false from hge)
      obtain rfl : j = b := by omega
      exact ⟨rfl, rfl⟩
noncomputable abbrev spH (c : List Value) (e row : Nat) (f t : Int) : AHeap := (liH c e row).push (.cells [gi f, gi t] 66 0 false)
noncomputable def smLoops (l : List Nat) (n e row k a b : Nat) : Loops Tryz.prog where
  body := fun _ => loopOf Tryz.prog 35 0
  spec := fun _ s h c => entry s 23 [(0, liP n k), (3, spP), (5, gi 0), (6, gi (Int.ofNat a))] (h = spH (l.map gf) e row (Int.ofNat a) (Int.ofNat b) ∧ (a ≤ b ∧ b ≤ n ∧ n ≤ l.length ∧ n ≤ 1000000 ∧ ∀ x ∈ l.take n, smpE x = 0) ∧
    ∀ g h', c (.exit 0) (stOf 23 [(5, gi (spanW l a b))] g) h')
  ok := fun i s h c q => by
    obtain ⟨h1, h2, h3, rfl, ⟨hs1, hs2, hs3, hs4, hs5⟩, h4⟩ := entry_facts q
    refine J.of_told (sm_loop l n e row k a b _ hs1 hs2 hs3 hs4 hs5 ?_ ?_ s h1 h2 ?_) ?_
    · rw [AHeap.get_push, if_neg (by rw [canon_n]; simp)]
      rw [canon_get, if_pos (Nat.le_refl _), Nat.sub_self]; rfl
    · rw [AHeap.get_push, if_pos (by rw [canon_n]; rfl)]
    · simp only [List.map_cons, List.map_nil]
      rw [h3 (0, liP n k) (by simp), h3 (3, spP) (by simp), h3 (5, gi 0) (by simp), h3 (6, gi (Int.ofNat a)) (by simp)]
    · rintro ex vs h' g ⟨rfl, rfl⟩
      exact h4 (ov [(0, liP n k), (3, spP), (6, gi (Int.ofNat b))] g) h'
end Go.Proofs.YtpdpaifagakipaaGreatDoor
