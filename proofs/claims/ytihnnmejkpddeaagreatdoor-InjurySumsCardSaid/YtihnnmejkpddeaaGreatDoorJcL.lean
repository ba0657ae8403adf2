/-
  OWN WORK. Stage 6: moments: the loops of the reference and of the program.
-/
import Derived.Test.YtihnnmejkpddeaaGreatDoorJcK
namespace Go.Proofs.YtihnnmejkpddeaaGreatDoor
open Go Go.Am

def limS (u : Int) : Prop := -1000 ≤ u ∧ u ≤ 1000
noncomputable def moL (u : Int) (a b : List Int) : List Int := List.zipWith (fun x y => x - u * y) a b
theorem mul_bdS {u y : Int} (hu : limS u) (hy : -16384 ≤ y ∧ y ≤ 16384) : -16384000 ≤ u * y ∧ u * y ≤ 16384000 := by
  have h : (u * y).natAbs ≤ 1000 * 16384 := by
    rw [Int.natAbs_mul]
    exact Nat.mul_le_mul (by have := hu.1; have := hu.2; omega) (by omega)
  omega
theorem moL_len {u : Int} {a b : List Int} {n : Nat} (ha : a.length = n) (hb : b.length = n) : (moL u a b).length = n := by
  unfold moL
  rw [List.length_zipWith, ha, hb, Nat.min_self]
theorem moL_at {u : Int} {a b : List Int} {n j : Nat} (ha : a.length = n) (hb : b.length = n) (hj : j < n) : (moL u a b)[j]'(by rw [moL_len ha hb]; exact hj) = a[j]'(by omega) - u * b[j]'(by omega) := List.getElem_zipWith
theorem map_take1 {l : List Int} {j : Nat} (hj : j < l.length) : (l.take (j + 1)).map gi = (l.take j).map gi ++ [gi l[j]] := by
  rw [List.take_add_one, List.getElem?_eq_getElem hj, List.map_append]; rfl
theorem map_nil' {l : List Int} {j : Nat} (hj : j ≤ l.length) (h : (l.take j).map gi = []) : j = 0 := by
  have := congrArg List.length h
  rw [List.length_map, List.length_take, Nat.min_eq_left hj] at this
  simpa using this
noncomputable def moV (n k k' : Nat) (u : Int) : Nat → Value → List Value := fun j w => [liP n k, slQ n k', gi u, w, goN j]
section
variable (a b : List Int) (u : Int) (n : Nat) (ha : a.length = n) (hb : b.length = n) (ba : bdU a) (bb : bdU b) (hu : limS u)
include ha hb ba bb hu
theorem mo_fac (j : Nat) (hj : j < n) : ((a.map gi)[0 + j * 1]? = some (gi (intAt (a.map gi) (0 + j * 1))) ∧ (b.map gi)[0 + j * 1]? = some (gi (intAt (b.map gi) (0 + j * 1)))) ∧ (inI64 (u * intAt (b.map gi) (0 + j * 1)) = true ∧ inI64 (intAt (a.map gi) (0 + j * 1) - u * intAt (b.map gi) (0 + j * 1)) = true) ∧
    intAt (a.map gi) (0 + j * 1) - u * intAt (b.map gi) (0 + j * 1) = (moL u a b)[j]'(by rw [moL_len ha hb]; exact hj) := by
  obtain ⟨f1, f2⟩ := first_at (l := a) (j := j) (by omega)
  obtain ⟨g1, g2⟩ := first_at (l := b) (j := j) (by omega)
  rw [f2, g2]
  rw [f2] at f1
  rw [g2] at g1
  have xa := ba _ (List.getElem_mem (l := a) (n := j) (by omega))
  obtain ⟨b1, b2⟩ := mul_bdS hu (bb _ (List.getElem_mem (l := b) (n := j) (by omega)))
  exact ⟨⟨f1, g1⟩, ⟨inI64_small (by omega) (by omega), inI64_small (by omega) (by omega)⟩, (moL_at ha hb hj).symm⟩
set_option maxRecDepth 100000 in
theorem mo_loop (e row k e' row' k' : Nat) (h1 : n ≤ 65536) : ∀ (s : AAct) (h : AHeap), GrownW Tryz.prog (moC (a.map gi) (b.map gi) e row e' row') 3 2 (moV n k k' u) (fun j => j) (fun j => ((moL u a b).take j).map gi) 0 ([0, 1, 2, 7, 8].map s.tmp) h → s.n = 30 → s.marks = [] →
    J Tryz.prog (.loop (loopOf Tryz.prog 41 0)) s h (told 30 [0, 1, 2, 7, 8] fun ex vs h' => ex = .exit 0 ∧ ((n = 0 ∧ vs = moV n k k' u n nilS) ∨ (vs = moV n k k' u n (slN 2 n n) ∧ h' = moD (a.map gi) (b.map gi) e row e' row' ((moL u a b).map gi)))) := by
  intro s h hG hs hk
  have hl := moL_len (u := u) ha hb
  refine growW_rule (C := moC (a.map gi) (b.map gi) e row e' row') (el := 3) (rw := 2) globs_pos (by decide) (by decide) (fun x hx => by
      simp only [List.mem_cons, List.not_mem_nil, or_false] at hx
      rcases hx with rfl | rfl
      · exact flat_ints a
      · exact flat_ints b) (moV n k k' u) (fun j => j) (fun j => ((moL u a b).take j).map gi) n _ (fun j => flat_ints _) (fun j => by kernel_rfl) (fun j q d hd => by
      obtain rfl | rfl | rfl | rfl : d = 0 ∨ d = 1 ∨ d = 2 ∨ d = 3 := by omega
      all_goals kernel_rfl)
    (fun j w q hq => by
      match q, hq with
      | 0, _ => exact ⟨(0, liP n k), by simp [moV], by simp [named]⟩
      | 1, _ => exact ⟨(1, slQ n k'), by simp [moV], by simp [named]⟩) (fun j b q => ⟨(7, .slice (some ⟨b, 0, none⟩) q q), by simp [moV], by simp [named]⟩) ?_ ?_ ?_ ?_ s h hG hs hk
  · intro j hj hx g
    obtain ⟨⟨f1, f2⟩, ⟨i1, i2⟩, et⟩ := mo_fac a b u n ha hb ba bb hu j hj
    have j0 := map_nil' (by omega) hx
    refine execC_ok mixed orcJf_ok askJf_ok (noLoops _) (Eq.mpr (mo_bodyA _ _ n k k' e row e' row' j u g _) ⟨fun hlt => ⟨hlt, f1, hlt, f2, i1, i2, f2, f1, fun p b hb => ?_, .inr ⟨nG1 + 3, 1, rfl, by omega, ?_, ?_, ?_⟩⟩, fun hge => absurd (blt_false hge) (by omega)⟩)
    · match p, hb with
      | 0, hb => cases hb; show _ = _; kernel_rfl
      | 1, hb => cases hb; show _ = _; kernel_rfl
    · intro hh
      have := map_nil' (by omega) hh
      omega
    · rw [fwrap_nat (by omega), j0]; rfl
    · show _ = some (AObj.cells (((moL u a b).take (j + 1)).map gi) _ _ _)
      have hx : ((moL u a b).take j).map gi = [] := hx
      rw [map_take1 (by omega), hx, ← et]; show _ = _; kernel_rfl
  · intro j hj hx g
    obtain ⟨⟨f1, f2⟩, ⟨i1, i2⟩, et⟩ := mo_fac a b u n ha hb ba bb hu j hj
    refine execC_ok mixed orcJf_ok askJf_ok (noLoops _) (Eq.mpr (mo_bodyD _ _ (((moL u a b).take j).map gi) n k k' e row e' row' j j u g _) ⟨fun hlt => ⟨hlt, f1, hlt, f2, i1, i2, f2, f1, ble_noV (by omega), by rw [Nat.ble_eq]; omega, by rw [List.length_map, List.length_take, Nat.min_eq_left (by omega)]; omega, fun p b hb => ?_, .inr ⟨nG1 + 4, 2, rfl, by omega, ?_, ?_, ?_⟩⟩, fun hge => absurd (blt_false hge) (by omega)⟩)
    · match p, hb with
      | 0, hb => cases hb; show _ = _; kernel_rfl
      | 1, hb => cases hb; show _ = _; kernel_rfl
    · intro hh
      have := map_nil' (by omega) hh
      omega
    · rw [fwrap_nat (by omega)]; rfl
    · show _ = some (AObj.cells (((moL u a b).take (j + 1)).map gi) _ _ _)
      rw [map_take1 (by omega), ← et]; show _ = _; kernel_rfl
  · intro hx g
    have j0 := map_nil' (by omega) hx
    exact execC_ok mixed orcJf_ok askJf_ok (noLoops _) (Eq.mpr (mo_bodyA _ _ n k k' e row e' row' n u g _) ⟨fun hlt => absurd (blt_true hlt) (by omega), fun _ => ⟨rfl, .inl ⟨j0, rfl⟩⟩⟩)
  · intro hx g
    refine execC_ok mixed orcJf_ok askJf_ok (noLoops _) (Eq.mpr (mo_bodyD _ _ (((moL u a b).take n).map gi) n k k' e row e' row' n n u g _) ⟨fun hlt => absurd (blt_true hlt) (by omega), fun _ => ⟨rfl, .inr ⟨rfl, ?_⟩⟩⟩)
    rw [List.take_of_length_le (by omega)]
end
noncomputable def moLo (a b : List Int) (u : Int) (n e row k e' row' k' : Nat) : Loops Tryz.prog where
  body := fun _ => loopOf Tryz.prog 41 0
  spec := fun _ s h c => entry s 30 [(0, liP n k), (1, slQ n k'), (2, gi u), (7, nilS), (8, goN 0)] (h.get (nG1 + 0) = some (.cells (a.map gi) e row true) ∧ h.get (nG1 + 1) = some (.cells (b.map gi) e' row' true) ∧ ((a.length = n ∧ b.length = n ∧ 0 < n ∧ n ≤ 65536) ∧ bdU a ∧ bdU b ∧ limS u) ∧ ∀ g, c (.exit 0) (stOf 30 [(7, slN 2 n n)] g) (moD (a.map gi) (b.map gi) e row e' row' ((moL u a b).map gi)))
  ok := fun i s h c q => by
    obtain ⟨h1, h2, h3, g0, g1, ⟨⟨ha, hb, h0, hs⟩, ba, bb, hu⟩, h5⟩ := entry_facts q
    refine J.of_told (mo_loop a b u n ha hb ba bb hu e row k e' row' k' hs s h ⟨fun q b hb => ?_, .inl ⟨rfl, ?_⟩⟩ h1 h2) ?_
    · match q, hb with
      | 0, hb => cases hb; exact g0
      | 1, hb => cases hb; exact g1
    · simp only [List.map_cons, List.map_nil]
      rw [h3 (0, liP n k) (by simp), h3 (1, slQ n k') (by simp), h3 (2, gi u) (by simp), h3 (7, nilS) (by simp), h3 (8, goN 0) (by simp)]
      rfl
    · rintro ex vs h' g ⟨rfl, ⟨hn, _⟩ | ⟨rfl, rfl⟩⟩
      · omega
      · exact h5 (ov [(0, liP n k), (1, slQ n k'), (2, gi u), (8, goN n)] g)
/-! The program's: over a copy. -/
noncomputable def mixL (L a : List Int) (j : Nat) : List Int := L.take j ++ a.drop j
theorem mix_at {L a : List Int} {j : Nat} (hl : L.length = a.length) (hj : j < a.length) : (mixL L a j)[j]? = some a[j] := by
  unfold mixL
  rw [List.getElem?_append_right (by rw [List.length_take]; omega), List.length_take, Nat.min_eq_left (by omega), Nat.sub_self, List.getElem?_drop, Nat.add_zero, List.getElem?_eq_getElem hj]
theorem mix_len {L a : List Int} {j : Nat} (hl : L.length = a.length) (hj : j ≤ a.length) : (mixL L a j).length = a.length := by
  unfold mixL
  rw [List.length_append, List.length_take, List.length_drop, Nat.min_eq_left (by omega)]
  omega
theorem mix_splice {L a : List Int} {j : Nat} (hl : L.length = a.length) (hj : j < a.length) : splice ((mixL L a j).map gi) (0 + j * 1) [gi (L[j]'(by omega))] = (mixL L a (j + 1)).map gi := by
  have t : (L.take j).length = j := by rw [List.length_take, Nat.min_eq_left (by omega)]
  unfold splice mixL
  rw [show 0 + j * 1 = j by omega, ← List.map_take, ← List.map_drop, List.take_append_of_le_length (by omega), List.take_of_length_le (by omega), List.drop_append, t]
  rw [List.drop_of_length_le (by rw [t]; simp), List.nil_append, List.drop_drop, List.map_append, map_take1 (by omega), List.append_assoc]
  simp only [List.length_cons, List.length_nil]
  rw [show j + 1 - j = 1 by omega]
noncomputable abbrev pmV (n k k' : Nat) (u : Int) (at_ : Nat → Nat) (j : Nat) : List Value := [gi u, .slice (some ⟨at_ 1, 0, none⟩) n k', .slice (some ⟨at_ 0, 0, none⟩) n k, goN n, goN j]
noncomputable abbrev pmC (a b : List Int) (u : Int) (e row : Nat) (j : Nat) : List Blk := [(b.map gi, e, row, true), ((mixL (moL u a b) a j).map gi, 3, 2, false)]
set_option maxRecDepth 100000 in
theorem pm_loop (a b : List Int) (u : Int) (n e row k k' : Nat) (ha : a.length = n) (hb : b.length = n) (ba : bdU a) (bb : bdU b) (hu : limS u) (h1 : n ≤ 65536) (at₀ : Nat → Nat) (hnd : ((List.range 2).map at₀).Nodup) (hge : ∀ q, q < 2 → Tryz.prog.globals.size ≤ at₀ q) (hr₀ : ∀ j, amapM (renV Tryz.prog.globals.size ((List.range 2).map at₀)) (pmV n k k' u at₀ j) = some (pmV n k k' u (Tryz.prog.globals.size + ·) j)) : ∀ (s : AAct) (h : AHeap), Laid (pmC a b u e row 0) at₀ h → s.n = 42 → s.marks = [] → [2, 9, 24, 25, 26].map s.tmp = pmV n k k' u at₀ 0 →
    J Tryz.prog (.loop (loopOf Tryz.prog 37 0)) s h (told 42 [2, 9, 24, 25, 26] fun ex vs h' => ex = .exit 0 ∧ vs = pmV n k k' u (nG1 + ·) n ∧ h' = pmH (b.map gi) ((moL u a b).map gi) e row) := by
  intro s h hs hn hm hv
  have hl : (moL u a b).length = a.length := by rw [moL_len ha hb, ha]
  refine fold_rule (L := 2) (C := pmC a b u e row) globs_pos (by decide) (by decide) (fun _ => rfl) (fun j x hx => ?_) (V := pmV n k k' u) (I := fun _ => True) (m := n) trivial _ at₀ hnd hge hr₀ (fun j => by kernel_rfl)
    (fun at_ j q hq => ?_) ?_ ?_ s h hs hn hm hv
  · simp only [List.mem_cons, List.not_mem_nil, or_false] at hx
    rcases hx with rfl | rfl
    · exact flat_ints b
    · exact flat_ints _
  · match q, hq with
    | 0, _ => exact ⟨(24, .slice (some ⟨at_ 0, 0, none⟩) n k), by simp, by simp [named]⟩
    | 1, _ => exact ⟨(9, .slice (some ⟨at_ 1, 0, none⟩) n k'), by simp, by simp [named]⟩
  · intro j hj _ g
    obtain ⟨g1, g2⟩ := first_at (l := b) (j := j) (by omega)
    have hm' : j < (mixL (moL u a b) a j).length := by rw [mix_len hl (by omega)]; omega
    obtain ⟨f1, f2⟩ := first_at hm'
    have fe : (mixL (moL u a b) a j)[j] = a[j]'(by omega) := by
      have := mix_at hl (show j < a.length by omega)
      rw [List.getElem?_eq_getElem hm'] at this
      exact Option.some.inj this
    rw [fe] at f2
    have xa := ba _ (List.getElem_mem (l := a) (n := j) (by omega))
    obtain ⟨b1, b2⟩ := mul_bdS hu (bb _ (List.getElem_mem (l := b) (n := j) (by omega)))
    have sp := mix_splice hl (show j < a.length by omega)
    rw [moL_at ha hb hj] at sp
    refine execC_ok mixed orcJf_ok askJf_ok (noLoops _) (Eq.mpr (pm_body _ _ n k k' e row j u g _) ⟨fun hlt => ?_, fun hge => absurd (blt_false hge) (by omega)⟩)
    rw [f2] at f1
    rw [g2] at g1
    rw [g2, f2]
    refine ⟨hlt, g1, hlt, f1, inI64_small (by omega) (by omega), inI64_small (by omega) (by omega), hlt, ?_, trivial, ?_, ?_⟩
    · rw [Nat.ble_eq, List.length_map, mix_len hl (by omega)]; simp; omega
    · rw [fwrap_nat (by omega)]; rfl
    · intro q x hx
      match q, hx with
      | 0, hx => cases hx; show _ = _; kernel_rfl
      | 1, hx => cases hx; rw [sp]; show _ = _; kernel_rfl
  · intro _ g
    refine execC_ok mixed orcJf_ok askJf_ok (noLoops _) (Eq.mpr (pm_body _ _ n k k' e row n u g _) ⟨fun hlt => absurd (blt_true hlt) (by omega), fun _ => ⟨rfl, rfl, ?_⟩⟩)
    have : mixL (moL u a b) a n = moL u a b := by
      unfold mixL
      rw [List.take_of_length_le (by omega), List.drop_of_length_le (by omega), List.append_nil]
    rw [this]
end Go.Proofs.YtihnnmejkpddeaaGreatDoor
