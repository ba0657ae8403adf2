/-
  OWN WORK. Stage 6: loops over risk tables, as their functions meet them; these functions, carried out.
-/
import Derived.Test.YtihnnmejkpddeaaGreatDoorMgE
namespace Go.Proofs.YtihnnmejkpddeaaGreatDoor
open Go Go.Am

noncomputable def spV (n k : Nat) : Nat → Value → List Value := fun j w => [w, liP n k, goN n, goN j]
set_option maxRecDepth 100000 in
theorem stp_loop (l : List P3) (n e row k : Nat) (ha : l.length = n) (h1 : n ≤ 65536) : ∀ (s : AAct) (h : AHeap), GrownW Tryz.prog [(cells3 l, e, row, true)] 201 4 (spV n k) (fun j => j) (fun j => cells3 (l.take j)) 0 ([3, 6, 7, 8].map s.tmp) h → s.n = 18 → s.marks = [] →
    J Tryz.prog (.loop (loopOf Tryz.prog 62 0)) s h (told 18 [3, 6, 7, 8] fun ex vs h' => ex = .exit 0 ∧ ((n = 0 ∧ vs = spV n k n nilS) ∨ (vs = spV n k n (slP 1 n n) ∧ h' = spD (cells3 l) (cells3 l) e row))) := by
  intro s h hG hs hk
  refine growW_rule (C := [(cells3 l, e, row, true)]) (el := 201) (rw := 4) globs_pos (by decide) (by decide) (fun x hx => by
      simp only [List.mem_cons, List.not_mem_nil, or_false] at hx
      rw [hx]; exact cells3_flat l) (spV n k) (fun j => j) (fun j => cells3 (l.take j)) n _ (fun j => cells3_flat _) (fun j => by kernel_rfl) (fun j q d hd => by
      obtain rfl | rfl | rfl | rfl : d = 0 ∨ d = 1 ∨ d = 2 ∨ d = 3 := by omega
      all_goals kernel_rfl)
    (fun j w q hq => by
      match q, hq with
      | 0, _ => exact ⟨(6, liP n k), by simp [spV], by simp [named]⟩) (fun j b q => ⟨(3, .slice (some ⟨b, 0, none⟩) q q), by simp [spV], by simp [named]⟩) ?_ ?_ ?_ ?_ s h hG hs hk
  · intro j hj hx g
    obtain ⟨⟨f0, f1, f2⟩, i0, i1, i2⟩ := cells3_first (l := l) (j := j) (by omega)
    have et := cells3_take (l := l) (j := j) (by omega)
    have j0 := cells3_nil' (by omega) hx
    refine execC_ok mixed orcMb_ok askMb_ok (noLoops _) (Eq.mpr (stp_bodyA _ n k e row j g _) ⟨fun hlt => ⟨hlt, f0, f1, f2, fun p b hb => ?_, .inr ⟨nG1 + 3, 2, rfl, by omega, ?_, ?_, ?_⟩⟩, fun hge => absurd (blt_false hge) (by omega)⟩)
    · match p, hb with
      | 0, hb => cases hb; show _ = _; kernel_rfl
    · intro hh
      have := cells3_nil' (by omega) hh
      omega
    · rw [fwrap_nat (by omega), j0]; rfl
    · have hx : cells3 (l.take j) = [] := hx
      show _ = some (AObj.cells (cells3 (l.take (j + 1))) _ _ _)
      rw [et, hx, i0, i1, i2]; show _ = _; kernel_rfl
  · intro j hj hx g
    obtain ⟨⟨f0, f1, f2⟩, i0, i1, i2⟩ := cells3_first (l := l) (j := j) (by omega)
    have et := cells3_take (l := l) (j := j) (by omega)
    refine execC_ok mixed orcMb_ok askMb_ok (noLoops _) (Eq.mpr (stp_bodyD _ (cells3 (l.take j)) n k e row j j g _) ⟨fun hlt => ⟨hlt, f0, f1, f2, ble_noV (by omega), by rw [Nat.ble_eq]; omega, by rw [cells3_len, List.length_take, Nat.min_eq_left (by omega)], fun p b hb => ?_, .inr ⟨nG1 + 4, 3, rfl, by omega, ?_, ?_, ?_⟩⟩, fun hge => absurd (blt_false hge) (by omega)⟩)
    · match p, hb with
      | 0, hb => cases hb; show _ = _; kernel_rfl
    · intro hh
      have := cells3_nil' (by omega) hh
      omega
    · rw [fwrap_nat (by omega)]; rfl
    · show _ = some (AObj.cells (cells3 (l.take (j + 1))) _ _ _)
      rw [et, i0, i1, i2]; show _ = _; kernel_rfl
  · intro hx g
    have j0 := cells3_nil' (by omega) hx
    exact execC_ok mixed orcMb_ok askMb_ok (noLoops _) (Eq.mpr (stp_bodyA _ n k e row n g _) ⟨fun hlt => absurd (blt_true hlt) (by omega), fun _ => ⟨rfl, .inl ⟨j0, rfl⟩⟩⟩)
  · intro hx g
    refine execC_ok mixed orcMb_ok askMb_ok (noLoops _) (Eq.mpr (stp_bodyD _ (cells3 (l.take n)) n k e row n n g _) ⟨fun hlt => absurd (blt_true hlt) (by omega), fun _ => ⟨rfl, .inr ⟨rfl, ?_⟩⟩⟩)
    rw [List.take_of_length_le (by omega)]
noncomputable def esL (l : List P3) (n e row k : Nat) (u v w : Int) : Loops Tryz.prog where
  body := fun _ => loopOf Tryz.prog 171 0
  spec := fun _ a h c => entry a 21 [(1, cloS), (4, gi 0), (8, liP n k), (9, goN n), (10, goN 0)] ((h.get nG1 = some (.cells (cells3 l) e row true) ∧ h.get (nG1 + 1) = some (.cells [gi u, gi v, gi w] 201 0 false)) ∧ (l.length = n ∧ n ≤ 65536 ∧ okL l) ∧ (tbE (u, v, w) l = 0 → ∀ g h', c (.exit 0) (stOf 21 [] g) h') ∧ ∀ g h', c .ret (stOf 21 [(4, gi (tbE (u, v, w) l))] g) h')
  ok := fun i a h c q => by
    obtain ⟨h1, h2, h3, ⟨g0, g1⟩, ⟨rfl, hs, ho⟩, h4, h5⟩ := entry_facts q
    refine J.of_told (es_loop l _ e row k u v w rfl hs ho a h (.two g0 g1) h1 h2 ?_) ?_
    · simp only [List.map_cons, List.map_nil]
      rw [h3 (1, cloS) (by simp), h3 (4, gi 0) (by simp), h3 (8, liP l.length k) (by simp), h3 (9, goN l.length) (by simp), h3 (10, goN 0) (by simp)]
    · rintro ex vs h' g (⟨rfl, ha⟩ | ⟨rfl, z, r, rfl⟩)
      · exact h4 ha (ov ([1, 4, 8, 9, 10].zip vs) g) h'
      · match r with
        | [] => exact h5 (ov [(1, z)] g) h'
        | [a] => exact h5 (ov [(1, z), (8, a)] g) h'
        | [a, b] => exact h5 (ov [(1, z), (8, a), (9, b)] g) h'
        | a :: b :: c :: r => exact h5 (ov [(1, z), (8, a), (9, b), (10, c)] g) h'
noncomputable def rctL (l : List P3) (n e row k : Nat) : Loops Tryz.prog where
  body := fun _ => loopOf Tryz.prog 65 0
  spec := fun _ a h c => entry a 66 [(0, liP n k), (2, gi 0), (4, goN 0)] (h.get nG1 = some (.cells (cells3 l) e row true) ∧ (l.length = n ∧ n ≤ 65536) ∧ (tbE (-1, 1, 0) l = 0 → ∀ g h', c (.exit 0) (stOf 66 [] g) h') ∧ ∀ g h', c .ret (stOf 66 [(2, gi (tbE (-1, 1, 0) l))] g) h')
  ok := fun i a h c q => by
    obtain ⟨h1, h2, h3, g0, ⟨rfl, hs⟩, h4, h5⟩ := entry_facts q
    refine J.of_told (rct_loop l _ e row k rfl hs a h (.one g0) h1 h2 ?_) ?_
    · simp only [List.map_cons, List.map_nil]
      rw [h3 (0, liP l.length k) (by simp), h3 (2, gi 0) (by simp), h3 (4, goN 0) (by simp)]
    · rintro ex vs h' g (⟨rfl, ha⟩ | ⟨rfl, z, r, rfl⟩)
      · exact h4 ha (ov ([0, 2, 4].zip vs) g) h'
      · match r with
        | [] => exact h5 (ov [(0, z)] g) h'
        | a :: r => exact h5 (ov [(0, z), (4, a)] g) h'
noncomputable def rrkL (l : List P3) (n e row k : Nat) (x y : Int) : Loops Tryz.prog where
  body := fun _ => loopOf Tryz.prog 67 0
  spec := fun _ a h c => entry a 27 [(0, liP n k), (3, ptN 1), (5, gi 0), (6, goN 0)] ((h.get nG1 = some (.cells (cells3 l) e row true) ∧ h.get (nG1 + 1) = some (.cells [gi x, gi y] 28 0 false)) ∧ (l.length = n ∧ n ≤ 65536) ∧ ∀ g h', c (.exit 0) (stOf 27 [(5, gi (rkF (x, y) 0 l))] g) h')
  ok := fun i a h c q => by
    obtain ⟨h1, h2, h3, ⟨g0, g1⟩, ⟨rfl, hs⟩, h5⟩ := entry_facts q
    refine J.of_told (rrk_loop l _ e row k x y rfl hs a h (.two g0 g1) h1 h2 ?_) ?_
    · simp only [List.map_cons, List.map_nil]
      rw [h3 (0, liP l.length k) (by simp), h3 (3, ptN 1) (by simp), h3 (5, gi 0) (by simp), h3 (6, goN 0) (by simp)]
    · rintro ex vs h' g ⟨rfl, p, q, r, rfl⟩
      exact h5 (ov [(0, p), (3, q), (6, r)] g) h'
noncomputable def stpL (l : List P3) (n e row k : Nat) : Loops Tryz.prog where
  body := fun _ => loopOf Tryz.prog 62 0
  spec := fun _ s h c => entry s 18 [(3, nilS), (6, liP n k), (7, goN n), (8, goN 0)] (h.get (nG1 + 0) = some (.cells (cells3 l) e row true) ∧ (l.length = n ∧ 0 < n ∧ n ≤ 65536) ∧ ∀ g, c (.exit 0) (stOf 18 [(3, slP 1 n n)] g) (spD (cells3 l) (cells3 l) e row))
  ok := fun i s h c q => by
    obtain ⟨h1, h2, h3, g0, ⟨ha, h0, hs⟩, h5⟩ := entry_facts q
    refine J.of_told (stp_loop l n e row k ha hs s h ⟨fun q b hb => ?_, .inl ⟨rfl, ?_⟩⟩ h1 h2) ?_
    · match q, hb with
      | 0, hb => cases hb; exact g0
    · simp only [List.map_cons, List.map_nil]
      rw [h3 (3, nilS) (by simp), h3 (6, liP n k) (by simp), h3 (7, goN n) (by simp), h3 (8, goN 0) (by simp)]
      rfl
    · rintro ex vs h' g ⟨rfl, ⟨hn, _⟩ | ⟨rfl, rfl⟩⟩
      · omega
      · exact h5 (ov [(6, liP n k), (7, goN n), (8, goN n)] g)
theorem es_run (l : List P3) (m e row k : Nat) (u v w : Int) (K : Value → Prop) : callC Tryz.prog (exec Tryz.prog orcMb 10) (syOf []) askMb (esL l (m + 1) e row k u v w) 40 171 #[liP (m + 1) k, cloS] (stH (cells3 l) e row u v w) (fun v _ => K v) = ((loopOf Tryz.prog 171 0 = loopOf Tryz.prog 171 0 ∧ cloS = cloS ∧ gi 0 = gi 0 ∧ liP (m + 1) k = liP (m + 1) k ∧ goN (m + 1) = goN (m + 1) ∧ gi 0 = goN 0 ∧ ((stH (cells3 l) e row u v w).get (nG1) = Option.some (.cells (cells3 l) e row true) ∧ (stH (cells3 l) e row u v w).get (nG1 + 1) = Option.some (.cells [gi u, gi v, gi w] 201 0 false)) ∧ (List.length l = (m + 1) ∧ ((m + 1) : Nat) ≤ 65536 ∧ okL l) ∧ (tbE (Prod.mk u (Prod.mk v w)) l = 0 → (∀ _ : Nat → Value, (∀ _ : AHeap, K (gi 0)))) ∧ (∀ _ : Nat → Value, (∀ _ : AHeap, K (gi (tbE (Prod.mk u (Prod.mk v w)) l)))))) := by kernel_rfl
theorem rct_run (l : List P3) (m e row k : Nat) (K : Value → Prop) : callC Tryz.prog (exec Tryz.prog orcMb 10) (syOf [(10, 1)]) askMb (rctL l (m + 1) e row k) 40 65 #[liP (m + 1) k] (liH (cells3 l) e row) (fun v _ => K v) = ((((!(ieq (cnE (Int.ofNat (m + 1)) 16) 0)) = true → K (gi (cnE (Int.ofNat (m + 1)) 16))) ∧ ((!(ieq (cnE (Int.ofNat (m + 1)) 16) 0)) = false → (loopOf Tryz.prog 65 0 = loopOf Tryz.prog 65 0 ∧ liP (m + 1) k = liP (m + 1) k ∧ gi 0 = gi 0 ∧ gi 0 = goN 0 ∧ (liH (cells3 l) e row).get (nG1) = Option.some (.cells (cells3 l) e row true) ∧ (List.length l = (m + 1) ∧ ((m + 1) : Nat) ≤ 65536) ∧ (tbE (Prod.mk (-1) (Prod.mk 1 0)) l = 0 → (∀ _ : Nat → Value, (∀ _ : AHeap, K (gi 0)))) ∧ (∀ _ : Nat → Value, (∀ _ : AHeap, K (gi (tbE (Prod.mk (-1) (Prod.mk 1 0)) l)))))))) := by kernel_rfl
theorem rrk_run (l : List P3) (m e row k : Nat) (x y : Int) (K : Value → Prop) : callC Tryz.prog (exec Tryz.prog orcMb 10) (syOf []) askMb (rrkL l (m + 1) e row k x y) 40 67 #[liP (m + 1) k, .agg #[gi x, gi y]] (liH (cells3 l) e row) (fun v _ => K v) = ((loopOf Tryz.prog 67 0 = loopOf Tryz.prog 67 0 ∧ liP (m + 1) k = liP (m + 1) k ∧ Value.pointer (some ⟨nG1 + 1, 0, none⟩) = ptN 1 ∧ gi 0 = gi 0 ∧ gi 0 = goN 0 ∧ (((liH (cells3 l) e row).push (.cells [gi x, gi y] 28 0 false)).get (nG1) = Option.some (.cells (cells3 l) e row true) ∧ ((liH (cells3 l) e row).push (.cells [gi x, gi y] 28 0 false)).get (nG1 + 1) = Option.some (.cells [gi x, gi y] 28 0 false)) ∧ (List.length l = (m + 1) ∧ ((m + 1) : Nat) ≤ 65536) ∧ (∀ _ : Nat → Value, (∀ _ : AHeap, K (gi (rkF (Prod.mk x y) 0 l)))))) := by kernel_rfl
theorem stp_run (l : List P3) (m e row k : Nat) (K : Value → AHeap → Prop) : callC Tryz.prog (exec Tryz.prog orcMb 10) (syOf []) askMb (stpL l (m + 1) e row k) 40 62 #[liP (m + 1) k] (liH (cells3 l) e row) K = ((loopOf Tryz.prog 62 0 = loopOf Tryz.prog 62 0 ∧ nilS = nilS ∧ liP (m + 1) k = liP (m + 1) k ∧ goN (m + 1) = goN (m + 1) ∧ gi 0 = goN 0 ∧ (liH (cells3 l) e row).get (nG1) = Option.some (.cells (cells3 l) e row true) ∧ (List.length l = (m + 1) ∧ (0 : Nat) < (m + 1) ∧ ((m + 1) : Nat) ≤ 65536) ∧ (∀ _ : Nat → Value, K (slP 1 (m + 1) (m + 1)) (spD (cells3 l) (cells3 l) e row)))) := by kernel_rfl
noncomputable def syRk : FuncId → Sy := fun f => match Nat.beq f 145 with
  | true => syOf [(10, 55), (13, 1)]
  | false => match Nat.beq f 174 with
    | true => syOf [(31, 1)]
    | false => syOf []
theorem rk_e (l : List P3) (h1 : 1 ≤ l.length) (h2 : l.length ≤ 16) (e row k : Nat) (x y : Int) (K : Value → Prop) : callR Tryz.prog orcMb syRk askMb 200 145 #[liP l.length k, .agg #[gi x, gi y]] (canon Tryz.prog [(cells3 l, e, row)]) (fun v _ => K v) = bY (cAt l (x, y)) (fY l.length (cAt l (x, y)) fun i => K (gi (rkAt l i))) 5 0 l.length := by
  match l, h1, h2 with
  | [_], _, _ => show _ = _; kernel_rfl
  | [_, _], _, _ => show _ = _; kernel_rfl
  | [_, _, _], _, _ => show _ = _; kernel_rfl
  | [_, _, _, _], _, _ => show _ = _; kernel_rfl
  | [_, _, _, _, _], _, _ => show _ = _; kernel_rfl
  | [_, _, _, _, _, _], _, _ => show _ = _; kernel_rfl
  | [_, _, _, _, _, _, _], _, _ => show _ = _; kernel_rfl
  | [_, _, _, _, _, _, _, _], _, _ => show _ = _; kernel_rfl
  | [_, _, _, _, _, _, _, _, _], _, _ => show _ = _; kernel_rfl
  | [_, _, _, _, _, _, _, _, _, _], _, _ => show _ = _; kernel_rfl
  | x1_ :: x2_ :: x3_ :: x4_ :: x5_ :: x6_ :: x7_ :: x8_ :: x9_ :: x10_ :: y :: r, _, h => match r, h with
    | [], _ => show _ = _; kernel_rfl
    | [_], _ => show _ = _; kernel_rfl
    | [_, _], _ => show _ = _; kernel_rfl
    | [_, _, _], _ => show _ = _; kernel_rfl
    | [_, _, _, _], _ => show _ = _; kernel_rfl
    | [_, _, _, _, _], _ => show _ = _; kernel_rfl
    | _ :: _ :: _ :: _ :: _ :: _ :: _, h => exact absurd h (by simp)
end Go.Proofs.YtihnnmejkpddeaaGreatDoor
