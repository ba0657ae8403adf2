/-
  OWN WORK. Stage 6: the law of the best window: loops.
-/
import Derived.Test.YtihnnmejkpddeaaGreatDoorBbAB
/-! (OWN WORK. Stage 6: the law of the best window: the inner loop, rounds of the outer one.) -/
namespace Go.Proofs.YtihnnmejkpddeaaGreatDoor
open Go Go.Am
noncomputable abbrev bbV (n k p q : Nat) (at_ : Nat → Nat) : List Value := [.slice (some ⟨at_ 0, 0, none⟩) n k, .pointer (some ⟨at_ 1, 0, none⟩), .pointer (some ⟨at_ 2, 0, none⟩), .pointer (some ⟨at_ 3, 0, none⟩), .pointer (some ⟨at_ 4, 0, none⟩), goN p, goN q, goN n, goN p]
noncomputable abbrev bbD (l : List Int) (e row lo hi : Nat) (u w : Int) (a b : Nat) : List Blk := bbC (l.map gi) e row lo hi u w a b (wtP (l.map gi) a b).1 (wtP (l.map gi) a b).2
noncomputable abbrev bbG (l : List Int) (e row lo hi : Nat) (u w : Int) (a b : Nat) : AHeap := bbH (l.map gi) e row lo hi u w a b (wtP (l.map gi) a b).1 (wtP (l.map gi) a b).2
theorem bbC_flat {l : List Int} {e row lo hi : Nat} {u w : Int} {a b : Nat} {A B : Int} : ∀ x ∈ bbC (l.map gi) e row lo hi u w a b A B, x.1.all (flat 3) = true := fun x hx => by
  simp only [List.mem_cons, List.not_mem_nil, or_false] at hx
  rcases hx with rfl | rfl | rfl | rfl | rfl
  · exact flat_ints l
  all_goals rfl
set_option maxRecDepth 100000 in
theorem bb_loop (l : List Int) (e row m k lo hi p a b : Nat) (u w : Int) (O : BbOk l m row k lo hi a b) (hp : p < m + 1) : ∀ (s : AAct) (h : AHeap), Laid (bbD l e row lo hi u w a b) (nG1 + ·) h → s.n = 329 → s.marks = [] → [0, 4, 5, 7, 8, 10, 11, 109, 110].map s.tmp = bbV (m + 1) k p (p + lo) (nG1 + ·) →
    J Tryz.prog (.loop (loopOf Tryz.prog 11 2)) s h (told 329 [0, 4, 5, 7, 8, 10, 11, 109, 110] fun ex vs h => ex = .exit 2 ∧ vs = bbV (m + 1) k p (p + lo + rwN lo hi (m + 1) p) (nG1 + ·) ∧ h = bbG l e row lo hi u w a b) := by
  intro s h hs ha hm hv
  have hn1 := O.W.n1
  have hN : ∀ j, j < rwN lo hi (m + 1) p ↔ (lo + j ≤ hi ∧ p + (lo + j) ≤ m + 1) := fun j => by
    unfold rwN
    have h1 := Nat.min_le_left (p + hi) (m + 1)
    have h2 := Nat.min_le_right (p + hi) (m + 1)
    by_cases hc : p + hi ≤ m + 1
    · rw [Nat.min_eq_left hc]; omega
    · rw [Nat.min_eq_right (by omega)]; omega
  refine fold_rule (L := 5) (C := fun _ => bbD l e row lo hi u w a b) globs_pos (by decide) (by decide) (fun _ => rfl) (fun _ => bbC_flat) (V := fun at_ j => bbV (m + 1) k p (p + lo + j) at_) (I := fun _ => True) (m := rwN lo hi (m + 1) p) trivial _ (nG1 + ·) (plus_nodup nG1 5) (fun q _ => by show Tryz.prog.globals.size ≤ nG1 + q; unfold nG1; omega) (fun j => by kernel_rfl) (fun j => by kernel_rfl)
    (fun at_ j q hq => ?_) ?_ ?_ s h hs ha hm hv
  · match q, hq with
    | 0, _ => exact ⟨(0, .slice (some ⟨at_ 0, 0, none⟩) (m + 1) k), by simp, by simp [named]⟩
    | 1, _ => exact ⟨(4, .pointer (some ⟨at_ 1, 0, none⟩)), by simp, by simp [named]⟩
    | 2, _ => exact ⟨(5, .pointer (some ⟨at_ 2, 0, none⟩)), by simp, by simp [named]⟩
    | 3, _ => exact ⟨(7, .pointer (some ⟨at_ 3, 0, none⟩)), by simp, by simp [named]⟩
    | 4, _ => exact ⟨(8, .pointer (some ⟨at_ 4, 0, none⟩)), by simp, by simp [named]⟩
  · intro j hj _ g
    obtain ⟨g1, g2⟩ := (hN j).1 hj
    have lo0 := O.lo0
    exact bk_all l e row m k lo hi p (p + lo + j) a b u w g _ O (by omega) (by omega) (by omega) (by omega) fun h hl => ⟨trivial, rfl, hl⟩
  · intro _ g
    have hno : ¬ (lo + rwN lo hi (m + 1) p ≤ hi ∧ p + (lo + rwN lo hi (m + 1) p) ≤ m + 1) := fun hx => absurd ((hN _).2 hx) (Nat.lt_irrefl _)
    have hN0 : p + (lo + rwN lo hi (m + 1) p) ≤ 100000 := by
      have := Nat.min_le_right (p + hi) (m + 1)
      have := O.lo1
      have := O.hi1
      unfold rwN; omega
    by_cases hc : m + 1 < p + lo + rwN lo hi (m + 1) p
    · exact execC_ok mixed orcWn_ok (askWn_ok true true true 0 0 lo hi) (noLoops _) (Eq.mpr (bi_8 l e row m k lo hi p (p + lo + rwN lo hi (m + 1) p) a b u w _ _ g _) ⟨by rw [show Nat.blt (m + 1) (p + lo + rwN lo hi (m + 1) p) = true by rw [Nat.blt_eq]; exact hc]; rfl, rfl, rfl, rfl⟩)
    · exact execC_ok mixed orcWn_ok (askWn_ok true true true 0 0 lo hi) (noLoops _) (Eq.mpr (bi_9 l e row m k lo hi p (p + lo + rwN lo hi (m + 1) p) a b u w _ _ g _) ⟨by rw [blt_nn hc]; rfl, by
        rw [fwrap_mid (by simp only [Int.ofNat_eq_natCast]; omega) (by simp only [Int.ofNat_eq_natCast]; omega), ilt_say, decide_eq_true (by simp only [Int.ofNat_eq_natCast]; omega)]; rfl, rfl, rfl, rfl⟩)
set_option maxRecDepth 100000 in
noncomputable def bbI (l : List Int) (e row m k lo hi p a b : Nat) (u w : Int) : Loops Tryz.prog where
  body := fun _ => loopOf Tryz.prog 11 2
  spec := fun _ s h q => entry s 329 [(0, liP (m + 1) k), (4, ptN 1), (5, ptN 2), (7, ptN 3), (8, ptN 4), (10, goN p), (11, goN (p + lo)), (109, goN (m + 1)), (110, goN p)] (h = bbG l e row lo hi u w a b ∧ (BbOk l m row k lo hi a b ∧ p < m + 1) ∧
    ∀ g, q (.exit 2) (stOf 329 [(0, liP (m + 1) k), (4, ptN 1), (5, ptN 2), (7, ptN 3), (8, ptN 4), (109, goN (m + 1)), (110, goN p)] g) (bbG l e row lo hi u w a b))
  ok := fun i s h q x => by
    obtain ⟨h1, h2, h3, rfl, ⟨O, hp⟩, h5⟩ := entry_facts x
    refine J.of_told (bb_loop l e row m k lo hi p a b u w O hp s _ (bb_laid _ _ _ _ _ _ _ _ _ _ _) h1 h2 ?_) ?_
    · simp only [List.map_cons, List.map_nil]
      rw [h3 (0, liP (m + 1) k) (by simp), h3 (4, ptN 1) (by simp), h3 (5, ptN 2) (by simp), h3 (7, ptN 3) (by simp), h3 (8, ptN 4) (by simp), h3 (10, goN p) (by simp), h3 (11, goN (p + lo)) (by simp), h3 (109, goN (m + 1)) (by simp), h3 (110, goN p) (by simp)]
      rfl
    · rintro ex vs h' g ⟨rfl, rfl, rfl⟩
      exact h5 (ov [(10, goN p), (11, goN (p + lo + rwN lo hi (m + 1) p))] g)
theorem bo_row (l : List Int) (e row m k lo hi p a b : Nat) (u w : Int) (g : Nat → Value) (Q : Exit → List Value → AHeap → Prop) : execC Tryz.prog (exec Tryz.prog orcWn 40) (syOf [(111, 1)]) (askWn true true true 0 0 lo hi) (bbI l e row m k lo hi p a b u w) 60 (loopOf Tryz.prog 11 0) (stOf 329 [(0, liP (m + 1) k), (4, ptN 1), (5, ptN 2), (7, ptN 3), (8, ptN 4), (109, goN (m + 1)), (110, goN p)] g) (bbG l e row lo hi u w a b) (told 329 [0, 4, 5, 7, 8, 109, 110] Q) = (((Nat.blt p (m + 1) = true → (loopOf Tryz.prog 11 2 = loopOf Tryz.prog 11 2 ∧ liP (m + 1) k = liP (m + 1) k ∧ ptN 1 = ptN 1 ∧ ptN 2 = ptN 2 ∧ ptN 3 = ptN 3 ∧ ptN 4 = ptN 4 ∧ goN p = goN p ∧ gi (fwrap IntKind.i64 (Int.ofNat (p + lo))) = goN (p + lo) ∧ goN (m + 1) = goN (m + 1) ∧ goN p = goN p ∧ bbG l e row lo hi u w a b = bbG l e row lo hi u w a b ∧ (BbOk l m row k lo hi a b ∧ (p : Nat) < (m + 1)) ∧ (∀ _ : Nat → Value, Q .normal [liP (m + 1) k, ptN 1, ptN 2, ptN 3, ptN 4, goN (m + 1), gi (fwrap IntKind.i64 (Int.ofNat (p + 1)))] (bbG l e row lo hi u w a b)))) ∧ (Nat.blt p (m + 1) = false → Q (.exit 0) [liP (m + 1) k, ptN 1, ptN 2, ptN 3, ptN 4, goN (m + 1), goN p] (bbG l e row lo hi u w a b)))) := by kernel_rfl
end Go.Proofs.YtihnnmejkpddeaaGreatDoor
/-! (OWN WORK. Stage 6: the law of the best window: its first loop, as its run meets it; rounds of the two other loops.) -/
namespace Go.Proofs.YtihnnmejkpddeaaGreatDoor
open Go Go.Am
noncomputable def bqV (n k : Nat) (at_ : Nat → Nat) (j : Nat) : List Value := [.slice (some ⟨at_ 0, 0, none⟩) n k, .pointer (some ⟨at_ 1, 0, none⟩), .pointer (some ⟨at_ 2, 0, none⟩), .pointer (some ⟨at_ 3, 0, none⟩), .pointer (some ⟨at_ 4, 0, none⟩), goN n, goN j]
noncomputable def atB : Nat → Nat := fun x => nG1 + [0, 1, 2, 3, 4].getD x 0
set_option maxRecDepth 100000 in
theorem bo_fold (l : List Int) (e row m k lo hi a b : Nat) (u w : Int) (O : BbOk l m row k lo hi a b) : ∀ (s : AAct) (h : AHeap), Laid (bbD l e row lo hi u w a b) atB h → s.n = 329 → s.marks = [] → [0, 4, 5, 7, 8, 109, 110].map s.tmp = bqV (m + 1) k atB 0 →
    J Tryz.prog (.loop (loopOf Tryz.prog 11 0)) s h (told 329 [0, 4, 5, 7, 8, 109, 110] fun ex vs h => ex = .exit 0 ∧ vs = bqV (m + 1) k (nG1 + ·) (m + 1) ∧ h = bbG l e row lo hi u w a b) := by
  have hn1 := O.W.n1
  have hi1 := O.hi1
  have lo1 := O.lo1
  refine fold_rule (P := Tryz.prog) 5 (fun _ => bbD l e row lo hi u w a b) globs_pos (by decide) (by decide) (fun _ => rfl) (fun _ => bbC_flat) (bqV (m + 1) k) (fun _ => True) (m + 1) trivial _ atB (by decide) (fun q hq => by show _ ≤ nG1 + _; unfold nG1; omega) (fun j => by kernel_rfl) (fun j => by kernel_rfl) (fun at_ j q hq => by
      match q, hq with
      | 0, _ => exact ⟨(0, .slice (some ⟨at_ 0, 0, none⟩) (m + 1) k), by simp [bqV], by simp [named]⟩
      | 1, _ => exact ⟨(4, .pointer (some ⟨at_ 1, 0, none⟩)), by simp [bqV], by simp [named]⟩
      | 2, _ => exact ⟨(5, .pointer (some ⟨at_ 2, 0, none⟩)), by simp [bqV], by simp [named]⟩
      | 3, _ => exact ⟨(7, .pointer (some ⟨at_ 3, 0, none⟩)), by simp [bqV], by simp [named]⟩
      | 4, _ => exact ⟨(8, .pointer (some ⟨at_ 4, 0, none⟩)), by simp [bqV], by simp [named]⟩) ?_ ?_
  · intro j hj _ g
    refine execC_ok mixed orcWn_ok (askWn_ok true true true 0 0 lo hi) (bbI l e row m k lo hi j a b u w) (Eq.mpr (bo_row l e row m k lo hi j a b u w g _) ⟨fun _ => ⟨rfl, rfl, rfl, rfl, rfl, rfl, rfl, by rw [fwrap_nat (by omega)], rfl, rfl, rfl, ⟨O, hj⟩, fun _ => ⟨trivial, ?_, bb_laid _ _ _ _ _ _ _ _ _ _ _⟩⟩, fun hge => absurd (blt_false hge) (by omega)⟩)
    rw [fwrap_nat (by omega)]; rfl
  · intro _ g
    exact execC_ok mixed orcWn_ok (askWn_ok true true true 0 0 lo hi) (bbI l e row m k lo hi (m + 1) a b u w) (Eq.mpr (bo_row l e row m k lo hi (m + 1) a b u w g _) ⟨fun hlt => absurd (blt_true hlt) (by omega), fun _ => ⟨rfl, rfl, rfl⟩⟩)
noncomputable abbrev slB (i q k : Nat) : Value := .slice (some ⟨nG1 + i, 0, none⟩) q k
noncomputable def bldQY (h : AHeap) (i : Nat) (b : Blk) : Prop := match h.get i with
  | some (.cells c t r ro) => c = b.1 ∧ t = b.2.1 ∧ r = b.2.2.1 ∧ ro = b.2.2.2
  | _ => False
theorem blQ_get {h : AHeap} {i : Nat} {b : Blk} (k : bldQY h i b) : h.get i = some (.cells b.1 b.2.1 b.2.2.1 b.2.2.2) := by
  unfold bldQY at k
  split at k
  · rename_i c t r ro e
    obtain ⟨rfl, rfl, rfl, rfl⟩ := k
    exact e
  · exact k.elim
noncomputable def bo0P (l : List Int) (e row m k lo hi a b : Nat) (u w : Int) (s : AAct) (h : AHeap) (c : Post) : Prop :=
  entry s 329 [(0, liP (m + 1) k), (4, ptN 1), (5, ptN 2), (7, ptN 3), (8, ptN 4), (109, goN (m + 1)), (110, goN 0)] ((bldQY h nG1 (l.map gi, e, row, true) ∧ bldQY h (nG1 + 1) ([goN lo, goN hi], 26, 0, false) ∧ bldQY h (nG1 + 2) ([g8 u, g8 w], 129, 0, false) ∧ bldQY h (nG1 + 3) ([goN a, goN b], 24, 0, false) ∧ bldQY h (nG1 + 4) ([gi (wtP (l.map gi) a b).1, gi (wtP (l.map gi) a b).2], 28, 0, false)) ∧ BbOk l m row k lo hi a b ∧
    ∀ g, c (.exit 0) (stOf 329 [(0, liP (m + 1) k), (4, ptN 1), (5, ptN 2), (8, ptN 4)] g) (bbG l e row lo hi u w a b))
set_option maxRecDepth 100000 in
theorem bo0P_ok {l : List Int} {e row m k lo hi a b : Nat} {u w : Int} {s : AAct} {h : AHeap} {c : Post} (x : bo0P l e row m k lo hi a b u w s h c) : J Tryz.prog (.loop (loopOf Tryz.prog 11 0)) s h c := by
  obtain ⟨h1, h2, h3, ⟨b0, b1, b2, b3, b4⟩, O, h5⟩ := entry_facts x
  refine J.of_told (bo_fold l e row m k lo hi a b u w O s h (fun q b hb => ?_) h1 h2 ?_) ?_
  · match q, hb with
    | 0, hb => cases hb; exact blQ_get b0
    | 1, hb => cases hb; exact blQ_get b1
    | 2, hb => cases hb; exact blQ_get b2
    | 3, hb => cases hb; exact blQ_get b3
    | 4, hb => cases hb; exact blQ_get b4
  · simp only [List.map_cons, List.map_nil]
    rw [h3 (0, liP (m + 1) k) (by simp), h3 (4, ptN 1) (by simp), h3 (5, ptN 2) (by simp), h3 (7, ptN 3) (by simp), h3 (8, ptN 4) (by simp), h3 (109, goN (m + 1)) (by simp), h3 (110, goN 0) (by simp)]
    rfl
  · rintro ex vs h' g ⟨rfl, rfl, rfl⟩
    exact h5 (ov [(0, liP (m + 1) k), (4, ptN 1), (5, ptN 2), (7, ptN 3), (8, ptN 4), (109, goN (m + 1)), (110, goN (m + 1))] g)
noncomputable abbrev btC (c : List Value) (e row lo hi : Nat) (A B A1 B1 A2 B2 : Int) : List Blk := [(c, e, row, true), ([goN lo, goN hi], 26, 0, false), ([gi A, gi B], 28, 0, false), ([gi A1, gi B1], 28, 0, false), ([gi A2, gi B2], 28, 0, false)]
theorem bt_A (l : List Int) (n k e row lo hi j : Nat) (A B A1 B1 A2 B2 : Int) (g : Nat → Value) (Q : Exit → List Value → AHeap → Prop) : execC Tryz.prog (exec Tryz.prog orcWn 10) (syOf [(255, 31), (261, 2), (262, 3)]) (askWn true true true 0 0 0 0) (noLoops _) 40 (loopOf Tryz.prog 11 4) (stOf 329 [(0, liP n k), (4, ptN 1), (8, ptN 2), (19, ptN 3), (22, ptN 4), (20, gi 0), (23, gi 0), (24, nilS), (25, goN j)] g) (canonT [] (fun _ => 0) Tryz.prog.globals.size (btC (l.map gi) e row lo hi A B A1 B1 A2 B2)) (told 329 [0, 4, 8, 19, 22, 20, 23, 24, 25] Q) = (((!(ilt (Int.ofNat j) 0)) = true ∧ Nat.blt j n = true ∧ (List.map gi l)[(0 + (j * 1))]? = Option.some (gi (intAt (List.map gi l) (0 + (j * 1)))) ∧ Q .normal [liP n k, ptN 1, ptN 2, ptN 3, ptN 4, gi 0, gi 0, Value.slice (some ⟨nG1 + 6, 0, none⟩) 1 1, gi (fwrap IntKind.i64 (Int.ofNat j - 1))] (((canonT [] (fun x => 0) 4 (btC (List.map gi l) e row lo hi A B A1 B1 A2 B2)).push (.cells [gi (intAt (List.map gi l) (0 + (j * 1)))] 3 2 false)).push (.cells ([] ++ [gi (intAt (List.map gi l) (0 + (j * 1)))]) 3 2 false)))) := by kernel_rfl
theorem bt_D (l : List Int) (r : List Value) (n k e row lo hi j q : Nat) (A B A1 B1 A2 B2 : Int) (g : Nat → Value) (Q : Exit → List Value → AHeap → Prop) : execC Tryz.prog (exec Tryz.prog orcWn 10) (syOf [(255, 31), (261, 2), (262, 3), (264, 10)]) (askWn true true true 0 0 0 0) (noLoops _) 40 (loopOf Tryz.prog 11 4) (stOf 329 [(0, liP n k), (4, ptN 1), (8, ptN 2), (19, ptN 3), (22, ptN 4), (20, gi 0), (23, gi 0), (24, slB 5 q q), (25, goN j)] g) (canonT [] (fun _ => 0) Tryz.prog.globals.size (btC (l.map gi) e row lo hi A B A1 B1 A2 B2 ++ [(r, 3, 2, false)])) (told 329 [0, 4, 8, 19, 22, 20, 23, 24, 25] Q) = (((!(ilt (Int.ofNat j) 0)) = true ∧ Nat.blt j n = true ∧ (List.map gi l)[(0 + (j * 1))]? = Option.some (gi (intAt (List.map gi l) (0 + (j * 1)))) ∧ Nat.ble (q + 1) q = false ∧ Nat.ble (((2 * (q + 1)) + 256) * 8) 281474976710656 = true ∧ (q * 1) = List.length r ∧ Q .normal [liP n k, ptN 1, ptN 2, ptN 3, ptN 4, gi 0, gi 0, Value.slice (some ⟨nG1 + 7, 0, none⟩) (q + 1) (q + 1), gi (fwrap IntKind.i64 (Int.ofNat j - 1))] ((((canonT [] (fun x => 0) 4 (btC (List.map gi l) e row lo hi A B A1 B1 A2 B2 ++ [Prod.mk r (Prod.mk 3 (Prod.mk 2 false))])).push (.cells [gi (intAt (List.map gi l) (0 + (j * 1)))] 3 2 false)).set (nG1 + 5) (.dead)).push (.cells (r ++ [gi (intAt (List.map gi l) (0 + (j * 1)))]) 3 2 false)))) := by kernel_rfl
theorem bt_E (l : List Int) (r : List Value) (n k e row lo hi q : Nat) (A B A1 B1 A2 B2 : Int) (g : Nat → Value) (Q : Exit → List Value → AHeap → Prop) : execC Tryz.prog (exec Tryz.prog orcWn 10) (syOf [(255, 32)]) (askWn true true true 0 0 0 0) (noLoops _) 40 (loopOf Tryz.prog 11 4) (stOf 329 [(0, liP n k), (4, ptN 1), (8, ptN 2), (19, ptN 3), (22, ptN 4), (20, gi 0), (23, gi 0), (24, slB 5 q q), (25, gi (-1))] g) (canonT [] (fun _ => 0) Tryz.prog.globals.size (btC (l.map gi) e row lo hi A B A1 B1 A2 B2 ++ [(r, 3, 2, false)])) (told 329 [0, 4, 8, 19, 22, 20, 23, 24, 25] Q) = ((false = false ∧ Q (.exit 4) [liP n k, ptN 1, ptN 2, ptN 3, ptN 4, gi 0, gi 0, slB 5 q q, gi (-1)] (canonT [] (fun x => 0) 4 (btC (List.map gi l) e row lo hi A B A1 B1 A2 B2 ++ [Prod.mk r (Prod.mk 3 (Prod.mk 2 false))])))) := by kernel_rfl
noncomputable abbrev bmC (c : List Value) (e row : Nat) (A B A1 B1 A2 B2 A3 B3 : Int) : List Blk := [(c, e, row, true), ([gi A, gi B], 28, 0, false), ([gi A1, gi B1], 28, 0, false), ([gi A2, gi B2], 28, 0, false), ([gi A3, gi B3], 28, 0, false)]
theorem bm_row (l : List Int) (n k e row j : Nat) (M A B A1 B1 A2 B2 A3 B3 : Int) (g : Nat → Value) (Q : Exit → List Value → AHeap → Prop) : execC Tryz.prog (exec Tryz.prog orcWn 10) (syOf [(276, 1), (277, 2), (278, 3)]) (askWn true true true 0 0 0 0) (noLoops _) 40 (loopOf Tryz.prog 11 6) (stOf 329 [(0, liP n k), (8, ptN 1), (19, ptN 2), (22, ptN 3), (27, ptN 4), (20, gi 0), (23, gi 0), (28, gi 0), (29, gi M), (273, liP n k), (274, goN n), (275, goN j)] g) (canonT [] (fun _ => 0) Tryz.prog.globals.size (bmC (l.map gi) e row A B A1 B1 A2 B2 A3 B3)) (told 329 [0, 8, 19, 22, 27, 20, 23, 28, 29, 273, 274, 275] Q) = (((Nat.blt j n = true → (Nat.blt j n = true ∧ (List.map gi l)[(0 + (j * 1))]? = Option.some (gi (intAt (List.map gi l) (0 + (j * 1)))) ∧ Q .normal [liP n k, ptN 1, ptN 2, ptN 3, ptN 4, gi 0, gi 0, gi 0, gi (if (intAt (List.map gi l) (0 + (j * 1)) : Int) > M then intAt (List.map gi l) (0 + (j * 1)) else M), liP n k, goN n, gi (fwrap IntKind.i64 (Int.ofNat (j + 1)))] (canonT [] (fun x => 0) 4 (bmC (List.map gi l) e row A B A1 B1 A2 B2 A3 B3)))) ∧ (Nat.blt j n = false → Q (.exit 6) [liP n k, ptN 1, ptN 2, ptN 3, ptN 4, gi 0, gi 0, gi 0, gi M, liP n k, goN n, goN j] (canonT [] (fun x => 0) 4 (bmC (List.map gi l) e row A B A1 B1 A2 B2 A3 B3))))) := by kernel_rfl
end Go.Proofs.YtihnnmejkpddeaaGreatDoor
/-! (OWN WORK. Stage 6: the law of the best window: its three loops, as its run meets them.) -/
namespace Go.Proofs.YtihnnmejkpddeaaGreatDoor
open Go Go.Am
theorem mapTk {l : List Int} {j : Nat} (hj : j < l.length) : (l.take (j + 1)).map gi = (l.take j).map gi ++ [gi l[j]] := by
  rw [List.take_add_one, List.getElem?_eq_getElem hj, List.map_append]; rfl
theorem mapNl {l : List Int} {j : Nat} (hj : j ≤ l.length) (h : (l.take j).map gi = []) : j = 0 := by
  have := congrArg List.length h
  rw [List.length_map, List.length_take, Nat.min_eq_left hj] at this
  simpa using this
noncomputable def btV (n k m : Nat) : Nat → Value → List Value := fun j s => [liP n k, ptN 1, ptN 2, ptN 3, ptN 4, gi 0, gi 0, s, gi (Int.ofNat m - Int.ofNat j)]
set_option maxRecDepth 100000 in
theorem bt_loop (l : List Int) (e row k m lo hi : Nat) (A B A1 B1 A2 B2 : Int) (hn : l.length = m + 1) (h1 : m + 1 ≤ 128) : ∀ (s : AAct) (h : AHeap), GrownW Tryz.prog (btC (l.map gi) e row lo hi A B A1 B1 A2 B2) 3 2 (btV (m + 1) k m) (fun j => j) (fun j => (l.reverse.take j).map gi) 0 ([0, 4, 8, 19, 22, 20, 23, 24, 25].map s.tmp) h → s.n = 329 → s.marks = [] →
    J Tryz.prog (.loop (loopOf Tryz.prog 11 4)) s h (told 329 [0, 4, 8, 19, 22, 20, 23, 24, 25] fun ex vs h' => ex = .exit 4 ∧ vs = btV (m + 1) k m (m + 1) (slB 5 (m + 1) (m + 1)) ∧ h' = gW Tryz.prog (btC (l.map gi) e row lo hi A B A1 B1 A2 B2) (l.reverse.map gi) 3 2) := by
  intro s h hG hs hk
  have hl : l.reverse.length = m + 1 := by rw [List.length_reverse]; exact hn
  have at_ : ∀ j, (hj : j < m + 1) → (l.map gi)[0 + (m - j) * 1]? = some (gi (intAt (l.map gi) (0 + (m - j) * 1))) ∧ intAt (l.map gi) (0 + (m - j) * 1) = l.reverse[j]'(by omega) := fun j hj => by
    have hd : m - j < l.length := by omega
    obtain ⟨f1, f2⟩ := first_at hd
    refine ⟨f1, ?_⟩
    rw [f2, List.getElem_reverse]
    congr 1
    omega
  have ej : ∀ j, j < m + 1 → gi (Int.ofNat m - Int.ofNat j) = goN (m - j) := fun j hj => by
    rw [show Int.ofNat m - Int.ofNat j = Int.ofNat (m - j) by simp only [Int.ofNat_eq_natCast]; omega]
  have es : ∀ j, j < m + 1 → gi (fwrap IntKind.i64 (Int.ofNat (m - j) - 1)) = gi (Int.ofNat m - Int.ofNat (j + 1)) := fun j hj => by
    rw [fwrap_mid (by simp only [Int.ofNat_eq_natCast]; omega) (by simp only [Int.ofNat_eq_natCast]; omega), show Int.ofNat (m - j) - 1 = Int.ofNat m - Int.ofNat (j + 1) by simp only [Int.ofNat_eq_natCast]; omega]
  have ge : ∀ j, (!(ilt (Int.ofNat j) 0)) = true := fun j => by rw [ilt_say, decide_eq_false (by simp only [Int.ofNat_eq_natCast]; omega)]; rfl
  refine growW_rule (C := btC (l.map gi) e row lo hi A B A1 B1 A2 B2) (el := 3) (rw := 2) globs_pos (by decide) (by decide) (fun x hx => by
      simp only [List.mem_cons, List.not_mem_nil, or_false] at hx
      rcases hx with rfl | rfl | rfl | rfl | rfl
      · exact flat_ints l
      all_goals rfl) (btV (m + 1) k m) (fun j => j) (fun j => (l.reverse.take j).map gi) (m + 1) _ (fun j => flat_ints _) (fun j => by kernel_rfl) (fun j q d hd => by
      obtain rfl | rfl | rfl | rfl : d = 0 ∨ d = 1 ∨ d = 2 ∨ d = 3 := by omega
      all_goals kernel_rfl)
    (fun j w q hq => by
      match q, hq with
      | 0, _ => exact ⟨(0, liP (m + 1) k), by simp [btV], by simp [named]⟩
      | 1, _ => exact ⟨(4, ptN 1), by simp [btV], by simp [named]⟩
      | 2, _ => exact ⟨(8, ptN 2), by simp [btV], by simp [named]⟩
      | 3, _ => exact ⟨(19, ptN 3), by simp [btV], by simp [named]⟩
      | 4, _ => exact ⟨(22, ptN 4), by simp [btV], by simp [named]⟩) (fun j b q => ⟨(24, .slice (some ⟨b, 0, none⟩) q q), by simp [btV], by simp [named]⟩) ?_ ?_ ?_ ?_ s h hG hs hk
  · intro j hj hx g
    obtain ⟨f1, et⟩ := at_ j hj
    have j0 := mapNl (by omega) hx
    unfold btV
    rw [ej j hj]
    refine execC_ok mixed orcWn_ok (askWn_ok true true true 0 0 0 0) (noLoops _) (Eq.mpr (bt_A l (m + 1) k e row lo hi (m - j) A B A1 B1 A2 B2 g _) ⟨ge _, by rw [Nat.blt_eq]; omega, f1, fun p b hb => ?_, .inr ⟨nG1 + 6, 1, rfl, by omega, ?_, ?_, ?_⟩⟩)
    · match p, hb with
      | 0, hb => cases hb; show _ = _; kernel_rfl
      | 1, hb => cases hb; show _ = _; kernel_rfl
      | 2, hb => cases hb; show _ = _; kernel_rfl
      | 3, hb => cases hb; show _ = _; kernel_rfl
      | 4, hb => cases hb; show _ = _; kernel_rfl
    · intro hh
      have := mapNl (by omega) hh
      omega
    · rw [es j hj, j0]
    · show _ = some (AObj.cells ((l.reverse.take (j + 1)).map gi) _ _ _)
      have hx : (l.reverse.take j).map gi = [] := hx
      rw [mapTk (by omega), hx, ← et]; show _ = _; kernel_rfl
  · intro j hj hx g
    obtain ⟨f1, et⟩ := at_ j hj
    unfold btV
    rw [ej j hj]
    refine execC_ok mixed orcWn_ok (askWn_ok true true true 0 0 0 0) (noLoops _) (Eq.mpr (bt_D l ((l.reverse.take j).map gi) (m + 1) k e row lo hi (m - j) j A B A1 B1 A2 B2 g _) ⟨ge _, by rw [Nat.blt_eq]; omega, f1, ble_noV (by omega), by rw [Nat.ble_eq]; omega, by rw [List.length_map, List.length_take, Nat.min_eq_left (by omega)]; omega, fun p b hb => ?_, .inr ⟨nG1 + 7, 2, rfl, by omega, ?_, ?_, ?_⟩⟩)
    · match p, hb with
      | 0, hb => cases hb; show _ = _; kernel_rfl
      | 1, hb => cases hb; show _ = _; kernel_rfl
      | 2, hb => cases hb; show _ = _; kernel_rfl
      | 3, hb => cases hb; show _ = _; kernel_rfl
      | 4, hb => cases hb; show _ = _; kernel_rfl
    · intro hh
      have := mapNl (by omega) hh
      omega
    · rw [es j hj]
    · show _ = some (AObj.cells ((l.reverse.take (j + 1)).map gi) _ _ _)
      rw [mapTk (by omega), ← et]; show _ = _; kernel_rfl
  · intro hx _
    have := mapNl (by omega) hx
    omega
  · intro _ g
    have e1 : Int.ofNat m - Int.ofNat (m + 1) = -1 := by simp only [Int.ofNat_eq_natCast]; omega
    unfold btV
    rw [e1]
    refine execC_ok mixed orcWn_ok (askWn_ok true true true 0 0 0 0) (noLoops _) (Eq.mpr (bt_E l ((l.reverse.take (m + 1)).map gi) (m + 1) k e row lo hi (m + 1) A B A1 B1 A2 B2 g _) ⟨rfl, rfl, rfl, ?_⟩)
    rw [List.take_of_length_le (by omega)]
    show _ = _; kernel_rfl
noncomputable def bo4P (l : List Int) (e row m k lo hi : Nat) (A B A1 B1 A2 B2 : Int) (s : AAct) (h : AHeap) (c : Post) : Prop :=
  entry s 329 [(0, liP (m + 1) k), (4, ptN 1), (8, ptN 4), (19, ptN 7), (22, ptN 10), (20, gi 0), (23, gi 0), (24, nilS), (25, goN m)] ((bldQY h nG1 (l.map gi, e, row, true) ∧ bldQY h (nG1 + 1) ([goN lo, goN hi], 26, 0, false) ∧ bldQY h (nG1 + 4) ([gi A, gi B], 28, 0, false) ∧ bldQY h (nG1 + 7) ([gi A1, gi B1], 28, 0, false) ∧ bldQY h (nG1 + 10) ([gi A2, gi B2], 28, 0, false)) ∧ (l.length = m + 1 ∧ m + 1 ≤ 128) ∧
    ∀ g, c (.exit 4) (stOf 329 [(0, liP (m + 1) k), (4, ptN 1), (8, ptN 2), (19, ptN 3), (22, ptN 4), (20, gi 0), (23, gi 0), (24, slB 5 (m + 1) (m + 1))] g) (gW Tryz.prog (btC (l.map gi) e row lo hi A B A1 B1 A2 B2) (l.reverse.map gi) 3 2))
set_option maxRecDepth 100000 in
theorem bo4P_ok {l : List Int} {e row m k lo hi : Nat} {A B A1 B1 A2 B2 : Int} {s : AAct} {h : AHeap} {c : Post} (x : bo4P l e row m k lo hi A B A1 B1 A2 B2 s h c) : J Tryz.prog (.loop (loopOf Tryz.prog 11 4)) s h c := by
  obtain ⟨h1, h2, h3, ⟨b0, b1, b2, b3, b4⟩, ⟨hl, hn⟩, h5⟩ := entry_facts x
  refine J.of_facts h1 h2 h3 fun g => ?_
  refine J.reheap (es := fun _ => 0) (ts := [0, 4, 8, 19, 22, 20, 23, 24, 25]) (vs := [liP (m + 1) k, ptN 1, ptN 4, ptN 7, ptN 10, gi 0, gi 0, nilS, goN m]) (vs₂ := [liP (m + 1) k, ptN 1, ptN 2, ptN 3, ptN 4, gi 0, gi 0, nilS, goN m]) (B := btC (l.map gi) e row lo hi A B A1 B1 A2 B2) (ids := [nG1, nG1 + 1, nG1 + 4, nG1 + 7, nG1 + 10]) globs_pos (by decide) (by decide) rfl (by decide) (fun i hi => ?_) (fun j b i hb hi => ?_) (by kernel_rfl) (fun i hi => ?_) fun g => ?_
  · simp only [List.mem_cons, List.not_mem_nil, or_false] at hi
    show nG1 ≤ i
    omega
  · match j, hb, hi with
    | 0, hb, hi => cases hb; cases hi; exact ⟨blQ_get b0, flat_ints l⟩
    | 1, hb, hi => cases hb; cases hi; exact ⟨blQ_get b1, rfl⟩
    | 2, hb, hi => cases hb; cases hi; exact ⟨blQ_get b2, rfl⟩
    | 3, hb, hi => cases hb; cases hi; exact ⟨blQ_get b3, rfl⟩
    | 4, hb, hi => cases hb; cases hi; exact ⟨blQ_get b4, rfl⟩
  · simp only [List.mem_cons, List.not_mem_nil, or_false] at hi
    rcases hi with rfl | rfl | rfl | rfl | rfl
    · exact ⟨(0, liP (m + 1) k), by simp, by simp [named]⟩
    · exact ⟨(4, ptN 1), by simp, by simp [named]⟩
    · exact ⟨(8, ptN 4), by simp, by simp [named]⟩
    · exact ⟨(19, ptN 7), by simp, by simp [named]⟩
    · exact ⟨(22, ptN 10), by simp, by simp [named]⟩
  · refine J.of_told (bt_loop l e row k m lo hi A B A1 B1 A2 B2 hl hn _ _ ⟨fun q b hb => ?_, .inl ⟨rfl, ?_⟩⟩ rfl rfl) ?_
    · match q, hb with
      | 0, hb => cases hb; show _ = _; kernel_rfl
      | 1, hb => cases hb; show _ = _; kernel_rfl
      | 2, hb => cases hb; show _ = _; kernel_rfl
      | 3, hb => cases hb; show _ = _; kernel_rfl
      | 4, hb => cases hb; show _ = _; kernel_rfl
    · unfold btV
      rw [show Int.ofNat m - Int.ofNat 0 = Int.ofNat m by simp only [Int.ofNat_eq_natCast]; omega]
      kernel_rfl
    · rintro ex vs h' g ⟨rfl, rfl, rfl⟩
      exact h5 (ov [(25, gi (Int.ofNat m - Int.ofNat (m + 1)))] g)
noncomputable def bgJ (c : List Value) : Nat → Int
  | 0 => 0
  | j + 1 => if intAt c (0 + j * 1) > bgJ c j then intAt c (0 + j * 1) else bgJ c j
theorem bgJ_ok (c : List Value) (n : Nat) : ∀ j, j ≤ n → 0 ≤ bgJ c j ∧ (bgJ c j = 0 ∨ ∃ i, i < n ∧ bgJ c j = intAt c i ∧ 0 ≤ bgJ c j)
  | 0, _ => ⟨Int.le_refl _, .inl rfl⟩
  | j + 1, h => by
    obtain ⟨h1, h2⟩ := bgJ_ok c n j (by omega)
    show 0 ≤ (if intAt c (0 + j * 1) > bgJ c j then intAt c (0 + j * 1) else bgJ c j) ∧ _
    by_cases g : intAt c (0 + j * 1) > bgJ c j
    · have e : bgJ c (j + 1) = intAt c j := by show (if intAt c (0 + j * 1) > bgJ c j then intAt c (0 + j * 1) else bgJ c j) = _; rw [if_pos g, show 0 + j * 1 = j by omega]
      rw [if_pos g]
      exact ⟨by omega, .inr ⟨j, by omega, e, by rw [e]; rw [show 0 + j * 1 = j by omega] at g; omega⟩⟩
    · have e : bgJ c (j + 1) = bgJ c j := by show (if intAt c (0 + j * 1) > bgJ c j then intAt c (0 + j * 1) else bgJ c j) = _; rw [if_neg g]
      rw [if_neg g, e]
      exact ⟨h1, h2⟩
noncomputable def bmV (c : List Value) (n k : Nat) (at_ : Nat → Nat) (j : Nat) : List Value := [.slice (some ⟨at_ 0, 0, none⟩) n k, .pointer (some ⟨at_ 1, 0, none⟩), .pointer (some ⟨at_ 2, 0, none⟩), .pointer (some ⟨at_ 3, 0, none⟩), .pointer (some ⟨at_ 4, 0, none⟩), gi 0, gi 0, gi 0, gi (bgJ c j), .slice (some ⟨at_ 0, 0, none⟩) n k, goN n, goN j]
noncomputable def atM : Nat → Nat := fun x => nG1 + [0, 2, 3, 4, 7].getD x 0
set_option maxRecDepth 100000 in
theorem bm_fold (l : List Int) (e row n k : Nat) (A B A1 B1 A2 B2 A3 B3 : Int) (hn : l.length = n) (h1 : n ≤ 128) : ∀ (s : AAct) (h : AHeap), Laid (bmC (l.map gi) e row A B A1 B1 A2 B2 A3 B3) atM h → s.n = 329 → s.marks = [] → [0, 8, 19, 22, 27, 20, 23, 28, 29, 273, 274, 275].map s.tmp = bmV (l.map gi) n k atM 0 →
    J Tryz.prog (.loop (loopOf Tryz.prog 11 6)) s h (told 329 [0, 8, 19, 22, 27, 20, 23, 28, 29, 273, 274, 275] fun ex vs h => ex = .exit 6 ∧ vs = bmV (l.map gi) n k (nG1 + ·) n ∧ h = canonT [] (fun _ => 0) Tryz.prog.globals.size (bmC (l.map gi) e row A B A1 B1 A2 B2 A3 B3)) := by
  refine fold_rule (P := Tryz.prog) 5 (fun _ => bmC (l.map gi) e row A B A1 B1 A2 B2 A3 B3) globs_pos (by decide) (by decide) (fun _ => rfl) (fun _ x hx => by
      simp only [List.mem_cons, List.not_mem_nil, or_false] at hx
      rcases hx with rfl | rfl | rfl | rfl | rfl
      · exact flat_ints l
      all_goals rfl) (bmV (l.map gi) n k) (fun _ => True) n trivial _ atM (by decide) (fun q hq => by show _ ≤ nG1 + _; unfold nG1; omega) (fun j => by kernel_rfl) (fun j => by kernel_rfl) (fun at_ j q hq => by
      match q, hq with
      | 0, _ => exact ⟨(0, .slice (some ⟨at_ 0, 0, none⟩) n k), by simp [bmV], by simp [named]⟩
      | 1, _ => exact ⟨(8, .pointer (some ⟨at_ 1, 0, none⟩)), by simp [bmV], by simp [named]⟩
      | 2, _ => exact ⟨(19, .pointer (some ⟨at_ 2, 0, none⟩)), by simp [bmV], by simp [named]⟩
      | 3, _ => exact ⟨(22, .pointer (some ⟨at_ 3, 0, none⟩)), by simp [bmV], by simp [named]⟩
      | 4, _ => exact ⟨(27, .pointer (some ⟨at_ 4, 0, none⟩)), by simp [bmV], by simp [named]⟩) ?_ ?_
  · intro j hj _ g
    obtain ⟨f1, _⟩ := first_at (l := l) (j := j) (by omega)
    refine execC_ok mixed orcWn_ok (askWn_ok true true true 0 0 0 0) (noLoops _) (Eq.mpr (bm_row l n k e row j (bgJ (l.map gi) j) A B A1 B1 A2 B2 A3 B3 g _) ⟨fun hlt => ⟨hlt, f1, trivial, ?_, fun q b hb => ?_⟩, fun hge => absurd (blt_false hge) (by omega)⟩)
    · rw [fwrap_nat (by omega)]; rfl
    · match q, hb with
      | 0, hb => cases hb; show _ = _; kernel_rfl
      | 1, hb => cases hb; show _ = _; kernel_rfl
      | 2, hb => cases hb; show _ = _; kernel_rfl
      | 3, hb => cases hb; show _ = _; kernel_rfl
      | 4, hb => cases hb; show _ = _; kernel_rfl
  · intro _ g
    exact execC_ok mixed orcWn_ok (askWn_ok true true true 0 0 0 0) (noLoops _) (Eq.mpr (bm_row l n k e row n (bgJ (l.map gi) n) A B A1 B1 A2 B2 A3 B3 g _) ⟨fun hlt => absurd (blt_true hlt) (by omega), fun _ => ⟨rfl, rfl, rfl⟩⟩)
noncomputable def bo6P (l : List Int) (e row m k : Nat) (A B A1 B1 A2 B2 A3 B3 : Int) (s : AAct) (h : AHeap) (c : Post) : Prop :=
  entry s 329 [(0, liP (m + 1) k), (8, ptN 2), (19, ptN 3), (22, ptN 4), (27, ptN 7), (20, gi 0), (23, gi 0), (28, gi 0), (29, gi 0), (273, liP (m + 1) k), (274, goN (m + 1)), (275, goN 0)] ((bldQY h nG1 (l.map gi, e, row, true) ∧ bldQY h (nG1 + 2) ([gi A, gi B], 28, 0, false) ∧ bldQY h (nG1 + 3) ([gi A1, gi B1], 28, 0, false) ∧ bldQY h (nG1 + 4) ([gi A2, gi B2], 28, 0, false) ∧ bldQY h (nG1 + 7) ([gi A3, gi B3], 28, 0, false)) ∧ (l.length = m + 1 ∧ m + 1 ≤ 128) ∧
    ∀ g, c (.exit 6) (stOf 329 [(8, ptN 1), (19, ptN 2), (22, ptN 3), (27, ptN 4), (20, gi 0), (23, gi 0), (28, gi 0), (29, gi (bgJ (l.map gi) (m + 1)))] g) (canonT [] (fun _ => 0) Tryz.prog.globals.size (bmC (l.map gi) e row A B A1 B1 A2 B2 A3 B3)))
set_option maxRecDepth 100000 in
theorem bo6P_ok {l : List Int} {e row m k : Nat} {A B A1 B1 A2 B2 A3 B3 : Int} {s : AAct} {h : AHeap} {c : Post} (x : bo6P l e row m k A B A1 B1 A2 B2 A3 B3 s h c) : J Tryz.prog (.loop (loopOf Tryz.prog 11 6)) s h c := by
  obtain ⟨h1, h2, h3, ⟨b0, b1, b2, b3, b4⟩, ⟨hl, hn⟩, h5⟩ := entry_facts x
  refine J.of_told (bm_fold l e row (m + 1) k A B A1 B1 A2 B2 A3 B3 hl hn s h (fun q b hb => ?_) h1 h2 ?_) ?_
  · match q, hb with
    | 0, hb => cases hb; exact blQ_get b0
    | 1, hb => cases hb; exact blQ_get b1
    | 2, hb => cases hb; exact blQ_get b2
    | 3, hb => cases hb; exact blQ_get b3
    | 4, hb => cases hb; exact blQ_get b4
  · simp only [List.map_cons, List.map_nil]
    rw [h3 (0, liP (m + 1) k) (by simp), h3 (8, ptN 2) (by simp), h3 (19, ptN 3) (by simp), h3 (22, ptN 4) (by simp), h3 (27, ptN 7) (by simp), h3 (20, gi 0) (by simp), h3 (23, gi 0) (by simp), h3 (28, gi 0) (by simp), h3 (29, gi 0) (by simp), h3 (273, liP (m + 1) k) (by simp), h3 (274, goN (m + 1)) (by simp), h3 (275, goN 0) (by simp)]
    rfl
  · rintro ex vs h' g ⟨rfl, rfl, rfl⟩
    exact h5 (ov [(0, liP (m + 1) k), (273, liP (m + 1) k), (274, goN (m + 1)), (275, goN (m + 1))] g)
noncomputable def bbL (l : List Int) (e row m k lo hi a b : Nat) (u w : Int) (R R1 R2 R3 : P2) : Loops Tryz.prog where
  body := fun i => loopOf Tryz.prog 11 i
  spec := fun i s h c => match i with
    | 0 => bo0P l e row m k lo hi a b u w s h c
    | 1 => False
    | 2 => False
    | 3 => False
    | 4 => bo4P l e row m k lo hi R.1 R.2 R1.1 R1.2 R2.1 R2.2 s h c
    | 5 => False
    | 6 => bo6P l e row m k R.1 R.2 R1.1 R1.2 R2.1 R2.2 R3.1 R3.2 s h c
    | _ + 7 => False
  ok := fun i s h c x => by
    match i, x with
    | 0, x => exact bo0P_ok x
    | 1, x => exact x.elim
    | 2, x => exact x.elim
    | 3, x => exact x.elim
    | 4, x => exact bo4P_ok x
    | 5, x => exact x.elim
    | 6, x => exact bo6P_ok x
    | _ + 7, x => exact x.elim
end Go.Proofs.YtihnnmejkpddeaaGreatDoor
