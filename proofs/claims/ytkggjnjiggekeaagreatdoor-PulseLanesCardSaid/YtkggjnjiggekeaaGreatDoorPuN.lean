/-
  OWN WORK. Stage 8: the loops as their functions meet them; these functions, carried out.
-/
import Derived.Test.YtkggjnjiggekeaaGreatDoorPuM
namespace Go.Proofs.YtkggjnjiggekeaaGreatDoor
open Go Go.Am

noncomputable def exN (x : T3) : Int := if x.2.2 - x.2.1 > (if x.1 - x.2.2 > 0 then x.1 - x.2.2 else 0) then x.2.2 - x.2.1 else (if x.1 - x.2.2 > 0 then x.1 - x.2.2 else 0)
noncomputable def exAt (T : List T3) : Nat → Int × Int
  | 0 => (0, 0)
  | j + 1 => bif ilt (exAt T j).1 (exN (T.getD j (0, 0, 0))) then (exN (T.getD j (0, 0, 0)), Int.ofNat j) else exAt T j
set_option maxRecDepth 100000 in
theorem rex_loop (T : List T3) (hT : ∀ x ∈ T, bdT x) (e row k e' row' k' : Nat) (hl : T.length ≤ 65536) : ∀ a : AAct, a.n = 44 → a.marks = [] → [0, 1, 6, 7, 8].map a.tmp = [liP T.length k, slQ T.length k', gi 0, gi 0, goN 0] →
    J Tryz.prog (.loop (loopOf Tryz.prog 36 0)) a (cn2 (zc T) e row (zp T) e' row') (told 44 [0, 1, 6, 7, 8] fun ex vs h => h = cn2 (zc T) e row (zp T) e' row' ∧ ex = .exit 0 ∧ vs = [liP T.length k, slQ T.length k', gi (exAt T T.length).1, gi (exAt T T.length).2, goN T.length]) := by
  refine scan_rule _ (fun j => [liP T.length k, slQ T.length k', gi (exAt T j).1, gi (exAt T j).2, goN j]) (fun _ => True) T.length trivial _ ?_ ?_
  · intro j hj _ g
    refine execC_ok mixed orcPg_ok askPg_ok (noLoops _) (Eq.mpr (rex_body _ _ e row e' row' _ k _ k' j (exAt T j).1 (exAt T j).2 g _) ⟨fun hlt => ?_, fun hge => absurd (blt_false hge) (by omega)⟩)
    obtain ⟨⟨⟨a1, a1'⟩, a2, a3⟩, b1, b2⟩ := zc_at hj
    obtain ⟨q1, q2, q3⟩ := hT T[j] (List.getElem_mem hj)
    have e0 : intAt (cellsP (zc T)) (0 + j * 2 + 0) = T[j].1 := a2
    have ed : T.getD j (0, 0, 0) = T[j] := by rw [List.getD_eq_getElem?_getD, List.getElem?_eq_getElem hj]; rfl
    have es : exAt T (j + 1) = bif ilt (exAt T j).1 (exN T[j]) then (exN T[j], Int.ofNat j) else exAt T j := by rw [← ed]; rfl
    rw [e0, a3, b2]
    refine ⟨hlt, by show (cellsP (zc T))[0 + j * 2]? = _; rw [a1, a2], hlt, by rw [b1, b2], inI64_small (by omega) (by omega), hlt, by rw [b1, b2], hlt, by rw [a1', a3], inI64_small (by omega) (by omega), fun h3 => ⟨trivial, ?_, rfl⟩, fun h3 => ⟨trivial, ?_, rfl⟩⟩
    · have h3 : ilt (exAt T j).1 (exN T[j]) = true := h3
      rw [fwrap_nat (by omega), es, h3]; rfl
    · have h3 : ilt (exAt T j).1 (exN T[j]) = false := h3
      rw [fwrap_nat (by omega), es, h3]; rfl
  · intro _ g
    exact execC_ok mixed orcPg_ok askPg_ok (noLoops _) (Eq.mpr (rex_body _ _ e row e' row' _ k _ k' _ _ _ g _) ⟨fun hlt => absurd (blt_true hlt) (by omega), fun _ => ⟨rfl, rfl, rfl⟩⟩)
noncomputable def ixfL (l : List P2) (n e row k : Nat) : Loops Tryz.prog where
  body := fun _ => loopOf Tryz.prog 124 0
  spec := fun _ a h c => entry a 19 [(0, liP n k), (1, cIn), (4, gi 0), (7, goN n), (8, goN 0)] (h = liH (cellsP l) e row ∧ (l.length = n ∧ n ≤ 65536) ∧ (idxB isO l 0 = -1 → ∀ g, c (.exit 0) (stOf 19 [] g) (liH (cellsP l) e row)) ∧ ∀ g, c .ret (stOf 19 [(4, gi (idxB isO l 0))] g) (liH (cellsP l) e row))
  ok := fun i a h c q => by
    obtain ⟨h1, h2, h3, rfl, ⟨rfl, hs⟩, h4, h5⟩ := entry_facts q
    refine J.of_told (ixf_loop l e row k hs a h1 h2 ?_) ?_
    · simp only [List.map_cons, List.map_nil]
      rw [h3 (0, liP l.length k) (by simp), h3 (1, cIn) (by simp), h3 (4, gi 0) (by simp), h3 (7, goN l.length) (by simp), h3 (8, goN 0) (by simp)]
    · rintro ex vs h' g ⟨rfl, ⟨rfl, ha⟩ | ⟨rfl, j, rfl⟩⟩
      · exact h4 ha (ov ([0, 1, 4, 7, 8].zip vs) g)
      · exact h5 (ov [(0, liP l.length k), (1, cIn), (7, goN l.length), (8, goN j)] g)
noncomputable def idxL (l : List Int) (x : Int) (n e row k : Nat) : Loops Tryz.prog where
  body := fun _ => loopOf Tryz.prog 88 0
  spec := fun _ a h c => entry a 19 [(0, liP n k), (1, gi x), (4, gi 0), (7, goN n), (8, goN 0)] (h = liH (l.map gi) e row ∧ (l.length = n ∧ n ≤ 65536) ∧ (idxB (ieq x) l 0 = -1 → ∀ g, c (.exit 0) (stOf 19 [] g) (liH (l.map gi) e row)) ∧ ∀ g, c .ret (stOf 19 [(4, gi (idxB (ieq x) l 0))] g) (liH (l.map gi) e row))
  ok := fun i a h c q => by
    obtain ⟨h1, h2, h3, rfl, ⟨rfl, hs⟩, h4, h5⟩ := entry_facts q
    refine J.of_told (idx_loop l x e row k hs a h1 h2 ?_) ?_
    · simp only [List.map_cons, List.map_nil]
      rw [h3 (0, liP l.length k) (by simp), h3 (1, gi x) (by simp), h3 (4, gi 0) (by simp), h3 (7, goN l.length) (by simp), h3 (8, goN 0) (by simp)]
    · rintro ex vs h' g ⟨rfl, ⟨rfl, ha⟩ | ⟨rfl, j, rfl⟩⟩
      · exact h4 ha (ov ([0, 1, 4, 7, 8].zip vs) g)
      · exact h5 (ov [(0, liP l.length k), (1, gi x), (7, goN l.length), (8, goN j)] g)
noncomputable def maxL (y : Int) (l : List Int) (n e row k : Nat) : Loops Tryz.prog where
  body := fun _ => loopOf Tryz.prog 87 0
  spec := fun _ a h c => entry a 25 [(0, liP (n + 1) k), (3, gi y), (4, goN 1)] (h = liH ((y :: l).map gi) e row ∧ (l.length = n ∧ n < 65536) ∧ ∀ g, c (.exit 0) (stOf 25 [(3, gi (mxL y l))] g) (liH ((y :: l).map gi) e row))
  ok := fun i a h c q => by
    obtain ⟨h1, h2, h3, rfl, ⟨rfl, hs⟩, h4⟩ := entry_facts q
    refine J.of_told (max_loop y l e row k hs a h1 h2 ?_) ?_
    · simp only [List.map_cons, List.map_nil]
      rw [h3 (0, liP (l.length + 1) k) (by simp), h3 (3, gi y) (by simp), h3 (4, goN 1) (by simp)]
    · rintro ex vs h' g ⟨rfl, rfl, v, rfl⟩
      exact h4 (ov [(0, liP (l.length + 1) k), (4, v)] g)
noncomputable def rinL (T : List T3) (n e row k e' row' k' : Nat) : Loops Tryz.prog where
  body := fun _ => loopOf Tryz.prog 35 0
  spec := fun _ a h c => entry a 34 [(0, liP n k), (1, slQ n k'), (4, .bool false), (5, goN 0)] (h = cn2 (zc T) e row (zp T) e' row' ∧ (T.length = n ∧ n ≤ 65536) ∧ (insB T = true → ∀ g, c (.exit 0) (stOf 34 [] g) (cn2 (zc T) e row (zp T) e' row')) ∧ (insB T = false → ∀ g, c .ret (stOf 34 [(4, .bool false)] g) (cn2 (zc T) e row (zp T) e' row')))
  ok := fun i a h c q => by
    obtain ⟨h1, h2, h3, rfl, ⟨rfl, hs⟩, h4, h5⟩ := entry_facts q
    refine J.of_told (rin_loop T e row k e' row' k' hs a h1 h2 ?_) ?_
    · simp only [List.map_cons, List.map_nil]
      rw [h3 (0, liP T.length k) (by simp), h3 (1, slQ T.length k') (by simp), h3 (4, .bool false) (by simp), h3 (5, goN 0) (by simp)]
    · rintro ex vs h' g ⟨rfl, ⟨rfl, ha⟩ | ⟨rfl, ha, j, rfl⟩⟩
      · exact h4 ha (ov ([0, 1, 4, 5].zip vs) g)
      · exact h5 ha (ov [(0, liP T.length k), (1, slQ T.length k'), (5, goN j)] g)
noncomputable def rexL (T : List T3) (n e row k e' row' k' : Nat) : Loops Tryz.prog where
  body := fun _ => loopOf Tryz.prog 36 0
  spec := fun _ a h c => entry a 44 [(0, liP n k), (1, slQ n k'), (6, gi 0), (7, gi 0), (8, goN 0)] (h = cn2 (zc T) e row (zp T) e' row' ∧ (T.length = n ∧ n ≤ 65536 ∧ ∀ x ∈ T, bdT x) ∧ ∀ g, c (.exit 0) (stOf 44 [(6, gi (exAt T T.length).1), (7, gi (exAt T T.length).2)] g) (cn2 (zc T) e row (zp T) e' row'))
  ok := fun i a h c q => by
    obtain ⟨h1, h2, h3, rfl, ⟨rfl, hs, hT⟩, h4⟩ := entry_facts q
    refine J.of_told (rex_loop T hT e row k e' row' k' hs a h1 h2 ?_) ?_
    · simp only [List.map_cons, List.map_nil]
      rw [h3 (0, liP T.length k) (by simp), h3 (1, slQ T.length k') (by simp), h3 (6, gi 0) (by simp), h3 (7, gi 0) (by simp), h3 (8, goN 0) (by simp)]
    · rintro ex vs h' g ⟨rfl, rfl, rfl⟩
      exact h4 (ov [(0, liP T.length k), (1, slQ T.length k'), (8, goN T.length)] g)
theorem ixf_run (l : List P2) (m e row k : Nat) (K : Value → Prop) : callC Tryz.prog (exec Tryz.prog orcPg 10) (syOf []) askPg (ixfL l (m + 1) e row k) 40 124 #[liP (m + 1) k, cIn] (liH (cellsP l) e row) (fun v _ => K v) = ((loopOf Tryz.prog 124 0 = loopOf Tryz.prog 124 0 ∧ liP (m + 1) k = liP (m + 1) k ∧ cIn = cIn ∧ gi 0 = gi 0 ∧ goN (m + 1) = goN (m + 1) ∧ gi 0 = goN 0 ∧ liH (cellsP l) e row = liH (cellsP l) e row ∧ (List.length l = (m + 1) ∧ ((m + 1) : Nat) ≤ 65536) ∧ (idxB isO l 0 = (-1) → (∀ _ : Nat → Value, K (gi (-1)))) ∧ (∀ _ : Nat → Value, K (gi (idxB isO l 0))))) := by kernel_rfl
theorem idx_run (l : List Int) (x : Int) (m e row k : Nat) (K : Value → Prop) : callC Tryz.prog (exec Tryz.prog orcPg 10) (syOf []) askPg (idxL l x (m + 1) e row k) 40 88 #[liP (m + 1) k, gi x] (liH (l.map gi) e row) (fun v _ => K v) = ((loopOf Tryz.prog 88 0 = loopOf Tryz.prog 88 0 ∧ liP (m + 1) k = liP (m + 1) k ∧ gi x = gi x ∧ gi 0 = gi 0 ∧ goN (m + 1) = goN (m + 1) ∧ gi 0 = goN 0 ∧ liH (List.map gi l) e row = liH (List.map gi l) e row ∧ (List.length l = (m + 1) ∧ ((m + 1) : Nat) ≤ 65536) ∧ (idxB (ieq x) l 0 = (-1) → (∀ _ : Nat → Value, K (gi (-1)))) ∧ (∀ _ : Nat → Value, K (gi (idxB (ieq x) l 0))))) := by kernel_rfl
theorem max_run (y : Int) (l : List Int) (m e row k : Nat) (K : Value → Prop) : callC Tryz.prog (exec Tryz.prog orcPg 10) (syOf [(7, 32), (10, 2), (11, 3)]) askPg (maxL y l m e row k) 40 87 #[liP (m + 1) k] (liH ((y :: l).map gi) e row) (fun v _ => K v) = ((ilt (Int.ofNat (m + 1)) 1 = false ∧ ahasIndex 0 (m + 1) = true ∧ (gi y :: List.map gi l)[0]? = Option.some (gi (intAt (gi y :: List.map gi l) 0)) ∧ loopOf Tryz.prog 87 0 = loopOf Tryz.prog 87 0 ∧ liP (m + 1) k = liP (m + 1) k ∧ gi (intAt (gi y :: List.map gi l) 0) = gi y ∧ gi 1 = goN 1 ∧ liH (gi y :: List.map gi l) e row = liH (gi y :: List.map gi l) e row ∧ (List.length l = m ∧ (m : Nat) < 65536) ∧ (∀ _ : Nat → Value, K (gi (mxL y l))))) := by kernel_rfl
theorem rin_run (T : List T3) (m e row k e' row' k' : Nat) (K : Value → Prop) : callC Tryz.prog (exec Tryz.prog orcPg 10) (syOf []) askPg (rinL T (m + 1) e row k e' row' k') 40 35 #[liP (m + 1) k, slQ (m + 1) k'] (cn2 (zc T) e row (zp T) e' row') (fun v _ => K v) = ((loopOf Tryz.prog 35 0 = loopOf Tryz.prog 35 0 ∧ liP (m + 1) k = liP (m + 1) k ∧ slQ (m + 1) k' = slQ (m + 1) k' ∧ Value.bool false = Value.bool false ∧ gi 0 = goN 0 ∧ cn2 (zc T) e row (zp T) e' row' = cn2 (zc T) e row (zp T) e' row' ∧ (List.length T = (m + 1) ∧ ((m + 1) : Nat) ≤ 65536) ∧ (insB T = true → (∀ _ : Nat → Value, K (Value.bool true))) ∧ (insB T = false → (∀ _ : Nat → Value, K (Value.bool false))))) := by kernel_rfl
theorem rex_run (T : List T3) (m e row k e' row' k' : Nat) (K : Value → Prop) : callC Tryz.prog (exec Tryz.prog orcPg 10) (syOf []) askPg (rexL T (m + 1) e row k e' row' k') 40 36 #[liP (m + 1) k, slQ (m + 1) k'] (cn2 (zc T) e row (zp T) e' row') (fun v _ => K v) = ((loopOf Tryz.prog 36 0 = loopOf Tryz.prog 36 0 ∧ liP (m + 1) k = liP (m + 1) k ∧ slQ (m + 1) k' = slQ (m + 1) k' ∧ gi 0 = gi 0 ∧ gi 0 = gi 0 ∧ gi 0 = goN 0 ∧ cn2 (zc T) e row (zp T) e' row' = cn2 (zc T) e row (zp T) e' row' ∧ (List.length T = (m + 1) ∧ ((m + 1) : Nat) ≤ 65536 ∧ (∀ y1 : T3, (List.Mem y1 T → bdT y1))) ∧ (∀ _ : Nat → Value, K (Value.tuple #[gi (((exAt T T.length).1)), gi (((exAt T T.length).2))])))) := by kernel_rfl
end Go.Proofs.YtkggjnjiggekeaaGreatDoor
