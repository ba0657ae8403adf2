/-
  OWN WORK. Stage 8: the loops that look for errors, as their functions meet them; these functions, carried out.
-/
import Derived.Test.YtkggjnjiggekeaaGreatDoorPuC
namespace Go.Proofs.YtkggjnjiggekeaaGreatDoor
open Go Go.Am

noncomputable def eacL (l : List Int) (n e row k : Nat) : Loops Tryz.prog where
  body := fun _ => loopOf Tryz.prog 156 0
  spec := fun _ a h c => entry a 21 [(1, cAc), (4, gi 0), (8, liP n k), (9, goN n), (10, goN 0)] (h = liH (l.map gi) e row ∧ (l.length = n ∧ n ≤ 65536) ∧ (firstE aE l = 0 → ∀ g, c (.exit 0) (stOf 21 [] g) (liH (l.map gi) e row)) ∧ ∀ g, c .ret (stOf 21 [(4, gi (firstE aE l))] g) (liH (l.map gi) e row))
  ok := fun i a h c q => by
    obtain ⟨h1, h2, h3, rfl, ⟨rfl, hs⟩, h4, h5⟩ := entry_facts q
    refine J.of_told (eac_loop l e row k hs a h1 h2 ?_) ?_
    · simp only [List.map_cons, List.map_nil]
      rw [h3 (1, cAc) (by simp), h3 (4, gi 0) (by simp), h3 (8, liP l.length k) (by simp), h3 (9, goN l.length) (by simp), h3 (10, goN 0) (by simp)]
    · rintro ex vs h' g ⟨rfl, ⟨rfl, ha⟩ | ⟨rfl, j, rfl⟩⟩
      · exact h4 ha (ov ([1, 4, 8, 9, 10].zip vs) g)
      · exact h5 (ov [(1, cAc), (8, liP l.length k), (9, goN l.length), (10, goN j)] g)
noncomputable def valL (l : List Int) (n e row k : Nat) : Loops Tryz.prog where
  body := fun _ => loopOf Tryz.prog 91 0
  spec := fun _ a h c => entry a 19 [(0, liP n k), (2, gi 0), (3, goN 0)] (h = liH (l.map gi) e row ∧ (l.length = n ∧ n ≤ 65536) ∧ (firstE aE l = 0 → ∀ g, c (.exit 0) (stOf 19 [] g) (liH (l.map gi) e row)) ∧ ∀ g, c .ret (stOf 19 [(2, gi (firstE aE l))] g) (liH (l.map gi) e row))
  ok := fun i a h c q => by
    obtain ⟨h1, h2, h3, rfl, ⟨rfl, hs⟩, h4, h5⟩ := entry_facts q
    refine J.of_told (val_loop l e row k hs a h1 h2 ?_) ?_
    · simp only [List.map_cons, List.map_nil]
      rw [h3 (0, liP l.length k) (by simp), h3 (2, gi 0) (by simp), h3 (3, goN 0) (by simp)]
    · rintro ex vs h' g ⟨rfl, ⟨rfl, ha⟩ | ⟨rfl, j, rfl⟩⟩
      · exact h4 ha (ov ([0, 2, 3].zip vs) g)
      · exact h5 (ov [(0, liP l.length k), (3, goN j)] g)
noncomputable def corL (l : List P2) (n e row k : Nat) : Loops Tryz.prog where
  body := fun _ => loopOf Tryz.prog 32 0
  spec := fun _ a h c => entry a 33 [(0, liP n k), (2, gi 0), (4, goN 0)] (h.get nG1 = some (.cells (cellsP l) e row true) ∧ (l.length = n ∧ n ≤ 65536) ∧ (firstE cE l = 0 → ∀ g h', c (.exit 0) (stOf 33 [] g) h') ∧ ∀ g h', c .ret (stOf 33 [(2, gi (firstE cE l))] g) h')
  ok := fun i a h c q => by
    obtain ⟨h1, h2, h3, g0, ⟨rfl, hs⟩, h4, h5⟩ := entry_facts q
    refine J.of_told (cor_loop l e row k hs a h (fun q b hb => by match q, hb with | 0, hb => cases hb; exact g0) h1 h2 ?_) ?_
    · simp only [List.map_cons, List.map_nil]
      rw [h3 (0, liP l.length k) (by simp), h3 (2, gi 0) (by simp), h3 (4, goN 0) (by simp)]
      rfl
    · rintro ex vs h' g (⟨rfl, ha⟩ | ⟨rfl, v, j, rfl⟩)
      · exact h4 ha (ov ([0, 2, 4].zip vs) g) h'
      · exact h5 (ov [(0, v), (4, goN j)] g) h'
noncomputable def eivL (l : List P2) (n e row k : Nat) : Loops Tryz.prog where
  body := fun _ => loopOf Tryz.prog 92 0
  spec := fun _ a h c => entry a 21 [(1, cCo), (4, gi 0), (8, liP n k), (9, goN n), (10, goN 0)] (h.get nG1 = some (.cells (cellsP l) e row true) ∧ (l.length = n ∧ n ≤ 65536) ∧ (firstE cE l = 0 → ∀ g h', c (.exit 0) (stOf 21 [] g) h') ∧ ∀ g h', c .ret (stOf 21 [(4, gi (firstE cE l))] g) h')
  ok := fun i a h c q => by
    obtain ⟨h1, h2, h3, g0, ⟨rfl, hs⟩, h4, h5⟩ := entry_facts q
    refine J.of_told (eiv_loop l e row k hs a h (fun q b hb => by match q, hb with | 0, hb => cases hb; exact g0) h1 h2 ?_) ?_
    · simp only [List.map_cons, List.map_nil]
      rw [h3 (1, cCo) (by simp), h3 (4, gi 0) (by simp), h3 (8, liP l.length k) (by simp), h3 (9, goN l.length) (by simp), h3 (10, goN 0) (by simp)]
      rfl
    · rintro ex vs h' g (⟨rfl, ha⟩ | ⟨rfl, r, rfl⟩)
      · exact h4 ha (ov ([1, 4, 8, 9, 10].zip vs) g) h'
      · match r with
        | [] => exact h5 (ov [(1, cCo)] g) h'
        | [a] => exact h5 (ov [(1, cCo), (8, a)] g) h'
        | [a, b] => exact h5 (ov [(1, cCo), (8, a), (9, b)] g) h'
        | a :: b :: c :: r => exact h5 (ov [(1, cCo), (8, a), (9, b), (10, c)] g) h'
theorem eac_run (l : List Int) (m e row k : Nat) (K : Value → Prop) : callC Tryz.prog (exec Tryz.prog orcPb 10) (syOf []) askPb (eacL l (m + 1) e row k) 40 156 #[liP (m + 1) k, cAc] (liH (l.map gi) e row) (fun v _ => K v) = ((loopOf Tryz.prog 156 0 = loopOf Tryz.prog 156 0 ∧ cAc = cAc ∧ gi 0 = gi 0 ∧ liP (m + 1) k = liP (m + 1) k ∧ goN (m + 1) = goN (m + 1) ∧ gi 0 = goN 0 ∧ liH (List.map gi l) e row = liH (List.map gi l) e row ∧ (List.length l = (m + 1) ∧ ((m + 1) : Nat) ≤ 65536) ∧ (firstE aE l = 0 → (∀ _ : Nat → Value, K (gi 0))) ∧ (∀ _ : Nat → Value, K (gi (firstE aE l))))) := by kernel_rfl
theorem val_run (l : List Int) (m e row k : Nat) (K : Value → Prop) : callC Tryz.prog (exec Tryz.prog orcPb 10) (syOf []) askPb (valL l (m + 1) e row k) 40 91 #[liP (m + 1) k] (liH (l.map gi) e row) (fun v _ => K v) = ((loopOf Tryz.prog 91 0 = loopOf Tryz.prog 91 0 ∧ liP (m + 1) k = liP (m + 1) k ∧ gi 0 = gi 0 ∧ gi 0 = goN 0 ∧ liH (List.map gi l) e row = liH (List.map gi l) e row ∧ (List.length l = (m + 1) ∧ ((m + 1) : Nat) ≤ 65536) ∧ (firstE aE l = 0 → (∀ _ : Nat → Value, K (gi 0))) ∧ (∀ _ : Nat → Value, K (gi (firstE aE l))))) := by kernel_rfl
theorem eiv_run (l : List P2) (m e row k : Nat) (K : Value → Prop) : callC Tryz.prog (exec Tryz.prog orcPb 10) (syOf []) askPb (eivL l (m + 1) e row k) 40 92 #[liP (m + 1) k, cCo] (liH (cellsP l) e row) (fun v _ => K v) = ((loopOf Tryz.prog 92 0 = loopOf Tryz.prog 92 0 ∧ cCo = cCo ∧ gi 0 = gi 0 ∧ liP (m + 1) k = liP (m + 1) k ∧ goN (m + 1) = goN (m + 1) ∧ gi 0 = goN 0 ∧ (liH (cellsP l) e row).get (nG1) = Option.some (.cells (cellsP l) e row true) ∧ (List.length l = (m + 1) ∧ ((m + 1) : Nat) ≤ 65536) ∧ (firstE cE l = 0 → (∀ _ : Nat → Value, (∀ _ : AHeap, K (gi 0)))) ∧ (∀ _ : Nat → Value, (∀ _ : AHeap, K (gi (firstE cE l)))))) := by kernel_rfl
theorem cor_run (l : List P2) (m e row k : Nat) (K : Value → Prop) : callC Tryz.prog (exec Tryz.prog orcPb 10) (syOf [(17, 1)]) askPb (corL l (m + 1) e row k) 40 32 #[liP (m + 1) k] (liH (cellsP l) e row) (fun v _ => K v) = ((((!(ieq (firstS [whenS (ieq (Int.ofNat (m + 1)) 0) 12, whenS (ilt 64 (Int.ofNat (m + 1))) 5]) 0)) = true → K (gi (firstS [whenS (ieq (Int.ofNat (m + 1)) 0) 12, whenS (ilt 64 (Int.ofNat (m + 1))) 5]))) ∧ ((!(ieq (firstS [whenS (ieq (Int.ofNat (m + 1)) 0) 12, whenS (ilt 64 (Int.ofNat (m + 1))) 5]) 0)) = false → (loopOf Tryz.prog 32 0 = loopOf Tryz.prog 32 0 ∧ liP (m + 1) k = liP (m + 1) k ∧ gi 0 = gi 0 ∧ gi 0 = goN 0 ∧ ((liH (cellsP l) e row).push (.cells [gi (whenS (ieq (Int.ofNat (m + 1)) 0) 12), gi (whenS (ilt 64 (Int.ofNat (m + 1))) 5)] 3 2 false)).get (nG1) = Option.some (.cells (cellsP l) e row true) ∧ (List.length l = (m + 1) ∧ ((m + 1) : Nat) ≤ 65536) ∧ (firstE cE l = 0 → (∀ _ : Nat → Value, (∀ _ : AHeap, K (gi 0)))) ∧ (∀ _ : Nat → Value, (∀ _ : AHeap, K (gi (firstE cE l)))))))) := by kernel_rfl
end Go.Proofs.YtkggjnjiggekeaaGreatDoor
