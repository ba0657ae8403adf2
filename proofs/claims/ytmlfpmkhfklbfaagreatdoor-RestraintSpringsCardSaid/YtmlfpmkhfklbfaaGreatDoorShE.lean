/-
  OWN WORK. Springs: the functions with loops, carried out.
-/
import Derived.Test.YtmlfpmkhfklbfaaGreatDoorShD
namespace Go.Proofs.YtmlfpmkhfklbfaaGreatDoor
open Go Go.Am

noncomputable def epL (l : List P2) (n e row k : Nat) (a b : Int) : Loops Tryz.prog where
  body := fun _ => loopOf Tryz.prog 84 0
  spec := fun _ ac h c => entry ac 21 [(1, cpF), (4, gi 0), (8, liP n k), (9, goN n), (10, goN 0)] ((h.get Tryz.prog.globals.size = some (.cells (cellsP l) e row true) ∧ h.get (Tryz.prog.globals.size + 1) = some (.cells [gi a] 3 0 false) ∧ h.get (Tryz.prog.globals.size + 2) = some (.cells [gi b] 3 0 false)) ∧ (l.length = n ∧ n ≤ 65536) ∧
    (spE a b l = 0 → ∀ g h', c (.exit 0) (stOf 21 [] g) h') ∧ ∀ g h', c .ret (stOf 21 [(4, gi (spE a b l))] g) h')
  ok := fun i ac h c q => by
    obtain ⟨h1, h2, h3, ⟨g0, g1, g2⟩, ⟨hs1, hs2⟩, h4, h5⟩ := entry_facts q
    refine J.of_told (ep_loop l n e row k a b hs1 hs2 ac h (.three g0 g1 g2) h1 h2 ?_) ?_
    · simp only [List.map_cons, List.map_nil]
      rw [h3 (1, cpF) (by simp), h3 (4, gi 0) (by simp), h3 (8, liP n k) (by simp), h3 (9, goN n) (by simp), h3 (10, goN 0) (by simp)]
    · rintro ex vs h' g (⟨rfl, hz⟩ | ⟨rfl, v, r, rfl⟩)
      · exact h4 hz (ov ([1, 4, 8, 9, 10].zip vs) g) h'
      · exact h5 (ov ((1, v) :: [8, 9, 10].zip r) g) h'
noncomputable def fiL (l : List P2) (n e row k e' row' : Nat) (w : Int) : Loops Tryz.prog where
  body := fun _ => loopOf Tryz.prog 167 0
  spec := fun _ ac h c => entry ac 19 [(0, liP n k), (1, fiF), (4, gi 0), (7, goN n), (8, goN 0)] ((h.get Tryz.prog.globals.size = some (.cells (cellsP l) e row true) ∧ h.get (Tryz.prog.globals.size + 1) = some (.cells [gi w] e' row' true)) ∧ (l.length = n ∧ n ≤ 65536) ∧
    (ixF w l 0 = -1 → ∀ g h', c (.exit 0) (stOf 19 [] g) h') ∧ ∀ g h', c .ret (stOf 19 [(4, gi (ixF w l 0))] g) h')
  ok := fun i ac h c q => by
    obtain ⟨h1, h2, h3, ⟨g0, g1⟩, ⟨hs1, hs2⟩, h4, h5⟩ := entry_facts q
    refine J.of_told (fi_loop l n e row k e' row' w hs1 hs2 ac h (.two g0 g1) h1 h2 ?_) ?_
    · simp only [List.map_cons, List.map_nil]
      rw [h3 (0, liP n k) (by simp), h3 (1, fiF) (by simp), h3 (4, gi 0) (by simp), h3 (7, goN n) (by simp), h3 (8, goN 0) (by simp)]
    · rintro ex vs h' g (⟨rfl, hz⟩ | ⟨rfl, v, v', r, rfl⟩)
      · exact h4 hz (ov ([0, 1, 4, 7, 8].zip vs) g) h'
      · exact h5 (ov ((0, v) :: (1, v') :: [7, 8].zip r) g) h'
noncomputable def rcL (l : List P2) (n e row k : Nat) : Loops Tryz.prog where
  body := fun _ => loopOf Tryz.prog 21 0
  spec := fun _ ac h c => entry ac 70 [(0, liP n k), (2, gi 0), (4, goN 0)] (h.get Tryz.prog.globals.size = some (.cells (cellsP l) e row true) ∧ (l.length = n ∧ n ≤ 65536) ∧
    (spE 0 0 l = 0 → ∀ g h', c (.exit 0) (stOf 70 [] g) h') ∧ ∀ g h', c .ret (stOf 70 [(2, gi (spE 0 0 l))] g) h')
  ok := fun i ac h c q => by
    obtain ⟨h1, h2, h3, g0, ⟨hs1, hs2⟩, h4, h5⟩ := entry_facts q
    refine J.of_told (rc_loop l n e row k hs1 hs2 ac h (.one g0) h1 h2 ?_) ?_
    · simp only [List.map_cons, List.map_nil]
      rw [h3 (0, liP n k) (by simp), h3 (2, gi 0) (by simp), h3 (4, goN 0) (by simp)]
    · rintro ex vs h' g (⟨rfl, hz⟩ | ⟨rfl, v, r, rfl⟩)
      · exact h4 hz (ov ([0, 2, 4].zip vs) g) h'
      · exact h5 (ov ((0, v) :: [4].zip r) g) h'
noncomputable def rfL (a0 : P2) (l : List P2) (m e row k : Nat) (w : Int) : Loops Tryz.prog where
  body := fun _ => loopOf Tryz.prog 23 0
  spec := fun _ ac h c => entry ac 55 [(0, liP (m + 1) k), (1, gi w), (4, gi 0), (5, goN 1)] (h.get Tryz.prog.globals.size = some (.cells (cellsP (a0 :: l)) e row true) ∧ (l.length = m ∧ m + 1 ≤ 65536 ∧ okS a0 l ∧ 0 < w) ∧
    (fRa w a0 l = ((a0 :: l).getD m (0, 0)).2 → ∀ g, c (.exit 0) (stOf 55 [(0, liP (m + 1) k)] g) (roH (cellsP (a0 :: l)) e row)) ∧ ∀ g h', c .ret (stOf 55 [(4, gi (fRa w a0 l))] g) h')
  ok := fun i ac h c q => by
    obtain ⟨h1, h2, h3, g0, ⟨hs1, hs2, hs3, hs4⟩, h4, h5⟩ := entry_facts q
    refine J.of_told (rf_loop a0 l m e row k w hs1 hs2 hs3 hs4 ac h (.one g0) h1 h2 ?_) ?_
    · simp only [List.map_cons, List.map_nil]
      rw [h3 (0, liP (m + 1) k) (by simp), h3 (1, gi w) (by simp), h3 (4, gi 0) (by simp), h3 (5, goN 1) (by simp)]
    · rintro ex vs h' g (⟨rfl, hz, rfl, rfl⟩ | ⟨rfl, v, v', r, rfl⟩)
      · exact h4 hz (ov [(1, gi w), (4, gi 0), (5, goN (m + 1))] g)
      · exact h5 (ov ((0, v) :: (1, v') :: [5].zip r) g) h'
theorem ep_run (l : List P2) (n e row k : Nat) (a b : Int) (K : Value → Prop) : callC Tryz.prog (exec Tryz.prog orcSd 10) (syOf []) askSd (epL l n e row k a b) 20 84 #[liP n k, cpF] (csH (cellsP l) e row a b) (fun v _ => K v) = ((loopOf Tryz.prog 84 0 = loopOf Tryz.prog 84 0 ∧ cpF = cpF ∧ gi 0 = gi 0 ∧ liP n k = liP n k ∧ goN n = goN n ∧ gi 0 = goN 0 ∧ ((csH (cellsP l) e row a b).get (nG1) = Option.some (.cells (cellsP l) e row true) ∧ (csH (cellsP l) e row a b).get (nG1 + 1) = Option.some (.cells [gi a] 3 0 false) ∧ (csH (cellsP l) e row a b).get (nG1 + 2) = Option.some (.cells [gi b] 3 0 false)) ∧ (List.length l = n ∧ (n : Nat) ≤ 65536) ∧ (spE a b l = 0 → (∀ _ : Nat → Value, (∀ _ : AHeap, K (gi 0)))) ∧ (∀ _ : Nat → Value, (∀ _ : AHeap, K (gi (spE a b l)))))) := by kernel_rfl
theorem fi_run (l : List P2) (n e row k e' row' : Nat) (w : Int) (K : Value → Prop) : callC Tryz.prog (exec Tryz.prog orcSd 10) (syOf []) askSd (fiL l n e row k e' row' w) 20 167 #[liP n k, fiF] (canon Tryz.prog [(cellsP l, e, row), ([gi w], e', row')]) (fun v _ => K v) = ((loopOf Tryz.prog 167 0 = loopOf Tryz.prog 167 0 ∧ liP n k = liP n k ∧ fiF = fiF ∧ gi 0 = gi 0 ∧ goN n = goN n ∧ gi 0 = goN 0 ∧ ((canon Tryz.prog [Prod.mk (cellsP l) (Prod.mk e row), Prod.mk [gi w] (Prod.mk e' row')]).get (nG1) = Option.some (.cells (cellsP l) e row true) ∧ (canon Tryz.prog [Prod.mk (cellsP l) (Prod.mk e row), Prod.mk [gi w] (Prod.mk e' row')]).get (nG1 + 1) = Option.some (.cells [gi w] e' row' true)) ∧ (List.length l = n ∧ (n : Nat) ≤ 65536) ∧ (ixF w l 0 = (-1) → (∀ _ : Nat → Value, (∀ _ : AHeap, K (gi (-1))))) ∧ (∀ _ : Nat → Value, (∀ _ : AHeap, K (gi (ixF w l 0)))))) := by kernel_rfl
theorem rc_run (l : List P2) (n e row k : Nat) (K : Value → Prop) : callC Tryz.prog (exec Tryz.prog orcSd 10) (syOf [(17, 1)]) askSd (rcL l n e row k) 20 21 #[liP n k] (canon Tryz.prog [(cellsP l, e, row)]) (fun v _ => K v) = ((((!(ieq (firstS [whenS (ilt (Int.ofNat n) 2) 16, whenS (ilt 8 (Int.ofNat n)) 5]) 0)) = true → K (gi (firstS [whenS (ilt (Int.ofNat n) 2) 16, whenS (ilt 8 (Int.ofNat n)) 5]))) ∧ ((!(ieq (firstS [whenS (ilt (Int.ofNat n) 2) 16, whenS (ilt 8 (Int.ofNat n)) 5]) 0)) = false → (loopOf Tryz.prog 21 0 = loopOf Tryz.prog 21 0 ∧ liP n k = liP n k ∧ gi 0 = gi 0 ∧ gi 0 = goN 0 ∧ ((canon Tryz.prog [Prod.mk (cellsP l) (Prod.mk e row)]).push (.cells [gi (whenS (ilt (Int.ofNat n) 2) 16), gi (whenS (ilt 8 (Int.ofNat n)) 5)] 3 2 false)).get (nG1) = Option.some (.cells (cellsP l) e row true) ∧ (List.length l = n ∧ (n : Nat) ≤ 65536) ∧ (spE 0 0 l = 0 → (∀ _ : Nat → Value, (∀ _ : AHeap, K (gi 0)))) ∧ (∀ _ : Nat → Value, (∀ _ : AHeap, K (gi (spE 0 0 l)))))))) := by kernel_rfl
theorem rf_run (a0 : P2) (l : List P2) (m e row k : Nat) (w : Int) (K : Value → Prop) : callC Tryz.prog (exec Tryz.prog orcSd 10) (syOf [(9, 1), (51, 33), (52, 2), (54, 3)]) askSd (rfL a0 l m e row k w) 20 23 #[liP (m + 1) k, gi w] (canon Tryz.prog [(cellsP (a0 :: l), e, row)]) (fun v _ => K v) = ((((!(ilt 0 w)) = true → K (gi 0)) ∧ ((!(ilt 0 w)) = false → (loopOf Tryz.prog 23 0 = loopOf Tryz.prog 23 0 ∧ liP (m + 1) k = liP (m + 1) k ∧ gi w = gi w ∧ gi 0 = gi 0 ∧ gi 1 = goN 1 ∧ (canon Tryz.prog [Prod.mk (cellsP (a0 :: l)) (Prod.mk e row)]).get (nG1) = Option.some (.cells (cellsP (a0 :: l)) e row true) ∧ (List.length l = m ∧ ((m + 1) : Nat) ≤ 65536 ∧ okS a0 l ∧ (0 : Int) < w) ∧ (fRa w a0 l = (((a0 :: l).getD m (0, 0)).2) → (∀ _ : Nat → Value, (inI64 (Int.ofNat (m + 1) - 1) = true ∧ ahasIndex (Int.ofNat (m + 1) - 1) (m + 1) = true ∧ (cellsP (a0 :: l))[((0 + (Int.toNat (Int.ofNat (m + 1) - 1) * 2)) + 1)]? = Option.some (gi (intAt (cellsP (a0 :: l)) ((0 + (Int.toNat (Int.ofNat (m + 1) - 1) * 2)) + 1))) ∧ K (gi (intAt (cellsP (a0 :: l)) ((0 + (Int.toNat (Int.ofNat (m + 1) - 1) * 2)) + 1)))))) ∧ (∀ _ : Nat → Value, (∀ _ : AHeap, K (gi (fRa w a0 l)))))))) := by kernel_rfl
end Go.Proofs.YtmlfpmkhfklbfaaGreatDoor
