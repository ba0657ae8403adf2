/-
  OWN WORK. Stage 6: greatest sums by limits and moments: moments of the program in the good case; entries for the law.
-/
import Derived.Test.YtihnnmejkpddeaaGreatDoorJcR
namespace Go.Proofs.YtihnnmejkpddeaaGreatDoor
open Go Go.Am

noncomputable abbrev pmAt : Nat → Nat := fun q => match q with
  | 0 => Tryz.prog.globals.size + 1
  | _ => Tryz.prog.globals.size + 3
noncomputable def pmLo (a b : List Int) (u : Int) (n e row k : Nat) : Loops Tryz.prog where
  body := fun _ => loopOf Tryz.prog 37 0
  spec := fun _ s h c => entry s 42 [(2, gi u), (9, .slice (some ⟨Tryz.prog.globals.size + 3, 0, none⟩) n n), (24, slQ n k), (25, goN n), (26, goN 0)] (h.get (nG1 + 1) = some (.cells (b.map gi) e row true) ∧ h.get (nG1 + 3) = some (.cells (a.map gi) 3 2 false) ∧ ((a.length = n ∧ b.length = n ∧ n ≤ 65536) ∧ bdU a ∧ bdU b ∧ limS u) ∧ ∀ g, c (.exit 0) (stOf 42 [(9, slN 1 n n)] g) (pmH (b.map gi) ((moL u a b).map gi) e row))
  ok := fun i s h c q => by
    obtain ⟨h1, h2, h3, g0, g1, ⟨⟨ha, hb, hs⟩, ba, bb, hu⟩, h5⟩ := entry_facts q
    refine J.of_told (pm_loop a b u n e row k n ha hb ba bb hu hs pmAt (by decide) (fun q hq => ?_) (fun j => by kernel_rfl) s h (fun q b hb => ?_) h1 h2 ?_) ?_
    · match q, hq with
      | 0, _ => show Tryz.prog.globals.size ≤ Tryz.prog.globals.size + 1; omega
      | 1, _ => show Tryz.prog.globals.size ≤ Tryz.prog.globals.size + 3; omega
    · match q, hb with
      | 0, hb => cases hb; exact g0
      | 1, hb => cases hb; exact g1
    · simp only [List.map_cons, List.map_nil]
      rw [h3 (2, gi u) (by simp), h3 (9, .slice (some ⟨Tryz.prog.globals.size + 3, 0, none⟩) n n) (by simp), h3 (24, slQ n k) (by simp), h3 (25, goN n) (by simp), h3 (26, goN 0) (by simp)]
      rfl
    · rintro ex vs h' g ⟨rfl, rfl, rfl⟩
      exact h5 (ov [(2, gi u), (24, liP n k), (25, goN n), (26, goN n)] g)
theorem pm_ok (a b : List Int) (u : Int) (m e row k e' row' k' : Nat) (K : Value → AHeap → Prop) : callC Tryz.prog (exec Tryz.prog orcJh 20) (syOf [(14, 7), (20, 32), (23, 7)]) (askJh (m + 1)) (pmLo a b u (m + 1) e' row' k') 40 37 #[liP (m + 1) k, slQ (m + 1) k', gi u] (i2H a e row b e' row') K = (((List.all (List.map gi a) (flat 3) = true ∧ List.all (List.map gi b) (flat 3) = true ∧ True) ∧ okT tiT (List.map gi a) (m + 1) ∧ okT tiT (List.map gi b) (m + 1) ∧ one2 cSe (TellT.dec tiT (List.map gi a)) (TellT.dec tiT (List.map gi b)) [Value.func (.func 35) #[] #[]] ∧ (!(ieq (firstS [pairE (TellT.dec tiT (List.map gi a)) (TellT.dec tiT (List.map gi b)), withinS u (-1000) 1000]) 0)) = false ∧ (List.all (List.map gi a) (flat 3) = true ∧ True) ∧ okT tiT (List.map gi a) (m + 1) ∧ clC (TellT.dec tiT (List.map gi a)) [] ∧ loopOf Tryz.prog 37 0 = loopOf Tryz.prog 37 0 ∧ gi u = gi u ∧ Value.slice (some ⟨nG1 + 3, 0, none⟩) (m + 1) (m + 1) = Value.slice (some ⟨nG1 + 3, 0, none⟩) (m + 1) (m + 1) ∧ slQ (m + 1) k' = slQ (m + 1) k' ∧ goN (m + 1) = goN (m + 1) ∧ gi 0 = goN 0 ∧ (((i2H a e row b e' row').push (.cells [gi (pairE (TellT.dec tiT (List.map gi a)) (TellT.dec tiT (List.map gi b))), gi (withinS u (-1000) 1000)] 33 2 false)).push (.cells (List.map gi (TellT.dec tiT (List.map gi a))) 3 2 false)).get (nG1 + 1) = Option.some (.cells (List.map gi b) e' row' true) ∧ (((i2H a e row b e' row').push (.cells [gi (pairE (TellT.dec tiT (List.map gi a)) (TellT.dec tiT (List.map gi b))), gi (withinS u (-1000) 1000)] 33 2 false)).push (.cells (List.map gi (TellT.dec tiT (List.map gi a))) 3 2 false)).get (nG1 + 3) = Option.some (.cells (List.map gi a) 3 2 false) ∧ ((List.length a = (m + 1) ∧ List.length b = (m + 1) ∧ ((m + 1) : Nat) ≤ 65536) ∧ bdU a ∧ bdU b ∧ limS u) ∧ (∀ _ : Nat → Value, K (Value.tuple #[slN 1 (m + 1) (m + 1), gi 0]) (pmH (List.map gi b) (List.map gi (moL u a b)) e' row')))) := by kernel_rfl
end Go.Proofs.YtihnnmejkpddeaaGreatDoor
