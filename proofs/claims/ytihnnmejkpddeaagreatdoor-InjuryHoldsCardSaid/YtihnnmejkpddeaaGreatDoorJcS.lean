/-
  OWN WORK. Lists of integers that are the same, as known calls (for stages without intervals).
-/
import Derived.Test.YtihnnmejkpddeaaGreatDoorSgCX
import Derived.Test.YtihnnmejkpddeaaGreatDoorLsA
namespace Go.Proofs.YtihnnmejkpddeaaGreatDoor
open Go Go.Am
noncomputable abbrev tw2 (c c' : List Value) (e row e' row' : Nat) : AHeap := canon Tryz.prog [(c, e, row), (c', e', row')]
theorem si_body (c c' : List Value) (e row e' row' n k k' j : Nat) (g : Nat → Value) (Q : Exit → List Value → AHeap → Prop) : execC Tryz.prog (exec Tryz.prog orcCm 10) (syOf [(14, 1), (19, 2), (20, 3), (23, 2), (24, 3), (25, 1)]) noAsks (noLoops _) 40 (loopOf Tryz.prog 42 0) (stOf 26 [(0, liP n k), (1, slQ n k'), (5, goN j)] g) (tw2 c c' e row e' row') (told 26 [0, 1, 5] Q) = (((Nat.blt j n = true → (Nat.blt j n = true ∧ c[(0 + (j * 1))]? = Option.some (gi (intAt c (0 + (j * 1)))) ∧ Nat.blt j n = true ∧ c'[(0 + (j * 1))]? = Option.some (gi (intAt c' (0 + (j * 1)))) ∧ ((!(ieq (intAt c (0 + (j * 1))) (intAt c' (0 + (j * 1))))) = true → Q .ret [liP n k, slQ n k', goN j] (tw2 c c' e row e' row')) ∧ ((!(ieq (intAt c (0 + (j * 1))) (intAt c' (0 + (j * 1))))) = false → Q .normal [liP n k, slQ n k', gi (fwrap IntKind.i64 (Int.ofNat (j + 1)))] (tw2 c c' e row e' row')))) ∧ (Nat.blt j n = false → Q (.exit 0) [liP n k, slQ n k', goN j] (tw2 c c' e row e' row')))) := by kernel_rfl
set_option maxRecDepth 100000 in
theorem si_loop (l : List Int) (n e row e' row' k k' : Nat) (hn : n ≤ l.length) (h1 : n ≤ 65536) : ∀ a : AAct, a.n = 26 → a.marks = [] → [0, 1, 5].map a.tmp = [liP n k, slQ n k', goN 0] →
    J Tryz.prog (.loop (loopOf Tryz.prog 42 0)) a (tw2 (l.map gi) (l.map gi) e row e' row') (told 26 [0, 1, 5] fun ex _ h => ex = .exit 0 ∧ h = tw2 (l.map gi) (l.map gi) e row e' row') := by
  refine scan_rule _ (fun j => [liP n k, slQ n k', goN j]) (fun _ => True) n trivial _ ?_ ?_
  · intro j hj _ g
    obtain ⟨f1, _⟩ := first_at (l := l) (j := j) (by omega)
    refine execC_ok mixed orcCm_ok (noAsks_ok _) (noLoops _) (Eq.mpr (si_body _ _ e row e' row' n k k' j g _) ⟨fun hlt => ⟨hlt, f1, hlt, f1, fun hx => ?_, fun _ => ⟨trivial, by rw [fwrap_nat (by omega)], rfl⟩⟩, fun hge => absurd (blt_false hge) (by omega)⟩)
    rw [ieq_self] at hx; cases hx
  · intro _ g
    exact execC_ok mixed orcCm_ok (noAsks_ok _) (noLoops _) (Eq.mpr (si_body _ _ e row e' row' n k k' n g _) ⟨fun hlt => absurd (blt_true hlt) (by omega), fun _ => ⟨rfl, rfl⟩⟩)
noncomputable abbrev SameL (f : FuncId) (c : List Value) (n e row e' row' k k' : Nat) (C : Prop) (hC : C → ∀ a : AAct, a.n = 26 → a.marks = [] → [0, 1, 5].map a.tmp = [liP n k, slQ n k', goN 0] →
    J Tryz.prog (.loop (loopOf Tryz.prog f 0)) a (tw2 c c e row e' row') (told 26 [0, 1, 5] fun ex _ h => ex = .exit 0 ∧ h = tw2 c c e row e' row')) : Loops Tryz.prog where
  body := fun _ => loopOf Tryz.prog f 0
  spec := fun _ a h q => entry a 26 [(0, liP n k), (1, slQ n k'), (5, goN 0)] (h = tw2 c c e row e' row' ∧ C ∧ ∀ g, q (.exit 0) (stOf 26 [] g) (tw2 c c e row e' row'))
  ok := fun i a h q p => by
    obtain ⟨h1, h2, h3, rfl, hc, h4⟩ := entry_facts p
    refine J.of_told (hC hc a h1 h2 ?_) ?_
    · simp only [List.map_cons, List.map_nil]
      rw [h3 (0, liP n k) (by simp), h3 (1, slQ n k') (by simp), h3 (5, goN 0) (by simp)]
    · rintro ex vs h' g ⟨rfl, rfl⟩
      exact h4 (ov ([0, 1, 5].zip vs) g)
noncomputable def siL (l : List Int) (n e row e' row' k k' : Nat) := SameL 42 (l.map gi) n e row e' row' k k' (n ≤ l.length ∧ n ≤ 65536) fun h => si_loop l n e row e' row' k k' h.1 h.2
theorem si_run (l : List Int) (m e row e' row' k k' : Nat) (K : Value → Prop) : callC Tryz.prog (exec Tryz.prog orcCm 10) (syOf [(10, 32)]) noAsks (siL l (m + 1) e row e' row' k k') 40 42 #[liP (m + 1) k, slQ (m + 1) k'] (tw2 (l.map gi) (l.map gi) e row e' row') (fun v _ => K v) =
  ((!(ieq (Int.ofNat (m + 1)) (Int.ofNat (m + 1)))) = false ∧ loopOf Tryz.prog 42 0 = loopOf Tryz.prog 42 0 ∧ liP (m + 1) k = liP (m + 1) k ∧ slQ (m + 1) k' = slQ (m + 1) k' ∧ gi 0 = goN 0 ∧ tw2 (l.map gi) (l.map gi) e row e' row' = tw2 (l.map gi) (l.map gi) e row e' row' ∧ (m + 1 ≤ l.length ∧ m + 1 ≤ 65536) ∧ ∀ _ : Nat → Value, K (.bool true)) := by kernel_rfl
theorem si_nil : (call Tryz.prog orcCm 40 42 #[nilS, nilS] (canon Tryz.prog [])).map (·.1) = some (.bool true) := by kernel_rfl
def siC (vs : List Value) (B : List Cells) : Prop := (vs = [nilS, nilS] ∧ B = []) ∨ ∃ (l : List Int) (m k e row k' e' row' : Nat), vs = [liP (m + 1) k, slQ (m + 1) k'] ∧ B = [(l.map gi, e, row), (l.map gi, e', row')] ∧ m + 1 ≤ l.length ∧ m + 1 ≤ 65536
open Classical in
noncomputable def cnX (C : List Value → List Cells → Prop) (vs : List Value) (B : List Cells) : Option Out := if C vs B then some (.plain (.bool true)) else none
noncomputable def cnY (C : List Value → List Cells → Prop) (vs : List Value) (B : List Cells) (K : Out → Prop) : Prop := C vs B ∧ K (.plain (.bool true))
theorem cnY_ok {C : List Value → List Cells → Prop} (vs : List Value) (B : List Cells) (K : Out → Prop) (h : cnY C vs B K) : ∃ o, cnX C vs B = some o ∧ K o := ⟨_, if_pos h.1, h.2⟩
theorem cnX_some {C : List Value → List Cells → Prop} {vs : List Value} {B : List Cells} {o : Out} (h : cnX C vs B = some o) : C vs B ∧ o = .plain (.bool true) := by
  unfold cnX at h
  split at h
  · rename_i hc; cases h; exact ⟨hc, rfl⟩
  · cases h
set_option maxRecDepth 100000 in
theorem same_i {orc : Orc} (ho : OrcOk Tryz.prog orc) : OrcOk Tryz.prog (orElse 42 (anyO Tryz.prog.globals.size (cnX siC)) orc) := by
  refine anyO_ok globs_pos ho fun vs B o h _ => ?_
  obtain ⟨⟨rfl, rfl⟩ | ⟨l, m, k, e, row, k', e', row', rfl, rfl, h1, h2⟩, rfl⟩ := cnX_some h
  · exact ⟨rfl, CallJ.of_call mixed orcCm_ok si_nil fun _ => rfl⟩
  · exact ⟨rfl, callC_ok mixed orcCm_ok (noAsks_ok _) (Eq.mpr (si_run l m e row e' row' k k' _) ⟨by rw [ieq_self]; rfl, rfl, rfl, rfl, rfl, rfl, ⟨h1, h2⟩, fun _ => rfl⟩)⟩
end Go.Proofs.YtihnnmejkpddeaaGreatDoor
