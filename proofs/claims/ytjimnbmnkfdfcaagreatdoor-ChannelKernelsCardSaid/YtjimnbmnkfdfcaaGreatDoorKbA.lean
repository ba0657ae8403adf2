/-
  Kernels: weights, and lists that are the same, as known calls.
-/
import Derived.Test.YtjimnbmnkfdfcaaGreatDoorKaX
/-! (OWN WORK. Kernels: the program's Weights, ShortKernel.) -/
namespace Go.Proofs.YtjimnbmnkfdfcaaGreatDoor
open Go Go.Am
noncomputable abbrev weV (e : Int) : Value := .tuple #[nilS, gi 0, gi e]
noncomputable def wtQ (kl : List Int) (q m : Nat) (K : Value → Option AObj → Prop) : Prop :=
  (List.all (kl.map gi) (flat 3) = true ∧ True) ∧ true = true ∧ ∃ x1 : List Int, kl.map gi = x1.map gi ∧ (0 < q ∧ x1.length = q ∧ q ≤ 65536) ∧ noC x1 [] ∧ (!(ieq (keE x1) 0)) = false ∧ (List.all (kl.map gi) (flat 3) = true ∧ True) ∧ true = true ∧
  ∃ x2 : List Int, kl.map gi = x2.map gi ∧ (0 < q ∧ x2.length = q ∧ q ≤ 65536) ∧ (([] : List Value) = [] ∧ keE x2 = 0) ∧ x2.length = q ∧ K (.tuple #[slX (nG1 + 1) m m, gi (sumW x2 * sumW x2), gi 0]) (some (.cells ((wtsE x2).map gi) 3 2 false))
theorem wt_1 (a : Int) (k e row : Nat) (K : Value → Option AObj → Prop) : callC Tryz.prog (exec Tryz.prog orcKn 10) (syOf [(8, 7), (10, 32), (13, 7)]) (askKn 1) (noLoops _) 20 14 #[slX nG1 1 k] (canon Tryz.prog [([a].map gi, e, row)]) (fun v h => K v (h.get (nG1 + 1))) = wtQ [a] 1 1 K := by kernel_rfl
theorem wt_2 (a b : Int) (k e row : Nat) (K : Value → Option AObj → Prop) : callC Tryz.prog (exec Tryz.prog orcKn 10) (syOf [(8, 7), (10, 32), (13, 7)]) (askKn 2) (noLoops _) 20 14 #[slX nG1 2 k] (canon Tryz.prog [([a, b].map gi, e, row)]) (fun v h => K v (h.get (nG1 + 1))) = wtQ [a, b] 2 3 K := by kernel_rfl
theorem wt_3 (a b c : Int) (k e row : Nat) (K : Value → Option AObj → Prop) : callC Tryz.prog (exec Tryz.prog orcKn 10) (syOf [(8, 7), (10, 32), (13, 7)]) (askKn 3) (noLoops _) 20 14 #[slX nG1 3 k] (canon Tryz.prog [([a, b, c].map gi, e, row)]) (fun v h => K v (h.get (nG1 + 1))) = wtQ [a, b, c] 3 5 K := by kernel_rfl
theorem wt_4 (a b c d : Int) (k e row : Nat) (K : Value → Option AObj → Prop) : callC Tryz.prog (exec Tryz.prog orcKn 10) (syOf [(8, 7), (10, 32), (13, 7)]) (askKn 4) (noLoops _) 20 14 #[slX nG1 4 k] (canon Tryz.prog [([a, b, c, d].map gi, e, row)]) (fun v h => K v (h.get (nG1 + 1))) = wtQ [a, b, c, d] 4 7 K := by kernel_rfl
theorem wt_5 (a b c d p : Int) (k e row : Nat) (K : Value → Option AObj → Prop) : callC Tryz.prog (exec Tryz.prog orcKn 10) (syOf [(8, 7), (10, 32), (13, 7)]) (askKn 5) (noLoops _) 20 14 #[slX nG1 5 k] (canon Tryz.prog [([a, b, c, d, p].map gi, e, row)]) (fun v h => K v (h.get (nG1 + 1))) = wtQ [a, b, c, d, p] 5 9 K := by kernel_rfl
theorem wt_6 (a b c d p u : Int) (k e row : Nat) (K : Value → Option AObj → Prop) : callC Tryz.prog (exec Tryz.prog orcKn 10) (syOf [(8, 7), (10, 32), (13, 7)]) (askKn 6) (noLoops _) 20 14 #[slX nG1 6 k] (canon Tryz.prog [([a, b, c, d, p, u].map gi, e, row)]) (fun v h => K v (h.get (nG1 + 1))) = wtQ [a, b, c, d, p, u] 6 11 K := by kernel_rfl
theorem wt_7 (a b c d p u z : Int) (k e row : Nat) (K : Value → Option AObj → Prop) : callC Tryz.prog (exec Tryz.prog orcKn 10) (syOf [(8, 7), (10, 32), (13, 7)]) (askKn 7) (noLoops _) 20 14 #[slX nG1 7 k] (canon Tryz.prog [([a, b, c, d, p, u, z].map gi, e, row)]) (fun v h => K v (h.get (nG1 + 1))) = wtQ [a, b, c, d, p, u, z] 7 13 K := by kernel_rfl
theorem we_run (l : List Int) (m k e row : Nat) (K : Value → Prop) : callC Tryz.prog (exec Tryz.prog orcKn 10) (syOf [(8, 7), (10, 31)]) (askKn 2) (noLoops _) 20 14 #[slX nG1 (m + 1) k] (canon Tryz.prog [(l.map gi, e, row)]) (fun v _ => K v) = ((List.all (l.map gi) (flat 3) = true ∧ True) ∧ true = true ∧ ∃ x1 : List Int, l.map gi = x1.map gi ∧ (0 < m + 1 ∧ x1.length = m + 1 ∧ m + 1 ≤ 65536) ∧ noC x1 [] ∧ (!(ieq (keE x1) 0)) = true ∧ K (weV (keE x1))) := by kernel_rfl
theorem wn_run (K : Value → Prop) : callC Tryz.prog (exec Tryz.prog orcKn 10) (syOf [(8, 7)]) (askKn 2) (noLoops _) 20 14 #[nilS] (canon Tryz.prog []) (fun v _ => K v) = (True ∧ noC ([] : List Int) [] ∧ K (weV 12)) := by kernel_rfl
theorem wm_run (j : Nat) (K : Value → Prop) : callC Tryz.prog (exec Tryz.prog orcKn 10) (syOf [(8, 7)]) (askKn 2) (noLoops _) 20 14 #[emS j] (canon Tryz.prog []) (fun v _ => K v) = (True ∧ noC ([] : List Int) [] ∧ K (weV 12)) := by kernel_rfl
def wtC : List Int → List Value → Prop := fun _ r => r = []
open Classical in
noncomputable def wtO : List Int → List Value → Out := fun l _ => if keE l = 0 then .fresh (tupM [] (2 * l.length - 1) [gi (sumW l * sumW l), gi 0]) ((wtsE l).map gi) 3 else .plain (weV (keE l))
noncomputable def orcKo : Orc := orElse 14 (lstI Tryz.prog.globals.size tI wtC wtO) orcKn
set_option maxRecDepth 100000 in
theorem wt_call (kl : List Int) (hk : keE kl = 0) (k e row : Nat) : CallJ Tryz.prog 14 #[slX nG1 kl.length k] (canon Tryz.prog [(kl.map gi, e, row)]) (wtO kl []).Got := by
  obtain ⟨⟨h1, h2⟩, _, _⟩ := ke_valid hk
  have hf : ∀ kl : List Int, (List.all (kl.map gi) (flat 3) = true ∧ True) := fun kl => ⟨flat_ints kl, trivial⟩
  have h0 : ∀ {kl : List Int}, keE kl = 0 → (!(ieq (keE kl) 0)) = false := fun hk => by rw [hk]; rfl
  have fin : CallJ Tryz.prog 14 #[slX nG1 kl.length k] (canon Tryz.prog [(kl.map gi, e, row)]) (fun v h => v = .tuple #[slX (nG1 + 1) (2 * kl.length - 1) (2 * kl.length - 1), gi (sumW kl * sumW kl), gi 0] ∧ h.get (nG1 + 1) = some (.cells ((wtsE kl).map gi) 3 2 false)) :=
    match kl, h1, h2, hk with
    | [a], _, _, hk => callC_ok mixed orcKn_ok (askKn_ok 1) (Eq.mpr (wt_1 a k e row fun v o => v = _ ∧ o = _) ⟨hf _, rfl, _, rfl, ⟨by omega, rfl, by omega⟩, rfl, h0 hk, hf _, rfl, _, rfl, ⟨by omega, rfl, by omega⟩, ⟨rfl, hk⟩, rfl, rfl, rfl⟩)
    | [a, b], _, _, hk => callC_ok mixed orcKn_ok (askKn_ok 2) (Eq.mpr (wt_2 a b k e row fun v o => v = _ ∧ o = _) ⟨hf _, rfl, _, rfl, ⟨by omega, rfl, by omega⟩, rfl, h0 hk, hf _, rfl, _, rfl, ⟨by omega, rfl, by omega⟩, ⟨rfl, hk⟩, rfl, rfl, rfl⟩)
    | [a, b, c], _, _, hk => callC_ok mixed orcKn_ok (askKn_ok 3) (Eq.mpr (wt_3 a b c k e row fun v o => v = _ ∧ o = _) ⟨hf _, rfl, _, rfl, ⟨by omega, rfl, by omega⟩, rfl, h0 hk, hf _, rfl, _, rfl, ⟨by omega, rfl, by omega⟩, ⟨rfl, hk⟩, rfl, rfl, rfl⟩)
    | [a, b, c, d], _, _, hk => callC_ok mixed orcKn_ok (askKn_ok 4) (Eq.mpr (wt_4 a b c d k e row fun v o => v = _ ∧ o = _) ⟨hf _, rfl, _, rfl, ⟨by omega, rfl, by omega⟩, rfl, h0 hk, hf _, rfl, _, rfl, ⟨by omega, rfl, by omega⟩, ⟨rfl, hk⟩, rfl, rfl, rfl⟩)
    | [a, b, c, d, p], _, _, hk => callC_ok mixed orcKn_ok (askKn_ok 5) (Eq.mpr (wt_5 a b c d p k e row fun v o => v = _ ∧ o = _) ⟨hf _, rfl, _, rfl, ⟨by omega, rfl, by omega⟩, rfl, h0 hk, hf _, rfl, _, rfl, ⟨by omega, rfl, by omega⟩, ⟨rfl, hk⟩, rfl, rfl, rfl⟩)
    | [a, b, c, d, p, u], _, _, hk => callC_ok mixed orcKn_ok (askKn_ok 6) (Eq.mpr (wt_6 a b c d p u k e row fun v o => v = _ ∧ o = _) ⟨hf _, rfl, _, rfl, ⟨by omega, rfl, by omega⟩, rfl, h0 hk, hf _, rfl, _, rfl, ⟨by omega, rfl, by omega⟩, ⟨rfl, hk⟩, rfl, rfl, rfl⟩)
    | [a, b, c, d, p, u, z], _, _, hk => callC_ok mixed orcKn_ok (askKn_ok 7) (Eq.mpr (wt_7 a b c d p u z k e row fun v o => v = _ ∧ o = _) ⟨hf _, rfl, _, rfl, ⟨by omega, rfl, by omega⟩, rfl, h0 hk, hf _, rfl, _, rfl, ⟨by omega, rfl, by omega⟩, ⟨rfl, hk⟩, rfl, rfl, rfl⟩)
    | _ :: _ :: _ :: _ :: _ :: _ :: _ :: _ :: _, _, h2, _ => absurd h2 (by simp)
  refine fin.mono fun v h ⟨e1, e2⟩ => ?_
  unfold wtO
  rw [if_pos hk]
  exact ⟨_, e1, e2⟩
set_option maxRecDepth 100000 in
theorem orcKo_ok : OrcOk Tryz.prog orcKo := by
  have hn : wtO [] [] = .plain (weV 12) := by
    unfold wtO
    rw [keE_nil, if_neg (by decide)]
  refine lstI_ok globs_pos orcKn_ok (fun l r _ => ?_) (fun r h => ?_) (fun r k h => ?_) fun l r m e row k h hl h1 => ?_
  · unfold wtO
    split
    · exact ⟨names_tup rfl rfl, flat_ints _⟩
    · exact rfl
  · obtain rfl := h
    rw [show wtO [] [] = _ from hn]
    exact callC_ok mixed orcKn_ok (askKn_ok 2) (Eq.mpr (wn_run _) ⟨trivial, rfl, rfl⟩)
  · obtain rfl := h
    rw [show wtO [] [] = _ from hn]
    exact callC_ok mixed orcKn_ok (askKn_ok 2) (Eq.mpr (wm_run k _) ⟨trivial, rfl, rfl⟩)
  · obtain rfl := h
    by_cases hk : keE l = 0
    · rw [← hl]; exact wt_call l hk k e row
    · unfold wtO
      rw [if_neg hk]
      refine callC_ok mixed orcKn_ok (askKn_ok 2) (Eq.mpr (we_run l m k e row _) ⟨⟨flat_ints l, trivial⟩, rfl, l, rfl, ⟨by omega, hl, h1⟩, rfl, ?_, rfl⟩)
      rw [ieq_dec, decide_eq_false hk]; rfl
noncomputable def wtY (n : Nat) (l : List Int) (r : List Value) (K : Out → Prop) : Prop := r = [] ∧ (keE l ≠ 0 → K (.plain (weV (keE l)))) ∧ (keE l = 0 → l.length = n ∧ K (.fresh (tupM [] (2 * n - 1) [gi (sumW l * sumW l), gi 0]) ((wtsE l).map gi) 3))
theorem wtY_ok (n : Nat) (l : List Int) (r : List Value) (K : Out → Prop) (h : wtY n l r K) : ∃ o, ifX wtC wtO l r = some o ∧ K o := by
  obtain ⟨hc, h1, h2⟩ := h
  refine ⟨_, if_pos hc, ?_⟩
  unfold wtO
  split
  · rename_i hk
    obtain ⟨rfl, hk'⟩ := h2 hk
    exact hk'
  · rename_i hk; exact h1 hk
noncomputable def askKo (n : Nat) : Asks := asksT' Tryz.prog.globals.size 14 tI (wtY n) (askKn n)
theorem askKo_ok (n : Nat) : AsksOk orcKo (askKo n) := asksT'_ok (wtY_ok n) (askKn_ok n)
end Go.Proofs.YtjimnbmnkfdfcaaGreatDoor
/-! (OWN WORK. Kernels: ShortKernel; lists of samples, and of integers, that are the same.) -/
namespace Go.Proofs.YtjimnbmnkfdfcaaGreatDoor
open Go Go.Am
noncomputable abbrev twC (c c' : List Value) (e row e' row' : Nat) : List Blk := [(c, e, row, true), (c', e', row', true)]
noncomputable abbrev twH (c c' : List Value) (e row e' row' : Nat) : AHeap := canonT [] (fun _ => 0) Tryz.prog.globals.size (twC c c' e row e' row')
theorem sf_body (c c' : List Value) (e row e' row' n k m k' j : Nat) (g : Nat → Value) (Q : Exit → List Value → AHeap → Prop) : execC Tryz.prog (exec Tryz.prog orcKo 10) (syOf [(14, 1), (19, 2), (20, 3), (23, 2), (24, 3), (25, 1)]) (askKo 1) (noLoops _) 40 (loopOf Tryz.prog 22 0) (stOf 26 [(0, slX nG1 n k), (1, slX (nG1 + 1) m k'), (5, goN j)] g) (twH c c' e row e' row') (told 26 [0, 1, 5] Q) = (((Nat.blt j n = true → (Nat.blt j n = true ∧ c[(0 + (j * 1))]? = Option.some (gf (floatAt c (0 + (j * 1)))) ∧ Nat.blt j m = true ∧ c'[(0 + (j * 1))]? = Option.some (gf (floatAt c' (0 + (j * 1)))) ∧ (bne (Ieee.Format.order (FloatKind.format FloatKind.f32) (floatAt c (0 + (j * 1))) (floatAt c' (0 + (j * 1)))) (Option.some Ordering.eq) = true → Q .ret [slX nG1 n k, slX (nG1 + 1) m k', goN j] (twH c c' e row e' row')) ∧ (bne (Ieee.Format.order (FloatKind.format FloatKind.f32) (floatAt c (0 + (j * 1))) (floatAt c' (0 + (j * 1)))) (Option.some Ordering.eq) = false → Q .normal [slX nG1 n k, slX (nG1 + 1) m k', gi (fwrap IntKind.i64 (Int.ofNat (j + 1)))] (twH c c' e row e' row')))) ∧ (Nat.blt j n = false → Q (.exit 0) [slX nG1 n k, slX (nG1 + 1) m k', goN j] (twH c c' e row e' row')))) := by kernel_rfl
theorem si_body (c c' : List Value) (e row e' row' n k m k' j : Nat) (g : Nat → Value) (Q : Exit → List Value → AHeap → Prop) : execC Tryz.prog (exec Tryz.prog orcKo 10) (syOf [(14, 1), (19, 2), (20, 3), (23, 2), (24, 3), (25, 1)]) (askKo 1) (noLoops _) 40 (loopOf Tryz.prog 23 0) (stOf 26 [(0, slX nG1 n k), (1, slX (nG1 + 1) m k'), (5, goN j)] g) (twH c c' e row e' row') (told 26 [0, 1, 5] Q) = (((Nat.blt j n = true → (Nat.blt j n = true ∧ c[(0 + (j * 1))]? = Option.some (gi (intAt c (0 + (j * 1)))) ∧ Nat.blt j m = true ∧ c'[(0 + (j * 1))]? = Option.some (gi (intAt c' (0 + (j * 1)))) ∧ ((!(ieq (intAt c (0 + (j * 1))) (intAt c' (0 + (j * 1))))) = true → Q .ret [slX nG1 n k, slX (nG1 + 1) m k', goN j] (twH c c' e row e' row')) ∧ ((!(ieq (intAt c (0 + (j * 1))) (intAt c' (0 + (j * 1))))) = false → Q .normal [slX nG1 n k, slX (nG1 + 1) m k', gi (fwrap IntKind.i64 (Int.ofNat (j + 1)))] (twH c c' e row e' row')))) ∧ (Nat.blt j n = false → Q (.exit 0) [slX nG1 n k, slX (nG1 + 1) m k', goN j] (twH c c' e row e' row')))) := by kernel_rfl
theorem sk_run (l : List Int) (n e row k : Nat) (K : Value → Prop) : callC Tryz.prog (exec Tryz.prog orcKo 10) (syOf []) (askKo 1) (noLoops _) 20 8 #[slX nG1 n k] (canon Tryz.prog [(l.map gi, e, row)]) (fun v _ => K v) = (K (Value.bool (!(ilt 8 (Int.ofNat n))))) := by kernel_rfl
theorem sk_nil (K : Value → Prop) : callC Tryz.prog (exec Tryz.prog orcKo 10) (syOf []) (askKo 1) (noLoops _) 20 8 #[nilS] (canon Tryz.prog []) (fun v _ => K v) = (K (Value.bool true)) := by kernel_rfl
theorem sk_emp (j : Nat) (K : Value → Prop) : callC Tryz.prog (exec Tryz.prog orcKo 10) (syOf []) (askKo 1) (noLoops _) 20 8 #[emS j] (canon Tryz.prog []) (fun v _ => K v) = (K (Value.bool true)) := by kernel_rfl
end Go.Proofs.YtjimnbmnkfdfcaaGreatDoor
/-! (OWN WORK. Kernels: lists that are the same, as known calls.) -/
namespace Go.Proofs.YtjimnbmnkfdfcaaGreatDoor
open Go Go.Am Ieee
theorem ne_self {x : Nat} (h : fin32 x) : ne32 x x = false := by
  unfold ne32
  rw [sorder_fin h h]
  simp
set_option maxRecDepth 100000 in
theorem sf_loop (l : List Nat) (n : Nat) (hl : l.length = n) (hle : n ≤ 65536) (hf : ∀ x ∈ l, fin32 x) (e row e' row' k k' : Nat) : ∀ (a : AAct) (h : AHeap), Laid (twC (l.map gf) (l.map gf) e row e' row') (nG1 + ·) h → a.n = 26 → a.marks = [] → [0, 1, 5].map a.tmp = [slX nG1 n k, slX (nG1 + 1) n k', goN 0] →
    J Tryz.prog (.loop (loopOf Tryz.prog 22 0)) a h (told 26 [0, 1, 5] fun ex vs h' => ex = .exit 0) := by
  intro a h hs ha hk hv
  refine fold_rule (L := 2) (C := fun _ => twC (l.map gf) (l.map gf) e row e' row') globs_pos (by decide) (by decide) (fun _ => rfl) (fun _ b hb => ?_) (V := fun at_ j => [slX (at_ 0) n k, slX (at_ 1) n k', goN j]) (I := fun j => True) (m := n) trivial _ (nG1 + ·) (plus_nodup _ _) (fun q _ => Nat.le_add_right _ _) (fun j => by kernel_rfl) (fun j => by kernel_rfl)
    (fun at_ j q hq => by match q, hq with | 0, _ => exact ⟨(0, slX (at_ 0) n k), by simp, by simp [named]⟩ | 1, _ => exact ⟨(1, slX (at_ 1) n k'), by simp, by simp [named]⟩) ?_ ?_ a h hs ha hk hv
  · rcases List.mem_cons.1 hb with rfl | hb
    · exact flat_floats l
    · cases List.mem_singleton.1 hb; exact flat_floats l
  · intro j hj hI g
    have hjl : j < l.length := by omega
    obtain ⟨f1, f2⟩ := float_at hjl
    refine execC_ok mixed orcKo_ok (askKo_ok 1) (noLoops _) (Eq.mpr (sf_body _ _ e row e' row' n k n k' j g _) ⟨fun hlt => ⟨hlt, f1, hlt, f1, fun hx => ?_, fun hx => ?_⟩, fun hge => absurd (blt_false hge) (by omega)⟩)
    · rw [f2] at hx
      have hs := ne_self (hf _ (List.getElem_mem hjl))
      exact absurd (show ne32 l[j] l[j] = true from hx) (by rw [hs]; decide)
    · exact ⟨trivial, by rw [fwrap_nat (by omega)]; exact rfl, .two (gC_get (C := twC _ _ _ _ _ _) (q := 0) rfl) (gC_get (C := twC _ _ _ _ _ _) (q := 1) rfl)⟩
  · intro hI g
    exact execC_ok mixed orcKo_ok (askKo_ok 1) (noLoops _) (Eq.mpr (sf_body _ _ e row e' row' n k n k' n g _) ⟨fun hlt => absurd (blt_true hlt) (by omega), fun _ => rfl⟩)
noncomputable def sfL (l : List Nat) (n e row e' row' k k' : Nat) : Loops Tryz.prog where
  body := fun _ => loopOf Tryz.prog 22 0
  spec := fun _ a h c => entry a 26 [(0, slX nG1 n k), (1, slX (nG1 + 1) n k'), (5, goN 0)] ((h.get nG1 = some (.cells (l.map gf) e row true) ∧ h.get (nG1 + 1) = some (.cells (l.map gf) e' row' true)) ∧ (l.length = n ∧ n ≤ 65536 ∧ ∀ x ∈ l, fin32 x) ∧ ∀ g h', c (.exit 0) (stOf 26 [] g) h')
  ok := fun i a h c q => by
    obtain ⟨h1, h2, h3, ⟨g0, g1⟩, hc, k1⟩ := entry_facts q
    have e0 : a.tmp 0 = slX nG1 n k := h3 (0, slX nG1 n k) (by simp)
    have e1 : a.tmp 1 = slX (nG1 + 1) n k' := h3 (1, slX (nG1 + 1) n k') (by simp)
    have e2 : a.tmp 5 = goN 0 := h3 (5, goN 0) (by simp)
    refine J.of_told (sf_loop l n hc.1 hc.2.1 hc.2.2 e row e' row' k k' a h (.two g0 g1) h1 h2 ?_) ?_
    · show [a.tmp 0, a.tmp 1, a.tmp 5] = _
      rw [e0, e1, e2]
    · rintro ex vs h' g rfl
      exact k1 (ov ([0, 1, 5].zip vs) g) h'
theorem sf_run (l : List Nat) (m k k' e row e' row' : Nat) (K : Value → Prop) : callC Tryz.prog (exec Tryz.prog orcKo 10) (syOf [(10, 32)]) (askKo 1) (sfL l (m + 1) e row e' row' k k') 40 22 #[slX nG1 (m + 1) k, slX (nG1 + 1) (m + 1) k'] (canon Tryz.prog [(l.map gf, e, row), (l.map gf, e', row')]) (fun v _ => K v) = ((!(ieq (Int.ofNat (m + 1)) (Int.ofNat (m + 1)))) = false ∧ loopOf Tryz.prog 22 0 = loopOf Tryz.prog 22 0 ∧ slX nG1 (m + 1) k = slX nG1 (m + 1) k ∧ slX (nG1 + 1) (m + 1) k' = slX (nG1 + 1) (m + 1) k' ∧ gi 0 = goN 0 ∧ (some (AObj.cells (l.map gf) e row true) = some (.cells (l.map gf) e row true) ∧ some (AObj.cells (l.map gf) e' row' true) = some (.cells (l.map gf) e' row' true)) ∧ (l.length = m + 1 ∧ m + 1 ≤ 65536 ∧ ∀ x ∈ l, fin32 x) ∧ ∀ (_ : Nat → Value) (_ : AHeap), K (.bool true)) := by kernel_rfl
set_option maxRecDepth 100000 in
theorem si_loop (l : List Int) (n : Nat) (hl : l.length = n) (hle : n ≤ 65536)  (e row e' row' k k' : Nat) : ∀ (a : AAct) (h : AHeap), Laid (twC (l.map gi) (l.map gi) e row e' row') (nG1 + ·) h → a.n = 26 → a.marks = [] → [0, 1, 5].map a.tmp = [slX nG1 n k, slX (nG1 + 1) n k', goN 0] →
    J Tryz.prog (.loop (loopOf Tryz.prog 23 0)) a h (told 26 [0, 1, 5] fun ex vs h' => ex = .exit 0) := by
  intro a h hs ha hk hv
  refine fold_rule (L := 2) (C := fun _ => twC (l.map gi) (l.map gi) e row e' row') globs_pos (by decide) (by decide) (fun _ => rfl) (fun _ b hb => ?_) (V := fun at_ j => [slX (at_ 0) n k, slX (at_ 1) n k', goN j]) (I := fun j => True) (m := n) trivial _ (nG1 + ·) (plus_nodup _ _) (fun q _ => Nat.le_add_right _ _) (fun j => by kernel_rfl) (fun j => by kernel_rfl)
    (fun at_ j q hq => by match q, hq with | 0, _ => exact ⟨(0, slX (at_ 0) n k), by simp, by simp [named]⟩ | 1, _ => exact ⟨(1, slX (at_ 1) n k'), by simp, by simp [named]⟩) ?_ ?_ a h hs ha hk hv
  · rcases List.mem_cons.1 hb with rfl | hb
    · exact flat_ints l
    · cases List.mem_singleton.1 hb; exact flat_ints l
  · intro j hj hI g
    have hjl : j < l.length := by omega
    obtain ⟨f1, f2⟩ := gi_at hjl
    refine execC_ok mixed orcKo_ok (askKo_ok 1) (noLoops _) (Eq.mpr (si_body _ _ e row e' row' n k n k' j g _) ⟨fun hlt => ⟨hlt, f1, hlt, f1, fun hx => ?_, fun hx => ?_⟩, fun hge => absurd (blt_false hge) (by omega)⟩)
    · rw [ieq_dec] at hx
      simp at hx
    · exact ⟨trivial, by rw [fwrap_nat (by omega)]; exact rfl, .two (gC_get (C := twC _ _ _ _ _ _) (q := 0) rfl) (gC_get (C := twC _ _ _ _ _ _) (q := 1) rfl)⟩
  · intro hI g
    exact execC_ok mixed orcKo_ok (askKo_ok 1) (noLoops _) (Eq.mpr (si_body _ _ e row e' row' n k n k' n g _) ⟨fun hlt => absurd (blt_true hlt) (by omega), fun _ => rfl⟩)
noncomputable def siL (l : List Int) (n e row e' row' k k' : Nat) : Loops Tryz.prog where
  body := fun _ => loopOf Tryz.prog 23 0
  spec := fun _ a h c => entry a 26 [(0, slX nG1 n k), (1, slX (nG1 + 1) n k'), (5, goN 0)] ((h.get nG1 = some (.cells (l.map gi) e row true) ∧ h.get (nG1 + 1) = some (.cells (l.map gi) e' row' true)) ∧ (l.length = n ∧ n ≤ 65536) ∧ ∀ g h', c (.exit 0) (stOf 26 [] g) h')
  ok := fun i a h c q => by
    obtain ⟨h1, h2, h3, ⟨g0, g1⟩, hc, k1⟩ := entry_facts q
    have e0 : a.tmp 0 = slX nG1 n k := h3 (0, slX nG1 n k) (by simp)
    have e1 : a.tmp 1 = slX (nG1 + 1) n k' := h3 (1, slX (nG1 + 1) n k') (by simp)
    have e2 : a.tmp 5 = goN 0 := h3 (5, goN 0) (by simp)
    refine J.of_told (si_loop l n hc.1 hc.2 e row e' row' k k' a h (.two g0 g1) h1 h2 ?_) ?_
    · show [a.tmp 0, a.tmp 1, a.tmp 5] = _
      rw [e0, e1, e2]
    · rintro ex vs h' g rfl
      exact k1 (ov ([0, 1, 5].zip vs) g) h'
theorem si_run (l : List Int) (m k k' e row e' row' : Nat) (K : Value → Prop) : callC Tryz.prog (exec Tryz.prog orcKo 10) (syOf [(10, 32)]) (askKo 1) (siL l (m + 1) e row e' row' k k') 40 23 #[slX nG1 (m + 1) k, slX (nG1 + 1) (m + 1) k'] (canon Tryz.prog [(l.map gi, e, row), (l.map gi, e', row')]) (fun v _ => K v) = ((!(ieq (Int.ofNat (m + 1)) (Int.ofNat (m + 1)))) = false ∧ loopOf Tryz.prog 23 0 = loopOf Tryz.prog 23 0 ∧ slX nG1 (m + 1) k = slX nG1 (m + 1) k ∧ slX (nG1 + 1) (m + 1) k' = slX (nG1 + 1) (m + 1) k' ∧ gi 0 = goN 0 ∧ (some (AObj.cells (l.map gi) e row true) = some (.cells (l.map gi) e row true) ∧ some (AObj.cells (l.map gi) e' row' true) = some (.cells (l.map gi) e' row' true)) ∧ (l.length = m + 1 ∧ m + 1 ≤ 65536) ∧ ∀ (_ : Nat → Value) (_ : AHeap), K (.bool true)) := by kernel_rfl
theorem sfnn_run (K : Value → Prop) : callR Tryz.prog orcKo (fun _ => syOf []) (askKo 1) 60 22 #[nilS, nilS] (canon Tryz.prog []) (fun v _ => K v) = (K (Value.bool true)) := by kernel_rfl
theorem sfne_run (b : Nat) (K : Value → Prop) : callR Tryz.prog orcKo (fun _ => syOf []) (askKo 1) 60 22 #[nilS, (emS b)] (canon Tryz.prog []) (fun v _ => K v) = (K (Value.bool true)) := by kernel_rfl
theorem sfen_run (a : Nat) (K : Value → Prop) : callR Tryz.prog orcKo (fun _ => syOf []) (askKo 1) 60 22 #[(emS a), nilS] (canon Tryz.prog []) (fun v _ => K v) = (K (Value.bool true)) := by kernel_rfl
theorem sfee_run (a : Nat) (b : Nat) (K : Value → Prop) : callR Tryz.prog orcKo (fun _ => syOf []) (askKo 1) 60 22 #[(emS a), (emS b)] (canon Tryz.prog []) (fun v _ => K v) = (K (Value.bool true)) := by kernel_rfl
theorem sinn_run (K : Value → Prop) : callR Tryz.prog orcKo (fun _ => syOf []) (askKo 1) 60 23 #[nilS, nilS] (canon Tryz.prog []) (fun v _ => K v) = (K (Value.bool true)) := by kernel_rfl
theorem sine_run (b : Nat) (K : Value → Prop) : callR Tryz.prog orcKo (fun _ => syOf []) (askKo 1) 60 23 #[nilS, (emS b)] (canon Tryz.prog []) (fun v _ => K v) = (K (Value.bool true)) := by kernel_rfl
theorem sien_run (a : Nat) (K : Value → Prop) : callR Tryz.prog orcKo (fun _ => syOf []) (askKo 1) 60 23 #[(emS a), nilS] (canon Tryz.prog []) (fun v _ => K v) = (K (Value.bool true)) := by kernel_rfl
theorem siee_run (a : Nat) (b : Nat) (K : Value → Prop) : callR Tryz.prog orcKo (fun _ => syOf []) (askKo 1) 60 23 #[(emS a), (emS b)] (canon Tryz.prog []) (fun v _ => K v) = (K (Value.bool true)) := by kernel_rfl
open Classical in
noncomputable def sfX (A B : List Nat) (r : List Value) : Option Out := if (r = [] ∧ A = B) ∧ ∀ x ∈ A, fin32 x then some (.plain (.bool true)) else none
theorem sfX_some {A B : List Nat} {r : List Value} {o : Out} (h : sfX A B r = some o) : ((r = [] ∧ A = B) ∧ ∀ x ∈ A, fin32 x) ∧ o = .plain (.bool true) := by
  unfold sfX at h
  split at h
  · rename_i hc; cases h; exact ⟨hc, rfl⟩
  · cases h
open Classical in
noncomputable def siX (A B : List Int) (r : List Value) : Option Out := if r = [] ∧ A = B then some (.plain (.bool true)) else none
theorem siX_some {A B : List Int} {r : List Value} {o : Out} (h : siX A B r = some o) : (r = [] ∧ A = B) ∧ o = .plain (.bool true) := by
  unfold siX at h
  split at h
  · rename_i hc; cases h; exact ⟨hc, rfl⟩
  · cases h
noncomputable def sfY (A B : List Nat) (r : List Value) (K : Out → Prop) : Prop := ((r = [] ∧ A = B) ∧ ∀ x ∈ A, fin32 x) ∧ K (.plain (.bool true))
noncomputable def siY (A B : List Int) (r : List Value) (K : Out → Prop) : Prop := (r = [] ∧ A = B) ∧ K (.plain (.bool true))
theorem sfY_ok (A B : List Nat) (r : List Value) (K : Out → Prop) (h : sfY A B r K) : ∃ o, sfX A B r = some o ∧ K o := ⟨_, if_pos h.1, h.2⟩
theorem siY_ok (A B : List Int) (r : List Value) (K : Out → Prop) (h : siY A B r K) : ∃ o, siX A B r = some o ∧ K o := ⟨_, if_pos h.1, h.2⟩
noncomputable def orcKp : Orc := orElse 23 (twoO Tryz.prog.globals.size tI tI siX) (orElse 22 (twoO Tryz.prog.globals.size tF tF sfX) orcKo)
set_option maxRecDepth 100000 in
theorem orcKp_ok : OrcOk Tryz.prog orcKp := by
  refine twoO_ok globs_pos (twoO_ok globs_pos orcKo_ok ?_ ?_ ?_ ?_ ?_) ?_ ?_ ?_ ?_ ?_
  · intro l l' r o h
    obtain ⟨_, rfl⟩ := sfX_some h
    exact rfl
  · intro r o a b h ha hb
    obtain ⟨⟨⟨rfl, _⟩, _⟩, rfl⟩ := sfX_some h
    rcases ha with rfl | ⟨i, rfl⟩ <;> rcases hb with rfl | ⟨j, rfl⟩
    · exact CallJ.ofR mixed orcKo_ok (askKo_ok 1) (Eq.mpr (sfnn_run _) rfl)
    · exact CallJ.ofR mixed orcKo_ok (askKo_ok 1) (Eq.mpr (sfne_run j _) rfl)
    · exact CallJ.ofR mixed orcKo_ok (askKo_ok 1) (Eq.mpr (sfen_run i _) rfl)
    · exact CallJ.ofR mixed orcKo_ok (askKo_ok 1) (Eq.mpr (sfee_run i j _) rfl)
  · intro l' r o a m k e row h ha hl h1 hk
    obtain ⟨⟨⟨_, hx⟩, _⟩, _⟩ := sfX_some h
    rw [← hx] at hl; simp at hl
  · intro l r o b m k e row h hb hl h1 hk
    obtain ⟨⟨⟨_, hx⟩, _⟩, _⟩ := sfX_some h
    rw [hx] at hl; simp at hl
  · intro l l' r o m k m' k' e row e' row' h hl h1 hk hl' h1' hk'
    obtain ⟨⟨⟨rfl, rfl⟩, hf⟩, rfl⟩ := sfX_some h
    obtain rfl : m = m' := by omega
    exact callC_ok mixed orcKo_ok (askKo_ok 1) (Eq.mpr (sf_run l m k k' e row e' row' _) ⟨by rw [ieq_self]; rfl, rfl, rfl, rfl, rfl, ⟨rfl, rfl⟩, ⟨hl, h1, hf⟩, fun _ _ => rfl⟩)
  · intro l l' r o h
    obtain ⟨_, rfl⟩ := siX_some h
    exact rfl
  · intro r o a b h ha hb
    obtain ⟨⟨rfl, _⟩, rfl⟩ := siX_some h
    rcases ha with rfl | ⟨i, rfl⟩ <;> rcases hb with rfl | ⟨j, rfl⟩
    · exact CallJ.ofR mixed orcKo_ok (askKo_ok 1) (Eq.mpr (sinn_run _) rfl)
    · exact CallJ.ofR mixed orcKo_ok (askKo_ok 1) (Eq.mpr (sine_run j _) rfl)
    · exact CallJ.ofR mixed orcKo_ok (askKo_ok 1) (Eq.mpr (sien_run i _) rfl)
    · exact CallJ.ofR mixed orcKo_ok (askKo_ok 1) (Eq.mpr (siee_run i j _) rfl)
  · intro l' r o a m k e row h ha hl h1 hk
    obtain ⟨⟨_, hx⟩, _⟩ := siX_some h
    rw [← hx] at hl; simp at hl
  · intro l r o b m k e row h hb hl h1 hk
    obtain ⟨⟨_, hx⟩, _⟩ := siX_some h
    rw [hx] at hl; simp at hl
  · intro l l' r o m k m' k' e row e' row' h hl h1 hk hl' h1' hk'
    obtain ⟨⟨rfl, rfl⟩, rfl⟩ := siX_some h
    obtain rfl : m = m' := by omega
    exact callC_ok mixed orcKo_ok (askKo_ok 1) (Eq.mpr (si_run l m k k' e row e' row' _) ⟨by rw [ieq_self]; rfl, rfl, rfl, rfl, rfl, ⟨rfl, rfl⟩, ⟨hl, h1⟩, fun _ _ => rfl⟩)
noncomputable def askKp (n : Nat) : Asks := asks2 Tryz.prog.globals.size 23 tI tI siY (asks2 Tryz.prog.globals.size 22 tF tF sfY (askKo n))
theorem askKp_ok (n : Nat) : AsksOk orcKp (askKp n) := asks2_ok siY_ok (asks2_ok sfY_ok (askKo_ok n))
end Go.Proofs.YtjimnbmnkfdfcaaGreatDoor
