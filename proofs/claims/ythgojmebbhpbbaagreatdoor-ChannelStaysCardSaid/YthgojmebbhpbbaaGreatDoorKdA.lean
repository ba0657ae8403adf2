/-
  OWN WORK. Made, weights, same lists.
-/
import Derived.Test.YthgojmebbhpbbaaGreatDoorKaP
/-! (OWN WORK. Kernels: the reference's Made.) -/
namespace Go.Proofs.YthgojmebbhpbbaaGreatDoor
open Go Go.Am
theorem ble_no {a b : Nat} (h : b < a) : Nat.ble a b = false := by
 cases hx : Nat.ble a b with
 | false => rfl
 | true => rw [Nat.ble_eq] at hx; omega
noncomputable def mdP (l : List Int) (j : Nat) : List Value := (List.range j).map fun i => gf (sampleE (l.getD i 0))
theorem mdP_length (l : List Int) (j : Nat) : (mdP l j).length = j := by simp [mdP]
theorem mdP_nil {l : List Int} {j : Nat} (h : mdP l j = []) : j = 0 := by
 have := congrArg List.length h
 rw [mdP_length] at this
 exact this
theorem mdP_flat (l : List Int) (j : Nat) : (mdP l j).all (flat 3) = true := by
 rw [List.all_eq_true]
 intro x hx
 obtain ⟨i, _, rfl⟩ := List.mem_map.1 hx
 rfl
theorem mdP_succ {l : List Int} {j : Nat} (h : j < l.length) : mdP l (j + 1) = mdP l j ++ [gf (sampleE l[j])] := by
 unfold mdP
 rw [List.range_succ, List.map_append, List.map_cons, List.map_nil, List.getD_eq_getElem?_getD, List.getElem?_eq_getElem h]
 rfl
theorem mdP_end (l : List Int) : mdP l l.length = l.map fun u => gf (sampleE u) := by
 refine List.ext_getElem (by simp [mdP]) fun i h1 h2 => ?_
 have hi : i < l.length := by simpa using h2
 simp [mdP, List.getElem?_eq_getElem hi]
theorem okB {x : Int} (h : okU x) : ((!(ilt x (-16384))) && (!(ilt 16384 x))) = true := by
 have hb := okU_iff.1 h
 unfold Bd at hb
 simp only [ilt_say, Bool.and_eq_true, Bool.not_eq_true', decide_eq_false_iff_not]
 omega
noncomputable def mdV (n k : Nat) : Nat → Value → List Value := fun j v => [liP n k, v, goN j]
set_option maxRecDepth 100000 in
theorem md_loop (l : List Int) (n e row k : Nat) (hl : l.length = n) (hle : n ≤ 65536) (hu : ∀ x ∈ l, okU x) : ∀ (a : AAct) (h : AHeap), h.get nG1 = some (.cells (l.map gi) e row true) → a.n = 20 → a.marks = [] → [0, 3, 4].map a.tmp = [liP n k, nilS, goN 0] →
  J Tryz.prog (.loop (loopOf Tryz.prog 22 0)) a h (told 20 [0, 3, 4] fun ex vs h' => ex = .exit 0 ∧ ((n = 0 ∧ vs = [liP n k, nilS, goN n]) ∨ (0 < n ∧ vs = [liP n k, slO n n, goN n] ∧ h'.get (nG1 + 1) = some (.cells (mdP l n) 50 2 false)))) := by
 intro a h hs ha hk hv
 refine grow_rule (el := 50) globs_pos (by decide) (by decide) (flat_ints l) (mdV n k) (mdP l) n _ (mdP_flat l) (fun j => by kernel_rfl) (fun j b q hb => by rcases hb with rfl | rfl | rfl <;> kernel_rfl)
  (fun j v => ⟨(0, liP n k), by simp [mdV], by simp [named]⟩) (fun j b q => ⟨(3, .slice (some ⟨b, 0, none⟩) q q), by simp [mdV], by simp [named]⟩) ?_ ?_ ?_ ?_ a h ⟨hs, .inl ⟨rfl, by rw [hv]; rfl⟩⟩ ha hk
 ·intro j hj hx g
  obtain rfl : j = 0 := mdP_nil hx
  obtain ⟨f1, f2⟩ := gi_at (l := l) (j := 0) (by omega)
  refine execC_ok mixed orcKi_ok (askKi_ok 1) (noLoops _) (Eq.mpr (md_first _ n k e row 0 g _) ⟨fun hlt => ?_, fun hge => ?_⟩)
  ·refine ⟨hlt, f1, by rw [f2]; exact okB (hu _ (List.getElem_mem _)), ?_, .inr ⟨nG1 + 2, .inr (.inl rfl), ?_, ?_, ?_⟩⟩
   ·rw [AHeap.get_push_ne (by kernel_rfl), AHeap.get_push_ne (by kernel_rfl)]
    exact gH1_src _ _ _
   ·intro h0; have := mdP_nil h0; omega
   ·rw [mdP_length]; exact rfl
   ·rw [AHeap.get_push_eq (by kernel_rfl), f2, mdP_succ (by omega)]; rfl
  ·have := blt_false hge; omega
 ·intro j hj hx g
  rw [mdP_length]
  obtain ⟨f1, f2⟩ := gi_at (l := l) (j := j) (by omega)
  refine execC_ok mixed orcKi_ok (askKi_ok 1) (noLoops _) (Eq.mpr (md_next _ _ n k e row j j g _) ⟨fun hlt => ?_, fun hge => ?_⟩)
  ·refine ⟨hlt, f1, by rw [f2]; exact okB (hu _ (List.getElem_mem _)), ble_no (by omega), by rw [Nat.ble_eq]; omega, by rw [mdP_length, Nat.mul_one], ?_, .inr ⟨nG1 + 3, .inr (.inr rfl), ?_, ?_, ?_⟩⟩
   ·rw [AHeap.get_push_ne (by kernel_rfl), AHeap.get_set_neB (by kernel_rfl), AHeap.get_push_ne (by kernel_rfl)]
    exact gH2_src _ _ _ _ _
   ·intro h0; have := mdP_nil h0; omega
   ·rw [mdP_length, fwrap_nat (by omega)]; exact rfl
   ·rw [AHeap.get_push_eq (by kernel_rfl), f2, mdP_succ (by omega)]
  ·have := blt_false hge; omega
 ·intro hx g
  obtain rfl : n = 0 := mdP_nil hx
  exact execC_ok mixed orcKi_ok (askKi_ok 1) (noLoops _) (Eq.mpr (md_first _ 0 k e row 0 g _) ⟨fun hlt => absurd (blt_true hlt) (by omega), fun _ => ⟨rfl, .inl ⟨rfl, rfl⟩⟩⟩)
 ·intro hx g
  rw [mdP_length]
  refine execC_ok mixed orcKi_ok (askKi_ok 1) (noLoops _) (Eq.mpr (md_next _ _ n k e row n n g _) ⟨fun hlt => absurd (blt_true hlt) (by omega), fun _ => ⟨rfl, .inr ⟨?_, rfl, gH2_dst _ _ _ _ _⟩⟩⟩)
  apply Nat.pos_of_ne_zero
  intro h0
  rw [h0] at hx
  exact hx rfl
noncomputable def mdL (l : List Int) (n e row k : Nat) : Loops Tryz.prog where
 body := fun _ => loopOf Tryz.prog 22 0
 spec := fun _ a h c => entry a 20 [(0, liP n k), (3, nilS), (4, goN 0)] (h.get nG1 = some (.cells (l.map gi) e row true) ∧ (l.length = n ∧ 0 < n ∧ n ≤ 65536 ∧ ∀ x ∈ l, okU x) ∧ ∀ g h', h'.get (nG1 + 1) = some (.cells (mdP l n) 50 2 false) → c (.exit 0) (stOf 20 [(3, slO n n)] g) h')
 ok := fun i a h c q => by
  obtain ⟨h1, h2, h3, g0, ⟨c1, c2, c3, c4⟩, k1⟩ := entry_facts q
  refine J.of_told (md_loop l n e row k c1 c3 c4 a h g0 h1 h2 ?_) ?_
  ·simp only [List.map_cons, List.map_nil]
   rw [h3 (0, liP n k) (by simp), h3 (3, nilS) (by simp), h3 (4, goN 0) (by simp)]
  ·rintro ex vs h' g ⟨rfl, ⟨h0, _⟩ | ⟨_, rfl, hg⟩⟩
   ·omega
   ·exact k1 (ov [(0, liP n k), (4, goN n)] g) h' hg
theorem md_run (l : List Int) (m e row k : Nat) (K : Value → AHeap → Prop) : callC Tryz.prog (exec Tryz.prog orcKk 10) (syOf []) (askKk 1) (mdL l (m + 1) e row k) 20 22 #[liP (m + 1) k] (canon Tryz.prog [(l.map gi, e, row)]) K = (loopOf Tryz.prog 22 0 = loopOf Tryz.prog 22 0 ∧ liP (m + 1) k = liP (m + 1) k ∧ nilS = nilS ∧ goN 0 = goN 0 ∧ some (AObj.cells (l.map gi) e row true) = some (.cells (l.map gi) e row true) ∧ (l.length = m + 1 ∧ 0 < m + 1 ∧ m + 1 ≤ 65536 ∧ ∀ x ∈ l, okU x) ∧ ∀ (_ : Nat → Value) (h' : AHeap), h'.get (nG1 + 1) = some (.cells (mdP l (m + 1)) 50 2 false) → K (slO (m + 1) (m + 1)) h') := by kernel_rfl
theorem mdn_run (K : Value → Prop) : callR Tryz.prog orcKk (fun _ => syOf []) (askKk 1) 60 22 #[nilS] (canon Tryz.prog []) (fun v _ => K v) = K nilS := by kernel_rfl
theorem mde_run (j : Nat) (K : Value → Prop) : callR Tryz.prog orcKk (fun _ => syOf []) (askKk 1) 60 22 #[emS j] (canon Tryz.prog []) (fun v _ => K v) = K nilS := by kernel_rfl
def mdC : List Int → List Value → Prop := fun l r => r = [] ∧ ∀ x ∈ l, okU x
noncomputable def mdO : List Int → List Value → Out := fun l _ => match l with
 | [] => .plain nilS
 | _ :: _ => .fresh (slM l.length) (mdP l l.length) 50
theorem mdO_ne {l : List Int} (h : l ≠ []) : mdO l [] = .fresh (slM l.length) (mdP l l.length) 50 := by
 cases l with
 | nil => exact absurd rfl h
 | cons x l => rfl
noncomputable def orcKl : Orc := orElse 22 (lstI Tryz.prog.globals.size tI mdC mdO) orcKk
set_option maxRecDepth 100000 in
theorem orcKl_ok : OrcOk Tryz.prog orcKl := by
 refine lstI_ok globs_pos orcKk_ok (fun l r _ => ?_) (fun r h => ?_) (fun r k h => ?_) fun l r m e row k h hl h1 => ?_
 ·cases l with
  | nil => exact rfl
  | cons x l => exact ⟨names_sl _, mdP_flat _ _⟩
 ·obtain ⟨rfl, _⟩ := h
  exact CallJ.ofR mixed orcKk_ok (askKk_ok 1) (Eq.mpr (mdn_run _) rfl)
 ·obtain ⟨rfl, _⟩ := h
  exact CallJ.ofR mixed orcKk_ok (askKk_ok 1) (Eq.mpr (mde_run k _) rfl)
 ·obtain ⟨rfl, hu⟩ := h
  have hne : l ≠ [] := fun h => by rw [h] at hl; simp at hl
  rw [mdO_ne hne]
  exact callC_ok mixed orcKk_ok (askKk_ok 1) (Eq.mpr (md_run l m e row k _) ⟨rfl, rfl, rfl, rfl, rfl, ⟨hl, by omega, h1, hu⟩, fun _ h' hg => by rw [hl]; exact ⟨nG1 + 1, rfl, hg⟩⟩)
noncomputable def mdY (l : List Int) (r : List Value) (K : Out → Prop) : Prop := (r = [] ∧ ∀ x ∈ l, okU x) ∧ (l = [] → K (.plain nilS)) ∧ (l ≠ [] → ∃ m, l.length = m + 1 ∧ K (.fresh (slM (m + 1)) (mdP l (m + 1)) 50))
theorem mdY_ok (l : List Int) (r : List Value) (K : Out → Prop) (h : mdY l r K) : ∃ o, ifX mdC mdO l r = some o ∧ K o := by
 obtain ⟨hc, h0, h1⟩ := h
 refine ⟨_, if_pos hc, ?_⟩
 obtain ⟨rfl, _⟩ := hc
 by_cases hl : l = []
 ·have hk := h0 hl
  subst hl
  exact hk
 ·obtain ⟨m, hm, hk⟩ := h1 hl
  rw [mdO_ne hl, hm]; exact hk
noncomputable def askKl (n : Nat) : Asks := asksT' Tryz.prog.globals.size 22 tI mdY (askKk n)
theorem askKl_ok (n : Nat) : AsksOk orcKl (askKl n) := asksT'_ok mdY_ok (askKk_ok n)
noncomputable abbrev mkC (l : List Int) (e row : Nat) : List Blk := [(l.map gi, e, row, true)]
end Go.Proofs.YthgojmebbhpbbaaGreatDoor
/-! (OWN WORK. Kernels: the program's Weights, ShortKernel.) -/
namespace Go.Proofs.YthgojmebbhpbbaaGreatDoor
open Go Go.Am
noncomputable abbrev weV (e : Int) : Value := .tuple #[nilS, gi 0, gi e]
noncomputable def wtQ (kl : List Int) (q m : Nat) (K : Value → Option AObj → Prop) : Prop :=
 (List.all (kl.map gi) (flat 3) = true ∧ True) ∧ true = true ∧ ∃ x1 : List Int, kl.map gi = x1.map gi ∧ (0 < q ∧ x1.length = q ∧ q ≤ 65536) ∧ noC x1 [] ∧ (!(ieq (keE x1) 0)) = false ∧ (List.all (kl.map gi) (flat 3) = true ∧ True) ∧ true = true ∧
 ∃ x2 : List Int, kl.map gi = x2.map gi ∧ (0 < q ∧ x2.length = q ∧ q ≤ 65536) ∧ (([] : List Value) = [] ∧ keE x2 = 0) ∧ x2.length = q ∧ K (.tuple #[slX (nG1 + 1) m m, gi (sumW x2 * sumW x2), gi 0]) (some (.cells ((wtsE x2).map gi) 3 2 false))
theorem wt_1 (a : Int) (k e row : Nat) (K : Value → Option AObj → Prop) : callC Tryz.prog (exec Tryz.prog orcKl 10) (syOf [(8, 7), (10, 32), (13, 7)]) (askKl 1) (noLoops _) 20 12 #[slX nG1 1 k] (canon Tryz.prog [([a].map gi, e, row)]) (fun v h => K v (h.get (nG1 + 1))) = wtQ [a] 1 1 K := by kernel_rfl
theorem wt_2 (a b : Int) (k e row : Nat) (K : Value → Option AObj → Prop) : callC Tryz.prog (exec Tryz.prog orcKl 10) (syOf [(8, 7), (10, 32), (13, 7)]) (askKl 2) (noLoops _) 20 12 #[slX nG1 2 k] (canon Tryz.prog [([a, b].map gi, e, row)]) (fun v h => K v (h.get (nG1 + 1))) = wtQ [a, b] 2 3 K := by kernel_rfl
theorem wt_3 (a b c : Int) (k e row : Nat) (K : Value → Option AObj → Prop) : callC Tryz.prog (exec Tryz.prog orcKl 10) (syOf [(8, 7), (10, 32), (13, 7)]) (askKl 3) (noLoops _) 20 12 #[slX nG1 3 k] (canon Tryz.prog [([a, b, c].map gi, e, row)]) (fun v h => K v (h.get (nG1 + 1))) = wtQ [a, b, c] 3 5 K := by kernel_rfl
theorem wt_4 (a b c d : Int) (k e row : Nat) (K : Value → Option AObj → Prop) : callC Tryz.prog (exec Tryz.prog orcKl 10) (syOf [(8, 7), (10, 32), (13, 7)]) (askKl 4) (noLoops _) 20 12 #[slX nG1 4 k] (canon Tryz.prog [([a, b, c, d].map gi, e, row)]) (fun v h => K v (h.get (nG1 + 1))) = wtQ [a, b, c, d] 4 7 K := by kernel_rfl
theorem wt_5 (a b c d p : Int) (k e row : Nat) (K : Value → Option AObj → Prop) : callC Tryz.prog (exec Tryz.prog orcKl 10) (syOf [(8, 7), (10, 32), (13, 7)]) (askKl 5) (noLoops _) 20 12 #[slX nG1 5 k] (canon Tryz.prog [([a, b, c, d, p].map gi, e, row)]) (fun v h => K v (h.get (nG1 + 1))) = wtQ [a, b, c, d, p] 5 9 K := by kernel_rfl
theorem wt_6 (a b c d p u : Int) (k e row : Nat) (K : Value → Option AObj → Prop) : callC Tryz.prog (exec Tryz.prog orcKl 10) (syOf [(8, 7), (10, 32), (13, 7)]) (askKl 6) (noLoops _) 20 12 #[slX nG1 6 k] (canon Tryz.prog [([a, b, c, d, p, u].map gi, e, row)]) (fun v h => K v (h.get (nG1 + 1))) = wtQ [a, b, c, d, p, u] 6 11 K := by kernel_rfl
theorem wt_7 (a b c d p u z : Int) (k e row : Nat) (K : Value → Option AObj → Prop) : callC Tryz.prog (exec Tryz.prog orcKl 10) (syOf [(8, 7), (10, 32), (13, 7)]) (askKl 7) (noLoops _) 20 12 #[slX nG1 7 k] (canon Tryz.prog [([a, b, c, d, p, u, z].map gi, e, row)]) (fun v h => K v (h.get (nG1 + 1))) = wtQ [a, b, c, d, p, u, z] 7 13 K := by kernel_rfl
theorem we_run (l : List Int) (m k e row : Nat) (K : Value → Prop) : callC Tryz.prog (exec Tryz.prog orcKl 10) (syOf [(8, 7), (10, 31)]) (askKl 2) (noLoops _) 20 12 #[slX nG1 (m + 1) k] (canon Tryz.prog [(l.map gi, e, row)]) (fun v _ => K v) = ((List.all (l.map gi) (flat 3) = true ∧ True) ∧ true = true ∧ ∃ x1 : List Int, l.map gi = x1.map gi ∧ (0 < m + 1 ∧ x1.length = m + 1 ∧ m + 1 ≤ 65536) ∧ noC x1 [] ∧ (!(ieq (keE x1) 0)) = true ∧ K (weV (keE x1))) := by kernel_rfl
theorem wn_run (K : Value → Prop) : callC Tryz.prog (exec Tryz.prog orcKl 10) (syOf [(8, 7)]) (askKl 2) (noLoops _) 20 12 #[nilS] (canon Tryz.prog []) (fun v _ => K v) = (True ∧ noC ([] : List Int) [] ∧ K (weV 12)) := by kernel_rfl
theorem wm_run (j : Nat) (K : Value → Prop) : callC Tryz.prog (exec Tryz.prog orcKl 10) (syOf [(8, 7)]) (askKl 2) (noLoops _) 20 12 #[emS j] (canon Tryz.prog []) (fun v _ => K v) = (True ∧ noC ([] : List Int) [] ∧ K (weV 12)) := by kernel_rfl
def wtC : List Int → List Value → Prop := fun _ r => r = []
open Classical in
noncomputable def wtO : List Int → List Value → Out := fun l _ => if keE l = 0 then .fresh (tupM [] (2 * l.length - 1) [gi (sumW l * sumW l), gi 0]) ((wtsE l).map gi) 3 else .plain (weV (keE l))
noncomputable def orcKo : Orc := orElse 12 (lstI Tryz.prog.globals.size tI wtC wtO) orcKl
set_option maxRecDepth 100000 in
theorem wt_call (kl : List Int) (hk : keE kl = 0) (k e row : Nat) : CallJ Tryz.prog 12 #[slX nG1 kl.length k] (canon Tryz.prog [(kl.map gi, e, row)]) (wtO kl []).Got := by
 obtain ⟨⟨h1, h2⟩, _, _⟩ := ke_valid hk
 have hf : ∀ kl : List Int, (List.all (kl.map gi) (flat 3) = true ∧ True) := fun kl => ⟨flat_ints kl, trivial⟩
 have h0 : ∀ {kl : List Int}, keE kl = 0 → (!(ieq (keE kl) 0)) = false := fun hk => by rw [hk]; rfl
 have fin : CallJ Tryz.prog 12 #[slX nG1 kl.length k] (canon Tryz.prog [(kl.map gi, e, row)]) (fun v h => v = .tuple #[slX (nG1 + 1) (2 * kl.length - 1) (2 * kl.length - 1), gi (sumW kl * sumW kl), gi 0] ∧ h.get (nG1 + 1) = some (.cells ((wtsE kl).map gi) 3 2 false)) :=
  match kl, h1, h2, hk with
  | [a], _, _, hk => callC_ok mixed orcKl_ok (askKl_ok 1) (Eq.mpr (wt_1 a k e row fun v o => v = _ ∧ o = _) ⟨hf _, rfl, _, rfl, ⟨by omega, rfl, by omega⟩, rfl, h0 hk, hf _, rfl, _, rfl, ⟨by omega, rfl, by omega⟩, ⟨rfl, hk⟩, rfl, rfl, rfl⟩)
  | [a, b], _, _, hk => callC_ok mixed orcKl_ok (askKl_ok 2) (Eq.mpr (wt_2 a b k e row fun v o => v = _ ∧ o = _) ⟨hf _, rfl, _, rfl, ⟨by omega, rfl, by omega⟩, rfl, h0 hk, hf _, rfl, _, rfl, ⟨by omega, rfl, by omega⟩, ⟨rfl, hk⟩, rfl, rfl, rfl⟩)
  | [a, b, c], _, _, hk => callC_ok mixed orcKl_ok (askKl_ok 3) (Eq.mpr (wt_3 a b c k e row fun v o => v = _ ∧ o = _) ⟨hf _, rfl, _, rfl, ⟨by omega, rfl, by omega⟩, rfl, h0 hk, hf _, rfl, _, rfl, ⟨by omega, rfl, by omega⟩, ⟨rfl, hk⟩, rfl, rfl, rfl⟩)
  | [a, b, c, d], _, _, hk => callC_ok mixed orcKl_ok (askKl_ok 4) (Eq.mpr (wt_4 a b c d k e row fun v o => v = _ ∧ o = _) ⟨hf _, rfl, _, rfl, ⟨by omega, rfl, by omega⟩, rfl, h0 hk, hf _, rfl, _, rfl, ⟨by omega, rfl, by omega⟩, ⟨rfl, hk⟩, rfl, rfl, rfl⟩)
  | [a, b, c, d, p], _, _, hk => callC_ok mixed orcKl_ok (askKl_ok 5) (Eq.mpr (wt_5 a b c d p k e row fun v o => v = _ ∧ o = _) ⟨hf _, rfl, _, rfl, ⟨by omega, rfl, by omega⟩, rfl, h0 hk, hf _, rfl, _, rfl, ⟨by omega, rfl, by omega⟩, ⟨rfl, hk⟩, rfl, rfl, rfl⟩)
  | [a, b, c, d, p, u], _, _, hk => callC_ok mixed orcKl_ok (askKl_ok 6) (Eq.mpr (wt_6 a b c d p u k e row fun v o => v = _ ∧ o = _) ⟨hf _, rfl, _, rfl, ⟨by omega, rfl, by omega⟩, rfl, h0 hk, hf _, rfl, _, rfl, ⟨by omega, rfl, by omega⟩, ⟨rfl, hk⟩, rfl, rfl, rfl⟩)
  | [a, b, c, d, p, u, z], _, _, hk => callC_ok mixed orcKl_ok (askKl_ok 7) (Eq.mpr (wt_7 a b c d p u z k e row fun v o => v = _ ∧ o = _) ⟨hf _, rfl, _, rfl, ⟨by omega, rfl, by omega⟩, rfl, h0 hk, hf _, rfl, _, rfl, ⟨by omega, rfl, by omega⟩, ⟨rfl, hk⟩, rfl, rfl, rfl⟩)
  | _ :: _ :: _ :: _ :: _ :: _ :: _ :: _ :: _, _, h2, _ => absurd h2 (by simp)
 refine fin.mono fun v h ⟨e1, e2⟩ => ?_
 unfold wtO
 rw [if_pos hk]
 exact ⟨_, e1, e2⟩
set_option maxRecDepth 100000 in
theorem orcKo_ok : OrcOk Tryz.prog orcKo := by
 have hn : wtO [] [] = .plain (weV 12) := by
  unfold wtO
  rw [keE_nil, if_neg (by decide)]
 refine lstI_ok globs_pos orcKl_ok (fun l r _ => ?_) (fun r h => ?_) (fun r k h => ?_) fun l r m e row k h hl h1 => ?_
 ·unfold wtO
  split
  ·exact ⟨names_tup rfl rfl, flat_ints _⟩
  ·exact rfl
 ·obtain rfl := h
  rw [show wtO [] [] = _ from hn]
  exact callC_ok mixed orcKl_ok (askKl_ok 2) (Eq.mpr (wn_run _) ⟨trivial, rfl, rfl⟩)
 ·obtain rfl := h
  rw [show wtO [] [] = _ from hn]
  exact callC_ok mixed orcKl_ok (askKl_ok 2) (Eq.mpr (wm_run k _) ⟨trivial, rfl, rfl⟩)
 ·obtain rfl := h
  by_cases hk : keE l = 0
  ·rw [← hl]; exact wt_call l hk k e row
  ·unfold wtO
   rw [if_neg hk]
   refine callC_ok mixed orcKl_ok (askKl_ok 2) (Eq.mpr (we_run l m k e row _) ⟨⟨flat_ints l, trivial⟩, rfl, l, rfl, ⟨by omega, hl, h1⟩, rfl, ?_, rfl⟩)
   rw [ieq_dec, decide_eq_false hk]; rfl
noncomputable def wtY (n : Nat) (l : List Int) (r : List Value) (K : Out → Prop) : Prop := r = [] ∧ (keE l ≠ 0 → K (.plain (weV (keE l)))) ∧ (keE l = 0 → l.length = n ∧ K (.fresh (tupM [] (2 * n - 1) [gi (sumW l * sumW l), gi 0]) ((wtsE l).map gi) 3))
theorem wtY_ok (n : Nat) (l : List Int) (r : List Value) (K : Out → Prop) (h : wtY n l r K) : ∃ o, ifX wtC wtO l r = some o ∧ K o := by
 obtain ⟨hc, h1, h2⟩ := h
 refine ⟨_, if_pos hc, ?_⟩
 unfold wtO
 split
 ·rename_i hk
  obtain ⟨rfl, hk'⟩ := h2 hk
  exact hk'
 ·rename_i hk; exact h1 hk
noncomputable def askKo (n : Nat) : Asks := asksT' Tryz.prog.globals.size 12 tI (wtY n) (askKl n)
theorem askKo_ok (n : Nat) : AsksOk orcKo (askKo n) := asksT'_ok (wtY_ok n) (askKl_ok n)
end Go.Proofs.YthgojmebbhpbbaaGreatDoor
/-! (OWN WORK. Kernels: ShortKernel; lists of samples, and of integers, that are the same.) -/
namespace Go.Proofs.YthgojmebbhpbbaaGreatDoor
open Go Go.Am
noncomputable abbrev twC (c c' : List Value) (e row e' row' : Nat) : List Blk := [(c, e, row, true), (c', e', row', true)]
noncomputable abbrev twH (c c' : List Value) (e row e' row' : Nat) : AHeap := canonT [] (fun _ => 0) Tryz.prog.globals.size (twC c c' e row e' row')
theorem sf_body (c c' : List Value) (e row e' row' n k m k' j : Nat) (g : Nat → Value) (Q : Exit → List Value → AHeap → Prop) : execC Tryz.prog (exec Tryz.prog orcKo 10) (syOf [(14, 1), (19, 2), (20, 3), (23, 2), (24, 3), (25, 1)]) (askKo 1) (noLoops _) 40 (loopOf Tryz.prog 20 0) (stOf 26 [(0, slX nG1 n k), (1, slX (nG1 + 1) m k'), (5, goN j)] g) (twH c c' e row e' row') (told 26 [0, 1, 5] Q) = (((Nat.blt j n = true → (Nat.blt j n = true ∧ c[(0 + (j * 1))]? = Option.some (gf (floatAt c (0 + (j * 1)))) ∧ Nat.blt j m = true ∧ c'[(0 + (j * 1))]? = Option.some (gf (floatAt c' (0 + (j * 1)))) ∧ (bne (Ieee.Format.order (FloatKind.format FloatKind.f32) (floatAt c (0 + (j * 1))) (floatAt c' (0 + (j * 1)))) (Option.some Ordering.eq) = true → Q .ret [slX nG1 n k, slX (nG1 + 1) m k', goN j] (twH c c' e row e' row')) ∧ (bne (Ieee.Format.order (FloatKind.format FloatKind.f32) (floatAt c (0 + (j * 1))) (floatAt c' (0 + (j * 1)))) (Option.some Ordering.eq) = false → Q .normal [slX nG1 n k, slX (nG1 + 1) m k', gi (fwrap IntKind.i64 (Int.ofNat (j + 1)))] (twH c c' e row e' row')))) ∧ (Nat.blt j n = false → Q (.exit 0) [slX nG1 n k, slX (nG1 + 1) m k', goN j] (twH c c' e row e' row')))) := by kernel_rfl
theorem si_body (c c' : List Value) (e row e' row' n k m k' j : Nat) (g : Nat → Value) (Q : Exit → List Value → AHeap → Prop) : execC Tryz.prog (exec Tryz.prog orcKo 10) (syOf [(14, 1), (19, 2), (20, 3), (23, 2), (24, 3), (25, 1)]) (askKo 1) (noLoops _) 40 (loopOf Tryz.prog 21 0) (stOf 26 [(0, slX nG1 n k), (1, slX (nG1 + 1) m k'), (5, goN j)] g) (twH c c' e row e' row') (told 26 [0, 1, 5] Q) = (((Nat.blt j n = true → (Nat.blt j n = true ∧ c[(0 + (j * 1))]? = Option.some (gi (intAt c (0 + (j * 1)))) ∧ Nat.blt j m = true ∧ c'[(0 + (j * 1))]? = Option.some (gi (intAt c' (0 + (j * 1)))) ∧ ((!(ieq (intAt c (0 + (j * 1))) (intAt c' (0 + (j * 1))))) = true → Q .ret [slX nG1 n k, slX (nG1 + 1) m k', goN j] (twH c c' e row e' row')) ∧ ((!(ieq (intAt c (0 + (j * 1))) (intAt c' (0 + (j * 1))))) = false → Q .normal [slX nG1 n k, slX (nG1 + 1) m k', gi (fwrap IntKind.i64 (Int.ofNat (j + 1)))] (twH c c' e row e' row')))) ∧ (Nat.blt j n = false → Q (.exit 0) [slX nG1 n k, slX (nG1 + 1) m k', goN j] (twH c c' e row e' row')))) := by kernel_rfl
theorem sk_run (l : List Int) (n e row k : Nat) (K : Value → Prop) : callC Tryz.prog (exec Tryz.prog orcKo 10) (syOf []) (askKo 1) (noLoops _) 20 6 #[slX nG1 n k] (canon Tryz.prog [(l.map gi, e, row)]) (fun v _ => K v) = (K (Value.bool (!(ilt 8 (Int.ofNat n))))) := by kernel_rfl
theorem sk_nil (K : Value → Prop) : callC Tryz.prog (exec Tryz.prog orcKo 10) (syOf []) (askKo 1) (noLoops _) 20 6 #[nilS] (canon Tryz.prog []) (fun v _ => K v) = (K (Value.bool true)) := by kernel_rfl
theorem sk_emp (j : Nat) (K : Value → Prop) : callC Tryz.prog (exec Tryz.prog orcKo 10) (syOf []) (askKo 1) (noLoops _) 20 6 #[emS j] (canon Tryz.prog []) (fun v _ => K v) = (K (Value.bool true)) := by kernel_rfl
end Go.Proofs.YthgojmebbhpbbaaGreatDoor
/-! (OWN WORK. Kernels: lists that are the same, as known calls.) -/
namespace Go.Proofs.YthgojmebbhpbbaaGreatDoor
open Go Go.Am Ieee
theorem ne_self {x : Nat} (h : fin32 x) : ne32 x x = false := by
 unfold ne32
 rw [sorder_fin h h]
 simp
set_option maxRecDepth 100000 in
theorem sf_loop (l : List Nat) (n : Nat) (hl : l.length = n) (hle : n ≤ 65536) (hf : ∀ x ∈ l, fin32 x) (e row e' row' k k' : Nat) : ∀ (a : AAct) (h : AHeap), Laid (twC (l.map gf) (l.map gf) e row e' row') (nG1 + ·) h → a.n = 26 → a.marks = [] → [0, 1, 5].map a.tmp = [slX nG1 n k, slX (nG1 + 1) n k', goN 0] →
  J Tryz.prog (.loop (loopOf Tryz.prog 20 0)) a h (told 26 [0, 1, 5] fun ex vs h' => ex = .exit 0) := by
 intro a h hs ha hk hv
 refine fold_rule (L := 2) (C := fun _ => twC (l.map gf) (l.map gf) e row e' row') globs_pos (by decide) (by decide) (fun _ => rfl) (fun _ b hb => ?_) (V := fun at_ j => [slX (at_ 0) n k, slX (at_ 1) n k', goN j]) (I := fun j => True) (m := n) trivial _ (nG1 + ·) (plus_nodup _ _) (fun q _ => Nat.le_add_right _ _) (fun j => by kernel_rfl) (fun j => by kernel_rfl)
  (fun at_ j q hq => by match q, hq with | 0, _ => exact ⟨(0, slX (at_ 0) n k), by simp, by simp [named]⟩ | 1, _ => exact ⟨(1, slX (at_ 1) n k'), by simp, by simp [named]⟩) ?_ ?_ a h hs ha hk hv
 ·rcases List.mem_cons.1 hb with rfl | hb
  ·exact flat_floats l
  ·cases List.mem_singleton.1 hb; exact flat_floats l
 ·intro j hj hI g
  have hjl : j < l.length := by omega
  obtain ⟨f1, f2⟩ := float_at hjl
  refine execC_ok mixed orcKo_ok (askKo_ok 1) (noLoops _) (Eq.mpr (sf_body _ _ e row e' row' n k n k' j g _) ⟨fun hlt => ⟨hlt, f1, hlt, f1, fun hx => ?_, fun hx => ?_⟩, fun hge => absurd (blt_false hge) (by omega)⟩)
  ·rw [f2] at hx
   have hs := ne_self (hf _ (List.getElem_mem hjl))
   exact absurd (show ne32 l[j] l[j] = true from hx) (by rw [hs]; decide)
  ·exact ⟨trivial, by rw [fwrap_nat (by omega)]; exact rfl, .two (gC_get (C := twC _ _ _ _ _ _) (q := 0) rfl) (gC_get (C := twC _ _ _ _ _ _) (q := 1) rfl)⟩
 ·intro hI g
  exact execC_ok mixed orcKo_ok (askKo_ok 1) (noLoops _) (Eq.mpr (sf_body _ _ e row e' row' n k n k' n g _) ⟨fun hlt => absurd (blt_true hlt) (by omega), fun _ => rfl⟩)
noncomputable def sfL (l : List Nat) (n e row e' row' k k' : Nat) : Loops Tryz.prog where
 body := fun _ => loopOf Tryz.prog 20 0
 spec := fun _ a h c => entry a 26 [(0, slX nG1 n k), (1, slX (nG1 + 1) n k'), (5, goN 0)] ((h.get nG1 = some (.cells (l.map gf) e row true) ∧ h.get (nG1 + 1) = some (.cells (l.map gf) e' row' true)) ∧ (l.length = n ∧ n ≤ 65536 ∧ ∀ x ∈ l, fin32 x) ∧ ∀ g h', c (.exit 0) (stOf 26 [] g) h')
 ok := fun i a h c q => by
  obtain ⟨h1, h2, h3, ⟨g0, g1⟩, hc, k1⟩ := entry_facts q
  have e0 : a.tmp 0 = slX nG1 n k := h3 (0, slX nG1 n k) (by simp)
  have e1 : a.tmp 1 = slX (nG1 + 1) n k' := h3 (1, slX (nG1 + 1) n k') (by simp)
  have e2 : a.tmp 5 = goN 0 := h3 (5, goN 0) (by simp)
  refine J.of_told (sf_loop l n hc.1 hc.2.1 hc.2.2 e row e' row' k k' a h (.two g0 g1) h1 h2 ?_) ?_
  ·show [a.tmp 0, a.tmp 1, a.tmp 5] = _
   rw [e0, e1, e2]
  ·rintro ex vs h' g rfl
   exact k1 (ov ([0, 1, 5].zip vs) g) h'
theorem sf_run (l : List Nat) (m k k' e row e' row' : Nat) (K : Value → Prop) : callC Tryz.prog (exec Tryz.prog orcKo 10) (syOf [(10, 32)]) (askKo 1) (sfL l (m + 1) e row e' row' k k') 40 20 #[slX nG1 (m + 1) k, slX (nG1 + 1) (m + 1) k'] (canon Tryz.prog [(l.map gf, e, row), (l.map gf, e', row')]) (fun v _ => K v) = ((!(ieq (Int.ofNat (m + 1)) (Int.ofNat (m + 1)))) = false ∧ loopOf Tryz.prog 20 0 = loopOf Tryz.prog 20 0 ∧ slX nG1 (m + 1) k = slX nG1 (m + 1) k ∧ slX (nG1 + 1) (m + 1) k' = slX (nG1 + 1) (m + 1) k' ∧ gi 0 = goN 0 ∧ (some (AObj.cells (l.map gf) e row true) = some (.cells (l.map gf) e row true) ∧ some (AObj.cells (l.map gf) e' row' true) = some (.cells (l.map gf) e' row' true)) ∧ (l.length = m + 1 ∧ m + 1 ≤ 65536 ∧ ∀ x ∈ l, fin32 x) ∧ ∀ (_ : Nat → Value) (_ : AHeap), K (.bool true)) := by kernel_rfl
set_option maxRecDepth 100000 in
theorem si_loop (l : List Int) (n : Nat) (hl : l.length = n) (hle : n ≤ 65536)  (e row e' row' k k' : Nat) : ∀ (a : AAct) (h : AHeap), Laid (twC (l.map gi) (l.map gi) e row e' row') (nG1 + ·) h → a.n = 26 → a.marks = [] → [0, 1, 5].map a.tmp = [slX nG1 n k, slX (nG1 + 1) n k', goN 0] →
  J Tryz.prog (.loop (loopOf Tryz.prog 21 0)) a h (told 26 [0, 1, 5] fun ex vs h' => ex = .exit 0) := by
 intro a h hs ha hk hv
 refine fold_rule (L := 2) (C := fun _ => twC (l.map gi) (l.map gi) e row e' row') globs_pos (by decide) (by decide) (fun _ => rfl) (fun _ b hb => ?_) (V := fun at_ j => [slX (at_ 0) n k, slX (at_ 1) n k', goN j]) (I := fun j => True) (m := n) trivial _ (nG1 + ·) (plus_nodup _ _) (fun q _ => Nat.le_add_right _ _) (fun j => by kernel_rfl) (fun j => by kernel_rfl)
  (fun at_ j q hq => by match q, hq with | 0, _ => exact ⟨(0, slX (at_ 0) n k), by simp, by simp [named]⟩ | 1, _ => exact ⟨(1, slX (at_ 1) n k'), by simp, by simp [named]⟩) ?_ ?_ a h hs ha hk hv
 ·rcases List.mem_cons.1 hb with rfl | hb
  ·exact flat_ints l
  ·cases List.mem_singleton.1 hb; exact flat_ints l
 ·intro j hj hI g
  have hjl : j < l.length := by omega
  obtain ⟨f1, f2⟩ := gi_at hjl
  refine execC_ok mixed orcKo_ok (askKo_ok 1) (noLoops _) (Eq.mpr (si_body _ _ e row e' row' n k n k' j g _) ⟨fun hlt => ⟨hlt, f1, hlt, f1, fun hx => ?_, fun hx => ?_⟩, fun hge => absurd (blt_false hge) (by omega)⟩)
  ·rw [ieq_dec] at hx
   simp at hx
  ·exact ⟨trivial, by rw [fwrap_nat (by omega)]; exact rfl, .two (gC_get (C := twC _ _ _ _ _ _) (q := 0) rfl) (gC_get (C := twC _ _ _ _ _ _) (q := 1) rfl)⟩
 ·intro hI g
  exact execC_ok mixed orcKo_ok (askKo_ok 1) (noLoops _) (Eq.mpr (si_body _ _ e row e' row' n k n k' n g _) ⟨fun hlt => absurd (blt_true hlt) (by omega), fun _ => rfl⟩)
noncomputable def siL (l : List Int) (n e row e' row' k k' : Nat) : Loops Tryz.prog where
 body := fun _ => loopOf Tryz.prog 21 0
 spec := fun _ a h c => entry a 26 [(0, slX nG1 n k), (1, slX (nG1 + 1) n k'), (5, goN 0)] ((h.get nG1 = some (.cells (l.map gi) e row true) ∧ h.get (nG1 + 1) = some (.cells (l.map gi) e' row' true)) ∧ (l.length = n ∧ n ≤ 65536) ∧ ∀ g h', c (.exit 0) (stOf 26 [] g) h')
 ok := fun i a h c q => by
  obtain ⟨h1, h2, h3, ⟨g0, g1⟩, hc, k1⟩ := entry_facts q
  have e0 : a.tmp 0 = slX nG1 n k := h3 (0, slX nG1 n k) (by simp)
  have e1 : a.tmp 1 = slX (nG1 + 1) n k' := h3 (1, slX (nG1 + 1) n k') (by simp)
  have e2 : a.tmp 5 = goN 0 := h3 (5, goN 0) (by simp)
  refine J.of_told (si_loop l n hc.1 hc.2 e row e' row' k k' a h (.two g0 g1) h1 h2 ?_) ?_
  ·show [a.tmp 0, a.tmp 1, a.tmp 5] = _
   rw [e0, e1, e2]
  ·rintro ex vs h' g rfl
   exact k1 (ov ([0, 1, 5].zip vs) g) h'
theorem si_run (l : List Int) (m k k' e row e' row' : Nat) (K : Value → Prop) : callC Tryz.prog (exec Tryz.prog orcKo 10) (syOf [(10, 32)]) (askKo 1) (siL l (m + 1) e row e' row' k k') 40 21 #[slX nG1 (m + 1) k, slX (nG1 + 1) (m + 1) k'] (canon Tryz.prog [(l.map gi, e, row), (l.map gi, e', row')]) (fun v _ => K v) = ((!(ieq (Int.ofNat (m + 1)) (Int.ofNat (m + 1)))) = false ∧ loopOf Tryz.prog 21 0 = loopOf Tryz.prog 21 0 ∧ slX nG1 (m + 1) k = slX nG1 (m + 1) k ∧ slX (nG1 + 1) (m + 1) k' = slX (nG1 + 1) (m + 1) k' ∧ gi 0 = goN 0 ∧ (some (AObj.cells (l.map gi) e row true) = some (.cells (l.map gi) e row true) ∧ some (AObj.cells (l.map gi) e' row' true) = some (.cells (l.map gi) e' row' true)) ∧ (l.length = m + 1 ∧ m + 1 ≤ 65536) ∧ ∀ (_ : Nat → Value) (_ : AHeap), K (.bool true)) := by kernel_rfl
theorem sfnn_run (K : Value → Prop) : callR Tryz.prog orcKo (fun _ => syOf []) (askKo 1) 60 20 #[nilS, nilS] (canon Tryz.prog []) (fun v _ => K v) = (K (Value.bool true)) := by kernel_rfl
theorem sfne_run (b : Nat) (K : Value → Prop) : callR Tryz.prog orcKo (fun _ => syOf []) (askKo 1) 60 20 #[nilS, (emS b)] (canon Tryz.prog []) (fun v _ => K v) = (K (Value.bool true)) := by kernel_rfl
theorem sfen_run (a : Nat) (K : Value → Prop) : callR Tryz.prog orcKo (fun _ => syOf []) (askKo 1) 60 20 #[(emS a), nilS] (canon Tryz.prog []) (fun v _ => K v) = (K (Value.bool true)) := by kernel_rfl
theorem sfee_run (a : Nat) (b : Nat) (K : Value → Prop) : callR Tryz.prog orcKo (fun _ => syOf []) (askKo 1) 60 20 #[(emS a), (emS b)] (canon Tryz.prog []) (fun v _ => K v) = (K (Value.bool true)) := by kernel_rfl
theorem sinn_run (K : Value → Prop) : callR Tryz.prog orcKo (fun _ => syOf []) (askKo 1) 60 21 #[nilS, nilS] (canon Tryz.prog []) (fun v _ => K v) = (K (Value.bool true)) := by kernel_rfl
theorem sine_run (b : Nat) (K : Value → Prop) : callR Tryz.prog orcKo (fun _ => syOf []) (askKo 1) 60 21 #[nilS, (emS b)] (canon Tryz.prog []) (fun v _ => K v) = (K (Value.bool true)) := by kernel_rfl
theorem sien_run (a : Nat) (K : Value → Prop) : callR Tryz.prog orcKo (fun _ => syOf []) (askKo 1) 60 21 #[(emS a), nilS] (canon Tryz.prog []) (fun v _ => K v) = (K (Value.bool true)) := by kernel_rfl
theorem siee_run (a : Nat) (b : Nat) (K : Value → Prop) : callR Tryz.prog orcKo (fun _ => syOf []) (askKo 1) 60 21 #[(emS a), (emS b)] (canon Tryz.prog []) (fun v _ => K v) = (K (Value.bool true)) := by kernel_rfl
open Classical in
noncomputable def sfX (A B : List Nat) (r : List Value) : Option Out := if (r = [] ∧ A = B) ∧ ∀ x ∈ A, fin32 x then some (.plain (.bool true)) else none
theorem sfX_some {A B : List Nat} {r : List Value} {o : Out} (h : sfX A B r = some o) : ((r = [] ∧ A = B) ∧ ∀ x ∈ A, fin32 x) ∧ o = .plain (.bool true) := by
 unfold sfX at h
 split at h
 ·rename_i hc; cases h; exact ⟨hc, rfl⟩
 ·cases h
open Classical in
noncomputable def siX (A B : List Int) (r : List Value) : Option Out := if r = [] ∧ A = B then some (.plain (.bool true)) else none
theorem siX_some {A B : List Int} {r : List Value} {o : Out} (h : siX A B r = some o) : (r = [] ∧ A = B) ∧ o = .plain (.bool true) := by
 unfold siX at h
 split at h
 ·rename_i hc; cases h; exact ⟨hc, rfl⟩
 ·cases h
noncomputable def sfY (A B : List Nat) (r : List Value) (K : Out → Prop) : Prop := ((r = [] ∧ A = B) ∧ ∀ x ∈ A, fin32 x) ∧ K (.plain (.bool true))
noncomputable def siY (A B : List Int) (r : List Value) (K : Out → Prop) : Prop := (r = [] ∧ A = B) ∧ K (.plain (.bool true))
theorem sfY_ok (A B : List Nat) (r : List Value) (K : Out → Prop) (h : sfY A B r K) : ∃ o, sfX A B r = some o ∧ K o := ⟨_, if_pos h.1, h.2⟩
theorem siY_ok (A B : List Int) (r : List Value) (K : Out → Prop) (h : siY A B r K) : ∃ o, siX A B r = some o ∧ K o := ⟨_, if_pos h.1, h.2⟩
noncomputable def orcKp : Orc := orElse 21 (twoO Tryz.prog.globals.size tI tI siX) (orElse 20 (twoO Tryz.prog.globals.size tF tF sfX) orcKo)
set_option maxRecDepth 100000 in
theorem orcKp_ok : OrcOk Tryz.prog orcKp := by
 refine twoO_ok globs_pos (twoO_ok globs_pos orcKo_ok ?_ ?_ ?_ ?_ ?_) ?_ ?_ ?_ ?_ ?_
 ·intro l l' r o h
  obtain ⟨_, rfl⟩ := sfX_some h
  exact rfl
 ·intro r o a b h ha hb
  obtain ⟨⟨⟨rfl, _⟩, _⟩, rfl⟩ := sfX_some h
  rcases ha with rfl | ⟨i, rfl⟩ <;> rcases hb with rfl | ⟨j, rfl⟩
  ·exact CallJ.ofR mixed orcKo_ok (askKo_ok 1) (Eq.mpr (sfnn_run _) rfl)
  ·exact CallJ.ofR mixed orcKo_ok (askKo_ok 1) (Eq.mpr (sfne_run j _) rfl)
  ·exact CallJ.ofR mixed orcKo_ok (askKo_ok 1) (Eq.mpr (sfen_run i _) rfl)
  ·exact CallJ.ofR mixed orcKo_ok (askKo_ok 1) (Eq.mpr (sfee_run i j _) rfl)
 ·intro l' r o a m k e row h ha hl h1 hk
  obtain ⟨⟨⟨_, hx⟩, _⟩, _⟩ := sfX_some h
  rw [← hx] at hl; simp at hl
 ·intro l r o b m k e row h hb hl h1 hk
  obtain ⟨⟨⟨_, hx⟩, _⟩, _⟩ := sfX_some h
  rw [hx] at hl; simp at hl
 ·intro l l' r o m k m' k' e row e' row' h hl h1 hk hl' h1' hk'
  obtain ⟨⟨⟨rfl, rfl⟩, hf⟩, rfl⟩ := sfX_some h
  obtain rfl : m = m' := by omega
  exact callC_ok mixed orcKo_ok (askKo_ok 1) (Eq.mpr (sf_run l m k k' e row e' row' _) ⟨by rw [ieq_self]; rfl, rfl, rfl, rfl, rfl, ⟨rfl, rfl⟩, ⟨hl, h1, hf⟩, fun _ _ => rfl⟩)
 ·intro l l' r o h
  obtain ⟨_, rfl⟩ := siX_some h
  exact rfl
 ·intro r o a b h ha hb
  obtain ⟨⟨rfl, _⟩, rfl⟩ := siX_some h
  rcases ha with rfl | ⟨i, rfl⟩ <;> rcases hb with rfl | ⟨j, rfl⟩
  ·exact CallJ.ofR mixed orcKo_ok (askKo_ok 1) (Eq.mpr (sinn_run _) rfl)
  ·exact CallJ.ofR mixed orcKo_ok (askKo_ok 1) (Eq.mpr (sine_run j _) rfl)
  ·exact CallJ.ofR mixed orcKo_ok (askKo_ok 1) (Eq.mpr (sien_run i _) rfl)
  ·exact CallJ.ofR mixed orcKo_ok (askKo_ok 1) (Eq.mpr (siee_run i j _) rfl)
 ·intro l' r o a m k e row h ha hl h1 hk
  obtain ⟨⟨_, hx⟩, _⟩ := siX_some h
  rw [← hx] at hl; simp at hl
 ·intro l r o b m k e row h hb hl h1 hk
  obtain ⟨⟨_, hx⟩, _⟩ := siX_some h
  rw [hx] at hl; simp at hl
 ·intro l l' r o m k m' k' e row e' row' h hl h1 hk hl' h1' hk'
  obtain ⟨⟨rfl, rfl⟩, rfl⟩ := siX_some h
  obtain rfl : m = m' := by omega
  exact callC_ok mixed orcKo_ok (askKo_ok 1) (Eq.mpr (si_run l m k k' e row e' row' _) ⟨by rw [ieq_self]; rfl, rfl, rfl, rfl, rfl, ⟨rfl, rfl⟩, ⟨hl, h1⟩, fun _ _ => rfl⟩)
noncomputable def askKp (n : Nat) : Asks := asks2 Tryz.prog.globals.size 21 tI tI siY (asks2 Tryz.prog.globals.size 20 tF tF sfY (askKo n))
theorem askKp_ok (n : Nat) : AsksOk orcKp (askKp n) := asks2_ok siY_ok (asks2_ok sfY_ok (askKo_ok n))
end Go.Proofs.YthgojmebbhpbbaaGreatDoor
