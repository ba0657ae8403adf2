/-
  OWN WORK. Kernels: their checks, known for all lists.
-/
import Derived.Test.YthgojmebbhpbbaaGreatDoorKaA
namespace Go.Proofs.YthgojmebbhpbbaaGreatDoor
open Go Go.Am
theorem gi_at {l : List Int} {j : Nat} (hj : j < l.length) : (l.map gi)[0 + j * 1]? = some (gi (intAt (l.map gi) (0 + j * 1))) ∧ intAt (l.map gi) (0 + j * 1) = l[j] := int_at (List.getElem?_eq_getElem hj)
noncomputable abbrev oneI (l : List Int) (e row : Nat) : Nat → List Blk := fun _ => [(l.map gi, e, row, true)]
theorem oneI_flat (l : List Int) (e row : Nat) : ∀ j, ∀ b ∈ oneI l e row j, b.1.all (flat 3) = true := fun _ b hb => by
 simp only [List.mem_cons, List.not_mem_nil, or_false] at hb
 subst hb; exact flat_ints l
noncomputable def sumF (l : List Int) (j : Nat) : Int := (l.take j).foldl (fun s w => fwrap .i64 (s + w)) 0
noncomputable def sumW (l : List Int) : Int := l.foldl (fun s w => fwrap .i64 (s + w)) 0
theorem sumF_succ {l : List Int} {j : Nat} (hj : j < l.length) : sumF l (j + 1) = fwrap .i64 (sumF l j + l[j]) := by
 unfold sumF
 rw [List.take_add_one, List.getElem?_eq_getElem hj, List.foldl_append]; rfl
theorem sumF_end (l : List Int) : sumF l l.length = sumW l := by unfold sumF sumW; rw [List.take_length]
set_option maxRecDepth 100000 in
theorem ei_loop (l : List Int) (n e row k : Nat) (hn : l.length = n) (hle : n ≤ 65536) : ∀ (a : AAct) (h : AHeap), Laid [(l.map gi, e, row, true)] (Tryz.prog.globals.size + ·) h → a.n = 21 → a.marks = [] → [1, 4, 8, 9, 10].map a.tmp = [wF, gi 0, liP n k, goN n, goN 0] →
  J Tryz.prog (.loop (loopOf Tryz.prog 60 0)) a h (told 21 [1, 4, 8, 9, 10] fun ex vs _ => (ex = .exit 0 ∧ firstE wE l = 0) ∨ (ex = .ret ∧ ∃ r, vs = wF :: gi (firstE wE l) :: r)) := by
 refine fold_rule (L := 1) (C := oneI l e row) globs_pos (by decide) (by decide) (fun _ => rfl) (oneI_flat l e row) (V := fun at_ j => [wF, gi 0, .slice (some ⟨at_ 0, 0, none⟩) n k, goN n, goN j]) (I := fun j => firstE wE l = firstE wE (l.drop j)) (m := n) rfl _ _ (plus_nodup _ _) (fun q _ => Nat.le_add_right _ _) (fun j => by kernel_rfl) (fun j => by kernel_rfl)
  (fun at_ j q hq => by match q, hq with | 0, _ => exact ⟨(8, .slice (some ⟨at_ 0, 0, none⟩) n k), by simp, by simp [named]⟩) ?_ ?_
 ·intro j hj hI g
  have hjl : j < l.length := by omega
  obtain ⟨f0, i0⟩ := gi_at hjl
  refine execC_ok mixed orcKa_ok askKa_ok (noLoops _) (Eq.mpr (ei_body (l.map gi) n k e row j g _) ⟨fun hlt => ⟨hlt, f0, fun hx => ?_, fun hx => ?_⟩, fun hge => ?_⟩)
  ·rw [i0] at hx ⊢
   refine .inr ⟨rfl, [liP n k, goN n, goN j], ?_⟩
   rw [hI, firstE_drop hjl, not_ieqT hx]; rfl
  ·rw [i0] at hx
   refine ⟨?_, by rw [fwrap_nat (by omega)]; rfl, .one (gC_get (q := 0) rfl)⟩
   rw [hI, firstE_drop hjl, not_ieqF hx]; rfl
  ·have := blt_false hge; omega
 ·intro hI g
  refine execC_ok mixed orcKa_ok askKa_ok (noLoops _) (Eq.mpr (ei_body (l.map gi) n k e row n g _) ⟨fun hlt => ?_, fun _ => ?_⟩)
  ·have := blt_true hlt; omega
  ·exact .inl ⟨rfl, by rw [hI, firstE_end (by omega)]⟩
noncomputable def eiL (l : List Int) (n e row k : Nat) : Loops Tryz.prog where
 body := fun _ => loopOf Tryz.prog 60 0
 spec := fun _ a h c => entry a 21 [(1, wF), (4, gi 0), (8, liP n k), (9, goN n), (10, goN 0)] (h.get Tryz.prog.globals.size = some (.cells (l.map gi) e row true) ∧ (l.length = n ∧ n ≤ 65536) ∧
  (firstE wE l = 0 → ∀ g h', c (.exit 0) (stOf 21 [] g) h') ∧ ∀ g h', c .ret (stOf 21 [(4, gi (firstE wE l))] g) h')
 ok := fun i a h c q => by
  obtain ⟨h1, h2, h3, g0, ⟨hs1, hs2⟩, h4, h5⟩ := entry_facts q
  refine J.of_told (ei_loop l n e row k hs1 hs2 a h (.one g0) h1 h2 ?_) ?_
  ·simp only [List.map_cons, List.map_nil]
   rw [h3 (1, wF) (by simp), h3 (4, gi 0) (by simp), h3 (8, liP n k) (by simp), h3 (9, goN n) (by simp), h3 (10, goN 0) (by simp)]
  ·rintro ex vs h' g (⟨rfl, hz⟩ | ⟨rfl, r, rfl⟩)
   ·exact h4 hz (ov ([1, 4, 8, 9, 10].zip vs) g) h'
   ·exact h5 (ov ((1, wF) :: [8, 9, 10].zip r) g) h'
theorem ei_run (l : List Int) (n e row k : Nat) (K : Value → Prop) : callC Tryz.prog (exec Tryz.prog orcKa 10) (syOf []) askKa (eiL l n e row k) 20 60 #[liP n k, wF] (canon Tryz.prog [(l.map gi, e, row)]) (fun v _ => K v) = ((loopOf Tryz.prog 60 0 = loopOf Tryz.prog 60 0 ∧ wF = wF ∧ gi 0 = gi 0 ∧ liP n k = liP n k ∧ goN n = goN n ∧ gi 0 = goN 0 ∧ (canon Tryz.prog [Prod.mk (List.map gi l) (Prod.mk e row)]).get (nG1) = Option.some (.cells (List.map gi l) e row true) ∧ (List.length l = n ∧ (n : Nat) ≤ 65536) ∧ (firstE wE l = 0 → (∀ _ : Nat → Value, (∀ _ : AHeap, K (gi 0)))) ∧ (∀ _ : Nat → Value, (∀ _ : AHeap, K (gi (firstE wE l)))))) := by kernel_rfl
theorem ei_nil : (call Tryz.prog orcKa 40 60 #[nilS, wF] (emp Tryz.prog)).map (·.1) = some (gi 0) := by kernel_rfl
theorem ei_emp (k : Nat) : (call Tryz.prog orcKa 40 60 #[.slice (some ⟨0, 0, none⟩) 0 k, wF] (emp Tryz.prog)).map (·.1) = some (gi 0) := by kernel_rfl
set_option maxRecDepth 100000 in
theorem sm_loop (l : List Int) (n e row k : Nat) (hn : l.length = n) (hle : n ≤ 65536) : ∀ (a : AAct) (h : AHeap), Laid [(l.map gi, e, row, true)] (Tryz.prog.globals.size + ·) h → a.n = 17 → a.marks = [] → [3, 6, 7, 8].map a.tmp = [gi 0, liP n k, goN n, goN 0] →
  J Tryz.prog (.loop (loopOf Tryz.prog 63 0)) a h (told 17 [3, 6, 7, 8] fun ex vs _ => ex = .exit 0 ∧ vs = [gi (sumW l), liP n k, goN n, goN n]) := by
 refine fold_rule (L := 1) (C := oneI l e row) globs_pos (by decide) (by decide) (fun _ => rfl) (oneI_flat l e row) (V := fun at_ j => [gi (sumF l j), .slice (some ⟨at_ 0, 0, none⟩) n k, goN n, goN j]) (I := fun _ => True) (m := n) trivial _ _ (plus_nodup _ _) (fun q _ => Nat.le_add_right _ _) (fun j => by kernel_rfl) (fun j => by kernel_rfl)
  (fun at_ j q hq => by match q, hq with | 0, _ => exact ⟨(6, .slice (some ⟨at_ 0, 0, none⟩) n k), by simp, by simp [named]⟩) ?_ ?_
 ·intro j hj _ g
  have hjl : j < l.length := by omega
  obtain ⟨f0, i0⟩ := gi_at hjl
  refine execC_ok mixed orcKa_ok askKa_ok (noLoops _) (Eq.mpr (sm_body (l.map gi) n k e row j (sumF l j) g _) ⟨fun hlt => ⟨hlt, f0, trivial, ?_, .one (gC_get (q := 0) rfl)⟩, fun hge => ?_⟩)
  ·rw [i0, fwrap_nat (by omega)]
   show _ = [gi (sumF l (j + 1)), _, _, _]
   rw [sumF_succ hjl]; rfl
  ·have := blt_false hge; omega
 ·intro _ g
  refine execC_ok mixed orcKa_ok askKa_ok (noLoops _) (Eq.mpr (sm_body (l.map gi) n k e row n (sumF l n) g _) ⟨fun hlt => ?_, fun _ => ⟨rfl, by rw [← hn, sumF_end]⟩⟩)
  have := blt_true hlt; omega
noncomputable def smL (l : List Int) (n e row k : Nat) : Loops Tryz.prog where
 body := fun _ => loopOf Tryz.prog 63 0
 spec := fun _ a h c => entry a 17 [(3, gi 0), (6, liP n k), (7, goN n), (8, goN 0)] (h.get Tryz.prog.globals.size = some (.cells (l.map gi) e row true) ∧ (l.length = n ∧ n ≤ 65536) ∧ ∀ g h', c (.exit 0) (stOf 17 [(3, gi (sumW l))] g) h')
 ok := fun i a h c q => by
  obtain ⟨h1, h2, h3, g0, ⟨hs1, hs2⟩, h4⟩ := entry_facts q
  refine J.of_told (sm_loop l n e row k hs1 hs2 a h (.one g0) h1 h2 ?_) ?_
  ·simp only [List.map_cons, List.map_nil]
   rw [h3 (3, gi 0) (by simp), h3 (6, liP n k) (by simp), h3 (7, goN n) (by simp), h3 (8, goN 0) (by simp)]
  ·rintro ex vs h' g ⟨rfl, rfl⟩
   exact h4 (ov [(6, liP n k), (7, goN n), (8, goN n)] g) h'
theorem sm_run (l : List Int) (n e row k : Nat) (K : Value → Prop) : callC Tryz.prog (exec Tryz.prog orcKa 10) (syOf []) askKa (smL l n e row k) 20 63 #[liP n k] (canon Tryz.prog [(l.map gi, e, row)]) (fun v _ => K v) = ((loopOf Tryz.prog 63 0 = loopOf Tryz.prog 63 0 ∧ gi 0 = gi 0 ∧ liP n k = liP n k ∧ goN n = goN n ∧ gi 0 = goN 0 ∧ (canon Tryz.prog [Prod.mk (List.map gi l) (Prod.mk e row)]).get (nG1) = Option.some (.cells (List.map gi l) e row true) ∧ (List.length l = n ∧ (n : Nat) ≤ 65536) ∧ (∀ _ : Nat → Value, (∀ _ : AHeap, K (gi (sumW l)))))) := by kernel_rfl
theorem sm_nil : (call Tryz.prog orcKa 40 63 #[nilS] (emp Tryz.prog)).map (·.1) = some (gi 0) := by kernel_rfl
theorem sm_emp (k : Nat) : (call Tryz.prog orcKa 40 63 #[.slice (some ⟨0, 0, none⟩) 0 k] (emp Tryz.prog)).map (·.1) = some (gi 0) := by kernel_rfl
set_option maxRecDepth 100000 in
theorem Sm_loop (l : List Int) (n e row k : Nat) (hn : l.length = n) (hle : n ≤ 65536) : ∀ (a : AAct) (h : AHeap), Laid [(l.map gi, e, row, true)] (Tryz.prog.globals.size + ·) h → a.n = 18 → a.marks = [] → [0, 3, 4].map a.tmp = [liP n k, gi 0, goN 0] →
  J Tryz.prog (.loop (loopOf Tryz.prog 53 0)) a h (told 18 [0, 3, 4] fun ex vs _ => ex = .exit 0 ∧ vs = [liP n k, gi (sumW l), goN n]) := by
 refine fold_rule (L := 1) (C := oneI l e row) globs_pos (by decide) (by decide) (fun _ => rfl) (oneI_flat l e row) (V := fun at_ j => [.slice (some ⟨at_ 0, 0, none⟩) n k, gi (sumF l j), goN j]) (I := fun _ => True) (m := n) trivial _ _ (plus_nodup _ _) (fun q _ => Nat.le_add_right _ _) (fun j => by kernel_rfl) (fun j => by kernel_rfl)
  (fun at_ j q hq => by match q, hq with | 0, _ => exact ⟨(0, .slice (some ⟨at_ 0, 0, none⟩) n k), by simp, by simp [named]⟩) ?_ ?_
 ·intro j hj _ g
  have hjl : j < l.length := by omega
  obtain ⟨f0, i0⟩ := gi_at hjl
  refine execC_ok mixed orcKa_ok askKa_ok (noLoops _) (Eq.mpr (Sm_body (l.map gi) n k e row j (sumF l j) g _) ⟨fun hlt => ⟨hlt, f0, trivial, ?_, .one (gC_get (q := 0) rfl)⟩, fun hge => ?_⟩)
  ·rw [i0, fwrap_nat (by omega)]
   show _ = [_, gi (sumF l (j + 1)), _]
   rw [sumF_succ hjl]; rfl
  ·have := blt_false hge; omega
 ·intro _ g
  refine execC_ok mixed orcKa_ok askKa_ok (noLoops _) (Eq.mpr (Sm_body (l.map gi) n k e row n (sumF l n) g _) ⟨fun hlt => ?_, fun _ => ⟨rfl, by rw [← hn, sumF_end]⟩⟩)
  have := blt_true hlt; omega
noncomputable def SmL (l : List Int) (n e row k : Nat) : Loops Tryz.prog where
 body := fun _ => loopOf Tryz.prog 53 0
 spec := fun _ a h c => entry a 18 [(0, liP n k), (3, gi 0), (4, goN 0)] (h.get Tryz.prog.globals.size = some (.cells (l.map gi) e row true) ∧ (l.length = n ∧ n ≤ 65536) ∧ ∀ g h', c (.exit 0) (stOf 18 [(3, gi (sumW l))] g) h')
 ok := fun i a h c q => by
  obtain ⟨h1, h2, h3, g0, ⟨hs1, hs2⟩, h4⟩ := entry_facts q
  refine J.of_told (Sm_loop l n e row k hs1 hs2 a h (.one g0) h1 h2 ?_) ?_
  ·simp only [List.map_cons, List.map_nil]
   rw [h3 (0, liP n k) (by simp), h3 (3, gi 0) (by simp), h3 (4, goN 0) (by simp)]
  ·rintro ex vs h' g ⟨rfl, rfl⟩
   exact h4 (ov [(0, liP n k), (4, goN n)] g) h'
theorem Sm_run (l : List Int) (n e row k : Nat) (K : Value → Prop) : callC Tryz.prog (exec Tryz.prog orcKa 10) (syOf []) askKa (SmL l n e row k) 20 53 #[liP n k] (canon Tryz.prog [(l.map gi, e, row)]) (fun v _ => K v) = ((loopOf Tryz.prog 53 0 = loopOf Tryz.prog 53 0 ∧ liP n k = liP n k ∧ gi 0 = gi 0 ∧ gi 0 = goN 0 ∧ (canon Tryz.prog [Prod.mk (List.map gi l) (Prod.mk e row)]).get (nG1) = Option.some (.cells (List.map gi l) e row true) ∧ (List.length l = n ∧ (n : Nat) ≤ 65536) ∧ (∀ _ : Nat → Value, (∀ _ : AHeap, K (gi (sumW l)))))) := by kernel_rfl
theorem Sm_nil : (call Tryz.prog orcKa 40 53 #[nilS] (emp Tryz.prog)).map (·.1) = some (gi 0) := by kernel_rfl
theorem Sm_emp (k : Nat) : (call Tryz.prog orcKa 40 53 #[.slice (some ⟨0, 0, none⟩) 0 k] (emp Tryz.prog)).map (·.1) = some (gi 0) := by kernel_rfl
noncomputable abbrev eiC : List Int → List Value → Prop := fun _ r => r = [wF]
noncomputable abbrev eiO : List Int → List Value → Out := fun l _ => .plain (gi (firstE wE l))
noncomputable abbrev smO : List Int → List Value → Out := fun l _ => .plain (gi (sumW l))
noncomputable def orcKb : Orc := orElse 53 (lstI Tryz.prog.globals.size tI noC smO) (orElse 63 (lstI Tryz.prog.globals.size tI noC smO) (orElse 60 (lstI Tryz.prog.globals.size tI eiC eiO) orcKa))
theorem canon_one {c : List Value} {e row : Nat} : (canon Tryz.prog [(c, e, row)]).get Tryz.prog.globals.size = some (.cells c e row true) := by rw [canon_get, if_pos (Nat.le_refl _), Nat.sub_self]; rfl
set_option maxRecDepth 100000 in
theorem orcKb_ok : OrcOk Tryz.prog orcKb := by
 refine lstI_ok globs_pos (lstI_ok globs_pos (lstI_ok globs_pos orcKa_ok (fun _ _ _ => rfl) ?_ ?_ ?_) (fun _ _ _ => rfl) ?_ ?_ ?_) (fun _ _ _ => rfl) ?_ ?_ ?_
 ·rintro r rfl; exact CallJ.of_call mixed orcKa_ok ei_nil fun _ => rfl
 ·rintro r k rfl; exact CallJ.of_call mixed orcKa_ok (ei_emp k) fun _ => rfl
 ·rintro l r m e row k rfl hm h1
  exact callC_ok mixed orcKa_ok askKa_ok (Eq.mpr (ei_run l _ e row k _) ⟨rfl, rfl, rfl, rfl, rfl, rfl, canon_one, ⟨hm, h1⟩, fun h _ _ => (show gi 0 = gi (firstE wE l) by rw [h]), fun _ _ => rfl⟩)
 ·rintro r rfl; exact CallJ.of_call mixed orcKa_ok sm_nil fun _ => rfl
 ·rintro r k rfl; exact CallJ.of_call mixed orcKa_ok (sm_emp k) fun _ => rfl
 ·rintro l r m e row k rfl hm h1
  exact callC_ok mixed orcKa_ok askKa_ok (Eq.mpr (sm_run l _ e row k _) ⟨rfl, rfl, rfl, rfl, rfl, canon_one, ⟨hm, h1⟩, fun _ _ => rfl⟩)
 ·rintro r rfl; exact CallJ.of_call mixed orcKa_ok Sm_nil fun _ => rfl
 ·rintro r k rfl; exact CallJ.of_call mixed orcKa_ok (Sm_emp k) fun _ => rfl
 ·rintro l r m e row k rfl hm h1
  exact callC_ok mixed orcKa_ok askKa_ok (Eq.mpr (Sm_run l _ e row k _) ⟨rfl, rfl, rfl, rfl, canon_one, ⟨hm, h1⟩, fun _ _ => rfl⟩)
noncomputable def askKb : Asks := asksI' Tryz.prog.globals.size 53 tI noC smO (asksI' Tryz.prog.globals.size 63 tI noC smO (asksI' Tryz.prog.globals.size 60 tI eiC eiO askKa))
theorem askKb_ok : AsksOk orcKb askKb := asksI'_ok (asksI'_ok (asksI'_ok askKa_ok))
end Go.Proofs.YthgojmebbhpbbaaGreatDoor
