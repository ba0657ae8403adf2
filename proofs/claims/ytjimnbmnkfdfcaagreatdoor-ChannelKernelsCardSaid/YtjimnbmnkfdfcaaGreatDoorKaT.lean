/-
  Kernels: the records of the reference, and the loops of its filters.
-/
import Derived.Test.YtjimnbmnkfdfcaaGreatDoorKaS
/-! (OWN WORK. Kernels: the reference's Made and made.) -/
namespace Go.Proofs.YtjimnbmnkfdfcaaGreatDoor
open Go Go.Am
theorem ble_no {a b : Nat} (h : b < a) : Nat.ble a b = false := by
  cases hx : Nat.ble a b with
  | false => rfl
  | true => rw [Nat.ble_eq] at hx; omega
noncomputable def mdP (l : List Int) (j : Nat) : List Value := (List.range j).map fun i => gf (sampleE (l.getD i 0))
theorem mdP_length (l : List Int) (j : Nat) : (mdP l j).length = j := by simp [mdP]
theorem mdP_nil {l : List Int} {j : Nat} (h : mdP l j = []) : j = 0 := by
  have := congrArg List.length h
  rw [mdP_length] at this
  exact this
theorem mdP_flat (l : List Int) (j : Nat) : (mdP l j).all (flat 3) = true := by
  rw [List.all_eq_true]
  intro x hx
  obtain ⟨i, _, rfl⟩ := List.mem_map.1 hx
  rfl
theorem mdP_succ {l : List Int} {j : Nat} (h : j < l.length) : mdP l (j + 1) = mdP l j ++ [gf (sampleE l[j])] := by
  unfold mdP
  rw [List.range_succ, List.map_append, List.map_cons, List.map_nil, List.getD_eq_getElem?_getD, List.getElem?_eq_getElem h]
  rfl
theorem mdP_end (l : List Int) : mdP l l.length = l.map fun u => gf (sampleE u) := by
  refine List.ext_getElem (by simp [mdP]) fun i h1 h2 => ?_
  have hi : i < l.length := by simpa using h2
  simp [mdP, List.getElem?_eq_getElem hi]
theorem okB {x : Int} (h : okU x) : ((!(ilt x (-16384))) && (!(ilt 16384 x))) = true := by
  have hb := okU_iff.1 h
  unfold Bd at hb
  simp only [ilt_say, Bool.and_eq_true, Bool.not_eq_true', decide_eq_false_iff_not]
  omega
noncomputable def mdV (n k : Nat) : Nat → Value → List Value := fun j v => [liP n k, v, goN j]
set_option maxRecDepth 100000 in
theorem md_loop (l : List Int) (n e row k : Nat) (hl : l.length = n) (hle : n ≤ 65536) (hu : ∀ x ∈ l, okU x) : ∀ (a : AAct) (h : AHeap), h.get nG1 = some (.cells (l.map gi) e row true) → a.n = 20 → a.marks = [] → [0, 3, 4].map a.tmp = [liP n k, nilS, goN 0] →
    J Tryz.prog (.loop (loopOf Tryz.prog 63 0)) a h (told 20 [0, 3, 4] fun ex vs h' => ex = .exit 0 ∧ ((n = 0 ∧ vs = [liP n k, nilS, goN n]) ∨ (0 < n ∧ vs = [liP n k, slO n n, goN n] ∧ h'.get (nG1 + 1) = some (.cells (mdP l n) 96 2 false)))) := by
  intro a h hs ha hk hv
  refine grow_rule (el := 96) globs_pos (by decide) (by decide) (flat_ints l) (mdV n k) (mdP l) n _ (mdP_flat l) (fun j => by kernel_rfl) (fun j b q hb => by rcases hb with rfl | rfl | rfl <;> kernel_rfl)
    (fun j v => ⟨(0, liP n k), by simp [mdV], by simp [named]⟩) (fun j b q => ⟨(3, .slice (some ⟨b, 0, none⟩) q q), by simp [mdV], by simp [named]⟩) ?_ ?_ ?_ ?_ a h ⟨hs, .inl ⟨rfl, by rw [hv]; rfl⟩⟩ ha hk
  · intro j hj hx g
    obtain rfl : j = 0 := mdP_nil hx
    obtain ⟨f1, f2⟩ := gi_at (l := l) (j := 0) (by omega)
    refine execC_ok mixed orcKi_ok (askKi_ok 1) (noLoops _) (Eq.mpr (md_first _ n k e row 0 g _) ⟨fun hlt => ?_, fun hge => ?_⟩)
    · refine ⟨hlt, f1, by rw [f2]; exact okB (hu _ (List.getElem_mem _)), ?_, .inr ⟨nG1 + 2, .inr (.inl rfl), ?_, ?_, ?_⟩⟩
      · rw [AHeap.get_push_ne (by kernel_rfl), AHeap.get_push_ne (by kernel_rfl)]
        exact gH1_src _ _ _
      · intro h0; have := mdP_nil h0; omega
      · rw [mdP_length]; exact rfl
      · rw [AHeap.get_push_eq (by kernel_rfl), f2, mdP_succ (by omega)]; rfl
    · have := blt_false hge; omega
  · intro j hj hx g
    rw [mdP_length]
    obtain ⟨f1, f2⟩ := gi_at (l := l) (j := j) (by omega)
    refine execC_ok mixed orcKi_ok (askKi_ok 1) (noLoops _) (Eq.mpr (md_next _ _ n k e row j j g _) ⟨fun hlt => ?_, fun hge => ?_⟩)
    · refine ⟨hlt, f1, by rw [f2]; exact okB (hu _ (List.getElem_mem _)), ble_no (by omega), by rw [Nat.ble_eq]; omega, by rw [mdP_length, Nat.mul_one], ?_, .inr ⟨nG1 + 3, .inr (.inr rfl), ?_, ?_, ?_⟩⟩
      · rw [AHeap.get_push_ne (by kernel_rfl), AHeap.get_set_neB (by kernel_rfl), AHeap.get_push_ne (by kernel_rfl)]
        exact gH2_src _ _ _ _ _
      · intro h0; have := mdP_nil h0; omega
      · rw [mdP_length, fwrap_nat (by omega)]; exact rfl
      · rw [AHeap.get_push_eq (by kernel_rfl), f2, mdP_succ (by omega)]
    · have := blt_false hge; omega
  · intro hx g
    obtain rfl : n = 0 := mdP_nil hx
    exact execC_ok mixed orcKi_ok (askKi_ok 1) (noLoops _) (Eq.mpr (md_first _ 0 k e row 0 g _) ⟨fun hlt => absurd (blt_true hlt) (by omega), fun _ => ⟨rfl, .inl ⟨rfl, rfl⟩⟩⟩)
  · intro hx g
    rw [mdP_length]
    refine execC_ok mixed orcKi_ok (askKi_ok 1) (noLoops _) (Eq.mpr (md_next _ _ n k e row n n g _) ⟨fun hlt => absurd (blt_true hlt) (by omega), fun _ => ⟨rfl, .inr ⟨?_, rfl, gH2_dst _ _ _ _ _⟩⟩⟩)
    apply Nat.pos_of_ne_zero
    intro h0
    rw [h0] at hx
    exact hx rfl
noncomputable def mdL (l : List Int) (n e row k : Nat) : Loops Tryz.prog where
  body := fun _ => loopOf Tryz.prog 63 0
  spec := fun _ a h c => entry a 20 [(0, liP n k), (3, nilS), (4, goN 0)] (h.get nG1 = some (.cells (l.map gi) e row true) ∧ (l.length = n ∧ 0 < n ∧ n ≤ 65536 ∧ ∀ x ∈ l, okU x) ∧ ∀ g h', h'.get (nG1 + 1) = some (.cells (mdP l n) 96 2 false) → c (.exit 0) (stOf 20 [(3, slO n n)] g) h')
  ok := fun i a h c q => by
    obtain ⟨h1, h2, h3, g0, ⟨c1, c2, c3, c4⟩, k1⟩ := entry_facts q
    refine J.of_told (md_loop l n e row k c1 c3 c4 a h g0 h1 h2 ?_) ?_
    · simp only [List.map_cons, List.map_nil]
      rw [h3 (0, liP n k) (by simp), h3 (3, nilS) (by simp), h3 (4, goN 0) (by simp)]
    · rintro ex vs h' g ⟨rfl, ⟨h0, _⟩ | ⟨_, rfl, hg⟩⟩
      · omega
      · exact k1 (ov [(0, liP n k), (4, goN n)] g) h' hg
theorem md_run (l : List Int) (m e row k : Nat) (K : Value → AHeap → Prop) : callC Tryz.prog (exec Tryz.prog orcKk 10) (syOf []) (askKk 1) (mdL l (m + 1) e row k) 20 63 #[liP (m + 1) k] (canon Tryz.prog [(l.map gi, e, row)]) K = (loopOf Tryz.prog 63 0 = loopOf Tryz.prog 63 0 ∧ liP (m + 1) k = liP (m + 1) k ∧ nilS = nilS ∧ goN 0 = goN 0 ∧ some (AObj.cells (l.map gi) e row true) = some (.cells (l.map gi) e row true) ∧ (l.length = m + 1 ∧ 0 < m + 1 ∧ m + 1 ≤ 65536 ∧ ∀ x ∈ l, okU x) ∧ ∀ (_ : Nat → Value) (h' : AHeap), h'.get (nG1 + 1) = some (.cells (mdP l (m + 1)) 96 2 false) → K (slO (m + 1) (m + 1)) h') := by kernel_rfl
theorem mdn_run (K : Value → Prop) : callR Tryz.prog orcKk (fun _ => syOf []) (askKk 1) 60 63 #[nilS] (canon Tryz.prog []) (fun v _ => K v) = K nilS := by kernel_rfl
theorem mde_run (j : Nat) (K : Value → Prop) : callR Tryz.prog orcKk (fun _ => syOf []) (askKk 1) 60 63 #[emS j] (canon Tryz.prog []) (fun v _ => K v) = K nilS := by kernel_rfl
def mdC : List Int → List Value → Prop := fun l r => r = [] ∧ ∀ x ∈ l, okU x
noncomputable def mdO : List Int → List Value → Out := fun l _ => match l with
  | [] => .plain nilS
  | _ :: _ => .fresh (slM l.length) (mdP l l.length) 96
theorem mdO_ne {l : List Int} (h : l ≠ []) : mdO l [] = .fresh (slM l.length) (mdP l l.length) 96 := by
  cases l with
  | nil => exact absurd rfl h
  | cons x l => rfl
noncomputable def orcKl : Orc := orElse 63 (lstI Tryz.prog.globals.size tI mdC mdO) orcKk
set_option maxRecDepth 100000 in
theorem orcKl_ok : OrcOk Tryz.prog orcKl := by
  refine lstI_ok globs_pos orcKk_ok (fun l r _ => ?_) (fun r h => ?_) (fun r k h => ?_) fun l r m e row k h hl h1 => ?_
  · cases l with
    | nil => exact rfl
    | cons x l => exact ⟨names_sl _, mdP_flat _ _⟩
  · obtain ⟨rfl, _⟩ := h
    exact CallJ.ofR mixed orcKk_ok (askKk_ok 1) (Eq.mpr (mdn_run _) rfl)
  · obtain ⟨rfl, _⟩ := h
    exact CallJ.ofR mixed orcKk_ok (askKk_ok 1) (Eq.mpr (mde_run k _) rfl)
  · obtain ⟨rfl, hu⟩ := h
    have hne : l ≠ [] := fun h => by rw [h] at hl; simp at hl
    rw [mdO_ne hne]
    exact callC_ok mixed orcKk_ok (askKk_ok 1) (Eq.mpr (md_run l m e row k _) ⟨rfl, rfl, rfl, rfl, rfl, ⟨hl, by omega, h1, hu⟩, fun _ h' hg => by rw [hl]; exact ⟨nG1 + 1, rfl, hg⟩⟩)
noncomputable def mdY (l : List Int) (r : List Value) (K : Out → Prop) : Prop := (r = [] ∧ ∀ x ∈ l, okU x) ∧ (l = [] → K (.plain nilS)) ∧ (l ≠ [] → ∃ m, l.length = m + 1 ∧ K (.fresh (slM (m + 1)) (mdP l (m + 1)) 96))
theorem mdY_ok (l : List Int) (r : List Value) (K : Out → Prop) (h : mdY l r K) : ∃ o, ifX mdC mdO l r = some o ∧ K o := by
  obtain ⟨hc, h0, h1⟩ := h
  refine ⟨_, if_pos hc, ?_⟩
  obtain ⟨rfl, _⟩ := hc
  by_cases hl : l = []
  · have hk := h0 hl
    subst hl
    exact hk
  · obtain ⟨m, hm, hk⟩ := h1 hl
    rw [mdO_ne hl, hm]; exact hk
noncomputable def askKl (n : Nat) : Asks := asksT' Tryz.prog.globals.size 63 tI mdY (askKk n)
theorem askKl_ok (n : Nat) : AsksOk orcKl (askKl n) := asksT'_ok mdY_ok (askKk_ok n)
noncomputable abbrev mkC (l : List Int) (e row : Nat) : List Blk := [(l.map gi, e, row, true)]
set_option maxRecDepth 100000 in
theorem mk_loop (l : List Int) (n e row k : Nat) (hl : l.length = n) (hle : n ≤ 65536) : ∀ (a : AAct) (h : AHeap), Laid (mkC l e row) (nG1 + ·) h → a.n = 19 → a.marks = [] → [0, 2, 3, 4].map a.tmp = [slX nG1 n k, nilS, gi 0, goN 0] →
    J Tryz.prog (.loop (loopOf Tryz.prog 75 0)) a h (told 19 [0, 2, 3, 4] fun ex vs h' => (ex = .exit 0 ∧ (∀ x ∈ l, okU x) ∧ (∃ x, vs = [slX nG1 n k, nilS, gi 0, x]) ∧ h' = canonT [] (fun _ => 0) Tryz.prog.globals.size (mkC l e row)) ∨ (ex = .ret ∧ (¬ ∀ x ∈ l, okU x) ∧ ∃ x y, vs = [x, nilS, gi 4, y])) := by
  intro a h hs ha hk hv
  refine fold_rule (L := 1) (C := fun _ => mkC l e row) globs_pos (by decide) (by decide) (fun _ => rfl) (fun _ b hb => by cases List.mem_singleton.1 hb; exact flat_ints l) (V := fun at_ j => [slX (at_ 0) n k, nilS, gi 0, goN j]) (I := fun j => ∀ (i : Nat) (hi : i < l.length), i < j → okU l[i]) (m := n) (fun i _ hi => absurd hi (by omega)) _ (nG1 + ·) (plus_nodup _ _) (fun q _ => Nat.le_add_right _ _) (fun j => by kernel_rfl) (fun j => by kernel_rfl)
    (fun at_ j q hq => by match q, hq with | 0, _ => exact ⟨(0, slX (at_ 0) n k), by simp, by simp [named]⟩) ?_ ?_ a h hs ha hk hv
  · intro j hj hI g
    have hjl : j < l.length := by omega
    obtain ⟨f1, f2⟩ := gi_at hjl
    refine execC_ok mixed orcKi_ok (askKi_ok 1) (noLoops _) (Eq.mpr (mk_body (l.map gi) n k e row j g _) ⟨fun hlt => ⟨hlt, f1, fun hx => ?_, fun hx => ?_⟩, fun hge => absurd (blt_false hge) (by omega)⟩)
    · rw [f2] at hx
      exact .inr ⟨rfl, fun hh => okU_not hx (hh _ (List.getElem_mem hjl)), _, _, rfl⟩
    · rw [f2] at hx
      refine ⟨fun i hi hij => ?_, by rw [fwrap_nat (by omega)]; exact rfl, .one (gC_get (q := 0) rfl)⟩
      by_cases h : i = j
      · subst h; exact okU_yes hx
      · exact hI i hi (by omega)
  · intro hI g
    refine execC_ok mixed orcKi_ok (askKi_ok 1) (noLoops _) (Eq.mpr (mk_body (l.map gi) n k e row n g _) ⟨fun hlt => absurd (blt_true hlt) (by omega), fun _ => .inl ⟨rfl, fun x hx => ?_, ⟨_, rfl⟩, rfl⟩⟩)
    obtain ⟨i, hi, rfl⟩ := List.getElem_of_mem hx
    exact hI i hi (by omega)
noncomputable def mkL (l : List Int) (n e row k : Nat) : Loops Tryz.prog where
  body := fun _ => loopOf Tryz.prog 75 0
  spec := fun _ a h c => entry a 19 [(0, slX nG1 n k), (2, nilS), (3, gi 0), (4, goN 0)] (h.get nG1 = some (.cells (l.map gi) e row true) ∧ (l.length = n ∧ n ≤ 65536) ∧ ((∀ x ∈ l, okU x) → ∀ g, c (.exit 0) (stOf 19 [(0, slX nG1 n k), (2, nilS), (3, gi 0)] g) (canonT [] (fun _ => 0) Tryz.prog.globals.size [(l.map gi, e, row, true)])) ∧ ((¬ ∀ x ∈ l, okU x) → ∀ g h', c .ret (stOf 19 [(2, nilS), (3, gi 4)] g) h'))
  ok := fun i a h c q => by
    obtain ⟨h1, h2, h3, g0, ⟨c1, c2⟩, k1, k2⟩ := entry_facts q
    refine J.of_told (mk_loop l n e row k c1 c2 a h (.one g0) h1 h2 ?_) ?_
    · simp only [List.map_cons, List.map_nil]
      rw [h3 (0, slX nG1 n k) (by simp), h3 (2, nilS) (by simp), h3 (3, gi 0) (by simp), h3 (4, goN 0) (by simp)]
    · rintro ex vs h' g (⟨rfl, ho, ⟨x, rfl⟩, rfl⟩ | ⟨rfl, ho, x, y, rfl⟩)
      · exact k1 ho (ov [(4, x)] g)
      · exact k2 ho (ov [(0, x), (4, y)] g) h'
theorem mk_run (l : List Int) (m e row k : Nat) (K : Value → AHeap → Prop) : callC Tryz.prog (exec Tryz.prog orcKl 10) (syOf [(18, 7)]) (askKl 1) (mkL l (m + 1) e row k) 20 75 #[slX nG1 (m + 1) k] (canon Tryz.prog [(l.map gi, e, row)]) K =
  (loopOf Tryz.prog 75 0 = loopOf Tryz.prog 75 0 ∧ slX nG1 (m + 1) k = slX nG1 (m + 1) k ∧ nilS = nilS ∧ gi 0 = gi 0 ∧ gi 0 = goN 0 ∧ some (AObj.cells (l.map gi) e row true) = some (.cells (l.map gi) e row true) ∧ (l.length = m + 1 ∧ m + 1 ≤ 65536) ∧
    ((∀ x ∈ l, okU x) → ∀ _ : Nat → Value, (List.all (l.map gi) (flat 3) = true ∧ True) ∧ true = true ∧ ∃ x2 : List Int, l.map gi = x2.map gi ∧ (0 < m + 1 ∧ x2.length = m + 1 ∧ m + 1 ≤ 65536) ∧ mdY x2 [] fun o => o.kont (canonT [] (fun _ => 0) Tryz.prog.globals.size [(l.map gi, e, row, true)]) fun v h => K (.tuple #[v, gi 0]) h) ∧
    ((¬ ∀ x ∈ l, okU x) → ∀ (_ : Nat → Value) (h' : AHeap), K (erV 4) h')) := by kernel_rfl
theorem mkn_run (K : Value → AHeap → Prop) : callR Tryz.prog orcKl (fun _ => syOf [(18, 7)]) (askKl 1) 60 75 #[nilS] (canon Tryz.prog []) K = (True ∧ mdY [] [] fun o => o.kont (canon Tryz.prog []) fun v h => K (.tuple #[v, gi 0]) h) := by kernel_rfl
theorem mke_run (j : Nat) (K : Value → AHeap → Prop) : callR Tryz.prog orcKl (fun _ => syOf [(18, 7)]) (askKl 1) 60 75 #[emS j] (canon Tryz.prog []) K = (True ∧ mdY [] [] fun o => o.kont (canon Tryz.prog []) fun v h => K (.tuple #[v, gi 0]) h) := by kernel_rfl
def mkC' : List Int → List Value → Prop := fun _ r => r = []
open Classical in
noncomputable def mkO : List Int → List Value → Out := fun l _ => if l = [] then .plain (erV 0) else if ∀ x ∈ l, okU x then .fresh (tupM [] l.length [gi 0]) (mdP l l.length) 96 else .plain (erV 4)
noncomputable def orcKm : Orc := orElse 75 (lstI Tryz.prog.globals.size tI mkC' mkO) orcKl
set_option maxRecDepth 100000 in
theorem orcKm_ok : OrcOk Tryz.prog orcKm := by
  have nil : mdY [] [] fun o => o.kont (canon Tryz.prog []) fun v h => (mkO [] []).Got (.tuple #[v, gi 0]) h :=
    ⟨⟨rfl, fun x hx => by cases hx⟩, fun _ => by unfold mkO; rw [if_pos rfl]; exact rfl, fun h => absurd rfl h⟩
  refine lstI_ok globs_pos orcKl_ok (fun l r _ => ?_) (fun r h => ?_) (fun r k h => ?_) fun l r m e row k h hl h1 => ?_
  · unfold mkO
    split
    · exact rfl
    · split
      · exact ⟨names_tup rfl rfl, mdP_flat _ _⟩
      · exact rfl
  · obtain rfl := h
    exact CallJ.ofR mixed orcKl_ok (askKl_ok 1) (Eq.mpr (mkn_run _) ⟨trivial, nil⟩)
  · obtain rfl := h
    exact CallJ.ofR mixed orcKl_ok (askKl_ok 1) (Eq.mpr (mke_run k _) ⟨trivial, nil⟩)
  · obtain rfl := h
    have hne : l ≠ [] := fun h => by rw [h] at hl; simp at hl
    refine callC_ok mixed orcKl_ok (askKl_ok 1) (Eq.mpr (mk_run l m e row k _) ⟨rfl, rfl, rfl, rfl, rfl, rfl, ⟨hl, h1⟩, fun ho _ => ⟨⟨flat_ints l, trivial⟩, rfl, l, rfl, ⟨by omega, hl, h1⟩, ⟨rfl, ho⟩, fun h => absurd h hne, fun _ => ⟨m, hl, ?_⟩⟩, fun ho _ h' => ?_⟩)
    · show (mkO l []).Got _ _
      unfold mkO
      rw [if_neg hne, if_pos ho, hl]
      exact ⟨_, rfl, by rw [AHeap.get_push, if_pos rfl]⟩
    · unfold mkO
      rw [if_neg hne, if_neg ho]
      exact rfl
noncomputable def mkY (l : List Int) (r : List Value) (K : Out → Prop) : Prop := r = [] ∧ (l = [] → K (.plain (erV 0))) ∧ (l ≠ [] → (∀ x ∈ l, okU x) → ∃ m, l.length = m + 1 ∧ K (.fresh (tupM [] (m + 1) [gi 0]) (mdP l (m + 1)) 96)) ∧ (l ≠ [] → (¬ ∀ x ∈ l, okU x) → K (.plain (erV 4)))
theorem mkY_ok (l : List Int) (r : List Value) (K : Out → Prop) (h : mkY l r K) : ∃ o, ifX mkC' mkO l r = some o ∧ K o := by
  obtain ⟨hc, h0, h1, h2⟩ := h
  refine ⟨_, if_pos hc, ?_⟩
  unfold mkO
  split
  · rename_i hl; exact h0 hl
  · rename_i hl
    split
    · rename_i ho
      obtain ⟨m, hm, hk⟩ := h1 hl ho
      rw [hm]; exact hk
    · rename_i ho; exact h2 hl ho
noncomputable def askKm (n : Nat) : Asks := asksT' Tryz.prog.globals.size 75 tI mkY (askKl n)
theorem askKm_ok (n : Nat) : AsksOk orcKm (askKm n) := asksT'_ok mkY_ok (askKl_ok n)
end Go.Proofs.YtjimnbmnkfdfcaaGreatDoor
/-! (OWN WORK. Kernels: what the rounds of the reference's filters ask for.) -/
namespace Go.Proofs.YtjimnbmnkfdfcaaGreatDoor
open Go Go.Am
theorem atE_bd {n : Nat} (x : Int) (hn : 1 ≤ n) : 0 ≤ atE x (Int.ofNat n) ∧ atE x (Int.ofNat n) < n := by
  unfold atE
  simp only [Int.ofNat_eq_natCast]
  repeat' split
  all_goals omega
noncomputable def atN (x : Int) (n : Nat) : Nat := (atE x (Int.ofNat n)).toNat
theorem atN_lt {n : Nat} (x : Int) (hn : 1 ≤ n) : atN x n < n := by
  obtain ⟨h0, h1⟩ := atE_bd x hn
  unfold atN; omega
noncomputable def uAt (l : List Nat) (x : Int) (n : Nat) : Int := unitE (l.getD (atN x n) 0)
theorem uAt_facts {l : List Nat} {n : Nat} (x : Int) (hl : l.length = n) (h1 : 1 ≤ n) (hv : csE l = 0) : Bd 16384 (uAt l x n) ∧ unitE (smpP (l.map gf) x n) = uAt l x n ∧ (∀ (K : Prop → Prop) (R : Prop), K R → plQ (l.map gf) x n K R) := by
  have hlt : atN x n < l.length := by rw [hl]; exact atN_lt x h1
  obtain ⟨f0, i0⟩ := float_at hlt
  have e : smpP (l.map gf) x n = l[atN x n] := i0
  have g : l.getD (atN x n) 0 = l[atN x n] := by rw [List.getD_eq_getElem?_getD, List.getElem?_eq_getElem hlt]; rfl
  have hs := (cs_zero hv).1 l[atN x n] (List.getElem_mem hlt)
  obtain ⟨p0, p1⟩ := atE_bd x h1
  refine ⟨?_, by rw [e]; unfold uAt; rw [g], fun K R hk => ⟨ahas p0 p1, f0, ?_, hk⟩⟩
  · unfold uAt; rw [g]; exact (unit_ok hs).2.2
  · rw [e, hs]; rfl
noncomputable def refE (l : List Nat) (n j : Nat) : List Int → Nat → Int → Int
  | [], _, s => s
  | w :: W, i, s => refE l n j W (i + 1) (s + w * uAt l (Int.ofNat j - Int.ofNat i) n)
noncomputable def rowE (l : List Nat) (n j i : Nat) (w : Int) : List Int → Nat → Int → Int
  | [], _, s => s
  | w' :: W, jj, s => rowE l n j i w W (jj + 1) (s + (w * w') * uAt l (Int.ofNat (j + i) - Int.ofNat jj) n)
noncomputable def sqrE (l : List Nat) (n j : Nat) (kl : List Int) : List Int → Nat → Int → Int
  | [], _, s => s
  | w :: W, i, s => sqrE l n j kl W (i + 1) (rowE l n j i w kl 0 s)
theorem small_of {a : Int} (h1 : -1099511627776 ≤ a) (h2 : a ≤ 1099511627776) : small a = true := by
  unfold small
  rw [ilt_say, ilt_say]
  simp
  omega
theorem nb {n : Nat} (h1 : 1 ≤ n) (h2 : n ≤ 4096) : (ilt 0 (Int.ofNat n) && small (Int.ofNat n)) = true := by
  rw [Bool.and_eq_true, ilt_say]
  exact ⟨by simp; omega, small_of (by simp only [Int.ofNat_eq_natCast]; omega) (by simp only [Int.ofNat_eq_natCast]; omega)⟩
theorem sub_in {a b : Nat} (ha : a ≤ 65536) (hb : b ≤ 65536) : inI64 (Int.ofNat a - Int.ofNat b) = true := inI64_small (by simp only [Int.ofNat_eq_natCast]; omega) (by simp only [Int.ofNat_eq_natCast]; omega)
theorem refQ_ok {l : List Nat} {n j : Nat} {K : Int → Prop} (hl : l.length = n) (h1 : 1 ≤ n) (hn : n ≤ 4096) (hj : j ≤ 4096) (hv : csE l = 0) {B : Nat} (hB : 100 * 16384 ≤ B) (hB2 : B ≤ 1638400) : ∀ (W : List Int) (i : Nat) (s : Int), (∀ w ∈ W, Bd 100 w) → i + W.length ≤ 7 → Bd (i * B) s → (Bd (7 * B) (refE l n j W i s) → K (refE l n j W i s)) → refQ (l.map gf) n j K W i s
  | [], i, s, _, hi, hs, hk => hk (hs.le (Nat.mul_le_mul_right B (by simpa using hi)))
  | w :: W, i, s, hw, hi, hs, hk => by
    obtain ⟨u1, u2, u3⟩ := uAt_facts (l := l) (Int.ofNat j - Int.ofNat i) hl h1 hv
    have hx := (hw w (by simp)).mul u1
    rw [List.length_cons] at hi
    have hiB : i * B ≤ 7 * B := Nat.mul_le_mul_right B (by omega)
    have e : (i + 1) * B = i * B + B := by rw [Nat.add_mul, Nat.one_mul]
    refine ⟨rfl, rfl, sub_in (by omega) (by omega), nb h1 hn, rfl, u3 _ _ ⟨rfl, ?_, ?_, ?_⟩⟩
    · rw [u2]; exact hx.in (by omega)
    · rw [u2]; exact (hs.add hx).in (by omega)
    · rw [u2]
      exact refQ_ok hl h1 hn hj hv hB hB2 W (i + 1) _ (fun x hx => hw x (by simp [hx])) (by omega) ((hs.add hx).le (by omega)) hk
theorem rowQ_ok {l : List Nat} {n j i : Nat} {w : Int} {K : Int → Prop} (hl : l.length = n) (h1 : 1 ≤ n) (hn : n ≤ 4096) (hj : j ≤ 4096) (hi : i ≤ 7) (hw : Bd 100 w) (hv : csE l = 0) {B : Nat} (hB : 10000 * 16384 ≤ B) (hB2 : B ≤ 163840000) : ∀ (W : List Int) (jj : Nat) (s : Int) (t : Nat), (∀ w ∈ W, Bd 100 w) → jj + W.length ≤ 7 → t + W.length ≤ 49 → Bd (t * B) s → (Bd ((t + W.length) * B) (rowE l n j i w W jj s) → K (rowE l n j i w W jj s)) → rowQ (l.map gf) n j i w K W jj s
  | [], jj, s, t, _, _, _, hs, hk => hk hs
  | w' :: W, jj, s, t, hw', hjj, ht, hs, hk => by
    obtain ⟨u1, u2, u3⟩ := uAt_facts (l := l) (Int.ofNat (j + i) - Int.ofNat jj) hl h1 hv
    have hp := hw.mul (hw' w' (by simp))
    have hx := hp.mul u1
    rw [List.length_cons] at hjj ht
    have htB : t * B ≤ 49 * B := Nat.mul_le_mul_right B (by omega)
    have e : (t + 1) * B = t * B + B := by rw [Nat.add_mul, Nat.one_mul]
    refine ⟨hp.in (by decide), inI64_small (by simp only [Int.ofNat_eq_natCast]; omega) (by simp only [Int.ofNat_eq_natCast]; omega), sub_in (by omega) (by omega), nb h1 hn, rfl, rfl, u3 _ _ ⟨rfl, rfl, ?_, ?_, ?_⟩⟩
    · rw [u2]; exact hx.in (by omega)
    · rw [u2]; exact (hs.add hx).in (by omega)
    · rw [u2]
      refine rowQ_ok hl h1 hn hj hi hw hv hB hB2 W (jj + 1) _ (t + 1) (fun x hx => hw' x (by simp [hx])) (by omega) (by omega) ((hs.add hx).le (by omega)) fun hb => hk ?_
      rw [List.length_cons, show t + (W.length + 1) = t + 1 + W.length by omega]
      exact hb
theorem sqrQ_ok {l : List Nat} {n j : Nat} {kl : List Int} {K : Int → Prop} (hl : l.length = n) (h1 : 1 ≤ n) (hn : n ≤ 4096) (hj : j ≤ 4096) (hkl : ∀ w ∈ kl, Bd 100 w) (hk7 : kl.length ≤ 7) (hv : csE l = 0) {B : Nat} (hB : 10000 * 16384 ≤ B) (hB2 : B ≤ 163840000) : ∀ (W : List Int) (i : Nat) (s : Int), (∀ w ∈ W, Bd 100 w) → i + W.length ≤ 7 → Bd ((i * 7) * B) s → (Bd (49 * B) (sqrE l n j kl W i s) → K (sqrE l n j kl W i s)) → sqrQ (l.map gf) n j kl K W i s
  | [], i, s, _, hi, hs, hk => hk (hs.le (Nat.mul_le_mul_right B (by simp at hi; omega)))
  | w :: W, i, s, hw, hi, hs, hk => by
    rw [List.length_cons] at hi
    refine rowQ_ok hl h1 hn hj (by omega) (hw w (by simp)) hv hB hB2 kl 0 s (i * 7) hkl (by omega) (by omega) hs fun hb => ?_
    exact sqrQ_ok hl h1 hn hj hkl hk7 hv hB hB2 W (i + 1) _ (fun x hx => hw x (by simp [hx])) (by omega) (hb.le (Nat.mul_le_mul_right B (by omega))) hk
theorem divQ_ok {kl : List Int} {q : Nat} {K : Int → Prop} (hq : kl.length = q) (h0 : 0 < q) (h1 : q ≤ 65536) (hk : K (sumW kl)) : divQ kl q K := ⟨⟨flat_ints kl, trivial⟩, rfl, kl, rfl, ⟨h0, hq, h1⟩, rfl, hk⟩
theorem nrQ_ok {s v : Int} {K : Prop} {b : Nat} (hs : Bd b s) (hb : b ≤ 274877906944) (h0 : ilt 0 v = true) (h1 : v ≤ 1048576) (hk : K) : nrQ s v K := by
  refine ⟨?_, hk⟩
  unfold Bd at hs
  rw [h0]
  simp only [ilt_say, Bool.true_and, Bool.and_eq_true, Bool.not_eq_true', decide_eq_false_iff_not]
  omega
noncomputable def fP (f : Nat → Int) (j : Nat) : List Value := (List.range j).map fun i => gi (f i)
theorem fP_length (f : Nat → Int) (j : Nat) : (fP f j).length = j := by simp [fP]
theorem fP_nil {f : Nat → Int} {j : Nat} (h : fP f j = []) : j = 0 := by
  have := congrArg List.length h
  rw [fP_length] at this
  exact this
theorem fP_succ (f : Nat → Int) (j : Nat) : fP f (j + 1) = fP f j ++ [gi (f j)] := by unfold fP; rw [List.range_succ, List.map_append]; rfl
theorem fP_flat (f : Nat → Int) (j : Nat) : (fP f j).all (flat 3) = true := by
  rw [List.all_eq_true]
  intro x hx
  obtain ⟨i, _, rfl⟩ := List.mem_map.1 hx
  rfl
end Go.Proofs.YtjimnbmnkfdfcaaGreatDoor
/-! (OWN WORK. Kernels: the loops of the reference's filters.) -/
namespace Go.Proofs.YtjimnbmnkfdfcaaGreatDoor
open Go Go.Am
set_option maxRecDepth 100000 in
theorem rp0_J (l : List Nat) (kl : List Int) (n k k' e row e' row' j : Nat) (g : Nat → Value) (G : Exit → List Value → List (Option AObj) → Option AObj → Prop) (h1 : 1 ≤ kl.length) (h2 : kl.length ≤ 7) (hA : (Nat.blt j n = true → refQ (l.map gf) n j (fun s => divQ kl kl.length fun v => nrQ s v (G .normal (refV n k kl.length k' (slX (nG1 + 3) 1 1) (gi (fwrap .i64 (Int.ofNat (j + 1))))) (refO (l.map gf) e row (kl.map gi) e' row') (some (.cells ([] ++ [gi (nearE s v)]) 3 2 false)))) kl 0 0) ∧ (Nat.blt j n = false → G (.exit 0) (refV n k kl.length k' (nilS) (goN j)) (refO (l.map gf) e row (kl.map gi) e' row') none)) :
    J Tryz.prog (loopOf Tryz.prog 18 0) (stOf 50 ([0, 1, 6, 7].zip (refV n k kl.length k' nilS (goN j))) g) (gC Tryz.prog [(l.map gf, e, row, true), (kl.map gi, e', row', true)]) (told 50 [0, 1, 6, 7] (refG 3 G)) :=
  match kl, h1, h2, hA with
    | [a], _, _, hA => J.ofR mixed orcKk_ok (askKk_ok 1) (Eq.mpr (rp0_1 l a n k k' e row e' row' j g G) hA)
    | [a, b], _, _, hA => J.ofR mixed orcKk_ok (askKk_ok 2) (Eq.mpr (rp0_2 l a b n k k' e row e' row' j g G) hA)
    | [a, b, c], _, _, hA => J.ofR mixed orcKk_ok (askKk_ok 3) (Eq.mpr (rp0_3 l a b c n k k' e row e' row' j g G) hA)
    | [a, b, c, d], _, _, hA => J.ofR mixed orcKk_ok (askKk_ok 4) (Eq.mpr (rp0_4 l a b c d n k k' e row e' row' j g G) hA)
    | [a, b, c, d, p], _, _, hA => J.ofR mixed orcKk_ok (askKk_ok 5) (Eq.mpr (rp0_5 l a b c d p n k k' e row e' row' j g G) hA)
    | [a, b, c, d, p, u], _, _, hA => J.ofR mixed orcKk_ok (askKk_ok 6) (Eq.mpr (rp0_6 l a b c d p u n k k' e row e' row' j g G) hA)
    | [a, b, c, d, p, u, z], _, _, hA => J.ofR mixed orcKk_ok (askKk_ok 7) (Eq.mpr (rp0_7 l a b c d p u z n k k' e row e' row' j g G) hA)
    | _ :: _ :: _ :: _ :: _ :: _ :: _ :: _ :: _, _, h2, _ => absurd h2 (by simp)
set_option maxRecDepth 100000 in
theorem rp1_J (l : List Nat) (kl : List Int) (n k k' e row e' row' j : Nat) (Q : Nat) (C : List Value) (g : Nat → Value) (G : Exit → List Value → List (Option AObj) → Option AObj → Prop) (h1 : 1 ≤ kl.length) (h2 : kl.length ≤ 7) (hA : (Nat.blt j n = true → refQ (l.map gf) n j (fun s => divQ kl kl.length fun v => nrQ s v (okN Q C (G .normal (refV n k kl.length k' (slX (nG1 + 4) (Q + 1) (Q + 1)) (gi (fwrap .i64 (Int.ofNat (j + 1))))) (refO (l.map gf) e row (kl.map gi) e' row') (some (.cells (C ++ [gi (nearE s v)]) 3 2 false))))) kl 0 0) ∧ (Nat.blt j n = false → G (.exit 0) (refV n k kl.length k' ((slX (nG1 + 2) Q Q)) (goN j)) (refO (l.map gf) e row (kl.map gi) e' row') none)) :
    J Tryz.prog (loopOf Tryz.prog 18 0) (stOf 50 ([0, 1, 6, 7].zip (refV n k kl.length k' (slX (nG1 + 2) Q Q) (goN j))) g) (gD Tryz.prog [(l.map gf, e, row, true), (kl.map gi, e', row', true)] C 3) (told 50 [0, 1, 6, 7] (refG 4 G)) :=
  match kl, h1, h2, hA with
    | [a], _, _, hA => J.ofR mixed orcKk_ok (askKk_ok 1) (Eq.mpr (rp1_1 l a n k k' e row e' row' j Q C g G) hA)
    | [a, b], _, _, hA => J.ofR mixed orcKk_ok (askKk_ok 2) (Eq.mpr (rp1_2 l a b n k k' e row e' row' j Q C g G) hA)
    | [a, b, c], _, _, hA => J.ofR mixed orcKk_ok (askKk_ok 3) (Eq.mpr (rp1_3 l a b c n k k' e row e' row' j Q C g G) hA)
    | [a, b, c, d], _, _, hA => J.ofR mixed orcKk_ok (askKk_ok 4) (Eq.mpr (rp1_4 l a b c d n k k' e row e' row' j Q C g G) hA)
    | [a, b, c, d, p], _, _, hA => J.ofR mixed orcKk_ok (askKk_ok 5) (Eq.mpr (rp1_5 l a b c d p n k k' e row e' row' j Q C g G) hA)
    | [a, b, c, d, p, u], _, _, hA => J.ofR mixed orcKk_ok (askKk_ok 6) (Eq.mpr (rp1_6 l a b c d p u n k k' e row e' row' j Q C g G) hA)
    | [a, b, c, d, p, u, z], _, _, hA => J.ofR mixed orcKk_ok (askKk_ok 7) (Eq.mpr (rp1_7 l a b c d p u z n k k' e row e' row' j Q C g G) hA)
    | _ :: _ :: _ :: _ :: _ :: _ :: _ :: _ :: _, _, h2, _ => absurd h2 (by simp)
set_option maxRecDepth 100000 in
theorem rf0_J (l : List Nat) (kl : List Int) (n k k' e row e' row' j : Nat) (g : Nat → Value) (G : Exit → List Value → List (Option AObj) → Option AObj → Prop) (h1 : 1 ≤ kl.length) (h2 : kl.length ≤ 7) (hA : (Nat.blt j n = true → sqrQ (l.map gf) n j kl (fun s => divQ kl kl.length fun v1 => divQ kl kl.length fun v2 => inI64 (v1 * v2) = true ∧ nrQ s (v1 * v2) (G .normal (refV n k kl.length k' (slX (nG1 + 3) 1 1) (gi (fwrap .i64 (Int.ofNat (j + 1))))) (refO (l.map gf) e row (kl.map gi) e' row') (some (.cells ([] ++ [gi (nearE s (v1 * v2))]) 3 2 false)))) kl 0 0) ∧ (Nat.blt j n = false → G (.exit 0) (refV n k kl.length k' (nilS) (goN j)) (refO (l.map gf) e row (kl.map gi) e' row') none)) :
    J Tryz.prog (loopOf Tryz.prog 19 0) (stOf 67 ([0, 1, 6, 7].zip (refV n k kl.length k' nilS (goN j))) g) (gC Tryz.prog [(l.map gf, e, row, true), (kl.map gi, e', row', true)]) (told 67 [0, 1, 6, 7] (refG 3 G)) :=
  match kl, h1, h2, hA with
    | [a], _, _, hA => J.ofR mixed orcKk_ok (askKk_ok 1) (Eq.mpr (rf0_1 l a n k k' e row e' row' j g G) hA)
    | [a, b], _, _, hA => J.ofR mixed orcKk_ok (askKk_ok 2) (Eq.mpr (rf0_2 l a b n k k' e row e' row' j g G) hA)
    | [a, b, c], _, _, hA => J.ofR mixed orcKk_ok (askKk_ok 3) (Eq.mpr (rf0_3 l a b c n k k' e row e' row' j g G) hA)
    | [a, b, c, d], _, _, hA => J.ofR mixed orcKk_ok (askKk_ok 4) (Eq.mpr (rf0_4 l a b c d n k k' e row e' row' j g G) hA)
    | [a, b, c, d, p], _, _, hA => J.ofR mixed orcKk_ok (askKk_ok 5) (Eq.mpr (rf0_5 l a b c d p n k k' e row e' row' j g G) hA)
    | [a, b, c, d, p, u], _, _, hA => J.ofR mixed orcKk_ok (askKk_ok 6) (Eq.mpr (rf0_6 l a b c d p u n k k' e row e' row' j g G) hA)
    | [a, b, c, d, p, u, z], _, _, hA => J.ofR mixed orcKk_ok (askKk_ok 7) (Eq.mpr (rf0_7 l a b c d p u z n k k' e row e' row' j g G) hA)
    | _ :: _ :: _ :: _ :: _ :: _ :: _ :: _ :: _, _, h2, _ => absurd h2 (by simp)
set_option maxRecDepth 100000 in
theorem rf1_J (l : List Nat) (kl : List Int) (n k k' e row e' row' j : Nat) (Q : Nat) (C : List Value) (g : Nat → Value) (G : Exit → List Value → List (Option AObj) → Option AObj → Prop) (h1 : 1 ≤ kl.length) (h2 : kl.length ≤ 7) (hA : (Nat.blt j n = true → sqrQ (l.map gf) n j kl (fun s => divQ kl kl.length fun v1 => divQ kl kl.length fun v2 => inI64 (v1 * v2) = true ∧ nrQ s (v1 * v2) (okN Q C (G .normal (refV n k kl.length k' (slX (nG1 + 4) (Q + 1) (Q + 1)) (gi (fwrap .i64 (Int.ofNat (j + 1))))) (refO (l.map gf) e row (kl.map gi) e' row') (some (.cells (C ++ [gi (nearE s (v1 * v2))]) 3 2 false))))) kl 0 0) ∧ (Nat.blt j n = false → G (.exit 0) (refV n k kl.length k' ((slX (nG1 + 2) Q Q)) (goN j)) (refO (l.map gf) e row (kl.map gi) e' row') none)) :
    J Tryz.prog (loopOf Tryz.prog 19 0) (stOf 67 ([0, 1, 6, 7].zip (refV n k kl.length k' (slX (nG1 + 2) Q Q) (goN j))) g) (gD Tryz.prog [(l.map gf, e, row, true), (kl.map gi, e', row', true)] C 3) (told 67 [0, 1, 6, 7] (refG 4 G)) :=
  match kl, h1, h2, hA with
    | [a], _, _, hA => J.ofR mixed orcKk_ok (askKk_ok 1) (Eq.mpr (rf1_1 l a n k k' e row e' row' j Q C g G) hA)
    | [a, b], _, _, hA => J.ofR mixed orcKk_ok (askKk_ok 2) (Eq.mpr (rf1_2 l a b n k k' e row e' row' j Q C g G) hA)
    | [a, b, c], _, _, hA => J.ofR mixed orcKk_ok (askKk_ok 3) (Eq.mpr (rf1_3 l a b c n k k' e row e' row' j Q C g G) hA)
    | [a, b, c, d], _, _, hA => J.ofR mixed orcKk_ok (askKk_ok 4) (Eq.mpr (rf1_4 l a b c d n k k' e row e' row' j Q C g G) hA)
    | [a, b, c, d, p], _, _, hA => J.ofR mixed orcKk_ok (askKk_ok 5) (Eq.mpr (rf1_5 l a b c d p n k k' e row e' row' j Q C g G) hA)
    | [a, b, c, d, p, u], _, _, hA => J.ofR mixed orcKk_ok (askKk_ok 6) (Eq.mpr (rf1_6 l a b c d p u n k k' e row e' row' j Q C g G) hA)
    | [a, b, c, d, p, u, z], _, _, hA => J.ofR mixed orcKk_ok (askKk_ok 7) (Eq.mpr (rf1_7 l a b c d p u z n k k' e row e' row' j Q C g G) hA)
    | _ :: _ :: _ :: _ :: _ :: _ :: _ :: _ :: _, _, h2, _ => absurd h2 (by simp)
noncomputable def rfOut (f : Nat → Int) (n k q k' : Nat) : Exit → List Value → AHeap → Prop := fun ex vs h => ex = .exit 0 ∧ ((n = 0 ∧ ∃ x, vs = refV n k q k' nilS x) ∨ (0 < n ∧ ∃ b x, vs = refV n k q k' (slX b n n) x ∧ h.get b = some (.cells (fP f n) 3 2 false)))
theorem ref_loop {nt : Nat} {body : Code} (hnt : ∀ t ∈ [0, 1, 6, 7], t < nt) (l : List Nat) (kl : List Int) (n k k' e row e' row' : Nat) (f : Nat → Int) (h1 : 1 ≤ n) (hn : n ≤ 4096)
    (hN : ∀ g, J Tryz.prog body (stOf nt ([0, 1, 6, 7].zip (refV n k kl.length k' nilS (goN 0))) g) (gC Tryz.prog [(l.map gf, e, row, true), (kl.map gi, e', row', true)]) (told nt [0, 1, 6, 7] (refG 3 fun ex vs A x => ex = .normal ∧ vs = refV n k kl.length k' (slX (nG1 + 3) 1 1) (goN 1) ∧ A = refO (l.map gf) e row (kl.map gi) e' row' ∧ x = some (.cells [gi (f 0)] 3 2 false))))
    (hS : ∀ j g, j < n → J Tryz.prog body (stOf nt ([0, 1, 6, 7].zip (refV n k kl.length k' (slX (nG1 + 2) j j) (goN j))) g) (gD Tryz.prog [(l.map gf, e, row, true), (kl.map gi, e', row', true)] (fP f j) 3) (told nt [0, 1, 6, 7] (refG 4 fun ex vs A x => ex = .normal ∧ vs = refV n k kl.length k' (slX (nG1 + 4) (j + 1) (j + 1)) (goN (j + 1)) ∧ A = refO (l.map gf) e row (kl.map gi) e' row' ∧ x = some (.cells (fP f j ++ [gi (f j)]) 3 2 false))))
    (hE : ∀ g, J Tryz.prog body (stOf nt ([0, 1, 6, 7].zip (refV n k kl.length k' (slX (nG1 + 2) n n) (goN n))) g) (gD Tryz.prog [(l.map gf, e, row, true), (kl.map gi, e', row', true)] (fP f n) 3) (told nt [0, 1, 6, 7] fun ex vs h => ex = .exit 0 ∧ vs = refV n k kl.length k' (slX (nG1 + 2) n n) (goN n) ∧ h.get (nG1 + 2) = some (.cells (fP f n) 3 2 false))) :
    ∀ (a : AAct) (h : AHeap), h.get nG1 = some (.cells (l.map gf) e row true) → h.get (nG1 + 1) = some (.cells (kl.map gi) e' row' true) → a.n = nt → a.marks = [] → [0, 1, 6, 7].map a.tmp = refV n k kl.length k' nilS (goN 0) →
    J Tryz.prog (.loop body) a h (told nt [0, 1, 6, 7] fun ex vs h => ex = .exit 0 ∧ ∃ b, Tryz.prog.globals.size ≤ b ∧ vs = refV n k kl.length k' (slX b n n) (goN n) ∧ h.get b = some (.cells (fP f n) 3 2 false)) := by
  intro a h g0 g1 ha hm hv
  refine growC_rule (C := [(l.map gf, e, row, true), (kl.map gi, e', row', true)]) (el := 3) globs_pos (by decide) hnt (fun b hb => ?_) (fun j v => refV n k kl.length k' v (goN j)) (fP f) n _ (fP_flat f) (fun j => by kernel_rfl) (fun j q d hd => ?_) (fun j s q hq => ?_) (fun j b q => ⟨(6, slX b q q), by simp, by simp [named]⟩) ?_ ?_ ?_ ?_ a h ⟨fun q b hb => ?_, .inl ⟨rfl, hv⟩⟩ ha hm
  · rcases List.mem_cons.1 hb with rfl | hb
    · exact flat_floats l
    · cases List.mem_singleton.1 hb; exact flat_ints kl
  · match d, hd with
    | 0, _ => exact rfl
    | 1, _ => exact rfl
    | 2, _ => exact rfl
    | 3, _ => exact rfl
  · match q, hq with
    | 0, _ => exact ⟨(0, slX nG1 n k), by simp, by simp [named]⟩
    | 1, _ => exact ⟨(1, slX (nG1 + 1) kl.length k'), by simp, by simp [named]⟩
  · intro j hj hx g
    obtain rfl : j = 0 := fP_nil hx
    refine (hN g).mono fun ex a' h' q => ?_
    obtain ⟨q1, q2, q3, q4, q5, q6⟩ := told_facts q
    subst q3
    simp only [List.cons.injEq, and_true] at q5
    simp only [told, q1, q2, Nat.beq_refl]
    refine ⟨fun q b hb => ?_, .inr ⟨nG1 + 3, 1, rfl, by omega, fun h0 => absurd (fP_nil h0) (by omega), ?_, ?_⟩⟩
    · match q, hb with
      | 0, hb => cases hb; exact q5.1
      | 1, hb => cases hb; exact q5.2
    · rw [fP_length]; exact q4
    · rw [fP_succ]; exact q6
  · intro j hj hx g
    rw [fP_length]
    refine (hS j g hj).mono fun ex a' h' q => ?_
    obtain ⟨q1, q2, q3, q4, q5, q6⟩ := told_facts q
    subst q3
    simp only [List.cons.injEq, and_true] at q5
    simp only [told, q1, q2, Nat.beq_refl]
    refine ⟨fun q b hb => ?_, .inr ⟨nG1 + 4, 2, rfl, by omega, fun h0 => absurd (fP_nil h0) (by omega), ?_, ?_⟩⟩
    · match q, hb with
      | 0, hb => cases hb; exact q5.1
      | 1, hb => cases hb; exact q5.2
    · rw [fP_length]; exact q4
    · rw [fP_succ]; exact q6
  · intro hx g
    exact absurd (fP_nil hx) (by omega)
  · intro hx g
    rw [fP_length]
    refine (hE g).mono fun ex a' h' q => ?_
    obtain ⟨q1, q2, q3, q4, q5⟩ := told_facts q
    subst q3
    simp only [told, q1, q2, Nat.beq_refl]
    exact ⟨trivial, nG1 + 2, Nat.le_add_right _ _, q4, q5⟩
  · match q, hb with
    | 0, hb => cases hb; exact g0
    | 1, hb => cases hb; exact g1
end Go.Proofs.YtjimnbmnkfdfcaaGreatDoor
/-! (OWN WORK. Kernels: the reference's filters.) -/
namespace Go.Proofs.YtjimnbmnkfdfcaaGreatDoor
open Go Go.Am
theorem rpE_run (l : List Nat) (kl : List Int) (n k q' k' e row e' row' j q : Nat) (c' : List Value) (g : Nat → Value) (Q : Exit → List Value → AHeap → Prop) : execC Tryz.prog (exec Tryz.prog orcKk 10) (syOf [(13, 32)]) (askKk 1) (noLoops _) 40 (loopOf Tryz.prog 18 0) (stOf 50 [(0, slX nG1 n k), (1, slX (nG1 + 1) q' k'), (6, slX (nG1 + 2) q q), (7, goN j)] g) (gD Tryz.prog [(l.map gf, e, row, true), (kl.map gi, e', row', true)] c' 3) (told 50 [0, 1, 6, 7] Q) = (Nat.blt j n = false ∧ Q (.exit 0) (refV n k q' k' (slX (nG1 + 2) q q) (goN j)) (gD Tryz.prog [(l.map gf, e, row, true), (kl.map gi, e', row', true)] c' 3)) := by kernel_rfl
theorem rfE_run (l : List Nat) (kl : List Int) (n k q' k' e row e' row' j q : Nat) (c' : List Value) (g : Nat → Value) (Q : Exit → List Value → AHeap → Prop) : execC Tryz.prog (exec Tryz.prog orcKk 10) (syOf [(14, 32)]) (askKk 1) (noLoops _) 40 (loopOf Tryz.prog 19 0) (stOf 67 [(0, slX nG1 n k), (1, slX (nG1 + 1) q' k'), (6, slX (nG1 + 2) q q), (7, goN j)] g) (gD Tryz.prog [(l.map gf, e, row, true), (kl.map gi, e', row', true)] c' 3) (told 67 [0, 1, 6, 7] Q) = (Nat.blt j n = false ∧ Q (.exit 0) (refV n k q' k' (slX (nG1 + 2) q q) (goN j)) (gD Tryz.prog [(l.map gf, e, row, true), (kl.map gi, e', row', true)] c' 3)) := by kernel_rfl
theorem blt_no {a b : Nat} (h : b ≤ a) : Nat.blt a b = false := by
  cases hx : Nat.blt a b with
  | false => rfl
  | true => rw [Nat.blt_eq] at hx; omega
noncomputable def refF1 (l : List Nat) (kl : List Int) (j : Nat) : Int := nearE (refE l l.length j kl 0 0) (sumW kl)
noncomputable def refF2 (l : List Nat) (kl : List Int) (j : Nat) : Int := nearE (sqrE l l.length j kl kl 0 0) (sumW kl * sumW kl)
set_option maxRecDepth 100000 in
theorem rp_loop (l : List Nat) (kl : List Int) (hk : keE kl = 0) (hv : csE l = 0) (n : Nat) (hl : l.length = n) (h1 : 1 ≤ n) (k k' e row e' row' : Nat) : ∀ (a : AAct) (h : AHeap), h.get nG1 = some (.cells (l.map gf) e row true) → h.get (nG1 + 1) = some (.cells (kl.map gi) e' row' true) → a.n = 50 → a.marks = [] → [0, 1, 6, 7].map a.tmp = refV n k kl.length k' nilS (goN 0) →
    J Tryz.prog (.loop (loopOf Tryz.prog 18 0)) a h (told 50 [0, 1, 6, 7] fun ex vs h => ex = .exit 0 ∧ ∃ b, Tryz.prog.globals.size ≤ b ∧ vs = refV n k kl.length k' (slX b n n) (goN n) ∧ h.get b = some (.cells (fP (refF1 l kl) n) 3 2 false)) := by
  subst hl
  obtain ⟨⟨k1, k2⟩, k3, k4⟩ := ke_valid hk
  have hs := sumW_bd hk
  unfold Bd at hs
  have h4 := (cs_zero hv).2
  refine ref_loop (by decide) l kl l.length k k' e row e' row' (refF1 l kl) h1 h4 (fun g => ?_) (fun j g hj => ?_) (fun g => ?_)
  · refine rp0_J l kl l.length k k' e row e' row' 0 g _ k1 k2 ⟨fun _ => refQ_ok rfl h1 h4 (by omega) hv (B := 1638400) (by omega) (by omega) kl 0 0 k3 (by omega) (by unfold Bd; omega) fun hb => divQ_ok rfl (by omega) (by omega) (nrQ_ok hb (by omega) k4 (by omega) ⟨rfl, by rw [fwrap_nat (by omega)], rfl, rfl⟩), fun hge => absurd (blt_false hge) (by omega)⟩
  · refine rp1_J l kl l.length k k' e row e' row' j j _ g _ k1 k2 ⟨fun _ => refQ_ok rfl h1 h4 (by omega) hv (B := 1638400) (by omega) (by omega) kl 0 0 k3 (by omega) (by unfold Bd; omega) fun hb => divQ_ok rfl (by omega) (by omega) (nrQ_ok hb (by omega) k4 (by omega) ⟨ble_no (by omega), by rw [Nat.ble_eq]; omega, by rw [fP_length, Nat.mul_one], rfl, by rw [fwrap_nat (by omega)], rfl, rfl⟩), fun hge => absurd (blt_false hge) (by omega)⟩
  · exact execC_ok mixed orcKk_ok (askKk_ok 1) (noLoops _) (Eq.mpr (rpE_run l kl l.length k kl.length k' e row e' row' l.length l.length _ g _) ⟨blt_no (by omega), rfl, rfl, gD_dst (C := [(l.map gf, e, row, true), (kl.map gi, e', row', true)])⟩)
set_option maxRecDepth 100000 in
theorem rf_loop (l : List Nat) (kl : List Int) (hk : keE kl = 0) (hv : csE l = 0) (n : Nat) (hl : l.length = n) (h1 : 1 ≤ n) (k k' e row e' row' : Nat) : ∀ (a : AAct) (h : AHeap), h.get nG1 = some (.cells (l.map gf) e row true) → h.get (nG1 + 1) = some (.cells (kl.map gi) e' row' true) → a.n = 67 → a.marks = [] → [0, 1, 6, 7].map a.tmp = refV n k kl.length k' nilS (goN 0) →
    J Tryz.prog (.loop (loopOf Tryz.prog 19 0)) a h (told 67 [0, 1, 6, 7] fun ex vs h => ex = .exit 0 ∧ ∃ b, Tryz.prog.globals.size ≤ b ∧ vs = refV n k kl.length k' (slX b n n) (goN n) ∧ h.get b = some (.cells (fP (refF2 l kl) n) 3 2 false)) := by
  subst hl
  obtain ⟨⟨k1, k2⟩, k3, k4⟩ := ke_valid hk
  have hs := (sumW_bd hk).mul (sumW_bd hk)
  have hq := sq_in hk
  unfold Bd at hs
  have k5 : ilt 0 (sumW kl * sumW kl) = true := by
    rw [ilt_say] at k4 ⊢
    have k4 : 0 < sumW kl := by simpa using k4
    simpa using Int.mul_pos k4 k4
  have h4 := (cs_zero hv).2
  refine ref_loop (by decide) l kl l.length k k' e row e' row' (refF2 l kl) h1 h4 (fun g => ?_) (fun j g hj => ?_) (fun g => ?_)
  · refine rf0_J l kl l.length k k' e row e' row' 0 g _ k1 k2 ⟨fun _ => sqrQ_ok rfl h1 h4 (by omega) k3 k2 hv (B := 163840000) (by omega) (by omega) kl 0 0 k3 (by omega) (by unfold Bd; omega) fun hb => divQ_ok rfl (by omega) (by omega) (divQ_ok rfl (by omega) (by omega) ⟨hq, nrQ_ok hb (by omega) k5 (by omega) ⟨rfl, by rw [fwrap_nat (by omega)], rfl, rfl⟩⟩), fun hge => absurd (blt_false hge) (by omega)⟩
  · refine rf1_J l kl l.length k k' e row e' row' j j _ g _ k1 k2 ⟨fun _ => sqrQ_ok rfl h1 h4 (by omega) k3 k2 hv (B := 163840000) (by omega) (by omega) kl 0 0 k3 (by omega) (by unfold Bd; omega) fun hb => divQ_ok rfl (by omega) (by omega) (divQ_ok rfl (by omega) (by omega) ⟨hq, nrQ_ok hb (by omega) k5 (by omega) ⟨ble_no (by omega), by rw [Nat.ble_eq]; omega, by rw [fP_length, Nat.mul_one], rfl, by rw [fwrap_nat (by omega)], rfl, rfl⟩⟩), fun hge => absurd (blt_false hge) (by omega)⟩
  · exact execC_ok mixed orcKk_ok (askKk_ok 1) (noLoops _) (Eq.mpr (rfE_run l kl l.length k kl.length k' e row e' row' l.length l.length _ g _) ⟨blt_no (by omega), rfl, rfl, gD_dst (C := [(l.map gf, e, row, true), (kl.map gi, e', row', true)])⟩)
end Go.Proofs.YtjimnbmnkfdfcaaGreatDoor
