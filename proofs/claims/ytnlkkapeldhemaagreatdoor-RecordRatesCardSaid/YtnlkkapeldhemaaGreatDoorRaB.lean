/-
  OWN WORK. The samples of integers, by the program: mapped, samples.
-/
import Derived.Test.YtnlkkapeldhemaaGreatDoorRaA
import Derived.Test.YtnlkkapeldhemaaGreatDoorAm10
namespace Go.Proofs.YtnlkkapeldhemaaGreatDoor
open Go Go.Am

theorem sam1_run (u : Int) (K : Value → AHeap → Prop) : callC Tryz.prog (exec Tryz.prog orcRd 10) (syOf [(4, 7)]) askRd (noLoops _) 20 148 #[gi u] (emp Tryz.prog) K = ((((!(ilt u (-16384))) && (!(ilt 16384 u))) = true ∧ K (gf (sampleE u)) (emp Tryz.prog))) := by kernel_rfl
noncomputable def orcRe : Orc := orElse 148 (condO smpI) orcRd
set_option maxRecDepth 100000 in
theorem orcRe_ok : OrcOk Tryz.prog orcRe := by
  refine condO_ok (fun l v h => ?_) orcRd_ok
  unfold smpI at h
  split at h
  · injection h with h
    injection h with h1 h2
    subst h2
    exact ⟨rfl, rfl, callC_ok mixed orcRd_ok askRd_ok (Eq.mpr (sam1_run _ _) ⟨h1, rfl⟩)⟩
  · cases h
noncomputable def askRe : Asks := asksF 148 smpI askRd
theorem askRe_ok : AsksOk orcRe askRe := asksF_ok askRd_ok
noncomputable abbrev saF : Value := .func (.func 148) #[] #[]
noncomputable abbrev MF (c : List Value) (e row : Nat) (ro : Bool) (c' : List Value) : AHeap := canonT [] (fun _ => 0) Tryz.prog.globals.size [(c, e, row, ro), (c', 69, 2, false)]
theorem MF_src (c : List Value) (e row : Nat) (ro : Bool) (c' : List Value) : (MF c e row ro c').get N1 = some (.cells c e row ro) := by
  rw [canonT_get (T := []) rfl, if_pos (Nat.le_refl _), Nat.sub_self]; rfl
theorem MF_dst (c : List Value) (e row : Nat) (ro : Bool) (c' : List Value) : (MF c e row ro c').get (N1 + 1) = some (.cells c' 69 2 false) := by
  rw [canonT_get (T := []) rfl, if_pos (Nat.le_succ _), show N1 + 1 - Tryz.prog.globals.size = 1 by unfold N1; omega]; rfl
theorem mf_body (c c' : List Value) (n k m j e row : Nat) (g : Nat → Value) (Q : Exit → List Value → AHeap → Prop) : execC Tryz.prog (exec Tryz.prog orcRe 10) (syOf [(14, 1), (15, 2), (16, 3), (20, 7), (22, 17)]) askRe (noLoops _) 40 (loopOf Tryz.prog 147 0) (stOf 25 [(1, saF), (5, slO j m), (11, liP n k), (12, goN n), (13, goN j)] g) (MF c e row true c') (told 25 [1, 5, 11, 12, 13] Q) = (((Nat.blt j n = true → (Nat.blt j n = true ∧ c[(0 + (j * 1))]? = Option.some (gi (intAt c (0 + (j * 1)))) ∧ ((!(ilt (intAt c (0 + (j * 1))) (-16384))) && (!(ilt 16384 (intAt c (0 + (j * 1)))))) = true ∧ Nat.ble (j + 1) m = true ∧ Nat.ble ((0 + (j * 1)) + List.length [gf (sampleE (intAt c (0 + (j * 1))))]) (List.length c') = true ∧ Q .normal [saF, slO (j + 1) m, liP n k, goN n, gi (fwrap IntKind.i64 (Int.ofNat (j + 1)))] (((MF c e row true c').push (.cells [gf (sampleE (intAt c (0 + (j * 1))))] 69 2 false)).set (N1 + 1) (.cells (splice c' (0 + (j * 1)) [gf (sampleE (intAt c (0 + (j * 1))))]) 69 2 false)))) ∧ (Nat.blt j n = false → Q (.exit 0) [saF, slO j m, liP n k, goN n, goN j] (MF c e row true c')))) := by kernel_rfl
noncomputable def okI (u : Int) : Prop := -16384 ≤ u ∧ u ≤ 16384
noncomputable def dstF (l : List Int) (n j : Nat) : List Nat := (l.take j).map sampleE ++ List.replicate (n - j) 0
theorem dstF_length {l : List Int} {n j : Nat} (hj : j ≤ n) (hn : n ≤ l.length) : (dstF l n j).length = n := by
  simp [dstF]; omega
theorem dstF_set {l : List Int} {n j : Nat} (hj : j < n) (hn : n ≤ l.length) (hl : j < l.length) : (dstF l n j).set j (sampleE l[j]) = dstF l n (j + 1) := by
  unfold dstF
  have h1 : ((l.take j).map sampleE).length = j := by simp; omega
  rw [List.set_append, if_neg (by omega), h1, Nat.sub_self, show n - j = (n - (j + 1)) + 1 by omega, List.replicate_succ, List.set_cons_zero, List.take_add_one, List.getElem?_eq_getElem hl, List.map_append]
  simp only [Option.toList, List.map_cons, List.map_nil, List.append_assoc, List.singleton_append]
theorem dstF_end {l : List Int} {n : Nat} : dstF l n n = (l.take n).map sampleE := by simp [dstF]
theorem splice_mapF {l : List Nat} {t : Nat} {b : Nat} (ht : t < l.length) : splice (l.map gf) (0 + t * 1) [gf b] = (l.set t b).map gf := by
  unfold splice
  rw [show 0 + t * 1 = t by omega, List.set_eq_take_append_cons_drop, if_pos ht]
  simp
theorem okB {u : Int} (h : okI u) : (!ilt u (-16384) && !ilt 16384 u) = true := by
  unfold okI at h
  simp only [Bool.and_eq_true, ilt_dec, Bool.not_eq_true', decide_eq_false_iff_not]
  omega
set_option maxRecDepth 100000 in
theorem mf_loop (l : List Int) (n e row k : Nat) (h₀ : AHeap) (hn : n ≤ l.length) (hl : n ≤ 65536) (hval : ∀ x ∈ l.take n, okI x) (hs : h₀.get N1 = some (.cells (l.map gi) e row true)) (hd : h₀.get (N1 + 1) = some (.cells ((dstF l n 0).map gf) 69 2 false)) :
    ∀ a : AAct, a.n = 25 → a.marks = [] → [1, 5, 11, 12, 13].map a.tmp = [saF, slO 0 n, liP n k, goN n, goN 0] →
    J Tryz.prog (.loop (loopOf Tryz.prog 147 0)) a h₀ (told 25 [1, 5, 11, 12, 13] fun ex vs h => ex = .exit 0 ∧ vs = [saF, slO n n, liP n k, goN n, goN n] ∧ h.get (N1 + 1) = some (.cells (((l.take n).map sampleE).map gf) 69 2 false)) := by
  intro a ha hm hv
  refine loop_rule (fun m vs h => ∃ j, j ≤ n ∧ m = n - j ∧ vs = [saF, slO j n, liP n k, goN n, goN j] ∧ h.get N1 = some (.cells (l.map gi) e row true) ∧ h.get (N1 + 1) = some (.cells ((dstF l n j).map gf) 69 2 false)) _ ?_ n _ _ a ⟨0, Nat.zero_le _, rfl, rfl, hs, hd⟩ ha hm hv
  rintro m vs h g ⟨j, hj, rfl, rfl, hs, hd⟩
  refine J.reheap (es := fun _ => 0) (vs₂ := [saF, slO j n, liP n k, goN n, goN j]) (B := [(l.map gi, e, row, true), ((dstF l n j).map gf, 69, 2, false)]) (ids := [N1, N1 + 1]) globs_pos (by decide) (by decide) rfl (by simp) (by simp) ?_ (by kernel_rfl) ?_ fun g' => ?_
  · intro q b i hb hi
    match q, hb, hi with
    | 0, hb, hi => cases hb; cases hi; exact ⟨hs, flat_ints l⟩
    | 1, hb, hi => cases hb; cases hi; exact ⟨hd, flat_floats _⟩
  · intro i hi
    simp only [List.mem_cons, List.not_mem_nil, or_false] at hi
    rcases hi with rfl | rfl
    · exact ⟨(11, liP n k), by simp, by simp [named]⟩
    · exact ⟨(5, slO j n), by simp, by simp [named]⟩
  · refine execC_ok mixed orcRe_ok askRe_ok (noLoops _) (Eq.mpr (mf_body _ _ n k n j e row g' _) ?_)
    refine ⟨fun hlt => ?_, fun hge => ?_⟩
    · have hj' := blt_true hlt
      have hjl : j < l.length := by omega
      obtain ⟨h1, h2⟩ := int_at (List.getElem?_eq_getElem hjl)
      have hv : okI l[j] := hval _ (List.mem_of_getElem? (i := j) (by rw [List.getElem?_take, if_pos hj', List.getElem?_eq_getElem hjl]))
      rw [h2]
      refine ⟨hlt, h2 ▸ h1, okB hv, by rw [Nat.ble_eq]; omega, by rw [Nat.ble_eq, List.length_map, dstF_length hj hn]; simp only [List.length_cons, List.length_nil]; omega, n - (j + 1), by omega, j + 1, hj', rfl, by rw [fwrap_nat (by omega)], ?_, ?_⟩
      · rw [AHeap.get_set_neB (by kernel_rfl), AHeap.get_push_ne (by kernel_rfl)]
        exact MF_src _ _ _ _ _
      · rw [AHeap.get_set_eqB (by kernel_rfl), splice_mapF (by rw [dstF_length hj hn]; exact hj'), dstF_set hj' hn hjl]
    · have hge := blt_false hge
      obtain rfl : j = n := by omega
      refine ⟨rfl, rfl, ?_⟩
      rw [← dstF_end]
      exact MF_dst _ _ _ _ _
noncomputable abbrev mkF (c : List Value) (e row : Nat) (c' : List Value) : AHeap := (liH c e row).push (.cells c' 69 2 false)
noncomputable def mfLoops (l : List Int) (n e row k : Nat) : Loops Tryz.prog where
  body := fun _ => loopOf Tryz.prog 147 0
  spec := fun _ a h c => entry a 25 [(1, saF), (5, slO 0 n), (11, liP n k), (12, goN n), (13, goN 0)] (h = mkF (l.map gi) e row (List.replicate n (gf 0)) ∧ (n ≤ l.length ∧ n ≤ 65536 ∧ ∀ x ∈ l.take n, okI x) ∧
    ∀ g h', h'.get (N1 + 1) = some (.cells (((l.take n).map sampleE).map gf) 69 2 false) → c (.exit 0) (stOf 25 [(5, slO n n)] g) h')
  ok := fun i a h c q => by
    obtain ⟨h1, h2, h3, rfl, ⟨hs1, hs2, hs3⟩, h4⟩ := entry_facts q
    refine J.of_told (mf_loop l n e row k _ hs1 hs2 hs3 ?_ ?_ a h1 h2 ?_) ?_
    · rw [AHeap.get_push_ne (by kernel_rfl), canon_get, if_pos (Nat.le_refl _), Nat.sub_self]; rfl
    · rw [AHeap.get_push_eq (by kernel_rfl)]
      simp [dstF]
    · simp only [List.map_cons, List.map_nil]
      rw [h3 (1, saF) (by simp), h3 (5, slO 0 n) (by simp), h3 (11, liP n k) (by simp), h3 (12, goN n) (by simp), h3 (13, goN 0) (by simp)]
    · rintro ex vs h' g ⟨rfl, rfl, hg⟩
      exact h4 (ov [(1, saF), (11, liP n k), (12, goN n), (13, goN n)] g) h' hg
theorem mf_run (l : List Int) (n e row k : Nat) (K : Value → AHeap → Prop) : callC Tryz.prog (exec Tryz.prog orcRe 10) (syOf [(10, 18)]) askRe (mfLoops l n e row k) 20 147 #[liP n k, saF] (liH (l.map gi) e row) K = ((Nat.ble 0 n = true ∧ Nat.ble n 65536 = true ∧ loopOf Tryz.prog 147 0 = loopOf Tryz.prog 147 0 ∧ saF = saF ∧ slO 0 n = slO 0 n ∧ liP n k = liP n k ∧ goN n = goN n ∧ gi 0 = goN 0 ∧ (liH (List.map gi l) e row).push (.cells (List.replicate n (gf 0)) 69 2 false) = mkF (List.map gi l) e row (List.replicate n (gf 0)) ∧ ((n : Nat) ≤ List.length l ∧ (n : Nat) ≤ 65536 ∧ (∀ y1 : Int, (List.Mem y1 (List.take n l) → okI y1))) ∧ (∀ _ : Nat → Value, (∀ y2 : AHeap, (y2.get (N1 + 1) = Option.some (.cells (List.map gf (List.map sampleE (List.take n l))) 69 2 false) → K (slO n n) y2))))) := by kernel_rfl
noncomputable def saT : List Value → Bool
  | [.func (.func f) a b] => Nat.beq f 148 && a.isEmpty && b.isEmpty
  | _ => false
theorem saT_some {r : List Value} (h : saT r = true) : r = [saF] := by
  unfold saT at h
  split at h
  · simp only [Bool.and_eq_true, Nat.beq_eq, Array.isEmpty_iff] at h
    obtain ⟨⟨rfl, rfl⟩, rfl⟩ := h
    rfl
  · cases h
def okL (l : List Int) : Prop := ∀ x ∈ l, okI x
noncomputable def samL (l : List Int) : List Value := (l.map sampleE).map gf
open Classical in
noncomputable def saX : List Int → Option (List Value) := fun l => if okL l then some (samL l) else none
theorem saX_ok {l : List Int} (h : okL l) : saX l = some (samL l) := if_pos h
theorem saX_some {l : List Int} {xs : List Value} (h : saX l = some xs) : okL l ∧ xs = samL l := by
  unfold saX at h
  split at h
  · rename_i hv; cases h; exact ⟨hv, rfl⟩
  · cases h
noncomputable def orcRf : Orc := orElse 147 (mapO dI 65536 (fun n => n) saT saX 69) orcRe
set_option maxRecDepth 100000 in
theorem orcRf_ok : OrcOk Tryz.prog orcRf := by
  refine mapO_ok dI_some (fun _ => rfl) orcRe_ok (fun l xs h => by obtain ⟨_, rfl⟩ := saX_some h; exact flat_floats _) fun l n r xs el row k h0 h1 h2 ht hx => ?_
  obtain rfl := saT_some ht
  obtain ⟨hv, rfl⟩ := saX_some hx
  exact callC_ok mixed orcRe_ok askRe_ok (Eq.mpr (mf_run l n el row k _) ⟨by rw [Nat.ble_eq]; omega, by rw [Nat.ble_eq]; omega, rfl, rfl, rfl, rfl, rfl, rfl, rfl, ⟨h1, h2, hv⟩, fun _ h' hg => ⟨_, rfl, hg⟩⟩)
noncomputable def askRf : Asks := asksM 147 gi 65536 (fun n => n) saT okL samL 69 askRe
theorem askRf_ok : AsksOk orcRf askRf := asksM_ok (d := dI) (e := gi) (fun _ => rfl) (fun _ => saX_ok) askRe_ok
theorem sams_run (l : List Int) (n e row k : Nat) (K : Value → AHeap → Prop) : callC Tryz.prog (exec Tryz.prog orcRf 10) (syOf [(4, 7)]) askRf (noLoops _) 20 98 #[liP n k] (liH (l.map gi) e row) K = ((∃ x1 : List Int, (List.map gi l = List.map gi x1 ∧ (0 : Nat) < n ∧ (n : Nat) ≤ List.length x1 ∧ (n : Nat) ≤ 65536 ∧ okL (List.take n x1) ∧ K (slO n n) ((liH (List.map gi l) e row).push (.cells (samL (List.take n x1)) 69 2 false))))) := by kernel_rfl
noncomputable def orcRg : Orc := orElse 98 (mapO dI 65536 (fun n => n) noT saX 69) orcRf
set_option maxRecDepth 100000 in
theorem orcRg_ok : OrcOk Tryz.prog orcRg := by
  refine mapO_ok dI_some (fun _ => rfl) orcRf_ok (fun l xs h => by obtain ⟨_, rfl⟩ := saX_some h; exact flat_floats _) fun l n r xs el row k h0 h1 h2 ht hx => ?_
  obtain rfl := noT_some ht
  obtain ⟨hv, rfl⟩ := saX_some hx
  exact callC_ok mixed orcRf_ok askRf_ok (Eq.mpr (sams_run l n el row k _) ⟨l, rfl, h0, h1, h2, hv, _, rfl, by rw [AHeap.get_push_eq (by kernel_rfl)]⟩)
noncomputable def askRg : Asks := asksM 98 gi 65536 (fun n => n) noT okL samL 69 askRf
theorem askRg_ok : AsksOk orcRg askRg := asksM_ok (d := dI) (e := gi) (fun _ => rfl) (fun _ => saX_ok) askRf_ok
end Go.Proofs.YtnlkkapeldhemaaGreatDoor
