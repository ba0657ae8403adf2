/-
  OWN WORK. Rings: samples are written, by the program: its calls.
-/
import Derived.Test.YtgomacijdadjpaaGreatDoorRgE
namespace Go.Proofs.YtgomacijdadjpaaGreatDoor
open Go Go.Am

theorem rec_true {b : Bool} {p : Prop} (hb : b = true) (hp : p) : Bool.rec (motive := fun _ => Prop) False p b := by rw [hb]; exact hp
theorem all_rep (n : Nat) : (((List.all (List.replicate n (gf 0)) sameA && true) && true) && true) = true := by
  have : List.all (List.replicate n (gf 0)) sameA = true := by
    rw [List.all_eq_true]
    intro x hx
    obtain ⟨_, rfl⟩ := List.mem_replicate.1 hx
    rfl
  rw [this]; rfl
theorem one_gf (l : List Nat) : (l.map gf).all Value.oneCell' = true := by
  rw [List.all_eq_true]
  intro x hx
  obtain ⟨y, _, rfl⟩ := List.mem_map.1 hx
  rfl
theorem take_gf (l : List Nat) (n : Nat) : List.take n (List.drop 0 (List.map gf l)) = (l.take n).map gf := by rw [List.drop_zero, ← List.map_take]
theorem wrE_zero {l L : List Nat} {nx : Int} {fu : Bool} (h : wrE l nx fu L = 0) : 0 < l.length ∧ l.length ≤ 256 ∧ csE L = 0 ∧ nx = Int.ofNat nx.toNat ∧ nx.toNat < l.length := by
  have h' := firstS_zero h
  have h1 : ckR l nx fu = 0 := h' _ (.head _)
  have h2 : csE L = 0 := h' _ (.tail _ (.head _))
  rw [ckR_eq] at h1
  cases hb : ieq (ckB l nx) 0 with
  | true =>
    rw [ieq_dec] at hb
    obtain ⟨a, b, _, x, rfl, hx⟩ := ckB_zero (of_decide_eq_true hb)
    exact ⟨a, b, h2, rfl, hx⟩
  | false =>
    rw [hb] at h1
    rw [ieq_dec] at hb
    exact absurd h1 (of_decide_eq_false hb)
theorem wrOut_bad {l L : List Nat} {nx : Int} {fu : Bool} (h : ieq (wrE l nx fu L) 0 = false) : wrOut l nx fu L = .plain (.tuple #[zRg, gi (wrE l nx fu L)]) := by unfold wrOut; rw [h]; rfl
theorem wrOut_good {l L : List Nat} {nx : Int} {fu : Bool} (h : ieq (wrE l nx fu L) 0 = true) : wrOut l nx fu L = .fresh (mkT l.length (Int.ofNat (wX (wrZ l nx fu L))) (wB (wrZ l nx fu L))) ((wC (wrZ l nx fu L)).map gf) 49 := by unfold wrOut; rw [h]; rfl
set_option maxRecDepth 100000 in
theorem wr_full (l m : List Nat) (n k e row p q el rl : Nat) (nx : Int) (fu : Bool) (h0 : 0 < n) (h1 : n = l.length) (h2 : n ≤ 1000000) (h3 : n ≤ k) (hw : row = 0 ∨ row = 2) (g0 : 0 < p) (g1 : p ≤ m.length) (g2 : p ≤ 1000000) (g3 : p ≤ q) : CallJ Tryz.prog 8 #[rgV N1 n k nx fu, slA' p q] (twoH (l.map gf) e row (m.map gf) el rl) (wrOut (l.take n) nx fu (m.take p)).Got := by
  have hl : (l.take n).length = n := by rw [List.length_take]; omega
  have hrow : (Nat.beq row 0 || Nat.beq row 2) = true := by rcases hw with rfl | rfl <;> rfl
  refine callC_ok mixed orcRgF_ok askRgF_ok (Eq.mpr (wr_run l m n k e row p q el rl nx fu nx.toNat _) ⟨⟨flat_floats _, trivial⟩, l, rfl, rfl, h0, h1, h2, h3, hrow, m, rfl, g0, g1, g2, g3, fun hz => ?_, fun hz => ?_⟩)
  · rw [wrOut_bad (show ieq (wrE (l.take n) nx fu (m.take p)) 0 = false from not_t hz)]; rfl
  · have hz : ieq (wrE (l.take n) nx fu (m.take p)) 0 = true := not_f hz
    rw [wrOut_good hz]
    rw [ieq_dec] at hz
    obtain ⟨_, b2, _, b4, b5⟩ := wrE_zero (of_decide_eq_true hz)
    rw [hl] at b2 b5
    refine ⟨rfl, by rw [Nat.ble_eq]; omega, rfl, rfl, rfl, rfl, rec_true (all_rep n) ⟨rfl, rfl, rfl, h0, rfl, List.length_replicate, by rw [List.length_map]; omega, one_gf l, rfl, [gi (ckR (List.take n l) nx fu), csR (List.take p m) []], l.take n, rfl, rfl, rfl, rfl, rfl, rfl, ?_, b4, ⟨g1, g2, h2, hl, b5⟩, fun _ => ⟨N1 + 5, ?_, ?_⟩⟩⟩
    · rw [take_gf]
      kernel_rfl
    · unfold wrZ
      rw [hl]; rfl
    · unfold wrZ
      rw [hl]
      rw [AHeap.get_set_neB (by kernel_rfl), AHeap.get_push_ne (by kernel_rfl), AHeap.get_push_eq (by kernel_rfl)]
set_option maxRecDepth 100000 in
theorem wr_none (l : List Nat) (n k e row : Nat) (nx : Int) (fu : Bool) (h0 : 0 < n) (h1 : n = l.length) (h2 : n ≤ 1000000) (h3 : n ≤ k) (hw : row = 0 ∨ row = 2) : CallJ Tryz.prog 8 #[rgV N1 n k nx fu, nilS] (rdH Tryz.prog (l.map gf) e row) (wrOut (l.take n) nx fu []).Got := by
  have hl : (l.take n).length = n := by rw [List.length_take]; omega
  have hrow : (Nat.beq row 0 || Nat.beq row 2) = true := by rcases hw with rfl | rfl <;> rfl
  refine CallJ.ofE mixed orcRgF_ok askRgF_ok (Eq.mpr (wr_nil l n k e row nx fu _) ⟨⟨flat_floats _, trivial⟩, l, rfl, rfl, h0, h1, h2, h3, hrow, fun hz => ?_, fun hz => ?_⟩)
  · rw [wrOut_bad (show ieq (wrE (l.take n) nx fu []) 0 = false from not_t hz)]; rfl
  · have hz : ieq (wrE (l.take n) nx fu []) 0 = true := not_f hz
    rw [wrOut_good hz]
    rw [ieq_dec] at hz
    obtain ⟨_, b2, _, b4, b5⟩ := wrE_zero (of_decide_eq_true hz)
    rw [hl] at b2 b5
    refine ⟨rfl, by rw [Nat.ble_eq]; omega, rfl, rfl, rfl, rfl, rec_true (all_rep n) ⟨rfl, rfl, rfl, h0, rfl, List.length_replicate, by rw [List.length_map]; omega, one_gf l, N1 + 4, ?_, ?_⟩⟩
    · rw [hl]
      show _ = mkT n (Int.ofNat nx.toNat) fu (N1 + 4)
      rw [← b4]; rfl
    · rw [AHeap.get_set_neB (by kernel_rfl), AHeap.get_set_eqB (by kernel_rfl), take_gf]; rfl
set_option maxRecDepth 100000 in
theorem wr_empty (l : List Nat) (n k e row qq : Nat) (nx : Int) (fu : Bool) (h0 : 0 < n) (h1 : n = l.length) (h2 : n ≤ 1000000) (h3 : n ≤ k) (hw : row = 0 ∨ row = 2) : CallJ Tryz.prog 8 #[rgV N1 n k nx fu, .slice (some ⟨0, 0, none⟩) 0 qq] (rdH Tryz.prog (l.map gf) e row) (wrOut (l.take n) nx fu []).Got := by
  have hl : (l.take n).length = n := by rw [List.length_take]; omega
  have hrow : (Nat.beq row 0 || Nat.beq row 2) = true := by rcases hw with rfl | rfl <;> rfl
  refine CallJ.ofE mixed orcRgF_ok askRgF_ok (Eq.mpr (wr_emp l n k e row qq nx fu _) ⟨⟨flat_floats _, trivial⟩, l, rfl, rfl, h0, h1, h2, h3, hrow, fun hz => ?_, fun hz => ?_⟩)
  · rw [wrOut_bad (show ieq (wrE (l.take n) nx fu []) 0 = false from not_t hz)]; rfl
  · have hz : ieq (wrE (l.take n) nx fu []) 0 = true := not_f hz
    rw [wrOut_good hz]
    rw [ieq_dec] at hz
    obtain ⟨_, b2, _, b4, b5⟩ := wrE_zero (of_decide_eq_true hz)
    rw [hl] at b2 b5
    refine ⟨rfl, by rw [Nat.ble_eq]; omega, rfl, rfl, rfl, rfl, rec_true (all_rep n) ⟨rfl, rfl, rfl, h0, rfl, List.length_replicate, by rw [List.length_map]; omega, one_gf l, N1 + 4, ?_, ?_⟩⟩
    · rw [hl]
      show _ = mkT n (Int.ofNat nx.toNat) fu (N1 + 4)
      rw [← b4]; rfl
    · rw [AHeap.get_set_neB (by kernel_rfl), AHeap.get_set_eqB (by kernel_rfl), take_gf]; rfl
noncomputable def wrFn : List Nat → Int → Bool → List Nat → Option Out := fun l nx fu L => some (wrOut l nx fu L)
theorem wrOut_ok (l : List Nat) (nx : Int) (fu : Bool) (L : List Nat) : (wrOut l nx fu L).Ok := by
  unfold wrOut
  cases ieq (wrE l nx fu L) 0 with
  | true => exact ⟨names_T _ _ _, flat_floats _⟩
  | false => rfl
noncomputable def orcRgG : Orc := orElse 8 (anyO Tryz.prog.globals.size (ring2X wrFn)) orcRgF
set_option maxRecDepth 100000 in
theorem orcRgG_ok : OrcOk Tryz.prog orcRgG := by
  refine anyO_ok globs_pos orcRgF_ok fun vs B o h _ => ?_
  obtain ⟨l, n, k, e, row, nx, fu, v2, B2, L, rfl, rfl, hS, h0, h1, h2, h3, hw, h⟩ := ring2X_some h
  cases h
  refine ⟨wrOut_ok _ _ _ _, ?_⟩
  cases hS with
  | nil => exact wr_none l n k e row nx fu h0 h1 h2 h3 hw
  | emp q => exact wr_empty l n k e row q nx fu h0 h1 h2 h3 hw
  | full m p q el rl g0 g1 g2 g3 => exact wr_full l m n k e row p q el rl nx fu h0 h1 h2 h3 hw g0 g1 g2 g3
/-- What is asked of Written: a ring (b), or an error. -/
noncomputable def wrY (b : Bool) : List Nat → Int → Bool → List Nat → (Out → Prop) → Prop := fun l nx fu L K => ieq (wrE l nx fu L) 0 = b ∧ Bool.rec (motive := fun _ => Prop) (K (.plain (.tuple #[zRg, gi (wrE l nx fu L)])))
  (∀ (c : List Nat) (x : Nat) (f : Bool), c = wC (wrZ l nx fu L) → x = wX (wrZ l nx fu L) → f = wB (wrZ l nx fu L) → K (.fresh (mkT l.length (Int.ofNat x) f) (c.map gf) 49)) b
theorem wrY_ok (b : Bool) (l : List Nat) (nx : Int) (fu : Bool) (L : List Nat) (K : Out → Prop) (h : wrY b l nx fu L K) : ∃ o, wrFn l nx fu L = some o ∧ K o := by
  refine ⟨_, rfl, ?_⟩
  unfold wrY at h
  unfold wrOut
  rw [h.1]
  cases b with
  | true => exact h.2 _ _ _ rfl rfl rfl
  | false => exact h.2
end Go.Proofs.YtgomacijdadjpaaGreatDoor
