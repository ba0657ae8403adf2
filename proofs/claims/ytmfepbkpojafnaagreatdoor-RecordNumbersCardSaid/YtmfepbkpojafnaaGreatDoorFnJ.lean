/-
  OWN WORK. Permutations, as the reference makes them: the call.
-/
import Derived.Test.YtmfepbkpojafnaaGreatDoorFnI
namespace Go.Proofs.YtmfepbkpojafnaaGreatDoor
open Go Go.Am

set_option maxRecDepth 100000 in
theorem build_loop (q : Nat) (hq : q ≤ 256) (n : Int) : ∀ a : AAct, a.n = 53 → a.marks = [] → [0, 1, 5, 6].map a.tmp = [gi n, goN q, nilS, goN 0] →
    J Tryz.prog (.loop (loopOf Tryz.prog 12 0)) a (emp Tryz.prog) (told 53 [0, 1, 5, 6] fun e vs h => e = .exit 0 ∧ ((q = 0 ∧ vs = [gi n, goN q, nilS, goN 0] ∧ h = emp Tryz.prog) ∨ (0 < q ∧ ∃ b, vs = [gi n, goN q, slB b q, goN q] ∧ h.get b = some (ic ((rangeL q).map gi))))) := by
  intro a hn hm hv
  refine loop_rule (fun m vs h => ∃ j, j ≤ q ∧ m = q - j ∧ ((j = 0 ∧ vs = [gi n, goN q, nilS, goN 0] ∧ h = emp Tryz.prog) ∨ (0 < j ∧ ∃ b, vs = [gi n, goN q, slB b j, goN j] ∧ h.get b = some (ic ((rangeL j).map gi))))) _ ?_ q _ _ a ⟨0, Nat.zero_le _, rfl, .inl ⟨rfl, rfl, rfl⟩⟩ hn hm hv
  rintro m vs h g ⟨j, hj, rfl, ⟨rfl, rfl, rfl⟩ | ⟨hpos, b, rfl, hg⟩⟩
  · refine execC_ok mixed orcH_ok (noAsks_ok _) (noLoops _) (Eq.mpr (build_first q n g _) ?_)
    refine ⟨fun hlt => ?_, fun hge => ?_⟩
    · have hl := blt_true hlt
      refine ⟨q - 1, by omega, 1, hl, rfl, .inr ⟨Nat.zero_lt_one, N0 + 1, rfl, ?_⟩⟩
      rw [AHeap.get_push]
      exact if_pos rfl
    · have hge := blt_false hge
      obtain rfl : q = 0 := by omega
      exact ⟨rfl, .inl ⟨rfl, rfl, rfl⟩⟩
  · refine J.from_view (CH_view hg) [(0, gi n), (1, goN q), (5, slB N0 j), (6, goN j)] (D := N0 + 1) (Nat.lt_succ_self _) (by simp [preOne]) rfl ?_ ?_ fun g' => ?_
    · intro x hx
      simp only [List.mem_cons, List.not_mem_nil, or_false] at hx
      rcases hx with rfl | rfl | rfl | rfl
      · rw [stOf_tmp (by dsimp only; decide)]; exact .flat rfl
      · rw [stOf_tmp (by dsimp only; decide)]; exact .flat rfl
      · rw [stOf_tmp (by dsimp only; decide)]; exact .slice (by simp [preOne])
      · rw [stOf_tmp (by dsimp only; decide)]; exact .flat rfl
    · intro k i e
      simp only [preOne] at e
      split at e
      · cases e
        exact .inr ⟨5, .inl ⟨0, j, j, by rw [stOf_tmp (by decide)]; rfl⟩⟩
      · cases e
    · refine execC_ok mixed orcH_ok (noAsks_ok _) (noLoops _) (Eq.mpr (build_body _ q j n g' _) ?_)
      refine ⟨fun hlt => ?_, fun hge => ?_⟩
      · have hl := blt_true hlt
        refine ⟨?_, by rw [Nat.ble_eq]; omega, by simp [rangeL], q - (j + 1), by omega, j + 1, hl, rfl, .inr ⟨Nat.succ_pos _, N0 + 3, by rw [fwrap_nat (by omega)], ?_⟩⟩
        · cases hb : Nat.ble (j + 1) j with
          | false => rfl
          | true => rw [Nat.ble_eq] at hb; omega
        · rw [HB_get, rangeL_succ, List.map_append]
          rfl
      · have hge := blt_false hge
        obtain rfl : j = q := by omega
        exact ⟨rfl, .inr ⟨hpos, N0, rfl, CH_get _⟩⟩
set_option maxRecDepth 100000 in
noncomputable def DrawLoops (n : Int) (q : Nat) : Loops Tryz.prog where
  body := fun i => loopOf Tryz.prog 12 i
  spec := fun i a h k => match i with
    | 0 => entry a 53 [(0, gi n), (1, goN q), (5, nilS), (6, goN 0)] (h = emp Tryz.prog ∧ (q ≤ 256 ∧ 0 < q) ∧ ∀ g, k (.exit 0) (stOf 53 [(0, gi n), (1, goN q), (5, slB N0 q)] g) (CH ((rangeL q).map gi)))
    | 2 => entry a 53 [(5, slB N0 q), (7, gi n), (8, .int .i64 (fwrap .i64 (Int.ofNat q - 1)))] (h = CH ((rangeL q).map gi) ∧ (q ≤ 256 ∧ 0 ≤ n ∧ n ≤ 2147483399) ∧ ∀ g, k (.exit 2) (stOf 53 [(5, slB N0 q)] g) (CH ((drawS n q).map gi)))
    | _ => False
  ok := fun i a h k s => by
    split at s
    · obtain ⟨h1, h2, h3, rfl, ⟨hs1, hs2⟩, h4⟩ := entry_facts s
      have hl := build_loop q hs1 n a h1 h2 (by
        simp only [List.map_cons, List.map_nil]
        rw [h3 (0, gi n) (by simp), h3 (1, goN q) (by simp), h3 (5, nilS) (by simp), h3 (6, goN 0) (by simp)])
      refine J.to_view (hl.mono ?_)
      intro e a' h' q'
      obtain ⟨n1, n2, rfl, ⟨hz, _, _⟩ | ⟨_, b, hv, hg⟩⟩ := told_facts q'
      · omega
      · have hz := zip_facts hv
        refine ⟨CH ((rangeL q).map gi), preOne N0 b, [(0, gi n), (1, goN q), (5, slB N0 q)], N0 + 1, CH_view hg, Nat.lt_succ_self _, by simp [preOne], n2, ?_, ?_, fun g => ?_⟩
        · intro x hx
          simp only [List.mem_cons, List.not_mem_nil, or_false] at hx
          rcases hx with rfl | rfl | rfl
          · rw [hz (0, gi n) (by simp)]; exact .flat rfl
          · rw [hz (1, goN q) (by simp)]; exact .flat rfl
          · rw [hz (5, slB b q) (by simp)]; exact .slice (by simp [preOne])
        · intro k i e
          simp only [preOne] at e
          split at e
          · cases e
            exact .inr ⟨5, .inl ⟨0, q, q, hz (5, slB b q) (by simp)⟩⟩
          · cases e
        · rw [n1]
          exact h4 g
    · obtain ⟨h1, h2, h3, rfl, ⟨hs1, hs2, hs3⟩, h4⟩ := entry_facts s
      refine J.of_told (shuf_loop hs1 (hbR q) (rangeL q) (by simp [rangeL]) n hs2 hs3 a h1 h2 ?_) ?_
      · simp only [List.map_cons, List.map_nil]
        rw [h3 (5, slB N0 q) (by simp), h3 (7, gi n) (by simp), h3 (8, .int .i64 (fwrap .i64 (Int.ofNat q - 1))) (by simp)]
      · rintro e vs h' g ⟨rfl, rfl, y, v, rfl⟩
        exact h4 (ov [(7, gi y), (8, gi v)] g)
    · exact s.elim
theorem Draw_run (n : Int) (q : Nat) (K : Value → AHeap → Prop) : callC Tryz.prog (exec Tryz.prog orcH 10) (syOf []) noAsks (DrawLoops n q) 60 12 #[gi n, goN q] (emp Tryz.prog) K =
  (loopOf Tryz.prog 12 0 = loopOf Tryz.prog 12 0 ∧ gi n = gi n ∧ goN q = goN q ∧ nilS = nilS ∧ goN 0 = goN 0 ∧ emp Tryz.prog = emp Tryz.prog ∧ (q ≤ 256 ∧ 0 < q) ∧ ∀ _ : Nat → Value,
     loopOf Tryz.prog 12 2 = loopOf Tryz.prog 12 2 ∧ slB N0 q = slB N0 q ∧ gi n = gi n ∧ Value.int .i64 (fwrap .i64 (Int.ofNat q - 1)) = .int .i64 (fwrap .i64 (Int.ofNat q - 1)) ∧
       CH ((rangeL q).map gi) = CH ((rangeL q).map gi) ∧ (q ≤ 256 ∧ 0 ≤ n ∧ n ≤ 2147483399) ∧ ∀ _ : Nat → Value, K (slB N0 q) (CH ((drawS n q).map gi))) := by kernel_rfl
noncomputable def DrawO : Array Value → AHeap → Option (Value × AHeap) := fun args h => match args.toList with
  | [.int .i64 x, .int .i64 y] => if drawE x y = 0 then (if y.toNat = 0 then some (nilS, h) else some (.slice (some ⟨h.n, 0, none⟩) y.toNat y.toNat, h.push (.cells ((drawS x y.toNat).map gi) 3 2 false))) else none
  | _ => none
noncomputable def orcJ : Orc := orElse 12 DrawO orcH
set_option maxRecDepth 100000 in
theorem orcJ_ok : OrcOk Tryz.prog orcJ := by
  refine orElse_ok orcH_ok fun args h v h' hk => ?_
  unfold DrawO at hk
  split at hk
  · rename_i x y ha
    have : args = #[gi x, gi y] := by rw [← ha]
    subst this
    split at hk
    · rename_i he
      obtain ⟨hx, hy⟩ := drawE_zero he
      obtain ⟨q, rfl⟩ : ∃ q : Nat, y = Int.ofNat q := ⟨y.toNat, by simp only [Int.ofNat_eq_natCast]; omega⟩
      have hq : q ≤ 256 := by have := hy.2; simp only [Int.ofNat_eq_natCast] at this; omega
      split at hk
      · rename_i h0
        cases hk
        obtain rfl : q = 0 := h0
        exact plain_flat rfl rfl (CallJ.of_call mixed orcH_ok (Draw_zero x) fun _ => rfl)
      · rename_i h0
        cases hk
        have hpos : 0 < q := Nat.pos_of_ne_zero h0
        exact fresh_slice rfl (callC_ok mixed orcH_ok (noAsks_ok _) (Eq.mpr (Draw_run x q _) ⟨rfl, rfl, rfl, rfl, rfl, rfl, ⟨hq, hpos⟩, fun _ => ⟨rfl, rfl, rfl, rfl, rfl, ⟨hq, hx.1, by omega⟩, fun _ => ⟨N0, rfl, CH_get _⟩⟩⟩))
    · cases hk
  · cases hk
end Go.Proofs.YtmfepbkpojafnaaGreatDoor
