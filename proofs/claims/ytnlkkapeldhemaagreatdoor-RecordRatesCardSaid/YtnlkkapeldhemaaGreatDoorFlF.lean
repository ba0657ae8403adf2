/-
  OWN WORK. The first error of samples: both loops.
-/
import Derived.Test.YtnlkkapeldhemaaGreatDoorFlE
namespace Go.Proofs.YtnlkkapeldhemaaGreatDoor
open Go Go.Am

theorem fe_body (c : List Value) (e row n k j : Nat) (g : Nat → Value) (Q : Exit → List Value → AHeap → Prop) :
    execC Tryz.prog (exec Tryz.prog orcV 10) (syOf [(11, 1), (12, 2), (13, 3), (18, 1)]) noAsks (noLoops _) 40 (loopOf Tryz.prog 92 0) (stOf 21 [(1, flS), (4, gi 0), (8, liP n k), (9, goN n), (10, goN j)] g) (liH c e row) (told 21 [1, 4, 8, 9, 10] Q) =
    ((Nat.blt j n = true → Nat.blt j n = true ∧ c[0 + j * 1]? = some (.float .f32 (floatAt c (0 + j * 1))) ∧
      ((!ieq (smpE (floatAt c (0 + j * 1))) 0) = true → Q .ret [flS, gi (smpE (floatAt c (0 + j * 1))), liP n k, goN n, goN j] (liH c e row)) ∧
      ((!ieq (smpE (floatAt c (0 + j * 1))) 0) = false → Q .normal [flS, gi 0, liP n k, goN n, .int .i64 (fwrap .i64 (Int.ofNat (j + 1)))] (liH c e row))) ∧
     (Nat.blt j n = false → Q (.exit 0) [flS, gi 0, liP n k, goN n, goN j] (liH c e row))) := by kernel_rfl
theorem ca_body (c : List Value) (e row n k j : Nat) (g : Nat → Value) (Q : Exit → List Value → AHeap → Prop) :
    execC Tryz.prog (exec Tryz.prog orcV 10) (syOf [(8, 1), (13, 2), (14, 3), (17, 1)]) noAsks (noLoops _) 40 (loopOf Tryz.prog 90 0) (stOf 19 [(0, liP n k), (2, gi 0), (3, goN j)] g) (liH c e row) (told 19 [0, 2, 3] Q) =
    ((Nat.blt j n = true → Nat.blt j n = true ∧ c[0 + j * 1]? = some (.float .f32 (floatAt c (0 + j * 1))) ∧
      ((!ieq (smpE (floatAt c (0 + j * 1))) 0) = true → Q .ret [liP n k, gi (smpE (floatAt c (0 + j * 1))), goN j] (liH c e row)) ∧
      ((!ieq (smpE (floatAt c (0 + j * 1))) 0) = false → Q .normal [liP n k, gi 0, .int .i64 (fwrap .i64 (Int.ofNat (j + 1)))] (liH c e row))) ∧
     (Nat.blt j n = false → Q (.exit 0) [liP n k, gi 0, goN j] (liH c e row))) := by kernel_rfl
/-- One round of such a loop. -/
theorem smps_step {l : List Nat} {n j : Nat} (hn : n ≤ l.length) (hj : j < n) (hf : smpsE (l.take n) = firstS (((l.take n).map smpE).drop j)) :
    smpsE (l.take n) = bif ieq (smpE l[j]) 0 then firstS (((l.take n).map smpE).drop (j + 1)) else smpE l[j] := by
  have hlen : j < ((l.take n).map smpE).length := by simp; omega
  rw [hf, firstS_drop hlen]
  simp
theorem smps_end {l : List Nat} {n j : Nat} (hj : n ≤ j) : firstS (((l.take n).map smpE).drop j) = 0 := firstS_end (by simp; omega)
set_option maxRecDepth 100000 in
theorem fe_loop (l : List Nat) (n e row k : Nat) (hn : n ≤ l.length) (hl : n ≤ 1000000) : ∀ a : AAct, a.n = 21 → a.marks = [] → [1, 4, 8, 9, 10].map a.tmp = [flS, gi 0, liP n k, goN n, goN 0] →
    J Tryz.prog (.loop (loopOf Tryz.prog 92 0)) a (liH (l.map gf) e row) (told 21 [1, 4, 8, 9, 10] fun ex vs h => h = liH (l.map gf) e row ∧ ((ex = .exit 0 ∧ smpsE (l.take n) = 0) ∨ (ex = .ret ∧ ∃ j, vs = [flS, gi (smpsE (l.take n)), liP n k, goN n, goN j]))) := by
  intro a ha hm hv
  refine loop_rule (fun m vs h => ∃ j, j ≤ n ∧ m = n - j ∧ vs = [flS, gi 0, liP n k, goN n, goN j] ∧ h = liH (l.map gf) e row ∧ smpsE (l.take n) = firstS (((l.take n).map smpE).drop j)) _ ?_ n _ _ a ⟨0, Nat.zero_le _, rfl, rfl, rfl, rfl⟩ ha hm hv
  rintro m vs h g ⟨j, hj, rfl, rfl, rfl, hf⟩
  refine execC_ok mixed orcV_ok (noAsks_ok _) (noLoops _) (Eq.mpr (fe_body _ e row _ k j g _) ?_)
  refine ⟨fun hlt => ?_, fun hge => ?_⟩
  · have hj' := blt_true hlt
    obtain ⟨h1, h2⟩ := float_at (l := l) (j := j) (by omega)
    have hs := smps_step hn hj' hf
    rw [h2]
    refine ⟨hlt, h2 ▸ h1, fun h3 => ⟨rfl, .inr ⟨rfl, j, ?_⟩⟩, fun h3 => ?_⟩
    · rw [hs, show ieq (smpE l[j]) 0 = false by simpa using h3]
      rfl
    · rw [fwrap_nat (by omega)]
      refine ⟨n - (j + 1), by omega, j + 1, hj', rfl, rfl, rfl, ?_⟩
      rw [hs, show ieq (smpE l[j]) 0 = true by simpa using h3]
      rfl
  · exact ⟨rfl, .inl ⟨rfl, by rw [hf, smps_end (blt_false hge)]⟩⟩
set_option maxRecDepth 100000 in
theorem ca_loop (l : List Nat) (n e row k : Nat) (hn : n ≤ l.length) (hl : n ≤ 1000000) : ∀ a : AAct, a.n = 19 → a.marks = [] → [0, 2, 3].map a.tmp = [liP n k, gi 0, goN 0] →
    J Tryz.prog (.loop (loopOf Tryz.prog 90 0)) a (liH (l.map gf) e row) (told 19 [0, 2, 3] fun ex vs h => h = liH (l.map gf) e row ∧ ((ex = .exit 0 ∧ smpsE (l.take n) = 0) ∨ (ex = .ret ∧ ∃ j, vs = [liP n k, gi (smpsE (l.take n)), goN j]))) := by
  intro a ha hm hv
  refine loop_rule (fun m vs h => ∃ j, j ≤ n ∧ m = n - j ∧ vs = [liP n k, gi 0, goN j] ∧ h = liH (l.map gf) e row ∧ smpsE (l.take n) = firstS (((l.take n).map smpE).drop j)) _ ?_ n _ _ a ⟨0, Nat.zero_le _, rfl, rfl, rfl, rfl⟩ ha hm hv
  rintro m vs h g ⟨j, hj, rfl, rfl, rfl, hf⟩
  refine execC_ok mixed orcV_ok (noAsks_ok _) (noLoops _) (Eq.mpr (ca_body _ e row _ k j g _) ?_)
  refine ⟨fun hlt => ?_, fun hge => ?_⟩
  · have hj' := blt_true hlt
    obtain ⟨h1, h2⟩ := float_at (l := l) (j := j) (by omega)
    have hs := smps_step hn hj' hf
    rw [h2]
    refine ⟨hlt, h2 ▸ h1, fun h3 => ⟨rfl, .inr ⟨rfl, j, ?_⟩⟩, fun h3 => ?_⟩
    · rw [hs, show ieq (smpE l[j]) 0 = false by simpa using h3]
      rfl
    · rw [fwrap_nat (by omega)]
      refine ⟨n - (j + 1), by omega, j + 1, hj', rfl, rfl, rfl, ?_⟩
      rw [hs, show ieq (smpE l[j]) 0 = true by simpa using h3]
      rfl
  · exact ⟨rfl, .inl ⟨rfl, by rw [hf, smps_end (blt_false hge)]⟩⟩
noncomputable def feLoops (l : List Nat) (n e row k : Nat) : Loops Tryz.prog where
  body := fun _ => loopOf Tryz.prog 92 0
  spec := fun _ a h c => entry a 21 [(1, flS), (4, gi 0), (8, liP n k), (9, goN n), (10, goN 0)] (h = liH (l.map gf) e row ∧ n ≤ l.length ∧ n ≤ 1000000 ∧ (smpsE (l.take n) = 0 → ∀ g, c (.exit 0) (stOf 21 [] g) (liH (l.map gf) e row)) ∧ ∀ g, c .ret (stOf 21 [(4, gi (smpsE (l.take n)))] g) (liH (l.map gf) e row))
  ok := fun i a h c q => by
    obtain ⟨h1, h2, h3, rfl, hs, hs2, h4, h5⟩ := entry_facts q
    refine J.of_told (fe_loop l n e row k hs hs2 a h1 h2 ?_) ?_
    · simp only [List.map_cons, List.map_nil]
      rw [h3 (1, flS) (by simp), h3 (4, gi 0) (by simp), h3 (8, liP n k) (by simp), h3 (9, goN n) (by simp), h3 (10, goN 0) (by simp)]
    · rintro ex vs h' g ⟨rfl, ⟨rfl, ha⟩ | ⟨rfl, j, rfl⟩⟩
      · exact h4 ha (ov ([1, 4, 8, 9, 10].zip vs) g)
      · exact h5 (ov [(1, flS), (8, liP n k), (9, goN n), (10, goN j)] g)
noncomputable def caLoops (l : List Nat) (n e row k : Nat) : Loops Tryz.prog where
  body := fun _ => loopOf Tryz.prog 90 0
  spec := fun _ a h c => entry a 19 [(0, liP n k), (2, gi 0), (3, goN 0)] (h = liH (l.map gf) e row ∧ n ≤ l.length ∧ n ≤ 1000000 ∧ (smpsE (l.take n) = 0 → ∀ g, c (.exit 0) (stOf 19 [] g) (liH (l.map gf) e row)) ∧ ∀ g j, c .ret (stOf 19 [(0, liP n k), (2, gi (smpsE (l.take n))), (3, goN j)] g) (liH (l.map gf) e row))
  ok := fun i a h c q => by
    obtain ⟨h1, h2, h3, rfl, hs, hs2, h4, h5⟩ := entry_facts q
    refine J.of_told (ca_loop l n e row k hs hs2 a h1 h2 ?_) ?_
    · simp only [List.map_cons, List.map_nil]
      rw [h3 (0, liP n k) (by simp), h3 (2, gi 0) (by simp), h3 (3, goN 0) (by simp)]
    · rintro ex vs h' g ⟨rfl, ⟨rfl, ha⟩ | ⟨rfl, j, rfl⟩⟩
      · exact h4 ha (ov ([0, 2, 3].zip vs) g)
      · exact h5 g j
theorem fe_run (l : List Nat) (n e row k : Nat) (K : Value → AHeap → Prop) : callC Tryz.prog (exec Tryz.prog orcV 10) (syOf []) noAsks (feLoops l n e row k) 40 92 #[liP n k, flS] (liH (l.map gf) e row) K =
  (loopOf Tryz.prog 92 0 = loopOf Tryz.prog 92 0 ∧ flS = flS ∧ gi 0 = gi 0 ∧ liP n k = liP n k ∧ goN n = goN n ∧ goN 0 = goN 0 ∧ liH (l.map gf) e row = liH (l.map gf) e row ∧ n ≤ l.length ∧ n ≤ 1000000 ∧
    (smpsE (l.take n) = 0 → ∀ _ : Nat → Value, K (gi 0) (liH (l.map gf) e row)) ∧ ∀ _ : Nat → Value, K (gi (smpsE (l.take n))) (liH (l.map gf) e row)) := by kernel_rfl
theorem ca_run (l : List Nat) (n e row k : Nat) (K : Value → AHeap → Prop) : callC Tryz.prog (exec Tryz.prog orcV 10) (syOf []) noAsks (caLoops l n e row k) 40 90 #[liP n k] (liH (l.map gf) e row) K =
  (loopOf Tryz.prog 90 0 = loopOf Tryz.prog 90 0 ∧ liP n k = liP n k ∧ gi 0 = gi 0 ∧ goN 0 = goN 0 ∧ liH (l.map gf) e row = liH (l.map gf) e row ∧ n ≤ l.length ∧ n ≤ 1000000 ∧
    (smpsE (l.take n) = 0 → ∀ _ : Nat → Value, K (gi 0) (liH (l.map gf) e row)) ∧ ∀ (_ : Nat → Value) (_ : Nat), K (gi (smpsE (l.take n))) (liH (l.map gf) e row)) := by kernel_rfl
theorem fe_nil : (call Tryz.prog orcV 40 92 #[.slice none 0 0, flS] (emp Tryz.prog)).map (·.1) = some (gi 0) := by kernel_rfl
theorem fe_emp (k : Nat) : (call Tryz.prog orcV 40 92 #[.slice (some ⟨0, 0, none⟩) 0 k, flS] (emp Tryz.prog)).map (·.1) = some (gi 0) := by kernel_rfl
theorem ca_nil : (call Tryz.prog orcV 40 90 #[.slice none 0 0] (emp Tryz.prog)).map (·.1) = some (gi 0) := by kernel_rfl
theorem ca_emp (k : Nat) : (call Tryz.prog orcV 40 90 #[.slice (some ⟨0, 0, none⟩) 0 k] (emp Tryz.prog)).map (·.1) = some (gi 0) := by kernel_rfl
noncomputable def feT : List Value → Bool
  | [.func (.func f) a b] => Nat.beq f 93 && a.isEmpty && b.isEmpty
  | _ => false
def noT : List Value → Bool
  | [] => true
  | _ => false
noncomputable def smpsR : List Nat → List Value → Value := fun l _ => gi (smpsE l)
theorem feT_some {r : List Value} (h : feT r = true) : r = [flS] := by
  unfold feT at h
  split at h
  · simp only [Bool.and_eq_true, Nat.beq_eq, Array.isEmpty_iff] at h
    obtain ⟨⟨rfl, rfl⟩, rfl⟩ := h
    rfl
  · cases h
theorem noT_some {r : List Value} (h : noT r = true) : r = [] := by
  unfold noT at h
  split at h
  · rfl
  · cases h
theorem globs_pos : 0 < Tryz.prog.globals.size := of_decide_eq_true (by kernel_rfl)
noncomputable def orcWa : Orc := orElse 92 (sliceO dF 1000000 feT smpsR) orcV
set_option maxRecDepth 100000 in
theorem orcWa_ok : OrcOk Tryz.prog orcWa := by
  refine sliceO_ok dF_some (fun _ => rfl) globs_pos orcV_ok (fun _ _ _ => rfl) ?_ ?_ ?_
  · intro r h; obtain rfl := feT_some h; exact CallJ.of_call mixed orcV_ok fe_nil fun _ => rfl
  · intro r k h; obtain rfl := feT_some h; exact CallJ.of_call mixed orcV_ok (fe_emp k) fun _ => rfl
  · intro l n r el row k h0 h1 h2 _ h
    obtain rfl := feT_some h
    exact callC_ok mixed orcV_ok (noAsks_ok _) (Eq.mpr (fe_run l n el row k _) ⟨rfl, rfl, rfl, rfl, rfl, rfl, rfl, h1, h2, fun h _ => by unfold smpsR; rw [h], fun _ => rfl⟩)
noncomputable def orcW : Orc := orElse 90 (sliceO dF 1000000 noT smpsR) orcWa
set_option maxRecDepth 100000 in
theorem orcW_ok : OrcOk Tryz.prog orcW := by
  refine sliceO_ok dF_some (fun _ => rfl) globs_pos orcWa_ok (fun _ _ _ => rfl) ?_ ?_ ?_
  · intro r h; obtain rfl := noT_some h; exact CallJ.of_call mixed orcV_ok ca_nil fun _ => rfl
  · intro r k h; obtain rfl := noT_some h; exact CallJ.of_call mixed orcV_ok (ca_emp k) fun _ => rfl
  · intro l n r el row k h0 h1 h2 _ h
    obtain rfl := noT_some h
    exact callC_ok mixed orcV_ok (noAsks_ok _) (Eq.mpr (ca_run l n el row k _) ⟨rfl, rfl, rfl, rfl, rfl, h1, h2, fun h _ => by unfold smpsR; rw [h], fun _ _ => rfl⟩)
/-! What is asked of these calls. -/
noncomputable def askWa : Asks := asksO 92 gf 1000000 feT smpsR noAsks
theorem askWa_ok : AsksOk orcWa askWa := asksO_ok (d := dF) (e := gf) (fun _ => rfl) (noAsks_ok _)
noncomputable def askW : Asks := asksO 90 gf 1000000 noT smpsR askWa
theorem askW_ok : AsksOk orcW askW := asksO_ok (d := dF) (e := gf) (fun _ => rfl) askWa_ok
end Go.Proofs.YtnlkkapeldhemaaGreatDoor
