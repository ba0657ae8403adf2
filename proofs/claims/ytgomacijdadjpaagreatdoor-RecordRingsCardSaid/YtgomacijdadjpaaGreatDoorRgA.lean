/-
  OWN WORK. Rings: whether a sample from an index on is not 0.
-/
import Derived.Test.YtgomacijdadjpaaGreatDoorSmA
import Derived.Test.YtgomacijdadjpaaGreatDoorAm14
namespace Go.Proofs.YtgomacijdadjpaaGreatDoor
open Go Go.Am

theorem within_in {x a b : Int} (h : withinS x a b = 0) : a ≤ x ∧ x ≤ b := by
  unfold withinS whenS at h
  rw [ilt_dec, ilt_dec] at h
  by_cases h1 : x < a
  · rw [decide_eq_true h1] at h; cases h
  · by_cases h2 : b < x
    · rw [decide_eq_true h2, Bool.or_true] at h; cases h
    · omega
theorem not_t {b : Bool} (h : (!b) = true) : b = false := by cases b with | true => cases h | false => rfl
theorem not_f {b : Bool} (h : (!b) = false) : b = true := by cases b with | true => rfl | false => cases h

noncomputable def neZ (x : Nat) : Bool := bne (Ieee.Format.order (FloatKind.format FloatKind.f32) x 0) (Option.some Ordering.eq)
theorem wf_body (c : List Value) (e row n k j : Nat) (fr : Int) (g : Nat → Value) (Q : Exit → List Value → AHeap → Prop) : execC Tryz.prog (exec Tryz.prog orcSs 20) (syOf [(10, 1), (12, 2), (13, 3), (16, 1), (19, 1)]) noAsks (noLoops _) 40 (loopOf Tryz.prog 55 0) (stOf 22 [(1, gi fr), (4, .bool false), (7, liP n k), (8, goN n), (9, goN j)] g) (liH c e row) (told 22 [1, 4, 7, 8, 9] Q) = (((Nat.blt j n = true → (Nat.blt j n = true ∧ c[(0 + (j * 1))]? = Option.some (gf (floatAt c (0 + (j * 1)))) ∧ ((!(ilt (Int.ofNat j) fr)) = true → ((bne (Ieee.Format.order (FloatKind.format FloatKind.f32) (floatAt c (0 + (j * 1))) 0) (Option.some Ordering.eq) = true → Q .ret [gi fr, Value.bool true, liP n k, goN n, goN j] (liH c e row)) ∧ (bne (Ieee.Format.order (FloatKind.format FloatKind.f32) (floatAt c (0 + (j * 1))) 0) (Option.some Ordering.eq) = false → Q .normal [gi fr, Value.bool false, liP n k, goN n, gi (fwrap IntKind.i64 (Int.ofNat (j + 1)))] (liH c e row)))) ∧ ((!(ilt (Int.ofNat j) fr)) = false → Q .normal [gi fr, Value.bool false, liP n k, goN n, gi (fwrap IntKind.i64 (Int.ofNat (j + 1)))] (liH c e row)))) ∧ (Nat.blt j n = false → Q (.exit 0) [gi fr, Value.bool false, liP n k, goN n, goN j] (liH c e row)))) := by kernel_rfl
noncomputable def wfR (fr : Int) : Nat → List Nat → Bool
  | _, [] => false
  | j, x :: r => (!ilt (Int.ofNat j) fr && neZ x) || wfR fr (j + 1) r
theorem wf_step {l : List Nat} {n j : Nat} (fr : Int) (hn : n ≤ l.length) (hj : j < n) : wfR fr j ((l.take n).drop j) = ((!ilt (Int.ofNat j) fr && neZ l[j]) || wfR fr (j + 1) ((l.take n).drop (j + 1))) := by
  have hlen : j < (l.take n).length := by simp; omega
  rw [List.drop_eq_getElem_cons hlen, List.getElem_take]; rfl
set_option maxRecDepth 100000 in
theorem wf_loop (l : List Nat) (n e row k : Nat) (fr : Int) (hn : n ≤ l.length) (hl : n ≤ 1000000) : ∀ a : AAct, a.n = 22 → a.marks = [] → [1, 4, 7, 8, 9].map a.tmp = [gi fr, .bool false, liP n k, goN n, goN 0] →
    J Tryz.prog (.loop (loopOf Tryz.prog 55 0)) a (liH (l.map gf) e row) (told 22 [1, 4, 7, 8, 9] fun ex vs h => h = liH (l.map gf) e row ∧ ((ex = .exit 0 ∧ wfR fr 0 (l.take n) = false) ∨ (ex = .ret ∧ ∃ j, vs = [gi fr, .bool (wfR fr 0 (l.take n)), liP n k, goN n, goN j]))) := by
  intro a ha hm hv
  refine loop_rule (fun m vs h => ∃ j, j ≤ n ∧ m = n - j ∧ vs = [gi fr, .bool false, liP n k, goN n, goN j] ∧ h = liH (l.map gf) e row ∧ wfR fr 0 (l.take n) = wfR fr j ((l.take n).drop j)) _ ?_ n _ _ a ⟨0, Nat.zero_le _, rfl, rfl, rfl, rfl⟩ ha hm hv
  rintro m vs h g ⟨j, hj, rfl, rfl, rfl, hf⟩
  refine execC_ok mixed orcSs_ok (noAsks_ok _) (noLoops _) (Eq.mpr (wf_body _ e row _ k j fr g _) ?_)
  refine ⟨fun hlt => ?_, fun hge => ?_⟩
  · have hj' := blt_true hlt
    obtain ⟨h1, h2⟩ := float_at (l := l) (j := j) (by omega)
    have hs := wf_step fr hn hj'
    rw [h2]
    have cont : (!ilt (Int.ofNat j) fr && neZ l[j]) = false → ∃ m', m' < n - j ∧ ∃ j', j' ≤ n ∧ m' = n - j' ∧ [gi fr, Value.bool false, liP n k, goN n, gi (fwrap IntKind.i64 (Int.ofNat (j + 1)))] = [gi fr, .bool false, liP n k, goN n, goN j'] ∧ liH (l.map gf) e row = liH (l.map gf) e row ∧ wfR fr 0 (l.take n) = wfR fr j' ((l.take n).drop j') := fun hz =>
      ⟨n - (j + 1), by omega, j + 1, hj', rfl, by rw [fwrap_nat (by omega)], rfl, by rw [hf, hs, hz]; rfl⟩
    refine ⟨hlt, h2 ▸ h1, fun h3 => ⟨fun h4 => ⟨rfl, .inr ⟨rfl, j, ?_⟩⟩, fun h4 => ?_⟩, fun h3 => ?_⟩
    · have h4 : neZ l[j] = true := h4
      rw [hf, hs, h3, h4]; rfl
    · have h4 : neZ l[j] = false := h4
      exact cont (by rw [h4, Bool.and_false])
    · exact cont (by rw [h3]; rfl)
  · have := blt_false hge
    refine ⟨rfl, .inl ⟨rfl, ?_⟩⟩
    rw [hf, List.drop_of_length_le (by rw [List.length_take]; omega)]; rfl
noncomputable def wfLoops (l : List Nat) (n e row k : Nat) (fr : Int) : Loops Tryz.prog where
  body := fun _ => loopOf Tryz.prog 55 0
  spec := fun _ a h c => entry a 22 [(1, gi fr), (4, .bool false), (7, liP n k), (8, goN n), (9, goN 0)] (h = liH (l.map gf) e row ∧ n ≤ l.length ∧ n ≤ 1000000 ∧ (wfR fr 0 (l.take n) = false → ∀ g, c (.exit 0) (stOf 22 [] g) (liH (l.map gf) e row)) ∧ ∀ g, c .ret (stOf 22 [(4, .bool (wfR fr 0 (l.take n)))] g) (liH (l.map gf) e row))
  ok := fun i a h c q => by
    obtain ⟨h1, h2, h3, rfl, hs, hs2, h4, h5⟩ := entry_facts q
    refine J.of_told (wf_loop l n e row k fr hs hs2 a h1 h2 ?_) ?_
    · simp only [List.map_cons, List.map_nil]
      rw [h3 (1, gi fr) (by simp), h3 (4, .bool false) (by simp), h3 (7, liP n k) (by simp), h3 (8, goN n) (by simp), h3 (9, goN 0) (by simp)]
    · rintro ex vs h' g ⟨rfl, ⟨rfl, ha⟩ | ⟨rfl, j, rfl⟩⟩
      · exact h4 ha (ov ([1, 4, 7, 8, 9].zip vs) g)
      · exact h5 (ov [(1, gi fr), (7, liP n k), (8, goN n), (9, goN j)] g)
theorem wf_run (l : List Nat) (n e row k : Nat) (fr : Int) (K : Value → AHeap → Prop) : callC Tryz.prog (exec Tryz.prog orcSs 10) (syOf []) noAsks (wfLoops l n e row k fr) 40 55 #[liP n k, gi fr] (liH (l.map gf) e row) K = ((loopOf Tryz.prog 55 0 = loopOf Tryz.prog 55 0 ∧ gi fr = gi fr ∧ Value.bool false = Value.bool false ∧ liP n k = liP n k ∧ goN n = goN n ∧ gi 0 = goN 0 ∧ liH (List.map gf l) e row = liH (List.map gf l) e row ∧ (n : Nat) ≤ List.length l ∧ (n : Nat) ≤ 1000000 ∧ (wfR fr 0 (List.take n l) = false → (∀ _ : Nat → Value, K (Value.bool false) (liH (List.map gf l) e row))) ∧ (∀ _ : Nat → Value, K (Value.bool (wfR fr 0 (List.take n l))) (liH (List.map gf l) e row)))) := by kernel_rfl
theorem wf_nil (fr : Int) : (call Tryz.prog orcSs 40 55 #[.slice none 0 0, gi fr] (emp Tryz.prog)).map (·.1) = some (.bool false) := by kernel_rfl
theorem wf_emp (k : Nat) (fr : Int) : (call Tryz.prog orcSs 40 55 #[.slice (some ⟨0, 0, none⟩) 0 k, gi fr] (emp Tryz.prog)).map (·.1) = some (.bool false) := by kernel_rfl
noncomputable def wfX : List Nat → List Value → Option Out := fun l r => match r with
  | [.int .i64 fr] => some (.plain (.bool (wfR fr 0 l)))
  | _ => none
theorem wfX_some {l : List Nat} {r : List Value} {o : Out} (h : wfX l r = some o) : ∃ fr, r = [gi fr] ∧ o = .plain (.bool (wfR fr 0 l)) := by
  unfold wfX at h
  split at h
  · rename_i fr; cases h; exact ⟨fr, rfl, rfl⟩
  · cases h
noncomputable def wfY : List Nat → List Value → (Out → Prop) → Prop := fun l r K => match r with
  | [.int .i64 fr] => K (.plain (.bool (wfR fr 0 l)))
  | _ => False
theorem wfY_ok (l : List Nat) (r : List Value) (K : Out → Prop) (h : wfY l r K) : ∃ o, wfX l r = some o ∧ K o := by
  unfold wfY at h
  split at h
  · exact ⟨_, rfl, h⟩
  · exact h.elim
noncomputable def orcRgA : Orc := orElse 55 (genO dF 1000000 false wfX) orcSs
set_option maxRecDepth 100000 in
theorem orcRgA_ok : OrcOk Tryz.prog orcRgA := by
  refine genO_ok dF_some (fun _ => rfl) globs_pos orcSs_ok ?_ ?_ ?_ ?_
  · intro l r o h
    obtain ⟨fr, rfl, rfl⟩ := wfX_some h
    rfl
  · intro r o h
    obtain ⟨fr, rfl, rfl⟩ := wfX_some h
    exact CallJ.of_call mixed orcSs_ok (wf_nil fr) fun _ => rfl
  · intro r k o h
    obtain ⟨fr, rfl, rfl⟩ := wfX_some h
    exact CallJ.of_call mixed orcSs_ok (wf_emp k fr) fun _ => rfl
  · intro l off n r el row k o ho hw h0 h1 h2 h3 h
    obtain rfl := ho rfl
    rw [List.drop_zero] at h
    obtain ⟨fr, rfl, rfl⟩ := wfX_some h
    exact callC_ok mixed orcSs_ok (noAsks_ok _) (Eq.mpr (wf_run l n el row k fr _) ⟨rfl, rfl, rfl, rfl, rfl, rfl, rfl, by omega, h2, fun hz _ => by rw [← hz]; rfl, fun _ => rfl⟩)
end Go.Proofs.YtgomacijdadjpaaGreatDoor
