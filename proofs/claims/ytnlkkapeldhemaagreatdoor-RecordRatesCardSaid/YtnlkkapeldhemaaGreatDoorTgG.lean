/-
  OWN WORK. The extremes of samples: known for all samples, by the program and by the reference.
-/
import Derived.Test.YtnlkkapeldhemaaGreatDoorTgF
namespace Go.Proofs.YtnlkkapeldhemaaGreatDoor
open Go Go.Am

noncomputable abbrev xH2 (t : Nat) (d z : List Value) : AHeap := canonT [] (fun _ => 0) Tryz.prog.globals.size [(d, t, 0, false), (z, t, 0, false)]
noncomputable abbrev xQ : Value := .pointer (some ⟨Tryz.prog.globals.size, 0, none⟩)
theorem x4_flat (s : X4) : s.cells.all (flat 3) = true := rfl
set_option maxRecDepth 100000 in
noncomputable def exLoops (l : List Int) (n : Nat) (s : X4) : Loops Tryz.prog where
  body := fun _ => loopOf Tryz.prog 30 0
  spec := fun _ a h c => entry a 55 [(2, .pointer (some ⟨Tryz.prog.globals.size + 1, 0, none⟩)), (6, .pointer (some ⟨Tryz.prog.globals.size + 4, 0, none⟩)), (30, .slice (some ⟨Tryz.prog.globals.size + 3, 0, none⟩) n n), (31, goN n), (32, goN 0)] (h.get (Tryz.prog.globals.size + 3) = some (.cells (l.map gi) 3 2 false) ∧ h.get (Tryz.prog.globals.size + 4) = some (.cells s.cells 50 0 false) ∧ h.get (Tryz.prog.globals.size + 1) = some (.cells zero4 50 0 false) ∧ (n ≤ l.length ∧ n ≤ 65536) ∧
    ∀ g r, r = exF (l.take n) 0 s → c (.exit 0) (stOf 55 [(2, .pointer (some ⟨Tryz.prog.globals.size + 1, 0, none⟩)), (6, xQ)] g) (xH2 50 r.cells zero4))
  ok := fun i a h c q => by
    obtain ⟨h1, h2, h3, g0, g1, g2, ⟨hs1, hs2⟩, h4⟩ := entry_facts q
    refine J.of_toldR globs_pos (ex_loop l n n 3 2 false s hs1 hs2 _ _ _ ⟨rfl, rfl, rfl⟩ a h g0 g1 g2 h1 h2 ?_) ?_
    · simp only [List.map_cons, List.map_nil]
      rw [h3 (2, .pointer (some ⟨N1 + 1, 0, none⟩)) (by simp), h3 (6, .pointer (some ⟨N1 + 4, 0, none⟩)) (by simp), h3 (30, .slice (some ⟨N1 + 3, 0, none⟩) n n) (by simp), h3 (31, goN n) (by simp), h3 (32, goN 0) (by simp)]
    · rintro ex vs h' ⟨rfl, rfl, k1, k2⟩
      refine ⟨[2, 6], [xR, xP], [.pointer (some ⟨Tryz.prog.globals.size + 1, 0, none⟩), xQ], [((exF (l.take n) 0 s).cells, 50, 0, false), (zero4, 50, 0, false)], [N1 + 1, N1 + 2], by simp, rfl, by simp, by simp, ?_, by kernel_rfl, ?_, fun g => h4 g _ rfl⟩
      · intro q b' i hb hi
        match q, hb, hi with
        | 0, hb, hi => cases hb; cases hi; exact ⟨k1, x4_flat _⟩
        | 1, hb, hi => cases hb; cases hi; exact ⟨k2, rfl⟩
      · intro i hi
        simp only [List.mem_cons, List.not_mem_nil, or_false] at hi
        rcases hi with rfl | rfl
        · exact ⟨(6, xP), by simp, by simp [named]⟩
        · exact ⟨(2, xR), by simp, by simp [named]⟩
set_option maxRecDepth 100000 in
noncomputable def ExLoops (l : List Nat) (n k e row : Nat) (s : X4) : Loops Tryz.prog where
  body := fun _ => loopOf Tryz.prog 33 0
  spec := fun _ a h c => entry a 48 [(0, liP n k), (2, .pointer (some ⟨Tryz.prog.globals.size + 1, 0, none⟩)), (4, .pointer (some ⟨Tryz.prog.globals.size + 2, 0, none⟩)), (5, goN 1)] (h.get Tryz.prog.globals.size = some (.cells (l.map gf) e row true) ∧ h.get (Tryz.prog.globals.size + 2) = some (.cells s.cells 54 0 false) ∧ h.get (Tryz.prog.globals.size + 1) = some (.cells zero4 54 0 false) ∧ (n ≤ l.length ∧ n ≤ 65536 ∧ 1 ≤ n ∧ ∀ x ∈ l.take n, smpE x = 0) ∧
    ∀ g r, r = exF (((l.take n).map unitE).drop 1) 1 s → c (.exit 0) (stOf 48 [(2, .pointer (some ⟨Tryz.prog.globals.size + 1, 0, none⟩)), (4, xQ)] g) (xH2 54 r.cells zero4))
  ok := fun i a h c q => by
    obtain ⟨h1, h2, h3, g0, g1, g2, ⟨hs1, hs2, hs3, hs4⟩, h4⟩ := entry_facts q
    refine J.of_toldR globs_pos (Ex_loop l n k e row true s hs1 hs2 hs3 hs4 _ _ _ ⟨rfl, rfl, rfl⟩ a h g0 g1 g2 h1 h2 ?_) ?_
    · simp only [List.map_cons, List.map_nil]
      rw [h3 (0, liP n k) (by simp), h3 (2, .pointer (some ⟨N1 + 1, 0, none⟩)) (by simp), h3 (4, .pointer (some ⟨N1 + 2, 0, none⟩)) (by simp), h3 (5, goN 1) (by simp)]
    · rintro ex vs h' ⟨rfl, rfl, k1, k2⟩
      refine ⟨[2, 4], [xR, xP], [.pointer (some ⟨Tryz.prog.globals.size + 1, 0, none⟩), xQ], [((exF (((l.take n).map unitE).drop 1) 1 s).cells, 54, 0, false), (zero4, 54, 0, false)], [N1 + 1, N1 + 2], by simp, rfl, by simp, by simp, ?_, by kernel_rfl, ?_, fun g => h4 g _ rfl⟩
      · intro q b' i hb hi
        match q, hb, hi with
        | 0, hb, hi => cases hb; cases hi; exact ⟨k1, x4_flat _⟩
        | 1, hb, hi => cases hb; cases hi; exact ⟨k2, rfl⟩
      · intro i hi
        simp only [List.mem_cons, List.not_mem_nil, or_false] at hi
        rcases hi with rfl | rfl
        · exact ⟨(4, xP), by simp, by simp [named]⟩
        · exact ⟨(2, xR), by simp, by simp [named]⟩
noncomputable abbrev x0 (u : Int) : X4 := ⟨u, u, 0, 0⟩
theorem ex_run (l : List Nat) (n k e row : Nat) (u : Int) (K : Value → Prop) : callC Tryz.prog (exec Tryz.prog orcTc 10) (syOf [(10, 7), (18, 1), (22, 7), (24, 2), (25, 3), (27, 2), (28, 3)]) (askTc true true) (exLoops ((l.take n).map unitE) n (x0 u)) 40 30 #[liP n k] (liH (l.map gf) e row) (fun v _ => K v) = ((∃ x1 : List Nat, (List.map gf l = List.map gf x1 ∧ (0 : Nat) < n ∧ (n : Nat) ≤ List.length x1 ∧ (n : Nat) ≤ 1000000 ∧ (n : Nat) ≤ k ∧ ((!(ieq (firstS [csE (List.take n x1), whenS (ieq (Int.ofNat n) 0) 12]) 0)) = true → K (Value.tuple #[Value.agg (Array.mk (List.take 4 (List.drop 0 ([] ++ ([gi 0, gi 0, gi 0, gi 0] ++ []))))), gi (firstS [csE (List.take n x1), whenS (ieq (Int.ofNat n) 0) 12])])) ∧ ((!(ieq (firstS [csE (List.take n x1), whenS (ieq (Int.ofNat n) 0) 12]) 0)) = false → (∃ x2 : List Nat, (List.map gf l = List.map gf x2 ∧ (0 : Nat) < n ∧ (n : Nat) ≤ List.length x2 ∧ (n : Nat) ≤ 65536 ∧ validL (List.take n x2) ∧ ahasIndex 0 n = true ∧ (unitsL (List.take n x2))[0]? = Option.some (gi (intAt (unitsL (List.take n x2)) 0)) ∧ ahasIndex 0 n = true ∧ (unitsL (List.take n x2))[0]? = Option.some (gi (intAt (unitsL (List.take n x2)) 0)) ∧ (unitsL (List.take n x2))[0]? = Option.some (gi (intAt (unitsL (List.take n x2)) 0)) ∧ (unitsL (List.take n x2))[0]? = Option.some (gi (intAt (unitsL (List.take n x2)) 0)) ∧ loopOf Tryz.prog 30 0 = loopOf Tryz.prog 30 0 ∧ Value.pointer (some ⟨N1 + 1, 0, none⟩) = Value.pointer (some ⟨N1 + 1, 0, none⟩) ∧ Value.pointer (some ⟨N1 + 4, 0, none⟩) = Value.pointer (some ⟨N1 + 4, 0, none⟩) ∧ Value.slice (some ⟨N1 + 3, 0, none⟩) n n = Value.slice (some ⟨N1 + 3, 0, none⟩) n n ∧ goN n = goN n ∧ gi 0 = goN 0 ∧ ((((((liH (List.map gf l) e row).push (.cells [gi 0, gi 0, gi 0, gi 0] 50 0 false)).push (.cells [csR (List.take n x1) [], gi (whenS (ieq (Int.ofNat n) 0) 12)] 29 2 false)).push (.cells (unitsL (List.take n x2)) 3 2 false)).push (.cells [gi 0, gi 0, gi 0, gi 0] 50 0 false)).set (N1 + 4) (.cells ([] ++ ([gi (intAt (unitsL (List.take n x2)) 0), gi (intAt (unitsL (List.take n x2)) 0), gi 0, gi 0] ++ [])) 50 0 false)).get (N1 + 3) = Option.some (.cells (List.map gi (List.map unitE (List.take n l))) 3 2 false) ∧ ((((((liH (List.map gf l) e row).push (.cells [gi 0, gi 0, gi 0, gi 0] 50 0 false)).push (.cells [csR (List.take n x1) [], gi (whenS (ieq (Int.ofNat n) 0) 12)] 29 2 false)).push (.cells (unitsL (List.take n x2)) 3 2 false)).push (.cells [gi 0, gi 0, gi 0, gi 0] 50 0 false)).set (N1 + 4) (.cells ([] ++ ([gi (intAt (unitsL (List.take n x2)) 0), gi (intAt (unitsL (List.take n x2)) 0), gi 0, gi 0] ++ [])) 50 0 false)).get (N1 + 4) = Option.some (.cells (X4.cells (x0 u)) 50 0 false) ∧ ((((((liH (List.map gf l) e row).push (.cells [gi 0, gi 0, gi 0, gi 0] 50 0 false)).push (.cells [csR (List.take n x1) [], gi (whenS (ieq (Int.ofNat n) 0) 12)] 29 2 false)).push (.cells (unitsL (List.take n x2)) 3 2 false)).push (.cells [gi 0, gi 0, gi 0, gi 0] 50 0 false)).set (N1 + 4) (.cells ([] ++ ([gi (intAt (unitsL (List.take n x2)) 0), gi (intAt (unitsL (List.take n x2)) 0), gi 0, gi 0] ++ [])) 50 0 false)).get (N1 + 1) = Option.some (.cells zero4 50 0 false) ∧ ((n : Nat) ≤ List.length (List.map unitE (List.take n l)) ∧ (n : Nat) ≤ 65536) ∧ (∀ _ : Nat → Value, (∀ y4 : X4, (y4 = exF (List.take n (List.map unitE (List.take n l))) 0 (x0 u) → K (Value.tuple #[Value.agg (Array.mk (List.take 4 (List.drop 0 (splice zero4 0 (List.take 4 (List.drop 0 (X4.cells y4))))))), gi 0])))))))))) := by kernel_rfl
theorem Ex_run (l : List Nat) (n k e row : Nat) (u : Int) (K : Value → Prop) : callC Tryz.prog (exec Tryz.prog orcTc 10) (syOf [(9, 1), (12, 2), (13, 3), (14, 7), (16, 2), (17, 3), (18, 7)]) (askTc true true) (ExLoops l n k e row (x0 u)) 40 33 #[liP n k] (liH (l.map gf) e row) (fun v _ => K v) = (((ieq (Int.ofNat n) 0 = true → K (Value.tuple #[Value.agg (Array.mk (List.take 4 (List.drop 0 ([] ++ ([gi 0, gi 0, gi 0, gi 0] ++ []))))), gi 12])) ∧ (ieq (Int.ofNat n) 0 = false → (ahasIndex 0 n = true ∧ (List.map gf l)[0]? = Option.some (gf (floatAt (List.map gf l) 0)) ∧ ahasIndex 0 n = true ∧ (List.map gf l)[0]? = Option.some (gf (floatAt (List.map gf l) 0)) ∧ (List.map gf l)[0]? = Option.some (gf (floatAt (List.map gf l) 0)) ∧ (List.map gf l)[0]? = Option.some (gf (floatAt (List.map gf l) 0)) ∧ ieq (smpE (floatAt (List.map gf l) 0)) 0 = true ∧ [gi 0, gi 0, gi 0, gi 0] = [gi 0, gi 0, gi 0, gi 0] ∧ (List.map gf l)[0]? = Option.some (gf (floatAt (List.map gf l) 0)) ∧ ieq (smpE (floatAt (List.map gf l) 0)) 0 = true ∧ [gi 0, gi 0, gi 0, gi 0] = [gi 0, gi 0, gi 0, gi 0] ∧ loopOf Tryz.prog 33 0 = loopOf Tryz.prog 33 0 ∧ liP n k = liP n k ∧ Value.pointer (some ⟨N1 + 1, 0, none⟩) = Value.pointer (some ⟨N1 + 1, 0, none⟩) ∧ Value.pointer (some ⟨N1 + 2, 0, none⟩) = Value.pointer (some ⟨N1 + 2, 0, none⟩) ∧ gi 1 = goN 1 ∧ ((((liH (List.map gf l) e row).push (.cells [gi 0, gi 0, gi 0, gi 0] 54 0 false)).push (.cells [gi 0, gi 0, gi 0, gi 0] 54 0 false)).set (N1 + 2) (.cells ([] ++ ([gi (unitE (floatAt (List.map gf l) 0)), gi (unitE (floatAt (List.map gf l) 0)), gi 0, gi 0] ++ [])) 54 0 false)).get (N1) = Option.some (.cells (List.map gf l) e row true) ∧ ((((liH (List.map gf l) e row).push (.cells [gi 0, gi 0, gi 0, gi 0] 54 0 false)).push (.cells [gi 0, gi 0, gi 0, gi 0] 54 0 false)).set (N1 + 2) (.cells ([] ++ ([gi (unitE (floatAt (List.map gf l) 0)), gi (unitE (floatAt (List.map gf l) 0)), gi 0, gi 0] ++ [])) 54 0 false)).get (N1 + 2) = Option.some (.cells (X4.cells (x0 u)) 54 0 false) ∧ ((((liH (List.map gf l) e row).push (.cells [gi 0, gi 0, gi 0, gi 0] 54 0 false)).push (.cells [gi 0, gi 0, gi 0, gi 0] 54 0 false)).set (N1 + 2) (.cells ([] ++ ([gi (unitE (floatAt (List.map gf l) 0)), gi (unitE (floatAt (List.map gf l) 0)), gi 0, gi 0] ++ [])) 54 0 false)).get (N1 + 1) = Option.some (.cells zero4 54 0 false) ∧ ((n : Nat) ≤ List.length l ∧ (n : Nat) ≤ 65536 ∧ (1 : Nat) ≤ n ∧ (∀ y1 : Nat, (List.Mem y1 (List.take n l) → smpE y1 = 0))) ∧ (∀ _ : Nat → Value, (∀ y2 : X4, (y2 = exF (List.drop 1 (List.map unitE (List.take n l))) 1 (x0 u) → K (Value.tuple #[Value.agg (Array.mk (List.take 4 (List.drop 0 (splice zero4 0 (List.take 4 (List.drop 0 (X4.cells y2))))))), gi 0])))))))) := by kernel_rfl
theorem ex_nil : (call Tryz.prog orcTc 60 30 #[nilS] (emp Tryz.prog)).map (·.1) = some (.tuple #[.agg #[gi 0, gi 0, gi 0, gi 0], gi 12]) := by kernel_rfl
theorem ex_emp (k : Nat) : (call Tryz.prog orcTc 60 30 #[.slice (some ⟨0, 0, none⟩) 0 k] (emp Tryz.prog)).map (·.1) = some (.tuple #[.agg #[gi 0, gi 0, gi 0, gi 0], gi 12]) := by kernel_rfl
theorem Ex_nil : (call Tryz.prog orcTc 60 33 #[nilS] (emp Tryz.prog)).map (·.1) = some (.tuple #[.agg #[gi 0, gi 0, gi 0, gi 0], gi 12]) := by kernel_rfl
theorem Ex_emp (k : Nat) : (call Tryz.prog orcTc 60 33 #[.slice (some ⟨0, 0, none⟩) 0 k] (emp Tryz.prog)).map (·.1) = some (.tuple #[.agg #[gi 0, gi 0, gi 0, gi 0], gi 12]) := by kernel_rfl
noncomputable def exE (l : List Nat) : Int := firstS [csE l, whenS (ieq (Int.ofNat l.length) 0) 12]
noncomputable def exA (l : List Nat) : X4 := bif ieq (exE l) 0 then exF (l.map unitE) 0 (x0 (unitE (l.headD 0))) else ⟨0, 0, 0, 0⟩
noncomputable def exO (s : X4) (e : Int) : Out := .plain (.tuple #[.agg #[gi s.lo, gi s.hi, gi s.la, gi s.ha], gi e])
noncomputable def exX : List Nat → List Value → Option Out := fun l r => match r with
  | [] => some (exO (exA l) (exE l))
  | _ => none
noncomputable def exY : List Nat → List Value → (Out → Prop) → Prop := fun l r K => match r with
  | [] => ∀ s e, s = exA l → e = exE l → K (.plain (.tuple #[.agg #[gi s.lo, gi s.hi, gi s.la, gi s.ha], gi e]))
  | _ => False
noncomputable def ExX : List Nat → List Value → Option Out := fun l r => match r with
  | [] => bif ieq (csE l) 0 then some (exO (exA l) (exE l)) else none
  | _ => none
noncomputable def ExY : List Nat → List Value → (Out → Prop) → Prop := fun l r K => match r with
  | [] => ieq (csE l) 0 = true ∧ ∀ s e, s = exA l → e = exE l → K (.plain (.tuple #[.agg #[gi s.lo, gi s.hi, gi s.la, gi s.ha], gi e]))
  | _ => False
theorem exX_some {l : List Nat} {r : List Value} {o : Out} (h : exX l r = some o) : r = [] ∧ o = exO (exA l) (exE l) := by
  unfold exX at h
  split at h
  · cases h; exact ⟨rfl, rfl⟩
  · cases h
theorem ExX_some {l : List Nat} {r : List Value} {o : Out} (h : ExX l r = some o) : r = [] ∧ o = exO (exA l) (exE l) ∧ csE l = 0 := by
  unfold ExX at h
  split at h
  · cases hc : ieq (csE l) 0 with
    | false => rw [hc] at h; cases h
    | true =>
      rw [hc] at h; cases h
      rw [ieq_dec] at hc
      exact ⟨rfl, rfl, by simpa using hc⟩
  · cases h
theorem exY_ok (l : List Nat) (r : List Value) (K : Out → Prop) (h : exY l r K) : ∃ o, exX l r = some o ∧ K o := by
  unfold exY at h
  split at h
  · exact ⟨_, rfl, h _ _ rfl rfl⟩
  · exact h.elim
theorem ExY_ok (l : List Nat) (r : List Value) (K : Out → Prop) (h : ExY l r K) : ∃ o, ExX l r = some o ∧ K o := by
  unfold ExY at h
  split at h
  · refine ⟨exO (exA l) (exE l), ?_, h.2 _ _ rfl rfl⟩
    show (bif ieq (csE l) 0 then some (exO (exA l) (exE l)) else none) = _
    rw [h.1]; rfl
  · exact h.elim
theorem exS_same (u : Int) : exS 0 u (x0 u) = x0 u := by
  unfold exS
  have : ilt u u = false := by rw [ilt_dec]; exact decide_eq_false (Int.lt_irrefl _)
  rw [this]; rfl
theorem exF_head {l : List Nat} (h : 0 < l.length) : exF ((l.map unitE).drop 1) 1 (x0 (unitE (l.headD 0))) = exF (l.map unitE) 0 (x0 (unitE (l.headD 0))) := by
  cases l with
  | nil => simp at h
  | cons x l =>
    show exF (l.map unitE) 1 (x0 (unitE x)) = exF (l.map unitE) 1 (exS 0 (unitE x) (x0 (unitE x)))
    rw [exS_same]
theorem exE_zero {l : List Nat} (h0 : 0 < l.length) (hc : csE l = 0) : exE l = 0 := by
  unfold exE
  rw [hc, ieq_ne (by simp only [Int.ofNat_eq_natCast]; omega)]
  rfl
theorem exA_good {l : List Nat} (h0 : 0 < l.length) (hc : csE l = 0) : exA l = exF (l.map unitE) 0 (x0 (unitE (l.headD 0))) := by
  unfold exA
  rw [exE_zero h0 hc]; rfl
theorem exA_bad {l : List Nat} (h : exE l ≠ 0) : exA l = ⟨0, 0, 0, 0⟩ := by
  unfold exA
  rw [ieq_ne h]; rfl
theorem head_take {l : List Nat} {n : Nat} (h0 : 0 < n) : (l.take n).headD 0 = l.headD 0 := by
  cases l with
  | nil => simp
  | cons x l => cases n with
    | zero => omega
    | succ n => rfl
theorem head_at {l : List Nat} (h0 : 0 < l.length) : l[0] = l.headD 0 := by
  cases l with
  | nil => simp at h0
  | cons x l => rfl
noncomputable def orcTd : Orc := orElse 33 (genO dF 65536 false ExX) (orElse 30 (genO dF 1000000 false exX) orcTc)
end Go.Proofs.YtnlkkapeldhemaaGreatDoor
