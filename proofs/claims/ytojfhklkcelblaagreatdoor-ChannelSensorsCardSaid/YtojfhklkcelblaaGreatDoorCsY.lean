/-
  OWN WORK. Lists of values: told again, and compared.
-/
import Derived.Test.YtojfhklkcelblaaGreatDoorCsV
/-! Lists of values: told again, and compared. -/
namespace Go.Proofs.YtojfhklkcelblaaGreatDoor
open Go Go.Am

abbrev Q4 := Int × Int × Bool × Bool
noncomputable def q4 (q : Q4) : List Value := [gi q.1, gi q.2.1, .bool q.2.2.1, .bool q.2.2.2]
noncomputable def cellsQ : List Q4 → List Value
  | [] => []
  | q :: l => q4 q ++ cellsQ l
noncomputable def decQ : List Value → Option (List Q4)
  | [] => some []
  | .int .i64 a :: .int .i64 b :: .bool c :: .bool d :: r => (decQ r).map ((a, b, c, d) :: ·)
  | _ => none
theorem decQ_cells : ∀ l : List Q4, decQ (cellsQ l) = some l
  | [] => rfl
  | q :: l => by
    show (decQ (cellsQ l)).map ((q.1, q.2.1, q.2.2.1, q.2.2.2) :: ·) = _
    rw [decQ_cells l]; rfl
theorem decQ_some {c : List Value} {l : List Q4} (h : decQ c = some l) : c = cellsQ l := by
  induction c using decQ.induct generalizing l with
  | case1 => cases h; rfl
  | case2 a b c d r ih =>
    unfold decQ at h
    obtain ⟨l', hl, rfl⟩ := Option.map_eq_some_iff.1 h
    rw [ih hl]; rfl
  | case3 c h1 h2 =>
    unfold decQ at h
    split at h
    · exact absurd rfl h1
    · exact absurd rfl (h2 _ _ _ _ _)
    · cases h
theorem cellsQ_len : ∀ l : List Q4, (cellsQ l).length = l.length * 4
  | [] => rfl
  | q :: l => by
    show (q4 q ++ cellsQ l).length = _
    rw [List.length_append, cellsQ_len l, List.length_cons, show (q4 q).length = 4 from rfl]
    omega
theorem cellsQ_app : ∀ l m : List Q4, cellsQ (l ++ m) = cellsQ l ++ cellsQ m
  | [], m => rfl
  | q :: l, m => by
    show q4 q ++ cellsQ (l ++ m) = (q4 q ++ cellsQ l) ++ _
    rw [cellsQ_app l m, List.append_assoc]
theorem cellsQ_flat : ∀ l : List Q4, (cellsQ l).all (flat 3) = true
  | [] => rfl
  | q :: l => by
    show (q4 q ++ cellsQ l).all (flat 3) = true
    rw [List.all_append, cellsQ_flat l]
    rfl
noncomputable def valQ (sc x y lo hi u : Int) : Q4 := (floorE (mnV x y lo hi u) 1000, ceilE (mxV x y lo hi u) 1000, !(ilt (0 - sc) u), !(ilt u sc))
theorem valsL_cells (sc x y lo hi : Int) : ∀ l : List Nat, valsL sc x y lo hi l = cellsQ (l.map fun f => valQ sc x y lo hi (unitE f))
  | [] => rfl
  | f :: l => by
    show valC sc x y lo hi (unitE f) ++ valsL sc x y lo hi l = q4 (valQ sc x y lo hi (unitE f)) ++ cellsQ (l.map _)
    rw [valsL_cells sc x y lo hi l]; rfl
theorem cellsQ_get {l : List Q4} {j i : Nat} (hj : j < l.length) (hi : i < 4) : (cellsQ l)[j * 4 + i]? = (q4 l[j])[i]? := by
  have h1 : cellsQ l = cellsQ (l.take j) ++ (q4 l[j] ++ cellsQ (l.drop (j + 1))) := by
    rw [show q4 l[j] ++ cellsQ (l.drop (j + 1)) = cellsQ (l.drop j) by rw [List.drop_eq_getElem_cons hj]; rfl, ← cellsQ_app, List.take_append_drop]
  have h2 : (cellsQ (l.take j)).length = j * 4 := by rw [cellsQ_len, List.length_take, Nat.min_eq_left (by omega)]
  rw [h1, List.getElem?_append_right (by omega), h2, Nat.add_sub_cancel_left, List.getElem?_append_left (by show i < 4; exact hi)]
theorem cellsQ_at {l : List Q4} {j : Nat} (hj : j < l.length) : ((cellsQ l)[0 + j * 4]? = some (gi (intAt (cellsQ l) (0 + j * 4))) ∧ (cellsQ l)[0 + j * 4 + 1]? = some (gi (intAt (cellsQ l) (0 + j * 4 + 1))) ∧ (cellsQ l)[0 + j * 4 + 1 + 1]? = some (.bool (boolAt (cellsQ l) (0 + j * 4 + 1 + 1))) ∧ (cellsQ l)[0 + j * 4 + 1 + 1 + 1]? = some (.bool (boolAt (cellsQ l) (0 + j * 4 + 1 + 1 + 1)))) ∧
    intAt (cellsQ l) (0 + j * 4) = l[j].1 ∧ intAt (cellsQ l) (0 + j * 4 + 1) = l[j].2.1 ∧ boolAt (cellsQ l) (0 + j * 4 + 1 + 1) = l[j].2.2.1 ∧ boolAt (cellsQ l) (0 + j * 4 + 1 + 1 + 1) = l[j].2.2.2 := by
  have e0 : (cellsQ l)[0 + j * 4]? = some (gi l[j].1) := by rw [Nat.zero_add]; exact cellsQ_get (i := 0) hj (by omega)
  have e1 : (cellsQ l)[0 + j * 4 + 1]? = some (gi l[j].2.1) := by rw [Nat.zero_add]; exact cellsQ_get (i := 1) hj (by omega)
  have e2 : (cellsQ l)[0 + j * 4 + 1 + 1]? = some (.bool l[j].2.2.1) := by rw [Nat.zero_add]; exact cellsQ_get (i := 2) hj (by omega)
  have e3 : (cellsQ l)[0 + j * 4 + 1 + 1 + 1]? = some (.bool l[j].2.2.2) := by rw [Nat.zero_add]; exact cellsQ_get (i := 3) hj (by omega)
  have i0 : intAt (cellsQ l) (0 + j * 4) = l[j].1 := by unfold intAt; rw [e0]
  have i1 : intAt (cellsQ l) (0 + j * 4 + 1) = l[j].2.1 := by unfold intAt; rw [e1]
  have i2 : boolAt (cellsQ l) (0 + j * 4 + 1 + 1) = l[j].2.2.1 := by unfold boolAt; rw [e2]
  have i3 : boolAt (cellsQ l) (0 + j * 4 + 1 + 1 + 1) = l[j].2.2.2 := by unfold boolAt; rw [e3]
  rw [i0, i1, i2, i3]
  exact ⟨⟨e0, e1, e2, e3⟩, rfl, rfl, rfl, rfl⟩
/-! told -/
noncomputable abbrev tdC (c : List Value) (e row : Nat) : List Blk := [(c, e, row, true)]
noncomputable abbrev TA (c : List Value) (e row : Nat) : AHeap := canonT [] (fun _ => 0) Tryz.prog.globals.size (tdC c e row)
noncomputable abbrev TD (c : List Value) (e row : Nat) (d : List Value) : AHeap := canonT [] (fun _ => 0) Tryz.prog.globals.size (tdC c e row ++ [(d, 78, 5, false)])
noncomputable abbrev slB (n k : Nat) : Value := .slice (some ⟨Tryz.prog.globals.size + 1, 0, none⟩) n k
theorem td_bodyA (c : List Value) (n k e row j : Nat) (g : Nat → Value) (Q : Exit → List Value → AHeap → Prop) : execC Tryz.prog (exec Tryz.prog orcRm 10) (syOf [(9, 1), (10, 2), (11, 46)]) askRm (noLoops _) 40 (loopOf Tryz.prog 26 0) (stOf 18 [(3, .slice none 0 0), (6, liP n k), (7, goN n), (8, goN j)] g) (TA c e row) (told 18 [3, 6, 7, 8] Q) = (((Nat.blt j n = true → (Nat.blt j n = true ∧ c[(0 + (j * 4))]? = Option.some (gi (intAt c (0 + (j * 4)))) ∧ c[((0 + (j * 4)) + 1)]? = Option.some (gi (intAt c ((0 + (j * 4)) + 1))) ∧ c[(((0 + (j * 4)) + 1) + 1)]? = Option.some (Value.bool (boolAt c (((0 + (j * 4)) + 1) + 1))) ∧ c[((((0 + (j * 4)) + 1) + 1) + 1)]? = Option.some (Value.bool (boolAt c ((((0 + (j * 4)) + 1) + 1) + 1))) ∧ Q .normal [Value.slice (some ⟨nG1 + 3, 0, none⟩) 1 1, liP n k, goN n, gi (fwrap IntKind.i64 (Int.ofNat (j + 1)))] (((((TA c e row).push (.cells [gi 0, gi 0, Value.bool false, Value.bool false] 82 0 false)).set (nG1 + 1) (.cells ([] ++ ([gi (intAt c (0 + (j * 4))), gi (intAt c ((0 + (j * 4)) + 1)), Value.bool (boolAt c (((0 + (j * 4)) + 1) + 1)), Value.bool (boolAt c ((((0 + (j * 4)) + 1) + 1) + 1))] ++ [])) 82 0 false)).push (.cells [gi (intAt c (0 + (j * 4))), gi (intAt c ((0 + (j * 4)) + 1)), Value.bool (boolAt c (((0 + (j * 4)) + 1) + 1)), Value.bool (boolAt c ((((0 + (j * 4)) + 1) + 1) + 1))] 78 5 false)).push (.cells ([] ++ [gi (intAt c (0 + (j * 4))), gi (intAt c ((0 + (j * 4)) + 1)), Value.bool (boolAt c (((0 + (j * 4)) + 1) + 1)), Value.bool (boolAt c ((((0 + (j * 4)) + 1) + 1) + 1))]) 78 5 false)))) ∧ (Nat.blt j n = false → Q (.exit 0) [nilS, liP n k, goN n, goN j] (TA c e row)))) := by kernel_rfl
theorem td_bodyD (c d : List Value) (n k e row j q : Nat) (g : Nat → Value) (Q : Exit → List Value → AHeap → Prop) : execC Tryz.prog (exec Tryz.prog orcRm 10) (syOf [(9, 1), (10, 2), (11, 46), (15, 10)]) askRm (noLoops _) 40 (loopOf Tryz.prog 26 0) (stOf 18 [(3, slB q q), (6, liP n k), (7, goN n), (8, goN j)] g) (TD c e row d) (told 18 [3, 6, 7, 8] Q) = (((Nat.blt j n = true → (Nat.blt j n = true ∧ c[(0 + (j * 4))]? = Option.some (gi (intAt c (0 + (j * 4)))) ∧ c[((0 + (j * 4)) + 1)]? = Option.some (gi (intAt c ((0 + (j * 4)) + 1))) ∧ c[(((0 + (j * 4)) + 1) + 1)]? = Option.some (Value.bool (boolAt c (((0 + (j * 4)) + 1) + 1))) ∧ c[((((0 + (j * 4)) + 1) + 1) + 1)]? = Option.some (Value.bool (boolAt c ((((0 + (j * 4)) + 1) + 1) + 1))) ∧ Nat.ble (q + 1) q = false ∧ Nat.ble (((2 * (q + 1)) + 256) * 24) 281474976710656 = true ∧ (q * 4) = List.length d ∧ Q .normal [Value.slice (some ⟨nG1 + 4, 0, none⟩) (q + 1) (q + 1), liP n k, goN n, gi (fwrap IntKind.i64 (Int.ofNat (j + 1)))] ((((((TD c e row d).push (.cells [gi 0, gi 0, Value.bool false, Value.bool false] 82 0 false)).set (nG1 + 2) (.cells ([] ++ ([gi (intAt c (0 + (j * 4))), gi (intAt c ((0 + (j * 4)) + 1)), Value.bool (boolAt c (((0 + (j * 4)) + 1) + 1)), Value.bool (boolAt c ((((0 + (j * 4)) + 1) + 1) + 1))] ++ [])) 82 0 false)).push (.cells [gi (intAt c (0 + (j * 4))), gi (intAt c ((0 + (j * 4)) + 1)), Value.bool (boolAt c (((0 + (j * 4)) + 1) + 1)), Value.bool (boolAt c ((((0 + (j * 4)) + 1) + 1) + 1))] 78 5 false)).set (nG1 + 1) (.dead)).push (.cells (d ++ [gi (intAt c (0 + (j * 4))), gi (intAt c ((0 + (j * 4)) + 1)), Value.bool (boolAt c (((0 + (j * 4)) + 1) + 1)), Value.bool (boolAt c ((((0 + (j * 4)) + 1) + 1) + 1))]) 78 5 false)))) ∧ (Nat.blt j n = false → Q (.exit 0) [slB q q, liP n k, goN n, goN j] (TD c e row d)))) := by kernel_rfl
theorem sv_body (c d : List Value) (n k e row n' k' e' row' j : Nat) (g : Nat → Value) (Q : Exit → List Value → AHeap → Prop) : execC Tryz.prog (exec Tryz.prog orcRm 10) (syOf [(14, 1), (19, 2), (20, 46), (23, 2), (24, 46), (25, 47)]) askRm (noLoops _) 40 (loopOf Tryz.prog 25 0) (stOf 26 [(0, liP n k), (1, slB n' k'), (4, .bool false), (5, goN j)] g) (canon Tryz.prog [(c, e, row), (d, e', row')]) (told 26 [0, 1, 4, 5] Q) = (((Nat.blt j n = true → (Nat.blt j n = true ∧ c[(0 + (j * 4))]? = Option.some (gi (intAt c (0 + (j * 4)))) ∧ c[((0 + (j * 4)) + 1)]? = Option.some (gi (intAt c ((0 + (j * 4)) + 1))) ∧ c[(((0 + (j * 4)) + 1) + 1)]? = Option.some (Value.bool (boolAt c (((0 + (j * 4)) + 1) + 1))) ∧ c[((((0 + (j * 4)) + 1) + 1) + 1)]? = Option.some (Value.bool (boolAt c ((((0 + (j * 4)) + 1) + 1) + 1))) ∧ Nat.blt j n' = true ∧ d[(0 + (j * 4))]? = Option.some (gi (intAt d (0 + (j * 4)))) ∧ d[((0 + (j * 4)) + 1)]? = Option.some (gi (intAt d ((0 + (j * 4)) + 1))) ∧ d[(((0 + (j * 4)) + 1) + 1)]? = Option.some (Value.bool (boolAt d (((0 + (j * 4)) + 1) + 1))) ∧ d[((((0 + (j * 4)) + 1) + 1) + 1)]? = Option.some (Value.bool (boolAt d ((((0 + (j * 4)) + 1) + 1) + 1))) ∧ Value.bool (!(ieq (intAt c (0 + (j * 4))) (intAt d (0 + (j * 4))) && (ieq (intAt c ((0 + (j * 4)) + 1)) (intAt d ((0 + (j * 4)) + 1)) && (BEq.beq (boolAt c (((0 + (j * 4)) + 1) + 1)) (boolAt d (((0 + (j * 4)) + 1) + 1)) && (BEq.beq (boolAt c ((((0 + (j * 4)) + 1) + 1) + 1)) (boolAt d ((((0 + (j * 4)) + 1) + 1) + 1)) && true))))) = Value.bool false ∧ Q .normal [liP n k, slB n' k', Value.bool false, gi (fwrap IntKind.i64 (Int.ofNat (j + 1)))] (canon Tryz.prog [Prod.mk c (Prod.mk e row), Prod.mk d (Prod.mk e' row')]))) ∧ (Nat.blt j n = false → Q (.exit 0) [liP n k, slB n' k', Value.bool false, goN j] (canon Tryz.prog [Prod.mk c (Prod.mk e row), Prod.mk d (Prod.mk e' row')])))) := by kernel_rfl
end Go.Proofs.YtojfhklkcelblaaGreatDoor
/-! Lists of values: told again, and compared, known for all lists. -/
namespace Go.Proofs.YtojfhklkcelblaaGreatDoor
open Go Go.Am

noncomputable def tdV (n k : Nat) : Nat → Value → List Value := fun j w => [w, liP n k, goN n, goN j]
theorem cellsQ_take {l : List Q4} {j : Nat} (hj : j < l.length) : cellsQ (l.take (j + 1)) = cellsQ (l.take j) ++ q4 l[j] := by
  rw [List.take_add_one, List.getElem?_eq_getElem hj, cellsQ_app]
  show _ ++ (q4 l[j] ++ []) = _
  rw [List.append_nil]
theorem cellsQ_nil {l : List Q4} {j : Nat} (hj : j ≤ l.length) (h : cellsQ (l.take j) = []) : j = 0 := by
  have := congrArg List.length h
  rw [cellsQ_len, List.length_take, Nat.min_eq_left hj] at this
  simp at this
  omega
set_option maxRecDepth 100000 in
theorem td_loop (l : List Q4) (n e row k : Nat) (h0 : 0 < n) (hn : l.length = n) (hle : n ≤ 65536) : ∀ (a : AAct) (h : AHeap), GrownW Tryz.prog (tdC (cellsQ l) e row) 78 5 (tdV n k) (fun j => j) (fun j => cellsQ (l.take j)) 0 ([3, 6, 7, 8].map a.tmp) h → a.n = 18 → a.marks = [] →
    J Tryz.prog (.loop (loopOf Tryz.prog 26 0)) a h (told 18 [3, 6, 7, 8] fun ex vs h' => ex = .exit 0 ∧ vs = [slB n n, liP n k, goN n, goN n] ∧ h'.get (Tryz.prog.globals.size + 1) = some (.cells (cellsQ l) 78 5 false)) := by
  intro a h hG ha hk
  refine growW_rule (C := tdC (cellsQ l) e row) (el := 78) (rw := 5) globs_pos (by decide) (by decide) (fun b hb => by
      simp only [List.mem_cons, List.not_mem_nil, or_false] at hb
      subst hb
      exact cellsQ_flat l) (tdV n k) (fun j => j) (fun j => cellsQ (l.take j)) n _ (fun j => cellsQ_flat _) (fun j => by kernel_rfl) (fun j q d hd => by
      obtain rfl | rfl | rfl | rfl : d = 0 ∨ d = 1 ∨ d = 2 ∨ d = 3 := by omega
      all_goals kernel_rfl)
    (fun j v q hq => by match q, hq with | 0, _ => exact ⟨(6, liP n k), by simp [tdV], by simp [named]⟩) (fun j b q => ⟨(3, .slice (some ⟨b, 0, none⟩) q q), by simp [tdV], by simp [named]⟩) ?_ ?_ ?_ ?_ a h hG ha hk
  · intro j hj hx g
    have hjl : j < l.length := by omega
    obtain ⟨⟨f0, f1, f2, f3⟩, i0, i1, i2, i3⟩ := cellsQ_at hjl
    refine execC_ok mixed orcRm_ok askRm_ok (noLoops _) (Eq.mpr (td_bodyA _ n k e row j g _) ⟨fun hlt => ?_, fun hge => ?_⟩)
    · refine ⟨hlt, f0, f1, f2, f3, ?_⟩
      rw [i0, i1, i2, i3]
      have j0 := cellsQ_nil (by omega) hx
      refine ⟨fun p b hb => ?_, .inr ⟨nG1 + 3, 2, rfl, by omega, ?_, ?_, ?_⟩⟩
      · match p, hb with
        | 0, hb => cases hb; rw [AHeap.get_push_ne (by kernel_rfl), AHeap.get_push_ne (by kernel_rfl), AHeap.get_set_neB (by kernel_rfl), AHeap.get_push_ne (by kernel_rfl)]; exact gC_get (q := 0) rfl
      · intro hh
        have := cellsQ_nil (by omega) hh
        omega
      · rw [fwrap_nat (by omega), j0]; rfl
      · rw [AHeap.get_push_eq (by kernel_rfl)]
        show _ = some (AObj.cells (cellsQ (l.take (j + 1))) _ _ _)
        rw [cellsQ_take hjl]
        have hx : cellsQ (l.take j) = [] := hx
        rw [hx]; rfl
    · have := blt_false hge; omega
  · intro j hj hx g
    have hjl : j < l.length := by omega
    obtain ⟨⟨f0, f1, f2, f3⟩, i0, i1, i2, i3⟩ := cellsQ_at hjl
    refine execC_ok mixed orcRm_ok askRm_ok (noLoops _) (Eq.mpr (td_bodyD _ (cellsQ (l.take j)) n k e row j j g _) ⟨fun hlt => ?_, fun hge => ?_⟩)
    · refine ⟨hlt, f0, f1, f2, f3, ble_no (by omega), by rw [Nat.ble_eq]; omega, by rw [cellsQ_len, List.length_take, Nat.min_eq_left (by omega)], ?_⟩
      rw [i0, i1, i2, i3]
      refine ⟨fun p b hb => ?_, .inr ⟨nG1 + 4, 3, rfl, by omega, ?_, ?_, ?_⟩⟩
      · match p, hb with
        | 0, hb => cases hb; rw [AHeap.get_push_ne (by kernel_rfl), AHeap.get_set_neB (by kernel_rfl), AHeap.get_push_ne (by kernel_rfl), AHeap.get_set_neB (by kernel_rfl), AHeap.get_push_ne (by kernel_rfl)]; exact gW_get (q := 0) rfl
      · intro hh
        have := cellsQ_nil (by omega) hh
        omega
      · rw [fwrap_nat (by omega)]; rfl
      · rw [AHeap.get_push_eq (by kernel_rfl)]
        show _ = some (AObj.cells (cellsQ (l.take (j + 1))) _ _ _)
        rw [cellsQ_take hjl]
        rfl
    · have := blt_false hge; omega
  · intro hx g
    have := cellsQ_nil (by omega) hx
    omega
  · intro hx g
    refine execC_ok mixed orcRm_ok askRm_ok (noLoops _) (Eq.mpr (td_bodyD _ (cellsQ (l.take n)) n k e row n n g _) ⟨fun hlt => ?_, fun _ => ⟨rfl, rfl, ?_⟩⟩)
    · have := blt_true hlt
      omega
    · rw [show cellsQ l = cellsQ (l.take n) by rw [List.take_of_length_le (by omega)]]
      exact gW_dst (C := tdC (cellsQ (l.take n)) e row)
noncomputable def tdL (l : List Q4) (n e row k : Nat) : Loops Tryz.prog where
  body := fun _ => loopOf Tryz.prog 26 0
  spec := fun _ a h c => entry a 18 [(3, .slice none 0 0), (6, liP n k), (7, goN n), (8, goN 0)] (h.get Tryz.prog.globals.size = some (.cells (cellsQ l) e row true) ∧ (0 < n ∧ l.length = n ∧ n ≤ 65536) ∧
    ∀ g h', h'.get (Tryz.prog.globals.size + 1) = some (.cells (cellsQ l) 78 5 false) → c (.exit 0) (stOf 18 [(3, slB n n)] g) h')
  ok := fun i a h c q => by
    obtain ⟨h1, h2, h3, g0, ⟨hs1, hs2, hs3⟩, h4⟩ := entry_facts q
    refine J.of_told (td_loop l n e row k hs1 hs2 hs3 a h ?_ h1 h2) ?_
    · refine ⟨fun p b hb => ?_, .inl ⟨rfl, ?_⟩⟩
      · match p, hb with
        | 0, hb => cases hb; exact g0
      · simp only [List.map_cons, List.map_nil]
        rw [h3 (3, .slice none 0 0) (by simp), h3 (6, liP n k) (by simp), h3 (7, goN n) (by simp), h3 (8, goN 0) (by simp)]
        rfl
    · rintro ex vs h' g ⟨rfl, rfl, hg⟩
      exact h4 (ov [(6, liP n k), (7, goN n), (8, goN n)] g) h' hg
theorem td_run (l : List Q4) (n e row k : Nat) (K : Value → AHeap → Prop) : callC Tryz.prog (exec Tryz.prog orcRm 10) (syOf []) askRm (tdL l n e row k) 20 26 #[liP n k] (canon Tryz.prog [(cellsQ l, e, row)]) K = ((loopOf Tryz.prog 26 0 = loopOf Tryz.prog 26 0 ∧ nilS = nilS ∧ liP n k = liP n k ∧ goN n = goN n ∧ gi 0 = goN 0 ∧ (canon Tryz.prog [Prod.mk (cellsQ l) (Prod.mk e row)]).get (nG1) = Option.some (.cells (cellsQ l) e row true) ∧ ((0 : Nat) < n ∧ List.length l = n ∧ (n : Nat) ≤ 65536) ∧ (∀ _ : Nat → Value, (∀ y2 : AHeap, (y2.get (nG1 + 1) = Option.some (.cells (cellsQ l) 78 5 false) → K (slB n n) y2))))) := by kernel_rfl
theorem td_nil : (call Tryz.prog orcRm 40 26 #[nilS] (emp Tryz.prog)).map (·.1) = some nilS := by kernel_rfl
theorem sv_nil : (call Tryz.prog orcRm 40 25 #[nilS, nilS] (emp Tryz.prog)).map (·.1) = some (.bool true) := by kernel_rfl
set_option maxRecDepth 100000 in
theorem sv_loop (l : List Q4) (n e row k e' row' k' : Nat) (hn : l.length = n) (hle : n ≤ 65536) : ∀ (a : AAct), a.n = 26 → a.marks = [] → [0, 1, 4, 5].map a.tmp = [liP n k, slB n k', .bool false, goN 0] →
    J Tryz.prog (.loop (loopOf Tryz.prog 25 0)) a (canon Tryz.prog [(cellsQ l, e, row), (cellsQ l, e', row')]) (told 26 [0, 1, 4, 5] fun ex _ h' => ex = .exit 0 ∧ h' = canon Tryz.prog [(cellsQ l, e, row), (cellsQ l, e', row')]) := by
  intro a ha hm hv
  refine loop_rule (fun m vs h => ∃ j, j ≤ n ∧ m = n - j ∧ vs = [liP n k, slB n k', .bool false, goN j] ∧ h = canon Tryz.prog [(cellsQ l, e, row), (cellsQ l, e', row')]) _ ?_ n _ _ a ⟨0, Nat.zero_le _, rfl, rfl, rfl⟩ ha hm hv
  rintro m vs h g ⟨j, hj, rfl, rfl, rfl⟩
  refine execC_ok mixed orcRm_ok askRm_ok (noLoops _) (Eq.mpr (sv_body (cellsQ l) (cellsQ l) n k e row n k' e' row' j g _) ⟨fun hlt => ?_, fun hge => ?_⟩)
  · have hj' := blt_true hlt
    obtain ⟨⟨f0, f1, f2, f3⟩, -⟩ := cellsQ_at (l := l) (j := j) (by omega)
    refine ⟨hlt, f0, f1, f2, f3, hlt, f0, f1, f2, f3, ?_, n - (j + 1), by omega, j + 1, hj', rfl, by rw [fwrap_nat (by omega)], rfl⟩
    rw [ieq_self, ieq_self, beq_self_eq_true, beq_self_eq_true]
    rfl
  · exact ⟨rfl, rfl⟩
noncomputable def svLo (l : List Q4) (n e row k e' row' k' : Nat) : Loops Tryz.prog where
  body := fun _ => loopOf Tryz.prog 25 0
  spec := fun _ a h c => entry a 26 [(0, liP n k), (1, slB n k'), (4, .bool false), (5, goN 0)] (h = canon Tryz.prog [(cellsQ l, e, row), (cellsQ l, e', row')] ∧ (l.length = n ∧ n ≤ 65536) ∧ ∀ g, c (.exit 0) (stOf 26 [] g) (canon Tryz.prog [(cellsQ l, e, row), (cellsQ l, e', row')]))
  ok := fun i a h c q => by
    obtain ⟨h1, h2, h3, rfl, ⟨hs1, hs2⟩, h4⟩ := entry_facts q
    refine J.of_told (sv_loop l n e row k e' row' k' hs1 hs2 a h1 h2 ?_) ?_
    · simp only [List.map_cons, List.map_nil]
      rw [h3 (0, liP n k) (by simp), h3 (1, slB n k') (by simp), h3 (4, .bool false) (by simp), h3 (5, goN 0) (by simp)]
    · rintro ex vs h' g ⟨rfl, rfl⟩
      exact h4 (ov ([0, 1, 4, 5].zip vs) g)
theorem sv_run (l : List Q4) (n e row k e' row' k' : Nat) (K : Value → Prop) : callC Tryz.prog (exec Tryz.prog orcRm 10) (syOf [(10, 32)]) askRm (svLo l n e row k e' row' k') 20 25 #[liP n k, slB n k'] (canon Tryz.prog [(cellsQ l, e, row), (cellsQ l, e', row')]) (fun v _ => K v) = (((!(ieq (Int.ofNat n) (Int.ofNat n))) = false ∧ loopOf Tryz.prog 25 0 = loopOf Tryz.prog 25 0 ∧ liP n k = liP n k ∧ slB n k' = slB n k' ∧ Value.bool false = Value.bool false ∧ gi 0 = goN 0 ∧ canon Tryz.prog [Prod.mk (cellsQ l) (Prod.mk e row), Prod.mk (cellsQ l) (Prod.mk e' row')] = canon Tryz.prog [Prod.mk (cellsQ l) (Prod.mk e row), Prod.mk (cellsQ l) (Prod.mk e' row')] ∧ (List.length l = n ∧ (n : Nat) ≤ 65536) ∧ (∀ _ : Nat → Value, K (Value.bool true)))) := by kernel_rfl
end Go.Proofs.YtojfhklkcelblaaGreatDoor
/-! Values told again and compared, and both Converted, as known calls; the law. -/
namespace Go.Proofs.YtojfhklkcelblaaGreatDoor
open Go Go.Am

/-! told, SameValues -/
noncomputable def tdX (vs : List Value) (B : List Cells) : Option Out := match vs, B with
  | [.slice none 0 0], [] => some (.plain (.slice none 0 0))
  | [.slice (some ⟨i, 0, none⟩) n _], [(c, _, _)] => match Nat.beq i Tryz.prog.globals.size, decQ c with
    | true, some l => match Nat.blt 0 n && (Nat.beq l.length n && Nat.ble n 65536) with
      | true => some (.wide (slM n) (cellsQ l) 78 5)
      | false => none
    | _, _ => none
  | _, _ => none
noncomputable def tdY (vs : List Value) (B : List Cells) (K : Out → Prop) : Prop := match vs, B with
  | [.slice none n k], [] => n = 0 ∧ k = 0 ∧ K (.plain (.slice none 0 0))
  | [.slice (some ⟨i, 0, none⟩) n _], [(c, _, _)] => Nat.beq i Tryz.prog.globals.size = true ∧ ∃ l : List Q4, c = cellsQ l ∧ (0 < n ∧ l.length = n ∧ n ≤ 65536) ∧ K (.wide (slM n) c 78 5)
  | _, _ => False
theorem tdY_ok (vs : List Value) (B : List Cells) (K : Out → Prop) (h : tdY vs B K) : ∃ o, tdX vs B = some o ∧ K o := by
  unfold tdY at h
  split at h
  · obtain ⟨rfl, rfl, hK⟩ := h
    exact ⟨_, rfl, hK⟩
  · rename_i i n k c e r
    obtain ⟨hi, l, rfl, ⟨h1, h2, h3⟩, hK⟩ := h
    refine ⟨_, ?_, hK⟩
    have q : (Nat.blt 0 n && (Nat.beq l.length n && Nat.ble n 65536)) = true := by
      rw [Bool.and_eq_true, Bool.and_eq_true, Nat.blt_eq, Nat.beq_eq, Nat.ble_eq]
      exact ⟨h1, h2, h3⟩
    simp only [tdX, hi, decQ_cells, q]
  · exact h.elim
theorem tdX_some {vs : List Value} {B : List Cells} {o : Out} (h : tdX vs B = some o) : (vs = [nilS] ∧ B = [] ∧ o = .plain nilS) ∨ ∃ (l : List Q4) (n e row k : Nat), vs = [liP n k] ∧ B = [(cellsQ l, e, row)] ∧ o = .wide (slM n) (cellsQ l) 78 5 ∧ 0 < n ∧ l.length = n ∧ n ≤ 65536 := by
  unfold tdX at h
  split at h
  · cases h; exact .inl ⟨rfl, rfl, rfl⟩
  · split at h
    · rename_i hb hd
      split at h
      · rename_i hq
        cases h
        simp only [Nat.beq_eq] at hb
        subst hb
        rw [Bool.and_eq_true, Bool.and_eq_true, Nat.blt_eq, Nat.beq_eq, Nat.ble_eq] at hq
        obtain rfl := decQ_some hd
        exact .inr ⟨_, _, _, _, _, rfl, rfl, rfl, hq⟩
      · cases h
    · cases h
  · cases h
noncomputable def svX (vs : List Value) (B : List Cells) : Option Out := match vs, B with
  | [.slice none 0 0, .slice none 0 0], [] => some (.plain (.bool true))
  | [.slice (some ⟨i, 0, none⟩) n _, .slice (some ⟨i', 0, none⟩) n' _], [(c, _, _), (d, _, _)] => match Nat.beq i Tryz.prog.globals.size && (Nat.beq i' (Tryz.prog.globals.size + 1) && Nat.beq n n'), decQ c, decQ d with
    | true, some l, some l' => match Nat.beq l.length n && Nat.ble n 65536, decide (l = l') with
      | true, true => some (.plain (.bool true))
      | _, _ => none
    | _, _, _ => none
  | _, _ => none
noncomputable def svY (vs : List Value) (B : List Cells) (K : Out → Prop) : Prop := match vs, B with
  | [.slice none n k, .slice none n' k'], [] => n = 0 ∧ k = 0 ∧ n' = 0 ∧ k' = 0 ∧ K (.plain (.bool true))
  | [.slice (some ⟨i, 0, none⟩) n _, .slice (some ⟨i', 0, none⟩) n' _], [(c, _, _), (d, _, _)] => (Nat.beq i Tryz.prog.globals.size && (Nat.beq i' (Tryz.prog.globals.size + 1) && Nat.beq n n')) = true ∧ ∃ l : List Q4, c = cellsQ l ∧ d = cellsQ l ∧ (l.length = n ∧ n ≤ 65536) ∧ K (.plain (.bool true))
  | _, _ => False
theorem svY_ok (vs : List Value) (B : List Cells) (K : Out → Prop) (h : svY vs B K) : ∃ o, svX vs B = some o ∧ K o := by
  unfold svY at h
  split at h
  · obtain ⟨rfl, rfl, rfl, rfl, hK⟩ := h
    exact ⟨_, rfl, hK⟩
  · obtain ⟨hi, l, rfl, rfl, ⟨h2, h3⟩, hK⟩ := h
    refine ⟨_, ?_, hK⟩
    rename_i n _ _ n' _ _ _ _ _
    have q : (Nat.beq l.length n && Nat.ble n 65536) = true := by
      rw [Bool.and_eq_true, Nat.beq_eq, Nat.ble_eq]
      exact ⟨h2, h3⟩
    simp only [svX, hi, decQ_cells, q, decide_true]
  · exact h.elim
theorem svX_some {vs : List Value} {B : List Cells} {o : Out} (h : svX vs B = some o) : o = .plain (.bool true) ∧ ((vs = [nilS, nilS] ∧ B = []) ∨ ∃ (l : List Q4) (n e row k e' row' k' : Nat), vs = [liP n k, slB n k'] ∧ B = [(cellsQ l, e, row), (cellsQ l, e', row')] ∧ l.length = n ∧ n ≤ 65536) := by
  unfold svX at h
  split at h
  · cases h; exact ⟨rfl, .inl ⟨rfl, rfl⟩⟩
  · split at h
    · rename_i hb hd hd'
      split at h
      · rename_i hq hl
        cases h
        simp only [Bool.and_eq_true, Nat.beq_eq] at hb
        obtain ⟨rfl, rfl, rfl⟩ := hb
        rw [Bool.and_eq_true, Nat.beq_eq, Nat.ble_eq] at hq
        obtain rfl := of_decide_eq_true hl
        obtain rfl := decQ_some hd
        obtain rfl := decQ_some hd'
        exact ⟨rfl, .inr ⟨_, _, _, _, _, _, _, _, rfl, rfl, hq⟩⟩
      · cases h
    · cases h
  · cases h
noncomputable def orcRn : Orc := orElse 25 (anyO Tryz.prog.globals.size svX) (orElse 26 (anyO Tryz.prog.globals.size tdX) orcRm)
set_option maxRecDepth 100000 in
theorem orcRn_ok : OrcOk Tryz.prog orcRn := by
  refine anyO_ok globs_pos (anyO_ok globs_pos orcRm_ok fun vs B o h _ => ?_) fun vs B o h _ => ?_
  · rcases tdX_some h with ⟨rfl, rfl, rfl⟩ | ⟨l, n, e, row, k, rfl, rfl, rfl, h0, h1, h2⟩
    · exact ⟨rfl, CallJ.of_call mixed orcRm_ok td_nil fun _ => rfl⟩
    · refine ⟨⟨names_sl n, cellsQ_flat l⟩, callC_ok mixed orcRm_ok askRm_ok (Eq.mpr (td_run l n e row k _) ⟨rfl, rfl, rfl, rfl, rfl, ?_, ⟨h0, h1, h2⟩, fun _ h' hg => ⟨_, rfl, hg⟩⟩)⟩
      rw [canon_get, if_pos (Nat.le_refl _), Nat.sub_self]; rfl
  · obtain ⟨rfl, hs⟩ := svX_some h
    rcases hs with ⟨rfl, rfl⟩ | ⟨l, n, e, row, k, e', row', k', rfl, rfl, h1, h2⟩
    · exact ⟨rfl, CallJ.of_call mixed orcRm_ok sv_nil fun _ => rfl⟩
    · exact ⟨rfl, callC_ok mixed orcRm_ok askRm_ok (Eq.mpr (sv_run l n e row k e' row' k' _) ⟨by rw [ieq_self]; rfl, rfl, rfl, rfl, rfl, rfl, rfl, ⟨h1, h2⟩, fun _ => rfl⟩)⟩
noncomputable def askRn : Asks := asksV Tryz.prog.globals.size 25 svY (asksV Tryz.prog.globals.size 26 tdY askRm)
theorem askRn_ok : AsksOk orcRn askRn := asksV_ok svY_ok (asksV_ok tdY_ok askRm_ok)
end Go.Proofs.YtojfhklkcelblaaGreatDoor
