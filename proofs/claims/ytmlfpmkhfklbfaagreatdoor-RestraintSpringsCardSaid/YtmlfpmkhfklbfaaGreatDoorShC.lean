/-
  OWN WORK. Springs: the loops of the reference, and of the search for an index.
-/
import Derived.Test.YtmlfpmkhfklbfaaGreatDoorShB
namespace Go.Proofs.YtmlfpmkhfklbfaaGreatDoor
open Go Go.Am

theorem wh_t {x y : Int} (h : x < y) (b : Bool) : whenS (ilt x y || b) 11 = 11 := by rw [ilt_say, decide_eq_true h]; rfl
theorem wh_f {x a b : Int} (h : a ≤ x) (h' : x ≤ b) : whenS (ilt x a || ilt b x) 11 = 0 := by rw [ilt_say, ilt_say, decide_eq_false (by omega), decide_eq_false (by omega)]; rfl
theorem wh_r {x y : Int} (h : x < y) (b : Bool) : whenS (b || ilt x y) 11 = 11 := by rw [ilt_say, decide_eq_true h, Bool.or_true]; rfl
set_option maxRecDepth 100000 in
theorem rc_loop (l : List P2) (n e row k : Nat) (hn : l.length = n) (hle : n ≤ 65536) : ∀ (ac : AAct) (h : AHeap), Laid [(cellsP l, e, row, true)] (Tryz.prog.globals.size + ·) h → ac.n = 70 → ac.marks = [] → [0, 2, 4].map ac.tmp = [liP n k, gi 0, goN 0] →
    J Tryz.prog (.loop (loopOf Tryz.prog 21 0)) ac h (told 70 [0, 2, 4] fun ex vs _ => (ex = .exit 0 ∧ spE 0 0 l = 0) ∨ (ex = .ret ∧ ∃ v r, vs = v :: gi (spE 0 0 l) :: r)) := by
  refine fold_rule (L := 1) (C := fun _ => [(cellsP l, e, row, true)]) globs_pos (by decide) (by decide) (fun _ => rfl) (fun _ => one_flat l e row) (V := fun at_ j => [.slice (some ⟨at_ 0, 0, none⟩) n k, gi 0, goN j]) (I := fun j => spE 0 0 l = spE (frL l 0 j) (toL 0 j) (l.drop j)) (m := n) rfl _ _ (by simp) (fun q _ => Nat.le_add_right _ _) (fun j => by kernel_rfl) (fun j => by kernel_rfl)
    (fun at_ j q hq => by match q, hq with | 0, _ => exact ⟨(0, .slice (some ⟨at_ 0, 0, none⟩) n k), by simp, by simp [named]⟩) ?_ ?_
  · intro j hj hI g
    have hjl : j < l.length := by omega
    obtain ⟨f0, f1, i0, i1⟩ := cellsP_at0 hjl
    have bad : ∀ {c : Int} (v : Value) (r : List Value), c ≠ 0 → cE l[j] (frL l 0 j) (toL 0 j) = c → (Exit.ret = .exit 0 ∧ spE 0 0 l = 0) ∨ (Exit.ret = .ret ∧ ∃ v' r', v :: gi c :: r = v' :: gi (spE 0 0 l) :: r') := fun {c} v r hc he => by
      refine .inr ⟨rfl, v, r, ?_⟩
      rw [hI, spE_drop hjl, he, ieq_ne hc]; rfl
    have good : ∀ {h' : AHeap}, firstS [withinS l[j].1 0 100000, withinS l[j].2 0 1000000] = 0 → cE l[j] (frL l 0 j) (toL 0 j) = 0 → h'.get (Tryz.prog.globals.size + 0) = some (.cells (cellsP l) e row true) →
        (spE 0 0 l = spE (frL l 0 (j + 1)) (toL 0 (j + 1)) (l.drop (j + 1))) ∧ ([liP n k, gi 0, gi (fwrap .i64 (Int.ofNat (j + 1)))] : List Value) = [.slice (some ⟨Tryz.prog.globals.size + 0, 0, none⟩) n k, gi 0, goN (j + 1)] ∧ Laid [(cellsP l, e, row, true)] (Tryz.prog.globals.size + ·) h' := fun h0 he hg => by
      refine ⟨?_, by rw [fwrap_nat (by omega)]; rfl, .one hg⟩
      rw [hI, spE_drop hjl, he, frL_succ hjl]; rfl
    have at0 : ∀ {x y : Int} {el rw' : Nat}, ((roH (cellsP l) e row).push (.cells [gi x, gi y] el rw' false)).get (Tryz.prog.globals.size + 0) = some (.cells (cellsP l) e row true) := fun {x y el rw'} => by
      rw [AHeap.get_push_ne (by kernel_rfl)]; exact gC_get (P := Tryz.prog) (C := [(cellsP l, e, row, true)]) (q := 0) rfl
    cases j with
    | zero =>
      refine execC_ok mixed orcSd_ok askSd_ok (noLoops _) (Eq.mpr (rc_body (cellsP l) n k e row 0 g _) ⟨fun hlt => ⟨hlt, f0, hlt, f1, f1, fun hz => ?_, fun hz => ⟨fun _ => ⟨hlt, f0, fun hx => ?_, fun hx => ⟨fun hp => ?_, fun _ => ?_⟩⟩, fun h0 => ?_⟩⟩, fun hge => ?_⟩)
      · rw [i0, i1] at hz ⊢
        exact bad _ _ (not_ieq hz) (two_bad (not_ieq hz))
      · rw [i0, i1] at hz
        rw [i0] at hx
        have hx := not_ieq hx
        refine bad _ _ (by decide) ?_
        rw [two_zero (not_ieq' hz)]
        show whenS (ilt l[0].1 0 || ilt 0 l[0].1) 11 = 11
        rcases Int.lt_or_gt_of_ne hx with h | h
        · exact wh_t h _
        · exact wh_r h _
      · cases hp
      · rw [i0, i1] at hz
        rw [i0] at hx
        have hx := not_ieq' hx
        refine good (not_ieq' hz) ?_ at0
        rw [two_zero (not_ieq' hz)]
        show whenS (ilt l[0].1 0 || ilt 0 l[0].1) 11 = 0
        exact wh_f (by omega) (by omega)
      · cases h0
      · have := blt_false hge; omega
    | succ i =>
      have hil : i < l.length := by omega
      obtain ⟨e1, e2, e3, e4⟩ := has_prev (Nat.succ_pos i) hj
      obtain ⟨p0, _, q0, _⟩ := cellsP_at0 hil
      have e4 : Int.toNat (Int.ofNat (i + 1) - 1) = i := e4
      have hin : inI64 (Int.ofNat (i + 1) - 1) = true := by rw [e1]; exact inI64_nat (by omega)
      refine execC_ok mixed orcSd_ok askSd_ok (noLoops _) (Eq.mpr (rc_body (cellsP l) n k e row (i + 1) g _) ⟨fun hlt => ⟨hlt, f0, hlt, f1, f1, fun hz => ?_, fun hz => ⟨fun h0 => ?_, fun _ => ⟨fun _ => ⟨hlt, f0, hin, e3, by rw [e4]; exact p0, fun hx => ?_, fun hx => ?_⟩, fun hp => ?_⟩⟩⟩, fun hge => ?_⟩)
      · rw [i0, i1] at hz ⊢
        exact bad _ _ (not_ieq hz) (two_bad (not_ieq hz))
      · cases h0
      · rw [i0, i1] at hz
        rw [e4, i0, q0, ilt_say] at hx
        have hx : ¬ l[i].1 < l[i + 1].1 := by simpa using hx
        refine bad _ _ (by decide) ?_
        rw [two_zero (not_ieq' hz), frL_succ hil]
        exact wh_t (by omega) _
      · rw [i0, i1] at hz
        rw [e4, i0, q0, ilt_say] at hx
        have hx : l[i].1 < l[i + 1].1 := by simpa using hx
        have hb := two_le (not_ieq' hz)
        refine good (not_ieq' hz) ?_ at0
        rw [two_zero (not_ieq' hz), frL_succ hil]
        exact wh_f (by omega) hb.2
      · cases hp
      · have := blt_false hge; omega
  · intro hI g
    refine execC_ok mixed orcSd_ok askSd_ok (noLoops _) (Eq.mpr (rc_body (cellsP l) n k e row n g _) ⟨fun hlt => ?_, fun _ => ?_⟩)
    · have := blt_true hlt; omega
    · exact .inl ⟨rfl, by rw [hI, spE_end (by omega)]⟩
/-! The index of the first point beyond a way. -/
noncomputable def ixF (w : Int) : List P2 → Nat → Int
  | [], _ => -1
  | p :: l, j => bif ilt w p.1 then Int.ofNat j else ixF w l (j + 1)
theorem ixF_drop {w : Int} {l : List P2} {j : Nat} (hj : j < l.length) : ixF w (l.drop j) j = bif ilt w l[j].1 then Int.ofNat j else ixF w (l.drop (j + 1)) (j + 1) := by
  rw [List.drop_eq_getElem_cons hj]; rfl
theorem fi_flat (l : List P2) (e row : Nat) (w : Int) (e' row' : Nat) : ∀ q ∈ fiC (cellsP l) e row w e' row', q.1.all (flat 3) = true := by
  intro q hq
  simp only [List.mem_cons, List.not_mem_nil, or_false] at hq
  rcases hq with rfl | rfl
  · exact cellsP_flat l
  · rfl
set_option maxRecDepth 100000 in
theorem fi_loop (l : List P2) (n e row k e' row' : Nat) (w : Int) (hn : l.length = n) (hle : n ≤ 65536) : ∀ (ac : AAct) (h : AHeap), Laid (fiC (cellsP l) e row w e' row') (Tryz.prog.globals.size + ·) h → ac.n = 19 → ac.marks = [] → [0, 1, 4, 7, 8].map ac.tmp = [liP n k, fiF, gi 0, goN n, goN 0] →
    J Tryz.prog (.loop (loopOf Tryz.prog 167 0)) ac h (told 19 [0, 1, 4, 7, 8] fun ex vs _ => (ex = .exit 0 ∧ ixF w l 0 = -1) ∨ (ex = .ret ∧ ∃ v v' r, vs = v :: v' :: gi (ixF w l 0) :: r)) := by
  refine fold_rule (L := 2) (C := fun _ => fiC (cellsP l) e row w e' row') globs_pos (by decide) (by decide) (fun _ => rfl) (fun _ => fi_flat l e row w e' row') (V := fun at_ j => [.slice (some ⟨at_ 0, 0, none⟩) n k, .func (.func 168) #[] #[.pointer (some ⟨at_ 1, 0, none⟩)], gi 0, goN n, goN j]) (I := fun j => ixF w l 0 = ixF w (l.drop j) j) (m := n) rfl _ _ (plus_nodup _ _) (fun q _ => Nat.le_add_right _ _) (fun j => by kernel_rfl) (fun j => by kernel_rfl)
    (fun at_ j q hq => by
      match q, hq with
      | 0, _ => exact ⟨(0, .slice (some ⟨at_ 0, 0, none⟩) n k), by simp, by simp [named]⟩
      | 1, _ => exact ⟨(1, .func (.func 168) #[] #[.pointer (some ⟨at_ 1, 0, none⟩)]), by simp, by simp [named, namedP]⟩) ?_ ?_
  · intro j hj hI g
    have hjl : j < l.length := by omega
    obtain ⟨⟨f0, f1⟩, i0, i1⟩ := cellsP_at hjl
    refine J.ofR mixed orcSd_ok askSd_ok (Eq.mpr (fi_body (cellsP l) n k e row e' row' j w g _) ⟨fun hlt => ⟨hlt, f0, f1, fun hx => ?_, fun hx => ?_⟩, fun hge => ?_⟩)
    · rw [i0] at hx
      refine .inr ⟨rfl, liP n k, fiF, [goN n, goN j], ?_⟩
      rw [hI, ixF_drop hjl, hx]; rfl
    · rw [i0] at hx
      refine ⟨?_, by rw [fwrap_nat (by omega)]; rfl, .two ?_ ?_⟩
      · rw [hI, ixF_drop hjl, hx]; rfl
      · rw [AHeap.get_push_ne (by kernel_rfl)]; exact gC_get (q := 0) rfl
      · rw [AHeap.get_push_ne (by kernel_rfl)]; exact gC_get (q := 1) rfl
    · have := blt_false hge; omega
  · intro hI g
    refine J.ofR mixed orcSd_ok askSd_ok (Eq.mpr (fi_body (cellsP l) n k e row e' row' n w g _) ⟨fun hlt => ?_, fun _ => ?_⟩)
    · have := blt_true hlt; omega
    · exact .inl ⟨rfl, by rw [hI, List.drop_eq_nil_of_le (by omega)]; rfl⟩
end Go.Proofs.YtmlfpmkhfklbfaaGreatDoor
