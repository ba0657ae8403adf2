/-
  OWN WORK. Stage 6: the loops over risk tables.
-/
import Derived.Test.YtihnnmejkpddeaaGreatDoorMgD
import Derived.Test.YtihnnmejkpddeaaGreatDoorAm28
namespace Go.Proofs.YtihnnmejkpddeaaGreatDoor
open Go Go.Am

noncomputable def bf3 (l : List P3) (b : P3) : Nat → P3
  | 0 => b
  | i + 1 => l.getD i (0, 0, 0)
theorem bf_succ {l : List P3} {b : P3} {j : Nat} (hj : j < l.length) : bf3 l b (j + 1) = l[j] := getD_some (List.getElem?_eq_getElem hj)
theorem tbE_drop {l : List P3} {j : Nat} (hj : j < l.length) (b : P3) : tbE b (l.drop j) = bif ieq (stE b l[j]) 0 then tbE l[j] (l.drop (j + 1)) else stE b l[j] := by
  rw [List.drop_eq_getElem_cons hj]; rfl
theorem tbE_end {l : List P3} {j : Nat} (hj : l.length ≤ j) (b : P3) : tbE b (l.drop j) = 0 := by
  rw [List.drop_eq_nil_of_le hj]; rfl
theorem st_bad {b p : P3} (h : ieq (stA p) 0 = false) : stE b p = stA p := by
  rw [← rd_eq]
  unfold rdE
  rw [h]; rfl
theorem st_go {b p : P3} (h : ieq (stA p) 0 = true) : stE b p = whenS (!(ilt (cpR (frP b) (frP p)) 0) || ilt p.2.2 b.2.2) 11 := by
  rw [← rd_eq]
  unfold rdE
  rw [h]; rfl
theorem st_flat (l : List P3) (e row : Nat) (u v w : Int) : ∀ q ∈ stC (cells3 l) e row u v w, q.1.all (flat 3) = true := by
  intro q hq
  simp only [List.mem_cons, List.not_mem_nil, or_false] at hq
  rcases hq with rfl | rfl
  · exact cells3_flat l
  · rfl
def okL (l : List P3) : Prop := ∀ p ∈ l, okI p.1 p.2.1 = true
noncomputable abbrev esV (n k : Nat) (at_ : Nat → Nat) (j : Nat) : List Value := [.func (.func 172) #[] #[.pointer (some ⟨at_ 1, 0, none⟩)], gi 0, .slice (some ⟨at_ 0, 0, none⟩) n k, goN n, goN j]
set_option maxRecDepth 100000 in
theorem es_loop (l : List P3) (n e row k : Nat) (u v w : Int) (hn : l.length = n) (hle : n ≤ 65536) (hok : okL l) : ∀ (ac : AAct) (h : AHeap), Laid (stC (cells3 l) e row u v w) (Tryz.prog.globals.size + ·) h → ac.n = 21 → ac.marks = [] → [1, 4, 8, 9, 10].map ac.tmp = [cloS, gi 0, liP n k, goN n, goN 0] →
    J Tryz.prog (.loop (loopOf Tryz.prog 171 0)) ac h (told 21 [1, 4, 8, 9, 10] fun ex vs _ => (ex = .exit 0 ∧ tbE (u, v, w) l = 0) ∨ (ex = .ret ∧ ∃ z r, vs = z :: gi (tbE (u, v, w) l) :: r)) := by
  refine fold_rule (L := 2) (C := fun j => stC (cells3 l) e row (bf3 l (u, v, w) j).1 (bf3 l (u, v, w) j).2.1 (bf3 l (u, v, w) j).2.2) globs_pos (by decide) (by decide) (fun _ => rfl) (fun _ => st_flat l e row _ _ _) (V := esV n k) (I := fun j => tbE (u, v, w) l = tbE (bf3 l (u, v, w) j) (l.drop j)) (m := n) rfl _ _ (plus_nodup _ _) (fun q _ => Nat.le_add_right _ _) (fun j => by kernel_rfl) (fun j => by kernel_rfl)
    (fun at_ j q hq => by
      match q, hq with
      | 0, _ => exact ⟨(8, .slice (some ⟨at_ 0, 0, none⟩) n k), by simp, by simp [named]⟩
      | 1, _ => exact ⟨(1, .func (.func 172) #[] #[.pointer (some ⟨at_ 1, 0, none⟩)]), by simp, by simp [named, namedP]⟩) ?_ ?_
  · intro j hj hI g
    have hjl : j < l.length := by omega
    obtain ⟨⟨f0, f1, f2⟩, i0, i1, i2⟩ := cells3_first hjl
    have hk : okI (intAt (cells3 l) (0 + j * 3)) (intAt (cells3 l) (0 + j * 3 + 1)) = true := by rw [i0, i1]; exact hok _ (List.getElem_mem hjl)
    generalize hb : bf3 l (u, v, w) j = b at hI ⊢
    refine J.ofR mixed orcMb_ok askMb_ok (Eq.mpr (es_body (cells3 l) n k e row j b.1 b.2.1 b.2.2 g _) ⟨fun hlt => ⟨hlt, f0, f1, f2, hk, rfl, rfl, rfl, rfl, rfl, fun hx => ⟨fun hz => ?_, fun hz => ?_⟩, fun hx => ⟨fun hz => ?_, fun hz => ?_⟩⟩, fun hge => ?_⟩)
    · rw [i0, i1] at hx
      have hc : stE b l[j] = firstS [szE l[j].1 l[j].2.1, withinS l[j].2.2 0 1000, 11] := by
        unfold stE
        rw [show (!ilt 0 (cpR (frP l[j]) (frP b))) = true from hx]; rfl
      rw [i0, i1, i2, ← hc] at hz ⊢
      refine .inr ⟨rfl, cloS, [liP n k, goN n, goN j], ?_⟩
      rw [hI, tbE_drop hjl, not_ieqT hz]; rfl
    · exact absurd (firstS_none (not_ieq' hz) 11 (by simp)) (by decide)
    · rw [i0, i1] at hx
      have hc : stE b l[j] = firstS [szE l[j].1 l[j].2.1, withinS l[j].2.2 0 1000, whenS (ilt l[j].2.2 b.2.2) 11] := by
        unfold stE
        rw [show (!ilt 0 (cpR (frP l[j]) (frP b))) = false from hx]; rfl
      rw [i0, i1, i2, ← hc] at hz ⊢
      refine .inr ⟨rfl, cloS, [liP n k, goN n, goN j], ?_⟩
      rw [hI, tbE_drop hjl, not_ieqT hz]; rfl
    · rw [i0, i1] at hx
      have hc : stE b l[j] = firstS [szE l[j].1 l[j].2.1, withinS l[j].2.2 0 1000, whenS (ilt l[j].2.2 b.2.2) 11] := by
        unfold stE
        rw [show (!ilt 0 (cpR (frP l[j]) (frP b))) = false from hx]; rfl
      rw [i0, i1, i2, ← hc] at hz
      refine ⟨?_, ?_, .two ?_ ?_⟩
      · rw [hI, tbE_drop hjl, not_ieqF hz, bf_succ hjl]; rfl
      · rw [fwrap_nat (by omega)]; rfl
      · rw [AHeap.get_set_neB (by kernel_rfl), AHeap.get_push_ne (by kernel_rfl), AHeap.get_push_ne (by kernel_rfl), AHeap.get_set_neB (by kernel_rfl), AHeap.get_push_ne (by kernel_rfl)]; exact gC_get (q := 0) rfl
      · rw [AHeap.get_set_eqB (by kernel_rfl), i0, i1, i2, bf_succ hjl]; rfl
    · have := blt_false hge; omega
  · intro hI g
    refine J.ofR mixed orcMb_ok askMb_ok (Eq.mpr (es_body (cells3 l) n k e row n _ _ _ g _) ⟨fun hlt => ?_, fun _ => ?_⟩)
    · have := blt_true hlt; omega
    · exact .inl ⟨rfl, by rw [hI, tbE_end (by omega)]⟩
/-! The reference. -/
theorem one3_flat (l : List P3) (e row : Nat) : ∀ q ∈ ([(cells3 l, e, row, true)] : List Blk), q.1.all (flat 3) = true := by
  intro q hq
  cases List.mem_singleton.1 hq; exact cells3_flat l
theorem cells3_at0 {l : List P3} {j : Nat} (hj : j < l.length) : ((cells3 l)[0 + j * 3 + 0]? = some (gi (intAt (cells3 l) (0 + j * 3 + 0))) ∧ (cells3 l)[0 + j * 3 + 0 + 1]? = some (gi (intAt (cells3 l) (0 + j * 3 + 0 + 1))) ∧ (cells3 l)[0 + j * 3 + 2]? = some (gi (intAt (cells3 l) (0 + j * 3 + 2)))) ∧ intAt (cells3 l) (0 + j * 3 + 0) = l[j].1 ∧ intAt (cells3 l) (0 + j * 3 + 0 + 1) = l[j].2.1 ∧ intAt (cells3 l) (0 + j * 3 + 2) = l[j].2.2 := cells3_first hj
theorem prevI {j n : Nat} (h0 : 0 < j) (hj : j < n) (hn : n ≤ 65536) : inI64 (Int.ofNat j - 1) = true ∧ ahasIndex (Int.ofNat j - 1) n = true ∧ Int.toNat (Int.ofNat j - 1) = j - 1 := by
  have e : Int.ofNat j - 1 = Int.ofNat (j - 1) := by simp only [Int.ofNat_eq_natCast]; omega
  rw [e]
  refine ⟨inI64_nat (by omega), ?_, rfl⟩
  show Nat.blt (j - 1) n = true
  rw [Nat.blt_eq]; omega
set_option maxRecDepth 100000 in
theorem rct_loop (l : List P3) (n e row k : Nat) (hn : l.length = n) (hle : n ≤ 65536) : ∀ (ac : AAct) (h : AHeap), Laid [(cells3 l, e, row, true)] (Tryz.prog.globals.size + ·) h → ac.n = 66 → ac.marks = [] → [0, 2, 4].map ac.tmp = [liP n k, gi 0, goN 0] →
    J Tryz.prog (.loop (loopOf Tryz.prog 65 0)) ac h (told 66 [0, 2, 4] fun ex vs _ => (ex = .exit 0 ∧ tbE (-1, 1, 0) l = 0) ∨ (ex = .ret ∧ ∃ v r, vs = v :: gi (tbE (-1, 1, 0) l) :: r)) := by
  refine fold_rule (L := 1) (C := fun _ => [(cells3 l, e, row, true)]) globs_pos (by decide) (by decide) (fun _ => rfl) (fun _ => one3_flat l e row) (V := fun at_ j => [.slice (some ⟨at_ 0, 0, none⟩) n k, gi 0, goN j]) (I := fun j => tbE (-1, 1, 0) l = tbE (bf3 l (-1, 1, 0) j) (l.drop j)) (m := n) rfl _ _ (by simp) (fun q _ => Nat.le_add_right _ _) (fun j => by kernel_rfl) (fun j => by kernel_rfl)
    (fun at_ j q hq => by match q, hq with | 0, _ => exact ⟨(0, .slice (some ⟨at_ 0, 0, none⟩) n k), by simp, by simp [named]⟩) ?_ ?_
  · intro j hj hI g
    have hjl : j < l.length := by omega
    obtain ⟨⟨f0, f1, f2⟩, i0, i1, i2⟩ := cells3_at0 hjl
    have bad : ∀ {c : Int} (v : Value) (r : List Value), c ≠ 0 → stE (bf3 l (-1, 1, 0) j) l[j] = c → (Exit.ret = .exit 0 ∧ tbE (-1, 1, 0) l = 0) ∨ (Exit.ret = .ret ∧ ∃ v' r', v :: gi c :: r = v' :: gi (tbE (-1, 1, 0) l) :: r') := fun {c} v r hc he => by
      refine .inr ⟨rfl, v, r, ?_⟩
      rw [hI, tbE_drop hjl, he, ieq_ne hc]; rfl
    have good : ∀ {h' : AHeap}, stE (bf3 l (-1, 1, 0) j) l[j] = 0 → h'.get (Tryz.prog.globals.size + 0) = some (.cells (cells3 l) e row true) →
        (tbE (-1, 1, 0) l = tbE (bf3 l (-1, 1, 0) (j + 1)) (l.drop (j + 1))) ∧ ([liP n k, gi 0, gi (fwrap .i64 (Int.ofNat (j + 1)))] : List Value) = [.slice (some ⟨Tryz.prog.globals.size + 0, 0, none⟩) n k, gi 0, goN (j + 1)] ∧ Laid [(cells3 l, e, row, true)] (Tryz.prog.globals.size + ·) h' := fun he hg => by
      refine ⟨?_, by rw [fwrap_nat (by omega)]; rfl, .one hg⟩
      rw [hI, tbE_drop hjl, he, bf_succ hjl]; rfl
    have at0 : ∀ {x y : Int} {el rw' : Nat}, ((roH (cells3 l) e row).push (.cells [gi x, gi y] el rw' false)).get (Tryz.prog.globals.size + 0) = some (.cells (cells3 l) e row true) := fun {x y el rw'} => by
      rw [AHeap.get_push_ne (by kernel_rfl)]; exact gC_get (P := Tryz.prog) (C := [(cells3 l, e, row, true)]) (q := 0) rfl
    cases j with
    | zero =>
      refine execC_ok mixed orcMb_ok askMb_ok (noLoops _) (Eq.mpr (rct_body (cells3 l) n k e row 0 g _) ⟨fun hlt => ⟨hlt, f0, f1, hlt, f2, f2, fun hz => ?_, fun hz => ⟨fun h0 => ?_, fun h0 => ⟨fun hp => ?_, fun _ => ?_⟩⟩⟩, fun hge => ?_⟩)
      · rw [i0, i1, i2] at hz ⊢
        exact bad _ _ (not_ieq hz) (st_bad (not_ieqT hz))
      · cases h0
      · cases hp
      · rw [i0, i1, i2] at hz
        exact good (by show stE (-1, 1, 0) l[0] = 0; rw [st_first]; exact not_ieq' hz) at0
      · have := blt_false hge; omega
    | succ i =>
      have hil : i < l.length := by omega
      obtain ⟨e1, e2, e3⟩ := prevI (Nat.succ_pos i) hj hle
      have e3 : Int.toNat (Int.ofNat (i + 1) - 1) = i := e3
      obtain ⟨⟨p0, p1, p2⟩, q0, q1, q2⟩ := cells3_at0 hil
      have eb : bf3 l (-1, 1, 0) (i + 1) = l[i] := bf_succ hil
      rw [eb] at bad good
      refine execC_ok mixed orcMb_ok askMb_ok (noLoops _) (Eq.mpr (rct_body (cells3 l) n k e row (i + 1) g _) ⟨fun hlt => ⟨hlt, f0, f1, hlt, f2, f2, fun hz => ?_, fun hz => ⟨fun _ => ⟨e1, e2, by rw [e3]; exact p0, by rw [e3]; exact p1, hlt, f0, f1, fun hx => ⟨fun _ => ?_, fun hp => ?_⟩, fun hx => ⟨hlt, f2, e1, e2, by rw [e3]; exact p2, fun hy => ?_, fun hy => ?_⟩⟩, fun h0 => ?_⟩⟩, fun hge => ?_⟩)
      · rw [i0, i1, i2] at hz ⊢
        exact bad _ _ (not_ieq hz) (st_bad (not_ieqT hz))
      · rw [i0, i1, i2] at hz
        rw [e3, q0, q1, i0, i1] at hx
        refine bad _ _ (by decide) ?_
        rw [st_go (not_ieqF hz), show (!ilt (cpR (frP l[i]) (frP l[i + 1])) 0) = true from hx]; rfl
      · cases hp
      · rw [i0, i1, i2] at hz
        rw [e3, q0, q1, i0, i1] at hx
        rw [e3, q2, i2] at hy
        refine bad _ _ (by decide) ?_
        rw [st_go (not_ieqF hz), show (!ilt (cpR (frP l[i]) (frP l[i + 1])) 0) = false from hx, show ilt l[i + 1].2.2 l[i].2.2 = true from hy]; rfl
      · rw [i0, i1, i2] at hz
        rw [e3, q0, q1, i0, i1] at hx
        rw [e3, q2, i2] at hy
        refine good ?_ at0
        rw [st_go (not_ieqF hz), show (!ilt (cpR (frP l[i]) (frP l[i + 1])) 0) = false from hx, show ilt l[i + 1].2.2 l[i].2.2 = false from hy]; rfl
      · exact absurd h0 (by show Nat.blt 0 (i + 1) ≠ false; rw [show Nat.blt 0 (i + 1) = true from rfl]; decide)
      · have := blt_false hge; omega
  · intro hI g
    refine execC_ok mixed orcMb_ok askMb_ok (noLoops _) (Eq.mpr (rct_body (cells3 l) n k e row n g _) ⟨fun hlt => ?_, fun _ => ?_⟩)
    · have := blt_true hlt; omega
    · exact .inl ⟨rfl, by rw [hI, tbE_end (by omega)]⟩
theorem rkF_app {x : P2} : ∀ (l : List P3) (a : Int) (p : P3), rkF x a (l ++ [p]) = bif !(ilt 0 (cpR (frP p) x)) then p.2.2 else rkF x a l
  | [], _, _ => rfl
  | q :: l, a, p => rkF_app l _ p
theorem rkF_take {x : P2} {l : List P3} {j : Nat} (hj : j < l.length) (a : Int) : rkF x a (l.take (j + 1)) = bif !(ilt 0 (cpR (frP l[j]) x)) then l[j].2.2 else rkF x a (l.take j) := by
  rw [List.take_add_one, List.getElem?_eq_getElem hj]
  exact rkF_app _ _ _
theorem rk_flat (l : List P3) (e row : Nat) (x y : Int) : ∀ q ∈ rkC (cells3 l) e row x y, q.1.all (flat 3) = true := by
  intro q hq
  simp only [List.mem_cons, List.not_mem_nil, or_false] at hq
  rcases hq with rfl | rfl
  · exact cells3_flat l
  · rfl
set_option maxRecDepth 100000 in
theorem rrk_loop (l : List P3) (n e row k : Nat) (x y : Int) (hn : l.length = n) (hle : n ≤ 65536) : ∀ (ac : AAct) (h : AHeap), Laid (rkC (cells3 l) e row x y) (Tryz.prog.globals.size + ·) h → ac.n = 27 → ac.marks = [] → [0, 3, 5, 6].map ac.tmp = [liP n k, ptN 1, gi 0, goN 0] →
    J Tryz.prog (.loop (loopOf Tryz.prog 67 0)) ac h (told 27 [0, 3, 5, 6] fun ex vs _ => ex = .exit 0 ∧ ∃ a b c, vs = [a, b, gi (rkF (x, y) 0 l), c]) := by
  refine fold_rule (L := 2) (C := fun _ => rkC (cells3 l) e row x y) globs_pos (by decide) (by decide) (fun _ => rfl) (fun _ => rk_flat l e row _ _) (V := fun at_ j => [.slice (some ⟨at_ 0, 0, none⟩) n k, .pointer (some ⟨at_ 1, 0, none⟩), gi (rkF (x, y) 0 (l.take j)), goN j]) (I := fun _ => True) (m := n) trivial _ _ (plus_nodup _ _) (fun q _ => Nat.le_add_right _ _) (fun j => by kernel_rfl) (fun j => by kernel_rfl)
    (fun at_ j q hq => by
      match q, hq with
      | 0, _ => exact ⟨(0, .slice (some ⟨at_ 0, 0, none⟩) n k), by simp, by simp [named]⟩
      | 1, _ => exact ⟨(3, .pointer (some ⟨at_ 1, 0, none⟩)), by simp, by simp [named]⟩) ?_ ?_
  · intro j hj _ g
    have hjl : j < l.length := by omega
    obtain ⟨⟨f0, f1, f2⟩, i0, i1, i2⟩ := cells3_at0 hjl
    have tk := rkF_take (x := (x, y)) hjl 0
    refine execC_ok mixed orcMb_ok askMb_ok (noLoops _) (Eq.mpr (rrk_body (cells3 l) n k e row j x y (rkF (x, y) 0 (l.take j)) g _) ⟨fun hlt => ⟨hlt, f0, f1, fun hx => ⟨hlt, f2, trivial, ?_, .two ?_ ?_⟩, fun hx => ⟨trivial, ?_, .two ?_ ?_⟩⟩, fun hge => ?_⟩)
    · rw [i0, i1] at hx
      rw [tk, show (!ilt 0 (cpR (frP l[j]) (x, y))) = true from hx, i2, fwrap_nat (by omega)]; rfl
    · exact gC_get (q := 0) rfl
    · exact gC_get (q := 1) rfl
    · rw [i0, i1] at hx
      rw [tk, show (!ilt 0 (cpR (frP l[j]) (x, y))) = false from hx, fwrap_nat (by omega)]; rfl
    · exact gC_get (q := 0) rfl
    · exact gC_get (q := 1) rfl
    · have := blt_false hge; omega
  · intro _ g
    refine execC_ok mixed orcMb_ok askMb_ok (noLoops _) (Eq.mpr (rrk_body (cells3 l) n k e row n x y (rkF (x, y) 0 (l.take n)) g _) ⟨fun hlt => ?_, fun _ => ?_⟩)
    · have := blt_true hlt; omega
    · refine ⟨rfl, liP n k, ptN 1, goN n, ?_⟩
      rw [List.take_of_length_le (by omega)]
end Go.Proofs.YtihnnmejkpddeaaGreatDoor
