/-
  OWN WORK. Stage 8: the loops that search, and the reference's.
-/
import Derived.Test.YtkggjnjiggekeaaGreatDoorPuL
namespace Go.Proofs.YtkggjnjiggekeaaGreatDoor
open Go Go.Am

noncomputable def idxB {α : Type} (f : α → Bool) : List α → Nat → Int
  | [], _ => -1
  | x :: r, i => bif f x then Int.ofNat i else idxB f r (i + 1)
theorem idxB_drop {α : Type} {f : α → Bool} {l : List α} {j : Nat} (hj : j < l.length) : idxB f (l.drop j) j = bif f l[j] then Int.ofNat j else idxB f (l.drop (j + 1)) (j + 1) := by
  rw [List.drop_eq_getElem_cons hj]; rfl
theorem idxB_end {α : Type} {f : α → Bool} {l : List α} {j : Nat} (hj : l.length ≤ j) : idxB f (l.drop j) j = -1 := by
  rw [List.drop_eq_nil_of_le hj]; rfl
noncomputable def mxL : Int → List Int → Int
  | M, [] => M
  | M, x :: r => mxL (if x > M then x else M) r
theorem mxL_app : ∀ (l : List Int) (M x : Int), mxL M (l ++ [x]) = if x > mxL M l then x else mxL M l
  | [], _, _ => rfl
  | y :: r, M, x => mxL_app r (if y > M then y else M) x
/-! IndexFunc. -/
set_option maxRecDepth 100000 in
theorem ixf_loop (l : List P2) (e row k : Nat) (hl : l.length ≤ 65536) : ∀ a : AAct, a.n = 19 → a.marks = [] → [0, 1, 4, 7, 8].map a.tmp = [liP l.length k, cIn, gi 0, goN l.length, goN 0] →
    J Tryz.prog (.loop (loopOf Tryz.prog 124 0)) a (liH (cellsP l) e row) (told 19 [0, 1, 4, 7, 8] fun ex vs h => h = liH (cellsP l) e row ∧ ((ex = .exit 0 ∧ idxB isO l 0 = -1) ∨ (ex = .ret ∧ ∃ j, vs = [liP l.length k, cIn, gi (idxB isO l 0), goN l.length, goN j]))) := by
  refine scan_rule _ (fun j => [liP l.length k, cIn, gi 0, goN l.length, goN j]) (fun j => idxB isO l 0 = idxB isO (l.drop j) j) l.length rfl _ ?_ ?_
  · intro j hj hI g
    refine execC_ok mixed orcPg_ok askPg_ok (noLoops _) (Eq.mpr (ixf_body _ e row _ k j g _) ⟨fun hlt => ?_, fun hge => absurd (blt_false hge) (by omega)⟩)
    obtain ⟨⟨h1, h1'⟩, h2, h2'⟩ := cellsP_at hj
    rw [idxB_drop hj] at hI
    refine ⟨hlt, h1, h1', fun h3 => ⟨rfl, .inr ⟨rfl, j, ?_⟩⟩, fun h3 => ⟨?_, ?_, rfl⟩⟩
    · rw [h2, h2'] at h3
      have h3 : isO l[j] = true := h3
      rw [hI, h3]; rfl
    · rw [h2, h2'] at h3
      have h3 : isO l[j] = false := h3
      rw [hI, h3]; rfl
    · rw [fwrap_nat (by omega)]
  · intro hI g
    exact execC_ok mixed orcPg_ok askPg_ok (noLoops _) (Eq.mpr (ixf_body _ e row _ k _ g _) ⟨fun hlt => absurd (blt_true hlt) (by omega), fun _ => ⟨rfl, .inl ⟨rfl, by rw [hI, idxB_end (Nat.le_refl _)]⟩⟩⟩)
/-! Index. -/
set_option maxRecDepth 100000 in
theorem idx_loop (l : List Int) (x : Int) (e row k : Nat) (hl : l.length ≤ 65536) : ∀ a : AAct, a.n = 19 → a.marks = [] → [0, 1, 4, 7, 8].map a.tmp = [liP l.length k, gi x, gi 0, goN l.length, goN 0] →
    J Tryz.prog (.loop (loopOf Tryz.prog 88 0)) a (liH (l.map gi) e row) (told 19 [0, 1, 4, 7, 8] fun ex vs h => h = liH (l.map gi) e row ∧ ((ex = .exit 0 ∧ idxB (ieq x) l 0 = -1) ∨ (ex = .ret ∧ ∃ j, vs = [liP l.length k, gi x, gi (idxB (ieq x) l 0), goN l.length, goN j]))) := by
  refine scan_rule _ (fun j => [liP l.length k, gi x, gi 0, goN l.length, goN j]) (fun j => idxB (ieq x) l 0 = idxB (ieq x) (l.drop j) j) l.length rfl _ ?_ ?_
  · intro j hj hI g
    refine execC_ok mixed orcPg_ok askPg_ok (noLoops _) (Eq.mpr (idx_body _ e row _ k j x g _) ⟨fun hlt => ?_, fun hge => absurd (blt_false hge) (by omega)⟩)
    obtain ⟨h1, h2⟩ := first_at hj
    rw [idxB_drop hj] at hI
    refine ⟨hlt, h1, fun h3 => ⟨rfl, .inr ⟨rfl, j, ?_⟩⟩, fun h3 => ⟨?_, ?_, rfl⟩⟩
    · rw [h2] at h3
      rw [hI, h3]; rfl
    · rw [h2] at h3
      rw [hI, h3]; rfl
    · rw [fwrap_nat (by omega)]
  · intro hI g
    exact execC_ok mixed orcPg_ok askPg_ok (noLoops _) (Eq.mpr (idx_body _ e row _ k _ x g _) ⟨fun hlt => absurd (blt_true hlt) (by omega), fun _ => ⟨rfl, .inl ⟨rfl, by rw [hI, idxB_end (Nat.le_refl _)]⟩⟩⟩)
/-! Max. -/
set_option maxRecDepth 100000 in
theorem max_loop (y : Int) (l : List Int) (e row k : Nat) (hl : l.length < 65536) : ∀ a : AAct, a.n = 25 → a.marks = [] → [0, 3, 4].map a.tmp = [liP (l.length + 1) k, gi y, goN 1] →
    J Tryz.prog (.loop (loopOf Tryz.prog 87 0)) a (liH ((y :: l).map gi) e row) (told 25 [0, 3, 4] fun ex vs h => h = liH ((y :: l).map gi) e row ∧ ex = .exit 0 ∧ ∃ v, vs = [liP (l.length + 1) k, gi (mxL y l), v]) := by
  refine scan_rule _ (fun j => [liP (l.length + 1) k, gi (mxL y (l.take j)), goN (j + 1)]) (fun _ => True) l.length trivial _ ?_ ?_
  · intro j hj _ g
    refine execC_ok mixed orcPg_ok askPg_ok (noLoops _) (Eq.mpr (max_body _ e row _ k (j + 1) (mxL y (l.take j)) g _) ⟨fun hlt => ?_, fun hge => absurd (blt_false hge) (by omega)⟩)
    obtain ⟨h1, h2⟩ := first_at (l := y :: l) (j := j + 1) (by simpa using hj)
    refine ⟨hlt, h1, trivial, ?_, rfl⟩
    rw [h2, fwrap_nat (by omega), List.take_add_one, List.getElem?_eq_getElem hj]
    show _ = [_, gi (mxL y (l.take j ++ [l[j]])), _]
    rw [mxL_app]; rfl
  · intro _ g
    refine execC_ok mixed orcPg_ok askPg_ok (noLoops _) (Eq.mpr (max_body _ e row _ k (l.length + 1) (mxL y (l.take l.length)) g _) ⟨fun hlt => absurd (blt_true hlt) (by omega), fun _ => ⟨rfl, rfl, goN (l.length + 1), ?_⟩⟩)
    rw [List.take_length]
/-! The reference's Inside. -/
noncomputable def inB (x : T3) : Bool := !(ilt x.2.2 x.1) && !(ilt x.2.1 x.2.2)
noncomputable def insB : List T3 → Bool
  | [] => true
  | x :: r => inB x && insB r
theorem insB_drop {T : List T3} {j : Nat} (hj : j < T.length) : insB (T.drop j) = (inB T[j] && insB (T.drop (j + 1))) := by
  rw [List.drop_eq_getElem_cons hj]; rfl
theorem insB_end {T : List T3} {j : Nat} (hj : T.length ≤ j) : insB (T.drop j) = true := by
  rw [List.drop_eq_nil_of_le hj]; rfl
theorem zc_at {T : List T3} {j : Nat} (hj : j < T.length) : (((cellsP (zc T))[0 + j * 2]? = some (gi (intAt (cellsP (zc T)) (0 + j * 2))) ∧ (cellsP (zc T))[0 + j * 2 + 1]? = some (gi (intAt (cellsP (zc T)) (0 + j * 2 + 1)))) ∧ intAt (cellsP (zc T)) (0 + j * 2) = T[j].1 ∧ intAt (cellsP (zc T)) (0 + j * 2 + 1) = T[j].2.1) ∧ ((zp T).map gi)[0 + j * 1]? = some (gi (intAt ((zp T).map gi) (0 + j * 1))) ∧ intAt ((zp T).map gi) (0 + j * 1) = T[j].2.2 := by
  have hc : j < (zc T).length := by unfold zc; rw [List.length_map]; exact hj
  have hp : j < (zp T).length := by unfold zp; rw [List.length_map]; exact hj
  obtain ⟨a1, a2, a3⟩ := cellsP_at hc
  obtain ⟨b1, b2⟩ := first_at hp
  have ec : (zc T)[j] = (T[j].1, T[j].2.1) := List.getElem_map (fun x : T3 => (x.1, x.2.1))
  have ep : (zp T)[j] = T[j].2.2 := List.getElem_map (fun x : T3 => x.2.2)
  exact ⟨⟨a1, by rw [a2, ec], by rw [a3, ec]⟩, b1, by rw [b2, ep]⟩
set_option maxRecDepth 100000 in
theorem rin_loop (T : List T3) (e row k e' row' k' : Nat) (hl : T.length ≤ 65536) : ∀ a : AAct, a.n = 34 → a.marks = [] → [0, 1, 4, 5].map a.tmp = [liP T.length k, slQ T.length k', .bool false, goN 0] →
    J Tryz.prog (.loop (loopOf Tryz.prog 35 0)) a (cn2 (zc T) e row (zp T) e' row') (told 34 [0, 1, 4, 5] fun ex vs h => h = cn2 (zc T) e row (zp T) e' row' ∧ ((ex = .exit 0 ∧ insB T = true) ∨ (ex = .ret ∧ insB T = false ∧ ∃ j, vs = [liP T.length k, slQ T.length k', .bool false, goN j]))) := by
  refine scan_rule _ (fun j => [liP T.length k, slQ T.length k', .bool false, goN j]) (fun j => insB T = insB (T.drop j)) T.length rfl _ ?_ ?_
  · intro j hj hI g
    refine execC_ok mixed orcPg_ok askPg_ok (noLoops _) (Eq.mpr (rin_body _ _ e row e' row' _ k _ k' j g _) ⟨fun hlt => ?_, fun hge => absurd (blt_false hge) (by omega)⟩)
    obtain ⟨⟨⟨a1, a1'⟩, a2, a3⟩, b1, b2⟩ := zc_at hj
    rw [insB_drop hj] at hI
    refine ⟨hlt, b1, hlt, a1, fun h3 => ⟨rfl, .inr ⟨rfl, ?_, j, rfl⟩⟩, fun h3 => ⟨hlt, b1, hlt, a1', fun h4 => ⟨rfl, .inr ⟨rfl, ?_, j, rfl⟩⟩, fun h4 => ⟨?_, ?_, rfl⟩⟩⟩
    · have h3 : ilt (intAt ((zp T).map gi) (0 + j * 1)) (intAt (cellsP (zc T)) (0 + j * 2)) = true := h3
      rw [b2, a2] at h3
      rw [hI]; unfold inB; rw [h3]; rfl
    · rw [b2, a3] at h4
      rw [hI]; unfold inB; rw [h4]; simp
    · have h3 : ilt (intAt ((zp T).map gi) (0 + j * 1)) (intAt (cellsP (zc T)) (0 + j * 2)) = false := h3
      rw [b2, a2] at h3
      rw [b2, a3] at h4
      rw [hI]; unfold inB; rw [h3, h4]; rfl
    · rw [fwrap_nat (by omega)]
  · intro hI g
    exact execC_ok mixed orcPg_ok askPg_ok (noLoops _) (Eq.mpr (rin_body _ _ e row e' row' _ k _ k' _ g _) ⟨fun hlt => absurd (blt_true hlt) (by omega), fun _ => ⟨rfl, .inl ⟨rfl, by rw [hI, insB_end (Nat.le_refl _)]⟩⟩⟩)
end Go.Proofs.YtkggjnjiggekeaaGreatDoor
