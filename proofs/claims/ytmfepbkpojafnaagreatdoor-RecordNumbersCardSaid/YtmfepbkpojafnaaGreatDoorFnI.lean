/-
  OWN WORK. Permutations, as the reference makes them.
-/
import Derived.Test.YtmfepbkpojafnaaGreatDoorFnH
import Derived.Test.YtmfepbkpojafnaaGreatDoorAmZd
namespace Go.Proofs.YtmfepbkpojafnaaGreatDoor
open Go Go.Am

noncomputable def orcH : Orc := orElse 10 drawO orcF
theorem orcH_ok : OrcOk Tryz.prog orcH := drawO_ok
noncomputable abbrev ic (c : List Value) : AObj := .cells c 3 2 false
noncomputable abbrev CH (c : List Value) : AHeap := ((emp Tryz.prog).push (ic c)).push .dead
noncomputable abbrev slB (b q : Nat) : Value := .slice (some ⟨b, 0, none⟩) q q
noncomputable abbrev N0 : Nat := Tryz.prog.globals.size
noncomputable abbrev HB (c : List Value) (j : Nat) : AHeap := (((CH c).push (ic [goN j])).set N0 .dead).push (ic (c ++ [goN j]))
theorem build_first (q : Nat) (n : Int) (g : Nat → Value) (Q : Exit → List Value → AHeap → Prop) :
    execC Tryz.prog (exec Tryz.prog orcH 10) (syOf [(14, 1)]) noAsks (noLoops _) 40 (loopOf Tryz.prog 12 0) (stOf 53 [(0, gi n), (1, goN q), (5, nilS), (6, goN 0)] g) (emp Tryz.prog) (told 53 [0, 1, 5, 6] Q) =
    ((Nat.blt 0 q = true → Q .normal [gi n, goN q, slB (N0 + 1) 1, goN 1] (((emp Tryz.prog).push (ic [goN 0])).push (ic [goN 0]))) ∧
     (Nat.blt 0 q = false → Q (.exit 0) [gi n, goN q, nilS, goN 0] (emp Tryz.prog))) := by kernel_rfl
theorem build_body (c : List Value) (q j : Nat) (n : Int) (g : Nat → Value) (Q : Exit → List Value → AHeap → Prop) :
    execC Tryz.prog (exec Tryz.prog orcH 10) (syOf [(14, 1), (20, 10)]) noAsks (noLoops _) 40 (loopOf Tryz.prog 12 0) (stOf 53 [(0, gi n), (1, goN q), (5, slB N0 j), (6, goN j)] g) (CH c) (told 53 [0, 1, 5, 6] Q) =
    ((Nat.blt j q = true → Nat.ble (j + 1) j = false ∧ Nat.ble ((2 * (j + 1) + 256) * 8) 281474976710656 = true ∧ j * 1 = c.length ∧ Q .normal [gi n, goN q, slB (N0 + 3) (j + 1), .int .i64 (fwrap .i64 (Int.ofNat (j + 1)))] (HB c j)) ∧
     (Nat.blt j q = false → Q (.exit 0) [gi n, goN q, slB N0 j, goN j] (CH c))) := by kernel_rfl
theorem Shuf_body (c : List Value) (q : Nat) (x v : Int) (g : Nat → Value) (Q : Exit → List Value → AHeap → Prop) :
    execC Tryz.prog (exec Tryz.prog orcH 10) (syOf [(25, 1), (35, 6), (38, 2), (39, 3), (42, 2), (43, 3), (47, 2), (10047, 4), (51, 2), (10051, 4)]) noAsks (noLoops _) 40 (loopOf Tryz.prog 12 2) (stOf 53 [(5, slB N0 q), (7, gi x), (8, gi v)] g) (CH c) (told 53 [5, 7, 8] Q) =
    (((!ilt v 1) = true → fwrap .i64 (v + 1) ≠ 0 ∧ ahasIndex v q = true ∧ c[at1 v]? = some (gi (intAt c (at1 v))) ∧ ahasIndex (kX x v) q = true ∧ c[at1 (kX x v)]? = some (gi (intAt c (at1 (kX x v)))) ∧
        ahasIndex v q = true ∧ Nat.ble (at1 v + 1) c.length = true ∧ ahasIndex (kX x v) q = true ∧ Nat.ble (at1 (kX x v) + 1) (splice c (at1 v) [gi (intAt c (at1 (kX x v)))]).length = true ∧
        Q .normal [slB N0 q, gi (stepX x), .int .i64 (fwrap .i64 (v - 1))] (CH (swC c v (kX x v)))) ∧
     ((!ilt v 1) = false → Q (.exit 2) [slB N0 q, gi x, gi v] (CH c))) := by kernel_rfl
set_option maxRecDepth 100000 in
theorem hbR (q : Nat) : ∀ c x v g (Q : Exit → List Value → AHeap → Prop), ShufC c q x v (Q .normal [slB N0 q, gi (stepX x), .int .i64 (fwrap .i64 (v - 1))] (CH (swC c v (kX x v)))) (Q (.exit 2) [slB N0 q, gi x, gi v] (CH c)) →
    J Tryz.prog (loopOf Tryz.prog 12 2) (stOf 53 [(5, slB N0 q), (7, gi x), (8, gi v)] g) (CH c) (told 53 [5, 7, 8] Q) := fun c x v g Q hq =>
  execC_ok mixed orcH_ok (noAsks_ok _) (noLoops _) (Eq.mpr (Shuf_body c q x v g Q) ⟨fun h => by
    obtain ⟨h1, h2, h3, h4, h5, h6, h7, h8⟩ := hq.1 h
    exact ⟨h1, h4, h5, h2, h3, h4, h6, h2, h7, h8⟩, hq.2⟩)
theorem Draw_zero (n : Int) : (call Tryz.prog orcH 60 12 #[gi n, goN 0] (emp Tryz.prog)).map (·.1) = some nilS := by kernel_rfl
theorem CH_get (c : List Value) : (CH c).get N0 = some (ic c) := by
  rw [AHeap.get_push, if_neg (by exact Nat.ne_of_lt (Nat.lt_succ_self _)), AHeap.get_push]
  exact if_pos rfl
theorem CH_dead (c : List Value) : ∀ j, j ≠ N0 → j < (CH c).n → ∀ o, (CH c).get j = some o → o = .dead := by
  intro j h1 _ o ho
  rw [AHeap.get_push, AHeap.get_push] at ho
  split at ho
  · cases ho; rfl
  · split at ho
    · rename_i h2
      exact (h1 h2).elim
    · cases ho
theorem HB_get (c : List Value) (j : Nat) : (HB c j).get (N0 + 3) = some (ic (c ++ [goN j])) := by
  rw [AHeap.get_push]
  exact if_pos rfl
theorem rangeL_succ (j : Nat) : rangeL (j + 1) = rangeL j ++ [Int.ofNat j] := by simp [rangeL, List.range_succ]
theorem stOf_tmp {n : Nat} {l : List (Nat × Value)} {g : Nat → Value} {t : Nat} (ht : t < n) : (stOf n l g).tmp t = ov l g t := by
  simp only [stOf, AAct.tmp, get_lit, if_pos ht, Option.getD_some]
theorem CH_view {h : AHeap} {b : Nat} {l : List Int} (hg : h.get b = some (ic (l.map gi))) : View Tryz.prog h (CH (l.map gi)) (preOne N0 b) :=
  View.one (Nat.le_refl _) hg (flat_ints l) (CH_get _) (Nat.lt_succ_of_lt (Nat.lt_succ_self _)) (CH_dead _)
end Go.Proofs.YtmfepbkpojafnaaGreatDoor
