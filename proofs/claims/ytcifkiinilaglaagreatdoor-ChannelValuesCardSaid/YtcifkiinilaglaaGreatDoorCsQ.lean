/-
  OWN WORK. Lists of values (two numbers and two truth values) as cells.
-/
import Derived.Test.YtcifkiinilaglaaGreatDoorCsG
namespace Go.Proofs.YtcifkiinilaglaaGreatDoor
open Go Go.Am

abbrev Q4 := Int × Int × Bool × Bool
noncomputable def q4 (q : Q4) : List Value := [gi q.1, gi q.2.1, .bool q.2.2.1, .bool q.2.2.2]
noncomputable def cellsQ : List Q4 → List Value
  | [] => []
  | q :: l => q4 q ++ cellsQ l
noncomputable def decQ : List Value → Option (List Q4)
  | [] => some []
  | .int .i64 a :: .int .i64 b :: .bool c :: .bool d :: r => (decQ r).map ((a, b, c, d) :: ·)
  | _ => none
theorem decQ_cells : ∀ l : List Q4, decQ (cellsQ l) = some l
  | [] => rfl
  | q :: l => by
    show (decQ (cellsQ l)).map ((q.1, q.2.1, q.2.2.1, q.2.2.2) :: ·) = _
    rw [decQ_cells l]; rfl
theorem decQ_some {c : List Value} {l : List Q4} (h : decQ c = some l) : c = cellsQ l := by
  induction c using decQ.induct generalizing l with
  | case1 => cases h; rfl
  | case2 a b c d r ih =>
    unfold decQ at h
    obtain ⟨l', hl, rfl⟩ := Option.map_eq_some_iff.1 h
    rw [ih hl]; rfl
  | case3 c h1 h2 =>
    unfold decQ at h
    split at h
    · exact absurd rfl h1
    · exact absurd rfl (h2 _ _ _ _ _)
    · cases h
theorem cellsQ_len : ∀ l : List Q4, (cellsQ l).length = l.length * 4
  | [] => rfl
  | q :: l => by
    show (q4 q ++ cellsQ l).length = _
    rw [List.length_append, cellsQ_len l, List.length_cons, show (q4 q).length = 4 from rfl]
    omega
theorem cellsQ_app : ∀ l m : List Q4, cellsQ (l ++ m) = cellsQ l ++ cellsQ m
  | [], m => rfl
  | q :: l, m => by
    show q4 q ++ cellsQ (l ++ m) = (q4 q ++ cellsQ l) ++ _
    rw [cellsQ_app l m, List.append_assoc]
theorem cellsQ_flat : ∀ l : List Q4, (cellsQ l).all (flat 3) = true
  | [] => rfl
  | q :: l => by
    show (q4 q ++ cellsQ l).all (flat 3) = true
    rw [List.all_append, cellsQ_flat l]
    rfl
theorem cellsQ_get {l : List Q4} {j i : Nat} (hj : j < l.length) (hi : i < 4) : (cellsQ l)[j * 4 + i]? = (q4 l[j])[i]? := by
  have h1 : cellsQ l = cellsQ (l.take j) ++ (q4 l[j] ++ cellsQ (l.drop (j + 1))) := by
    rw [show q4 l[j] ++ cellsQ (l.drop (j + 1)) = cellsQ (l.drop j) by rw [List.drop_eq_getElem_cons hj]; rfl, ← cellsQ_app, List.take_append_drop]
  have h2 : (cellsQ (l.take j)).length = j * 4 := by rw [cellsQ_len, List.length_take, Nat.min_eq_left (by omega)]
  rw [h1, List.getElem?_append_right (by omega), h2, Nat.add_sub_cancel_left, List.getElem?_append_left (by show i < 4; exact hi)]
theorem cellsQ_at {l : List Q4} {j : Nat} (hj : j < l.length) : ((cellsQ l)[0 + j * 4]? = some (gi (intAt (cellsQ l) (0 + j * 4))) ∧ (cellsQ l)[0 + j * 4 + 1]? = some (gi (intAt (cellsQ l) (0 + j * 4 + 1))) ∧ (cellsQ l)[0 + j * 4 + 1 + 1]? = some (.bool (boolAt (cellsQ l) (0 + j * 4 + 1 + 1))) ∧ (cellsQ l)[0 + j * 4 + 1 + 1 + 1]? = some (.bool (boolAt (cellsQ l) (0 + j * 4 + 1 + 1 + 1)))) ∧
    intAt (cellsQ l) (0 + j * 4) = l[j].1 ∧ intAt (cellsQ l) (0 + j * 4 + 1) = l[j].2.1 ∧ boolAt (cellsQ l) (0 + j * 4 + 1 + 1) = l[j].2.2.1 ∧ boolAt (cellsQ l) (0 + j * 4 + 1 + 1 + 1) = l[j].2.2.2 := by
  have e0 : (cellsQ l)[0 + j * 4]? = some (gi l[j].1) := by rw [Nat.zero_add]; exact cellsQ_get (i := 0) hj (by omega)
  have e1 : (cellsQ l)[0 + j * 4 + 1]? = some (gi l[j].2.1) := by rw [Nat.zero_add]; exact cellsQ_get (i := 1) hj (by omega)
  have e2 : (cellsQ l)[0 + j * 4 + 1 + 1]? = some (.bool l[j].2.2.1) := by rw [Nat.zero_add]; exact cellsQ_get (i := 2) hj (by omega)
  have e3 : (cellsQ l)[0 + j * 4 + 1 + 1 + 1]? = some (.bool l[j].2.2.2) := by rw [Nat.zero_add]; exact cellsQ_get (i := 3) hj (by omega)
  have i0 : intAt (cellsQ l) (0 + j * 4) = l[j].1 := by unfold intAt; rw [e0]
  have i1 : intAt (cellsQ l) (0 + j * 4 + 1) = l[j].2.1 := by unfold intAt; rw [e1]
  have i2 : boolAt (cellsQ l) (0 + j * 4 + 1 + 1) = l[j].2.2.1 := by unfold boolAt; rw [e2]
  have i3 : boolAt (cellsQ l) (0 + j * 4 + 1 + 1 + 1) = l[j].2.2.2 := by unfold boolAt; rw [e3]
  rw [i0, i1, i2, i3]
  exact ⟨⟨e0, e1, e2, e3⟩, rfl, rfl, rfl, rfl⟩
theorem cellsQ_take {l : List Q4} {j : Nat} (hj : j < l.length) : cellsQ (l.take (j + 1)) = cellsQ (l.take j) ++ q4 l[j] := by
  rw [List.take_add_one, List.getElem?_eq_getElem hj, cellsQ_app]
  show _ ++ (q4 l[j] ++ []) = _
  rw [List.append_nil]
theorem cellsQ_nil {l : List Q4} {j : Nat} (hj : j ≤ l.length) (h : cellsQ (l.take j) = []) : j = 0 := by
  have := congrArg List.length h
  rw [cellsQ_len, List.length_take, Nat.min_eq_left hj] at this
  simp at this
  omega
end Go.Proofs.YtcifkiinilaglaaGreatDoor
