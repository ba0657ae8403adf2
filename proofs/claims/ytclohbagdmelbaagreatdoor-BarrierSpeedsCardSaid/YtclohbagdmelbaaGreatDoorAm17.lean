/-
  OWN WORK. 'Am': as growC_rule of Am10, for elements of several cells.
-/
import Derived.Test.YtclohbagdmelbaaGreatDoorAm10
namespace Go.Am
section
variable {P : Program}
/-- As Grown, with blocks C that stay as they are, the first ones. -/
def GrownW (P : Program) (C : List Blk) (el rw : Nat) (V : Nat → Value → List Value) (ln : Nat → Nat) (xs : Nat → List Value) (j : Nat) (vs : List Value) (h : AHeap) : Prop :=
  (∀ (q : Nat) b, C[q]? = some b → h.get (P.globals.size + q) = some (.cells b.1 b.2.1 b.2.2.1 b.2.2.2)) ∧
    ((xs j = [] ∧ vs = V j (.slice none 0 0)) ∨ ∃ b d, b = P.globals.size + C.length + d ∧ d ≤ 3 ∧ xs j ≠ [] ∧ vs = V j (.slice (some ⟨b, 0, none⟩) (ln j) (ln j)) ∧ h.get b = some (.cells (xs j) el rw false))
noncomputable abbrev gW (P : Program) (C : List Blk) (c : List Value) (el rw : Nat) : AHeap := canonT [] (fun _ => 0) P.globals.size (C ++ [(c, el, rw, false)])
theorem gW_get {C : List Blk} {q : Nat} {b : Blk} {c : List Value} {el rw : Nat} (hb : C[q]? = some b) : (gW P C c el rw).get (P.globals.size + q) = some (.cells b.1 b.2.1 b.2.2.1 b.2.2.2) :=
  gC_get (by rw [List.getElem?_append_left (List.getElem?_eq_some_iff.1 hb).1]; exact hb)
theorem gW_dst {C : List Blk} {c : List Value} {el rw : Nat} : (gW P C c el rw).get (P.globals.size + C.length) = some (.cells c el rw false) :=
  gC_get (b := (c, el, rw, false)) (by simp)
theorem growW_rule {n : Nat} {ts : List Nat} {body : Code} {C : List Blk} {el rw : Nat} (hP : 0 < P.globals.size) (hts : ts.Nodup) (hlt : ∀ t ∈ ts, t < n) (hsf : ∀ b ∈ C, b.1.all (flat 3) = true)
    (V : Nat → Value → List Value) (ln : Nat → Nat) (xs : Nat → List Value) (m : Nat) (Out : Exit → List Value → AHeap → Prop) (hxf : ∀ j, (xs j).all (flat 3) = true)
    (hr0 : ∀ j, amapM (renV P.globals.size ((List.range C.length).map (P.globals.size + ·))) (V j (.slice none 0 0)) = some (V j (.slice none 0 0)))
    (hr : ∀ j q d, d ≤ 3 → amapM (renV P.globals.size ((List.range C.length).map (P.globals.size + ·) ++ [P.globals.size + C.length + d])) (V j (.slice (some ⟨P.globals.size + C.length + d, 0, none⟩) q q)) = some (V j (.slice (some ⟨P.globals.size + C.length, 0, none⟩) q q)))
    (hn0 : ∀ j s (q : Nat), q < C.length → ∃ x ∈ ts.zip (V j s), P.globals.size + q ∈ named x.2) (hn1 : ∀ j b q, ∃ x ∈ ts.zip (V j (.slice (some ⟨b, 0, none⟩) q q)), b ∈ named x.2)
    (stepN : ∀ j, j < m → xs j = [] → ∀ g, J P body (stOf n (ts.zip (V j (.slice none 0 0))) g) (gC P C) (told n ts fun ex vs h => match ex with
      | .normal => GrownW P C el rw V ln xs (j + 1) vs h
      | ex => Out ex vs h))
    (stepS : ∀ j, j < m → xs j ≠ [] → ∀ g, J P body (stOf n (ts.zip (V j (.slice (some ⟨P.globals.size + C.length, 0, none⟩) (ln j) (ln j)))) g) (gW P C (xs j) el rw) (told n ts fun ex vs h => match ex with
      | .normal => GrownW P C el rw V ln xs (j + 1) vs h
      | ex => Out ex vs h))
    (endN : xs m = [] → ∀ g, J P body (stOf n (ts.zip (V m (.slice none 0 0))) g) (gC P C) (told n ts fun ex vs h => match ex with
      | .normal => False
      | ex => Out ex vs h))
    (endS : xs m ≠ [] → ∀ g, J P body (stOf n (ts.zip (V m (.slice (some ⟨P.globals.size + C.length, 0, none⟩) (ln m) (ln m)))) g) (gW P C (xs m) el rw) (told n ts fun ex vs h => match ex with
      | .normal => False
      | ex => Out ex vs h)) :
    ∀ a h, GrownW P C el rw V ln xs 0 (ts.map a.tmp) h → a.n = n → a.marks = [] → J P (.loop body) a h (told n ts Out) := by
  intro a h hi ha hm
  have at0 : ∀ (q i : Nat), ((List.range C.length).map (P.globals.size + ·))[q]? = some i → i = P.globals.size + q := fun q i hi => by
    rw [List.getElem?_map] at hi
    obtain ⟨x, hx, rfl⟩ := Option.map_eq_some_iff.1 hi
    rw [List.getElem?_range (by simpa using (List.getElem?_eq_some_iff.1 hx).1)] at hx
    cases hx; rfl
  have mem0 : ∀ i, i ∈ (List.range C.length).map (P.globals.size + ·) → ∃ q, q < C.length ∧ i = P.globals.size + q := fun i hi => by
    obtain ⟨q, hq, rfl⟩ := List.mem_map.1 hi
    exact ⟨q, by simpa using hq, rfl⟩
  have nod : ((List.range C.length).map (P.globals.size + ·)).Nodup := List.Pairwise.map _ (fun a b h e => h (by omega)) List.nodup_range
  refine loop_rule (fun q vs h => ∃ j, j ≤ m ∧ q = m - j ∧ GrownW P C el rw V ln xs j vs h) Out ?_ m _ h a ⟨0, Nat.zero_le _, rfl, hi⟩ ha hm rfl
  rintro q vs h g ⟨j, hj, rfl, hs, ⟨hx, rfl⟩ | ⟨b, d, rfl, hd3, hx, rfl, hd⟩⟩
  · refine J.reheap (es := fun _ => 0) (vs₂ := V j (.slice none 0 0)) (B := C) (ids := (List.range C.length).map (P.globals.size + ·)) hP hts hlt (by simp) nod (fun i hi => by obtain ⟨q, _, rfl⟩ := mem0 i hi; omega) ?_ (hr0 j) ?_ fun g' => ?_
    · intro q b' i hb hi
      obtain rfl := at0 q i hi
      exact ⟨hs q b' hb, hsf b' (List.mem_of_getElem? hb)⟩
    · intro i hi
      obtain ⟨q, hq, rfl⟩ := mem0 i hi
      exact hn0 j _ q hq
    · by_cases hjm : j < m
      · refine (stepN j hjm hx g').mono fun ex a' h' q => ?_
        obtain ⟨q1, q2, q3⟩ := told_facts q
        simp only [told, q1, q2]
        cases ex with
        | normal => exact (by simpa using ⟨m - (j + 1), by omega, j + 1, by omega, rfl, q3⟩)
        | _ => simpa using q3
      · obtain rfl : j = m := by omega
        refine (endN hx g').mono fun ex a' h' q => ?_
        obtain ⟨q1, q2, q3⟩ := told_facts q
        simp only [told, q1, q2]
        cases ex with
        | normal => exact q3.elim
        | _ => simpa using q3
  · refine J.reheap (es := fun _ => 0) (vs₂ := V j (.slice (some ⟨P.globals.size + C.length, 0, none⟩) (ln j) (ln j))) (B := C ++ [(xs j, el, rw, false)]) (ids := (List.range C.length).map (P.globals.size + ·) ++ [P.globals.size + C.length + d]) hP hts hlt (by simp) ?_ (fun i hi => by
      rcases List.mem_append.1 hi with hi | hi
      · obtain ⟨q, _, rfl⟩ := mem0 i hi; omega
      · have := List.mem_singleton.1 hi; omega) ?_ (hr j _ d hd3) ?_ fun g' => ?_
    · rw [List.nodup_append]
      refine ⟨nod, by simp, fun x hx y hy e => ?_⟩
      obtain ⟨q, hq, rfl⟩ := mem0 x hx
      have := List.mem_singleton.1 hy
      omega
    · intro q b' i hb hi
      by_cases hq : q < C.length
      · rw [List.getElem?_append_left hq] at hb
        rw [List.getElem?_append_left (by simpa using hq)] at hi
        obtain rfl := at0 q i hi
        exact ⟨hs q b' hb, hsf b' (List.mem_of_getElem? hb)⟩
      · rw [List.getElem?_append_right (by omega)] at hb
        rw [List.getElem?_append_right (by simpa using Nat.le_of_not_lt hq)] at hi
        simp only [List.length_map, List.length_range] at hi
        match hqq : q - C.length, hb, hi with
        | 0, hb, hi => cases hb; cases hi; exact ⟨hd, hxf j⟩
    · intro i hi
      rcases List.mem_append.1 hi with hi | hi
      · obtain ⟨q, hq, rfl⟩ := mem0 i hi
        exact hn0 j _ q hq
      · obtain rfl := List.mem_singleton.1 hi
        exact hn1 j _ _
    · by_cases hjm : j < m
      · refine (stepS j hjm hx g').mono fun ex a' h' q => ?_
        obtain ⟨q1, q2, q3⟩ := told_facts q
        simp only [told, q1, q2]
        cases ex with
        | normal => exact (by simpa using ⟨m - (j + 1), by omega, j + 1, by omega, rfl, q3⟩)
        | _ => simpa using q3
      · obtain rfl : j = m := by omega
        refine (endS hx g').mono fun ex a' h' q => ?_
        obtain ⟨q1, q2, q3⟩ := told_facts q
        simp only [told, q1, q2]
        cases ex with
        | normal => exact q3.elim
        | _ => simpa using q3
end
end Go.Am
