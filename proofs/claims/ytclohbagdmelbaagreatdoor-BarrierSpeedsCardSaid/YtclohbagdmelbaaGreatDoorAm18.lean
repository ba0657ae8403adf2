/-
  OWN WORK. 'Am': loops over blocks that stay where they are, whatever they hold after each round.
-/
import Derived.Test.YtclohbagdmelbaaGreatDoorAm17
namespace Go.Am
section
variable {P : Program}
/-- These blocks lie at these places. -/
def Laid (C : List Blk) (at_ : Nat → Nat) (h : AHeap) : Prop := ∀ (q : Nat) b, C[q]? = some b → h.get (at_ q) = some (.cells b.1 b.2.1 b.2.2.1 b.2.2.2)
theorem Laid.two {x y : Blk} {at_ : Nat → Nat} {h : AHeap} (h0 : h.get (at_ 0) = some (.cells x.1 x.2.1 x.2.2.1 x.2.2.2)) (h1 : h.get (at_ 1) = some (.cells y.1 y.2.1 y.2.2.1 y.2.2.2)) : Laid [x, y] at_ h := fun q b hb => by
  match q, hb with
  | 0, hb => cases hb; exact h0
  | 1, hb => cases hb; exact h1
theorem Laid.one {x : Blk} {at_ : Nat → Nat} {h : AHeap} (h0 : h.get (at_ 0) = some (.cells x.1 x.2.1 x.2.2.1 x.2.2.2)) : Laid [x] at_ h := fun q b hb => by
  match q, hb with
  | 0, hb => cases hb; exact h0
theorem Laid.three {x y z : Blk} {at_ : Nat → Nat} {h : AHeap} (h0 : h.get (at_ 0) = some (.cells x.1 x.2.1 x.2.2.1 x.2.2.2)) (h1 : h.get (at_ 1) = some (.cells y.1 y.2.1 y.2.2.1 y.2.2.2)) (h2 : h.get (at_ 2) = some (.cells z.1 z.2.1 z.2.2.1 z.2.2.2)) : Laid [x, y, z] at_ h := fun q b hb => by
  match q, hb with
  | 0, hb => cases hb; exact h0
  | 1, hb => cases hb; exact h1
  | 2, hb => cases hb; exact h2
/-- A loop whose rounds are counted, over blocks (L of them) whose contents are those of the round; V tells the temporaries, by the places of the blocks and the round. -/
theorem fold_rule {n : Nat} {ts : List Nat} {body : Code} (L : Nat) (C : Nat → List Blk) (hP : 0 < P.globals.size) (hts : ts.Nodup) (hlt : ∀ t ∈ ts, t < n)
    (hC : ∀ j, (C j).length = L) (hsf : ∀ j, ∀ b ∈ C j, b.1.all (flat 3) = true)
    (V : (Nat → Nat) → Nat → List Value) (I : Nat → Prop) (m : Nat) (hI : I 0) (Out : Exit → List Value → AHeap → Prop) (at₀ : Nat → Nat) (hnd : ((List.range L).map at₀).Nodup) (hge : ∀ q, q < L → P.globals.size ≤ at₀ q)
    (hr₀ : ∀ j, amapM (renV P.globals.size ((List.range L).map at₀)) (V at₀ j) = some (V (P.globals.size + ·) j))
    (hr : ∀ j, amapM (renV P.globals.size ((List.range L).map (P.globals.size + ·))) (V (P.globals.size + ·) j) = some (V (P.globals.size + ·) j))
    (hn : ∀ at_ j q, q < L → ∃ x ∈ ts.zip (V at_ j), at_ q ∈ named x.2)
    (step : ∀ j, j < m → I j → ∀ g, J P body (stOf n (ts.zip (V (P.globals.size + ·) j)) g) (canonT [] (fun _ => 0) P.globals.size (C j)) (told n ts fun ex vs h => match ex with
      | .normal => I (j + 1) ∧ vs = V (P.globals.size + ·) (j + 1) ∧ Laid (C (j + 1)) (P.globals.size + ·) h
      | ex => Out ex vs h))
    (last : I m → ∀ g, J P body (stOf n (ts.zip (V (P.globals.size + ·) m)) g) (canonT [] (fun _ => 0) P.globals.size (C m)) (told n ts fun ex vs h => match ex with
      | .normal => False
      | ex => Out ex vs h)) :
    ∀ a h, Laid (C 0) at₀ h → a.n = n → a.marks = [] → ts.map a.tmp = V at₀ 0 → J P (.loop body) a h (told n ts Out) := by
  intro a h hi ha hm hv
  have round : ∀ (at_ : Nat → Nat) (j : Nat) (h : AHeap) (g : Nat → Value) (Q : Post), ((List.range L).map at_).Nodup → (∀ q, q < L → P.globals.size ≤ at_ q) → amapM (renV P.globals.size ((List.range L).map at_)) (V at_ j) = some (V (P.globals.size + ·) j) → Laid (C j) at_ h →
      (∀ g, J P body (stOf n (ts.zip (V (P.globals.size + ·) j)) g) (canonT [] (fun _ => 0) P.globals.size (C j)) Q) → J P body (stOf n (ts.zip (V at_ j)) g) h Q := by
    intro at_ j h g Q hnd hge hr hl hq
    have at0 : ∀ (q i : Nat), ((List.range L).map at_)[q]? = some i → q < L ∧ i = at_ q := fun q i hi => by
      rw [List.getElem?_map] at hi
      obtain ⟨x, hx, rfl⟩ := Option.map_eq_some_iff.1 hi
      have hq : q < L := by simpa using (List.getElem?_eq_some_iff.1 hx).1
      rw [List.getElem?_range hq] at hx
      cases hx; exact ⟨hq, rfl⟩
    have mem0 : ∀ i, i ∈ (List.range L).map at_ → ∃ q, q < L ∧ i = at_ q := fun i hi => by
      obtain ⟨q, hq, rfl⟩ := List.mem_map.1 hi
      exact ⟨q, by simpa using hq, rfl⟩
    refine J.reheap (es := fun _ => 0) (vs₂ := V (P.globals.size + ·) j) (B := C j) (ids := (List.range L).map at_) hP hts hlt (by simp [hC j]) hnd (fun i hi => by obtain ⟨q, hq, rfl⟩ := mem0 i hi; exact hge q hq) ?_ hr ?_ hq
    · intro q b i hb hi
      obtain ⟨_, rfl⟩ := at0 q i hi
      exact ⟨hl q b hb, hsf j b (List.mem_of_getElem? hb)⟩
    · intro i hi
      obtain ⟨q, hq, rfl⟩ := mem0 i hi
      exact hn at_ j q hq
  refine loop_rule (fun q vs h => ∃ at_ j, ((at_ = at₀) ∨ at_ = (P.globals.size + ·)) ∧ j ≤ m ∧ q = m - j ∧ I j ∧ vs = V at_ j ∧ Laid (C j) at_ h) Out ?_ m _ h a ⟨at₀, 0, .inl rfl, Nat.zero_le _, rfl, hI, hv, hi⟩ ha hm rfl
  rintro q vs h g ⟨at_, j, hat, hj, rfl, hIj, rfl, hl⟩
  have hh : ((List.range L).map at_).Nodup ∧ (∀ q, q < L → P.globals.size ≤ at_ q) ∧ amapM (renV P.globals.size ((List.range L).map at_)) (V at_ j) = some (V (P.globals.size + ·) j) := by
    rcases hat with rfl | rfl
    · exact ⟨hnd, hge, hr₀ j⟩
    · exact ⟨List.Pairwise.map _ (fun a b h e => h (by omega)) List.nodup_range, fun q _ => by show P.globals.size ≤ P.globals.size + q; omega, hr j⟩
  obtain ⟨k1, k2, k3⟩ := hh
  by_cases hjm : j < m
  · refine round at_ j h g _ k1 k2 k3 hl fun g' => (step j hjm hIj g').mono fun ex a' h' q => ?_
    obtain ⟨q1, q2, q3⟩ := told_facts q
    simp only [told, q1, q2, Nat.beq_refl]
    cases ex with
    | normal => exact (⟨m - (j + 1), by omega, (P.globals.size + ·), j + 1, .inr rfl, by omega, rfl, q3.1, q3.2.1, q3.2.2⟩)
    | _ => simpa using q3
  · obtain rfl : j = m := by omega
    refine round at_ j h g _ k1 k2 k3 hl fun g' => (last hIj g').mono fun ex a' h' q => ?_
    obtain ⟨q1, q2, q3⟩ := told_facts q
    simp only [told, q1, q2]
    cases ex with
    | normal => exact q3.elim
    | _ => simpa using q3
end
end Go.Am
