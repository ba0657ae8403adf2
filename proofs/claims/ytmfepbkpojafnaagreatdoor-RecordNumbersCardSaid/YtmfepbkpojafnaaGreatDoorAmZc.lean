/-
  OWN WORK. 'Am', twenty-ninth text: calls on slices that are only read.
-/
import Derived.Test.YtmfepbkpojafnaaGreatDoorAmZb
namespace Go.Am

/-- Blocks that are only read, and nothing else. -/
noncomputable def canon (P : Program) (B : List (List Value × TypeId × Nat)) : AHeap :=
  List.rec (motive := fun _ => AHeap → AHeap) (fun h => h) (fun b _ ih h => ih (h.push (.cells b.1 b.2.1 b.2.2 true))) B (emp P)
def preOf (n : Nat) (ids : List Nat) : Pre := fun j => if n ≤ j then ids[j - n]? else none
section
variable {P : Program} {h : AHeap}
theorem canon_go : ∀ (B : List (List Value × TypeId × Nat)) (h₀ : AHeap), (∀ j, h₀.n ≤ j → h₀.get j = none) → ∀ h₁,
    h₁ = @List.rec _ (fun _ => AHeap → AHeap) (fun h => h) (fun (b : List Value × TypeId × Nat) _ ih h => ih (h.push (.cells b.1 b.2.1 b.2.2 true))) B h₀ →
    h₁.n = h₀.n + B.length ∧ ∀ j, h₁.get j = if h₀.n ≤ j then (B[j - h₀.n]?).map (fun b => AObj.cells b.1 b.2.1 b.2.2 true) else h₀.get j
  | [], h₀, h0, h₁, e => by
    subst e
    refine ⟨rfl, fun j => ?_⟩
    split
    · rename_i hj; simpa using h0 j hj
    · rfl
  | b :: B, h₀, h0, h₁, e => by
    obtain ⟨q1, q2⟩ := canon_go B (h₀.push (.cells b.1 b.2.1 b.2.2 true)) (fun j hj => by
      have hj : h₀.n + 1 ≤ j := hj
      rw [AHeap.get_push, if_neg (by omega)]
      exact h0 j (by omega)) h₁ e
    refine ⟨by rw [q1, AHeap.push_n, List.length_cons]; omega, fun j => ?_⟩
    rw [q2, AHeap.push_n]
    by_cases h1 : h₀.n + 1 ≤ j
    · rw [if_pos h1, if_pos (by omega), show j - h₀.n = (j - (h₀.n + 1)) + 1 by omega, List.getElem?_cons_succ]
    · rw [if_neg h1, AHeap.get_push]
      by_cases h2 : j = h₀.n
      · rw [if_pos h2, if_pos (by omega), h2]; simp
      · rw [if_neg h2, if_neg (by omega)]
theorem canon_n (B : List (List Value × TypeId × Nat)) : (canon P B).n = P.globals.size + B.length := (canon_go B (emp P) (fun j _ => rfl) _ rfl).1
theorem canon_get (B : List (List Value × TypeId × Nat)) (j : Nat) : (canon P B).get j = if P.globals.size ≤ j then (B[j - P.globals.size]?).map (fun b => AObj.cells b.1 b.2.1 b.2.2 true) else none := by
  rw [(canon_go B (emp P) (fun j _ => rfl) (canon P B) rfl).2 j]
  rfl
theorem Small.canon {args args₂ : Array Value} {B : List (List Value × TypeId × Nat)} {ids : List Nat} (hl : ids.length = B.length) (hn : ids.Nodup)
    (hB : ∀ (j : Nat) b i, B[j]? = some b → ids[j]? = some i → (∃ ro, h.get i = some (.cells b.1 b.2.1 b.2.2 ro)) ∧ b.1.all (flat 3) = true)
    (hr : args.size = args₂.size ∧ ∀ (i : Nat) x y, args[i]? = some x → args₂[i]? = some y → Ren (preOf P.globals.size ids) x y)
    (hb : ∀ i ∈ ids, ∃ v ∈ args.toList, Mentions v i) : Small P args args₂ h (canon P B) (preOf P.globals.size ids) where
  view := by
    refine ⟨fun j i e => ?_, fun j j' i e e' => ?_, fun j i e => ?_, fun j e hj o ho => ?_, fun g hg => ?_⟩
    · simp only [preOf] at e
      split at e
      · have := (List.getElem?_eq_some_iff.1 e).1
        rw [canon_n]
        omega
      · cases e
    · simp only [preOf] at e e'
      split at e
      · split at e'
        · have h1 := (List.getElem?_eq_some_iff.1 e).1
          have := (List.getElem?_inj h1 hn).1 (e.trans e'.symm)
          omega
        · cases e'
      · cases e
    · simp only [preOf] at e
      split at e
      · rename_i hge
        have h1 := (List.getElem?_eq_some_iff.1 e).1
        have hb' : B[j - P.globals.size]? = some B[j - P.globals.size] := List.getElem?_eq_getElem (by omega)
        obtain ⟨⟨ro, h2⟩, h3⟩ := hB _ _ i hb' e
        refine ⟨_, .cells B[j - P.globals.size].1 B[j - P.globals.size].2.1 B[j - P.globals.size].2.2 true, h2, by rw [canon_get, if_pos hge, hb']; rfl, rfl, rfl, rfl, h3, fun _ => rfl⟩
      · cases e
    · rw [canon_get] at ho
      split at ho
      · rename_i hge
        rw [canon_n] at hj
        simp only [preOf, if_pos hge] at e
        rw [List.getElem?_eq_none_iff] at e
        omega
      · cases ho
    · refine ⟨by rw [canon_n]; omega, .inl ?_⟩
      simp only [preOf]
      rw [if_neg (by omega)]
  rens := hr
  born := fun j i e => by
    simp only [preOf] at e
    split at e
    · exact .inr (hb i (List.mem_of_getElem? e))
    · cases e
  ro := fun j e => by
    simp only [AHeap.rw, canon_get]
    simp only [preOf] at e
    split at e
    · rename_i hge
      rw [if_pos hge]
      obtain ⟨i, hi⟩ := Option.isSome_iff_exists.1 e
      have h1 := (List.getElem?_eq_some_iff.1 hi).1
      have hb' : B[j - P.globals.size]? = some B[j - P.globals.size] := List.getElem?_eq_getElem (by omega)
      rw [hb']
      rfl
    · cases e
/-- One slice. -/
theorem Small.one {i n k : Nat} {c : List Value} {e row : Nat} {ro : Bool} (hg : h.get i = some (.cells c e row ro)) (hc : c.all (flat 3) = true) :
    Small P #[.slice (some ⟨i, 0, none⟩) n k] #[.slice (some ⟨P.globals.size, 0, none⟩) n k] h (Go.Am.canon P [(c, e, row)]) (preOf P.globals.size [i]) := by
  refine Small.canon rfl (by simp) (fun j b i' hb hi => ?_) ⟨rfl, fun j x y hx hy => ?_⟩ (fun i' hi => ?_)
  · match j, hb, hi with
    | 0, hb, hi => cases hb; cases hi; exact ⟨⟨ro, hg⟩, hc⟩
  · match j, hx, hy with
    | 0, hx, hy => cases hx; cases hy; exact .slice (by simp [preOf])
  · obtain rfl : i' = i := by simpa using hi
    exact ⟨_, by simp, .inl ⟨0, n, k, rfl⟩⟩
/-- Two slices in blocks of their own. -/
theorem Small.two {i n k i' n' k' : Nat} {c c' : List Value} {e row e' row' : Nat} {ro ro' : Bool} (hne : i ≠ i') (hg : h.get i = some (.cells c e row ro)) (hc : c.all (flat 3) = true) (hg' : h.get i' = some (.cells c' e' row' ro')) (hc' : c'.all (flat 3) = true) :
    Small P #[.slice (some ⟨i, 0, none⟩) n k, .slice (some ⟨i', 0, none⟩) n' k'] #[.slice (some ⟨P.globals.size, 0, none⟩) n k, .slice (some ⟨P.globals.size + 1, 0, none⟩) n' k'] h (Go.Am.canon P [(c, e, row), (c', e', row')]) (preOf P.globals.size [i, i']) := by
  refine Small.canon rfl (by simp [hne]) (fun j b x hb hi => ?_) ⟨rfl, fun j x y hx hy => ?_⟩ (fun x hi => ?_)
  · match j, hb, hi with
    | 0, hb, hi => cases hb; cases hi; exact ⟨⟨ro, hg⟩, hc⟩
    | 1, hb, hi => cases hb; cases hi; exact ⟨⟨ro', hg'⟩, hc'⟩
  · match j, hx, hy with
    | 0, hx, hy => cases hx; cases hy; exact .slice (by simp [preOf])
    | 1, hx, hy => cases hx; cases hy; exact .slice (by simp [preOf])
  · simp only [List.mem_cons, List.not_mem_nil, or_false] at hi
    rcases hi with rfl | rfl
    · exact ⟨_, .head _, .inl ⟨0, n, k, rfl⟩⟩
    · exact ⟨_, .tail _ (.head _), .inl ⟨0, n', k', rfl⟩⟩
end
end Go.Am
