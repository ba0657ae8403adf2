/-
  OWN WORK. What the laws on samples share.
-/
import Derived.Test.YtgomacijdadjpaaGreatDoorSuZ
namespace Go.Proofs.YtgomacijdadjpaaGreatDoor
open Go Go.Am

noncomputable abbrev argH (es : Nat → TypeId) (c : List Value) (e : TypeId) : AHeap := (base tabs es Tryz.prog.globals.size).push (.cells c e 0 true)
theorem ieq_self (a : Int) : ieq a a = true := by rw [ieq_dec]; simp
theorem short_le {n : Nat} (h : (!shortB n) = false) : n ≤ 4097 := by
  unfold shortB at h
  rw [ilt_dec, ieq_dec] at h
  simp at h
  omega
theorem firstS_zero : ∀ {l : List Int}, firstS l = 0 → ∀ x ∈ l, x = 0
  | [], _ => fun x hx => by cases hx
  | y :: l, h => by
    unfold firstS at h
    cases hy : ieq y 0 with
    | true =>
      rw [hy] at h
      rw [ieq_dec] at hy
      intro x hx
      rcases List.mem_cons.1 hx with rfl | hx
      · simpa using hy
      · exact firstS_zero h x hx
    | false =>
      rw [hy] at h
      rw [ieq_dec] at hy
      exact absurd h (by simpa using hy)
theorem cs_zero {l : List Nat} (h : csE l = 0) : validL l ∧ l.length ≤ 4096 := by
  have h1 := firstS_zero h
  have h2 := h1 _ (.head _)
  have h3 := h1 (smpsE l) (.tail _ (.head _))
  refine ⟨fun x hx => firstS_zero (l := l.map smpE) h3 _ (List.mem_map.2 ⟨x, hx, rfl⟩), ?_⟩
  unfold whenS at h2
  rw [ilt_dec] at h2
  by_cases hl : (4096 : Int) < Int.ofNat l.length
  · rw [decide_eq_true hl] at h2; cases h2
  · simp only [Int.ofNat_eq_natCast] at hl; omega
theorem not_ieq {x : Int} (h : (!ieq x 0) = true) : x ≠ 0 := by rw [ieq_dec] at h; simpa using h
theorem not_ieq' {x : Int} (h : (!ieq x 0) = false) : x = 0 := by rw [ieq_dec] at h; simpa using h
theorem not_ieq0 {x : Int} (h : x ≠ 0) (h' : (!ieq x 0) = false) : False := h (not_ieq' h')
noncomputable def allB (l : List Nat) : Bool := l.all fun x => ieq (smpE x) 0
theorem allB_iff {l : List Nat} : allB l = true ↔ validL l := by
  unfold allB validL
  rw [List.all_eq_true]
  refine ⟨fun h x hx => ?_, fun h x hx => ?_⟩
  · have := h x hx
    rw [ieq_dec] at this
    simpa using this
  · rw [h x hx]; rfl
noncomputable abbrev twoH (c : List Value) (e row : Nat) (c' : List Value) (e' row' : Nat) : AHeap := canon Tryz.prog [(c, e, row), (c', e', row')]
noncomputable abbrev slA (n k : Nat) : Value := .slice (some ⟨Tryz.prog.globals.size, 0, none⟩) n k
noncomputable abbrev slA' (n k : Nat) : Value := .slice (some ⟨Tryz.prog.globals.size + 1, 0, none⟩) n k
theorem rens_two {pre : Pre} {a b a' b' : Value} (h1 : Ren pre a a') (h2 : Ren pre b b') : (#[a, b] : Array Value).size = #[a', b'].size ∧ ∀ (i : Nat) x y, (#[a, b] : Array Value)[i]? = some x → (#[a', b'] : Array Value)[i]? = some y → Ren pre x y :=
  ⟨rfl, fun i x y hx hy => by
    match i, hx, hy with
    | 0, hx, hy => cases hx; cases hy; exact h1
    | 1, hx, hy => cases hx; cases hy; exact h2⟩
theorem fwrap_small {x : Int} (h1 : -4611686018427387904 ≤ x) (h2 : x ≤ 4611686018427387904) : fwrap .i64 x = x := by
  have h : inI64 x = true := by
    cases x with
    | ofNat m => exact inI64_nat (by simp only [Int.ofNat_eq_natCast] at h2; omega)
    | negSucc m =>
      show Nat.blt m 9223372036854775808 = true
      rw [Nat.blt_eq]; omega
  simp only [fwrap, h]
end Go.Proofs.YtgomacijdadjpaaGreatDoor
