/-
  OWN WORK. What the laws on samples share.
-/
import Derived.Test.YtcifkiinilaglaaGreatDoorCsU
import Derived.Test.YtcifkiinilaglaaGreatDoorAm10
/-! What the laws on samples share. -/
namespace Go.Proofs.YtcifkiinilaglaaGreatDoor
open Go Go.Am

theorem inI64_nat {m : Nat} (h : m < 9223372036854775808) : inI64 (Int.ofNat m) = true := by
  show Nat.blt m 9223372036854775808 = true
  rw [Nat.blt_eq]; exact h
noncomputable abbrev nilS : Value := .slice none 0 0
theorem ieq_ne {x y : Int} (h : x ≠ y) : ieq x y = false := by rw [ieq_dec]; exact decide_eq_false h
theorem csE_nil : csE [] = 0 := by kernel_rfl
theorem N1_ne (k : Nat) : ¬ nG1 = Tryz.prog.globals.size + (k + 1) := by unfold nG1; omega
noncomputable abbrev argH (es : Nat → TypeId) (c : List Value) (e : TypeId) : AHeap := (base tabs2 es Tryz.prog.globals.size).push (.cells c e 0 true)
theorem ieq_self (a : Int) : ieq a a = true := by rw [ieq_dec]; simp
theorem short_le {n : Nat} (h : (!shortB n) = false) : n ≤ 4097 := by
  unfold shortB at h
  rw [ilt_say, ieq_dec] at h
  simp at h
  omega
theorem firstS_none : ∀ {l : List Int}, firstS l = 0 → ∀ x ∈ l, x = 0
  | [], _ => fun x hx => by cases hx
  | y :: l, h => by
    unfold firstS at h
    cases hy : ieq y 0 with
    | true =>
      rw [hy] at h
      rw [ieq_dec] at hy
      intro x hx
      rcases List.mem_cons.1 hx with rfl | hx
      · simpa using hy
      · exact firstS_none h x hx
    | false =>
      rw [hy] at h
      rw [ieq_dec] at hy
      exact absurd h (by simpa using hy)
theorem cs_zero {l : List Nat} (h : csE l = 0) : validL l ∧ l.length ≤ 4096 := by
  have h1 := firstS_none h
  have h2 := h1 _ (.head _)
  have h3 := h1 (smpsE l) (.tail _ (.head _))
  refine ⟨fun x hx => firstS_none (l := l.map smpE) h3 _ (List.mem_map.2 ⟨x, hx, rfl⟩), ?_⟩
  unfold whenS at h2
  rw [ilt_say] at h2
  by_cases hl : (4096 : Int) < Int.ofNat l.length
  · rw [decide_eq_true hl] at h2; cases h2
  · simp only [Int.ofNat_eq_natCast] at hl; omega
theorem not_ieq {x : Int} (h : (!ieq x 0) = true) : x ≠ 0 := by rw [ieq_dec] at h; simpa using h
theorem not_ieq' {x : Int} (h : (!ieq x 0) = false) : x = 0 := by rw [ieq_dec] at h; simpa using h
theorem not_ieq0 {x : Int} (h : x ≠ 0) (h' : (!ieq x 0) = false) : False := h (not_ieq' h')
noncomputable def allB (l : List Nat) : Bool := l.all fun x => ieq (smpE x) 0
theorem allB_iff {l : List Nat} : allB l = true ↔ validL l := by
  unfold allB validL
  rw [List.all_eq_true]
  refine ⟨fun h x hx => ?_, fun h x hx => ?_⟩
  · have := h x hx
    rw [ieq_dec] at this
    simpa using this
  · rw [h x hx]; rfl
noncomputable abbrev twoH (c : List Value) (e row : Nat) (c' : List Value) (e' row' : Nat) : AHeap := canon Tryz.prog [(c, e, row), (c', e', row')]
noncomputable abbrev slA (n k : Nat) : Value := .slice (some ⟨Tryz.prog.globals.size, 0, none⟩) n k
noncomputable abbrev slA' (n k : Nat) : Value := .slice (some ⟨Tryz.prog.globals.size + 1, 0, none⟩) n k
theorem rens_two {pre : Pre} {a b a' b' : Value} (h1 : Ren pre a a') (h2 : Ren pre b b') : (#[a, b] : Array Value).size = #[a', b'].size ∧ ∀ (i : Nat) x y, (#[a, b] : Array Value)[i]? = some x → (#[a', b'] : Array Value)[i]? = some y → Ren pre x y :=
  ⟨rfl, fun i x y hx hy => by
    match i, hx, hy with
    | 0, hx, hy => cases hx; cases hy; exact h1
    | 1, hx, hy => cases hx; cases hy; exact h2⟩
theorem fwrap_mid {x : Int} (h1 : -4611686018427387904 ≤ x) (h2 : x ≤ 4611686018427387904) : fwrap .i64 x = x := by
  have h : inI64 x = true := by
    cases x with
    | ofNat m => exact inI64_nat (by simp only [Int.ofNat_eq_natCast] at h2; omega)
    | negSucc m =>
      show Nat.blt m 9223372036854775808 = true
      rw [Nat.blt_eq]; omega
  simp only [fwrap, h]
theorem flat_up : ∀ (n : Nat) (v : Value), flat n v = true → flat (n + 1) v = true
  | 0, v, h => by
    have h : atomB v = true := h
    cases v <;> first | exact h | (simp [atomB] at h; done)
  | n + 1, v, h => by
    cases v with
    | agg cs => exact List.all_eq_true.2 fun x hx => flat_up n x (List.all_eq_true.1 h x hx)
    | tuple cs => exact List.all_eq_true.2 fun x hx => flat_up n x (List.all_eq_true.1 h x hx)
    | iface t x => exact flat_up n x h
    | _ => exact h
theorem flats_up {n : Nat} {l : List Value} (h : l.all (flat n) = true) : l.all (flat (n + 1)) = true :=
  List.all_eq_true.2 fun x hx => flat_up n x (List.all_eq_true.1 h x hx)
end Go.Proofs.YtcifkiinilaglaaGreatDoor
