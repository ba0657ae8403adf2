/-
  OWN WORK. 'Am': functions that read one slice, under a condition that speaks of its elements.
-/
import Derived.Test.YtclohbagdmelbaaGreatDoorAm7
namespace Go.Am
noncomputable section
def sliceK {α : Type} (d : Value → Option α) (B : Nat) (C : List α → List Value → Bool) (R : List α → List Value → Value) : Array Value → AHeap → Option (Value × AHeap) := fun args h => match args.toList with
  | .slice none 0 0 :: r => match r.all plainB && C [] r with
    | true => some (R [] r, h)
    | false => none
  | .slice (some _) 0 _ :: r => match r.all plainB && C [] r with
    | true => some (R [] r, h)
    | false => none
  | .slice (some ⟨i, 0, none⟩) (m + 1) k :: r => match h.get i with
    | some (.cells c _ _ _) => match decs d c with
      | some l => match Nat.ble (m + 1) l.length && Nat.ble (m + 1) B && (r.all plainB && C (l.take (m + 1)) r) with
        | true => some (R (l.take (m + 1)) r, h)
        | false => none
      | none => none
    | _ => none
  | _ => none
/-- What is asked of such a call where the slice is not known. -/
def asksK {α : Type} (f : FuncId) (e : α → Value) (B : Nat) (C : List α → List Value → Bool) (R : List α → List Value → Value) (A : Asks) : Asks := fun f' args h k => match Nat.beq f f' with
  | true => match args.toList with
    | .slice (some ⟨i, 0, none⟩) n xk :: r => match h.get i, r.all plainB with
      | some (.cells c _ _ _), true => ∃ l : List α, c = l.map e ∧ 0 < n ∧ n ≤ l.length ∧ n ≤ B ∧ C (l.take n) r = true ∧ k (R (l.take n) r) h
      | _, _ => False
    | _ => False
  | false => A f' args h k
theorem asksK_ok {α : Type} {f : FuncId} {d : Value → Option α} {e : α → Value} (hd : ∀ x, d (e x) = some x) {B : Nat} {C : List α → List Value → Bool} {R : List α → List Value → Value} {A : Asks} {orc : Orc} (hA : AsksOk orc A) : AsksOk (orElse f (sliceK d B C R) orc) (asksK f e B C R A) := by
  intro f' args h k hk
  unfold asksK at hk
  split at hk
  · rename_i hf
    split at hk
    · rename_i i n xk r hargs
      split at hk
      · rename_i c _ _ _ hg hr
        obtain ⟨l, rfl, h0, h1, h2, h4, hk⟩ := hk
        obtain ⟨m, rfl⟩ : ∃ m, n = m + 1 := ⟨n - 1, by omega⟩
        refine ⟨R (l.take (m + 1)) r, h, ?_, hk⟩
        have hS : sliceK d B C R args h = some (R (l.take (m + 1)) r, h) := by
          unfold sliceK
          rw [hargs]
          have e1 : Nat.ble (m + 1) l.length = true := by rw [Nat.ble_eq]; exact h1
          have e2 : Nat.ble (m + 1) B = true := by rw [Nat.ble_eq]; exact h2
          simp only [hg, decs_map hd, e1, e2, hr, h4, Bool.and_self]
        simp only [orElse, hf, hS]
      · exact hk.elim
    · exact hk.elim
  · rename_i hf
    obtain ⟨v, h', e, q⟩ := hA f' args h k hk
    exact ⟨v, h', by simp only [orElse, hf, e], q⟩
end
section
variable {P : Program}
theorem sliceK_ok {α : Type} {f : FuncId} {d : Value → Option α} {e : α → Value} (hd : ∀ v x, d v = some x → v = e x) (hfl : ∀ x, flat 3 (e x) = true) (hP : 0 < P.globals.size) {B : Nat} {C : List α → List Value → Bool} {R : List α → List Value → Value} {orc : Orc} (ho : OrcOk P orc)
    (hres : ∀ l r, C l r = true → flat 3 (R l r) = true)
    (hnil : ∀ r, C [] r = true → CallJ P f (.slice none 0 0 :: r).toArray (emp P) (fun u _ => u = R [] r))
    (hemp : ∀ r k, C [] r = true → CallJ P f (.slice (some ⟨0, 0, none⟩) 0 k :: r).toArray (emp P) (fun u _ => u = R [] r))
    (hfull : ∀ (l : List α) n r el row k, 0 < n → n ≤ l.length → n ≤ B → C (l.take n) r = true → CallJ P f (rdP P n k :: r).toArray (rdH P (l.map e) el row) (fun u _ => u = R (l.take n) r)) : OrcOk P (orElse f (sliceK d B C R) orc) := by
  refine orElse_ok ho fun args h v h' hk => ?_
  unfold sliceK at hk
  split at hk
  · rename_i r hargs
    split at hk
    · rename_i hr
      simp only [Bool.and_eq_true] at hr
      obtain ⟨hr, hu⟩ := hr
      cases hk
      refine CallJ.plain (hres _ _ hu) (Small.canonE (P := P) (B := []) (ids := []) (args₂ := args) rfl (by simp) (fun j b i hb => by simp at hb) ⟨rfl, fun i x y hx hy => ?_⟩ (fun i hi => by simp at hi)) ?_
      · rw [hx] at hy
        cases hy
        rw [← Array.getElem?_toList, hargs] at hx
        cases i with
        | zero => cases hx; exact .inl (.flat rfl)
        | succ i => exact .inl (plain_ren (List.all_eq_true.1 hr x (List.mem_of_getElem? hx)))
      · rw [show args = (.slice none 0 0 :: r).toArray by rw [← hargs]]
        exact hnil r hu
    · cases hk
  · rename_i a k r hargs
    split at hk
    · rename_i hr
      simp only [Bool.and_eq_true] at hr
      obtain ⟨hr, hu⟩ := hr
      cases hk
      refine CallJ.plain (hres _ _ hu) (Small.canonE (P := P) (B := []) (ids := []) (args₂ := (.slice (some ⟨0, 0, none⟩) 0 k :: r).toArray) rfl (by simp) (fun j b i hb => by simp at hb) ⟨?_, fun i x y hx hy => ?_⟩ (fun i hi => by simp at hi)) (hemp r k hu)
      · rw [← Array.length_toList, hargs]; simp
      · rw [← Array.getElem?_toList, hargs] at hx
        cases i with
        | zero => cases hx; simp at hy; subst hy; exact .inr (.inl ⟨_, 0, k, rfl, rfl, by simp [preOf], hP⟩)
        | succ i =>
          have hy : r[i]? = some y := by simpa using hy
          have hx : r[i]? = some x := hx
          rw [hx] at hy
          cases hy
          exact .inl (plain_ren (List.all_eq_true.1 hr x (List.mem_of_getElem? hx)))
    · cases hk
  · rename_i i m k r hargs
    split at hk
    · rename_i c el row ro hg
      split at hk
      · rename_i l hl
        split at hk
        · rename_i hc
          simp only [Bool.and_eq_true, Nat.ble_eq] at hc
          obtain ⟨⟨h1, h2⟩, hr, hu⟩ := hc
          cases hk
          obtain rfl := decs_some hd hl
          refine CallJ.plain (hres _ _ hu) (Small.canonE (P := P) (B := [(l.map e, el, row)]) (ids := [i]) (args₂ := (rdP P (m + 1) k :: r).toArray) rfl (by simp) (fun j b i' hb hi => ?_) ⟨?_, fun j x y hx hy => ?_⟩ (fun i' hi => ?_)) (hfull l (m + 1) r el row k (by omega) h1 h2 hu)
          · match j, hb, hi with
            | 0, hb, hi =>
              cases hb; cases hi
              refine ⟨⟨ro, hg⟩, ?_⟩
              rw [List.all_eq_true]
              intro x hx
              obtain ⟨y, _, rfl⟩ := List.mem_map.1 hx
              exact hfl y
          · rw [← Array.length_toList, hargs]; simp
          · rw [← Array.getElem?_toList, hargs] at hx
            cases j with
            | zero => cases hx; simp at hy; subst hy; exact .inl (.slice (by simp [preOf]))
            | succ j =>
              have hy : r[j]? = some y := by simpa using hy
              have hx : r[j]? = some x := hx
              rw [hx] at hy
              cases hy
              exact .inl (plain_ren (List.all_eq_true.1 hr x (List.mem_of_getElem? hx)))
          · obtain rfl : i' = i := by simpa using hi
            exact ⟨_, by rw [hargs]; exact .head _, .inl ⟨0, m + 1, k, rfl⟩⟩
        · cases hk
      · cases hk
    · cases hk
  · cases hk
end
end Go.Am
