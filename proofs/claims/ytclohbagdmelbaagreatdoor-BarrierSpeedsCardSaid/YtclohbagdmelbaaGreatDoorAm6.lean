/-
  OWN WORK. 'Am': functions that only read one slice, and return something plain: known calls, and what is asked of them where the slice is not known.
-/
import Derived.Test.YtclohbagdmelbaaGreatDoorAm5
namespace Go.Am
noncomputable section
/-- A list, by its elements. -/
def decs {α : Type} (d : Value → Option α) : List Value → Option (List α)
  | [] => some []
  | v :: r => match d v with
    | some x => (decs d r).map (x :: ·)
    | none => none
theorem decs_map {α : Type} {d : Value → Option α} {e : α → Value} (hd : ∀ x, d (e x) = some x) : ∀ l : List α, decs d (l.map e) = some l
  | [] => rfl
  | x :: l => by simp only [List.map_cons, decs, hd, decs_map hd l, Option.map_some]
theorem decs_some {α : Type} {d : Value → Option α} {e : α → Value} (hd : ∀ v x, d v = some x → v = e x) : ∀ {c : List Value} {l : List α}, decs d c = some l → c = l.map e
  | [], l, h => by cases h; rfl
  | v :: c, l, h => by
    unfold decs at h
    split at h
    · rename_i x hx
      obtain ⟨l', hl, rfl⟩ := Option.map_eq_some_iff.1 h
      rw [hd v x hx, decs_some hd hl]
      rfl
    · cases h
def plainB (v : Value) : Bool := match v with
  | .func (.func _) a b => a.isEmpty && b.isEmpty
  | v => flat 3 v
/-- The calls of a function of a slice (and of plain values behind it). -/
def sliceO {α : Type} (d : Value → Option α) (B : Nat) (T : List Value → Bool) (R : List α → List Value → Value) : Array Value → AHeap → Option (Value × AHeap) := fun args h => match args.toList with
  | .slice none 0 0 :: r => match r.all plainB && T r with
    | true => some (R [] r, h)
    | false => none
  | .slice (some _) 0 _ :: r => match r.all plainB && T r with
    | true => some (R [] r, h)
    | false => none
  | .slice (some ⟨i, 0, none⟩) (m + 1) k :: r => match h.get i with
    | some (.cells c _ _ _) => match decs d c with
      | some l => match Nat.ble (m + 1) l.length && Nat.ble (m + 1) B && Nat.ble (m + 1) k && (r.all plainB && T r) with
        | true => some (R (l.take (m + 1)) r, h)
        | false => none
      | none => none
    | _ => none
  | _ => none
/-- What is asked of such a call where the slice is not known. -/
def asksO {α : Type} (f : FuncId) (e : α → Value) (B : Nat) (T : List Value → Bool) (R : List α → List Value → Value) (A : Asks) : Asks := fun f' args h k => match Nat.beq f f' with
  | true => match args.toList with
    | .slice (some ⟨i, 0, none⟩) n xk :: r => match h.get i, r.all plainB && T r with
      | some (.cells c _ _ _), true => ∃ l : List α, c = l.map e ∧ 0 < n ∧ n ≤ l.length ∧ n ≤ B ∧ n ≤ xk ∧ k (R (l.take n) r) h
      | _, _ => False
    | _ => False
  | false => A f' args h k
theorem asksO_ok {α : Type} {f : FuncId} {d : Value → Option α} {e : α → Value} (hd : ∀ x, d (e x) = some x) {B : Nat} {T : List Value → Bool} {R : List α → List Value → Value} {A : Asks} {orc : Orc} (hA : AsksOk orc A) : AsksOk (orElse f (sliceO d B T R) orc) (asksO f e B T R A) := by
  intro f' args h k hk
  unfold asksO at hk
  split at hk
  · rename_i hf
    split at hk
    · rename_i i n xk r hargs
      split at hk
      · rename_i c _ _ _ hg hr
        obtain ⟨l, rfl, h0, h1, h2, h3, hk⟩ := hk
        obtain ⟨m, rfl⟩ : ∃ m, n = m + 1 := ⟨n - 1, by omega⟩
        refine ⟨R (l.take (m + 1)) r, h, ?_, hk⟩
        have hS : sliceO d B T R args h = some (R (l.take (m + 1)) r, h) := by
          unfold sliceO
          rw [hargs]
          have e1 : Nat.ble (m + 1) l.length = true := by rw [Nat.ble_eq]; exact h1
          have e2 : Nat.ble (m + 1) B = true := by rw [Nat.ble_eq]; exact h2
          have e3 : Nat.ble (m + 1) xk = true := by rw [Nat.ble_eq]; exact h3
          simp only [hg, decs_map hd, e1, e2, e3, hr, Bool.and_self]
        simp only [orElse, hf, hS]
      · exact hk.elim
    · exact hk.elim
  · rename_i hf
    obtain ⟨v, h', e, q⟩ := hA f' args h k hk
    exact ⟨v, h', by simp only [orElse, hf, e], q⟩
/-- What is known of calls stays known. -/
theorem AsksOk.mono {orc orc' : Orc} {A : Asks} (hA : AsksOk orc A) (h : ∀ f args h r, orc f args h = some r → orc' f args h = some r) : AsksOk orc' A := fun f args hp k hk =>
  let ⟨v, h', e, q⟩ := hA f args hp k hk; ⟨v, h', h _ _ _ _ e, q⟩
end
section
variable {P : Program}
noncomputable abbrev rdH (P : Program) (c : List Value) (e row : Nat) : AHeap := canon P [(c, e, row)]
noncomputable abbrev rdP (P : Program) (n k : Nat) : Value := .slice (some ⟨P.globals.size, 0, none⟩) n k
theorem plain_ren {pre : Pre} {v : Value} (h : plainB v = true) : Ren pre v v := by
  unfold plainB at h
  split at h
  · rename_i f a b
    simp only [Bool.and_eq_true, Array.isEmpty_iff] at h
    obtain ⟨rfl, rfl⟩ := h
    exact .fn
  · exact .flat h
theorem sliceO_ok {α : Type} {f : FuncId} {d : Value → Option α} {e : α → Value} (hd : ∀ v x, d v = some x → v = e x) (hfl : ∀ x, flat 3 (e x) = true) (hP : 0 < P.globals.size) {B : Nat} {T : List Value → Bool} {R : List α → List Value → Value} {orc : Orc} (ho : OrcOk P orc)
    (hres : ∀ l r, T r = true → flat 3 (R l r) = true)
    (hnil : ∀ r, T r = true → CallJ P f (.slice none 0 0 :: r).toArray (emp P) (fun u _ => u = R [] r))
    (hemp : ∀ r k, T r = true → CallJ P f (.slice (some ⟨0, 0, none⟩) 0 k :: r).toArray (emp P) (fun u _ => u = R [] r))
    (hfull : ∀ (l : List α) n r el row k, 0 < n → n ≤ l.length → n ≤ B → n ≤ k → T r = true → CallJ P f (rdP P n k :: r).toArray (rdH P (l.map e) el row) (fun u _ => u = R (l.take n) r)) : OrcOk P (orElse f (sliceO d B T R) orc) := by
  refine orElse_ok ho fun args h v h' hk => ?_
  unfold sliceO at hk
  split at hk
  · rename_i r hargs
    split at hk
    · rename_i hr
      simp only [Bool.and_eq_true] at hr
      obtain ⟨hr, hu⟩ := hr
      cases hk
      refine CallJ.plain (hres _ _ hu) (Small.canonE (P := P) (B := []) (ids := []) (args₂ := args) rfl (by simp) (fun j b i hb => by simp at hb) ⟨rfl, fun i x y hx hy => ?_⟩ (fun i hi => by simp at hi)) ?_
      · rw [hx] at hy
        cases hy
        rw [← Array.getElem?_toList, hargs] at hx
        cases i with
        | zero => cases hx; exact .inl (.flat rfl)
        | succ i => exact .inl (plain_ren (List.all_eq_true.1 hr x (List.mem_of_getElem? hx)))
      · rw [show args = (.slice none 0 0 :: r).toArray by rw [← hargs]]
        exact hnil r hu
    · cases hk
  · rename_i a k r hargs
    split at hk
    · rename_i hr
      simp only [Bool.and_eq_true] at hr
      obtain ⟨hr, hu⟩ := hr
      cases hk
      refine CallJ.plain (hres _ _ hu) (Small.canonE (P := P) (B := []) (ids := []) (args₂ := (.slice (some ⟨0, 0, none⟩) 0 k :: r).toArray) rfl (by simp) (fun j b i hb => by simp at hb) ⟨?_, fun i x y hx hy => ?_⟩ (fun i hi => by simp at hi)) (hemp r k hu)
      · rw [← Array.length_toList, hargs]; simp
      · rw [← Array.getElem?_toList, hargs] at hx
        cases i with
        | zero => cases hx; simp at hy; subst hy; exact .inr (.inl ⟨_, 0, k, rfl, rfl, by simp [preOf], hP⟩)
        | succ i =>
          have hy : r[i]? = some y := by simpa using hy
          have hx : r[i]? = some x := hx
          rw [hx] at hy
          cases hy
          exact .inl (plain_ren (List.all_eq_true.1 hr x (List.mem_of_getElem? hx)))
    · cases hk
  · rename_i i m k r hargs
    split at hk
    · rename_i c el row ro hg
      split at hk
      · rename_i l hl
        split at hk
        · rename_i hc
          simp only [Bool.and_eq_true, Nat.ble_eq] at hc
          obtain ⟨⟨⟨h1, h2⟩, h3⟩, hr, hu⟩ := hc
          cases hk
          obtain rfl := decs_some hd hl
          refine CallJ.plain (hres _ _ hu) (Small.canonE (P := P) (B := [(l.map e, el, row)]) (ids := [i]) (args₂ := (rdP P (m + 1) k :: r).toArray) rfl (by simp) (fun j b i' hb hi => ?_) ⟨?_, fun j x y hx hy => ?_⟩ (fun i' hi => ?_)) (hfull l (m + 1) r el row k (by omega) h1 h2 h3 hu)
          · match j, hb, hi with
            | 0, hb, hi =>
              cases hb; cases hi
              refine ⟨⟨ro, hg⟩, ?_⟩
              rw [List.all_eq_true]
              intro x hx
              obtain ⟨y, _, rfl⟩ := List.mem_map.1 hx
              exact hfl y
          · rw [← Array.length_toList, hargs]; simp
          · rw [← Array.getElem?_toList, hargs] at hx
            cases j with
            | zero => cases hx; simp at hy; subst hy; exact .inl (.slice (by simp [preOf]))
            | succ j =>
              have hy : r[j]? = some y := by simpa using hy
              have hx : r[j]? = some x := hx
              rw [hx] at hy
              cases hy
              exact .inl (plain_ren (List.all_eq_true.1 hr x (List.mem_of_getElem? hx)))
          · obtain rfl : i' = i := by simpa using hi
            exact ⟨_, by rw [hargs]; exact .head _, .inl ⟨0, m + 1, k, rfl⟩⟩
        · cases hk
      · cases hk
    · cases hk
  · cases hk
/-- The calls of a function that copies a slice. -/
noncomputable def cloneO {α : Type} (d : Value → Option α) (e : α → Value) (el : TypeId) : Array Value → AHeap → Option (Value × AHeap) := fun args h => match args.toList with
  | [.slice (some ⟨i, 0, none⟩) (m + 1) _] => match h.get i with
    | some (.cells c _ _ _) => match decs d c with
      | some l => match Nat.ble (m + 1) l.length && Nat.ble (m + 1) 1000000 with
        | true => some (.slice (some ⟨h.n, 0, none⟩) (m + 1) (m + 1), h.push (.cells ((l.take (m + 1)).map e) el 2 false))
        | false => none
      | none => none
    | _ => none
  | _ => none
noncomputable def asksC {α : Type} (f : FuncId) (e : α → Value) (el : TypeId) (A : Asks) : Asks := fun f' args h k => match Nat.beq f f' with
  | true => match args.toList with
    | [.slice (some ⟨i, 0, none⟩) n _] => match h.get i with
      | some (.cells c _ _ _) => ∃ l : List α, c = l.map e ∧ 0 < n ∧ n ≤ l.length ∧ n ≤ 1000000 ∧ k (.slice (some ⟨h.n, 0, none⟩) n n) (h.push (.cells ((l.take n).map e) el 2 false))
      | _ => False
    | _ => False
  | false => A f' args h k
theorem asksC_ok {α : Type} {f : FuncId} {d : Value → Option α} {e : α → Value} (hd : ∀ x, d (e x) = some x) {el : TypeId} {A : Asks} {orc : Orc} (hA : AsksOk orc A) : AsksOk (orElse f (cloneO d e el) orc) (asksC f e el A) := by
  intro f' args h k hk
  unfold asksC at hk
  split at hk
  · rename_i hf
    split at hk
    · rename_i i n xk hargs
      split at hk
      · rename_i c _ _ _ hg
        obtain ⟨l, rfl, h0, h1, h2, hk⟩ := hk
        obtain ⟨m, rfl⟩ : ∃ m, n = m + 1 := ⟨n - 1, by omega⟩
        refine ⟨_, _, ?_, hk⟩
        have e1 : Nat.ble (m + 1) l.length = true := by rw [Nat.ble_eq]; exact h1
        have e2 : Nat.ble (m + 1) 1000000 = true := by rw [Nat.ble_eq]; exact h2
        simp only [orElse, hf, cloneO, hargs, hg, decs_map hd, e1, e2, Bool.and_self]
      · exact hk.elim
    · exact hk.elim
  · rename_i hf
    obtain ⟨v, h', e, q⟩ := hA f' args h k hk
    exact ⟨v, h', by simp only [orElse, hf, e], q⟩
theorem cloneO_ok {α : Type} {f : FuncId} {d : Value → Option α} {e : α → Value} (hd : ∀ v x, d v = some x → v = e x) (hfl : ∀ x, flat 3 (e x) = true) {el : TypeId} {orc : Orc} (ho : OrcOk P orc)
    (hfull : ∀ (l : List α) n el' row k, 0 < n → n ≤ l.length → n ≤ 1000000 → CallJ P f #[rdP P n k] (rdH P (l.map e) el' row) (fun v h' => ∃ r, v = .slice (some ⟨r, 0, none⟩) n n ∧ h'.get r = some (.cells ((l.take n).map e) el 2 false))) : OrcOk P (orElse f (cloneO d e el) orc) := by
  refine orElse_ok ho fun args h v h' hk => ?_
  unfold cloneO at hk
  split at hk
  · rename_i i m k hargs
    split at hk
    · rename_i c el' row ro hg
      split at hk
      · rename_i l hl
        split at hk
        · rename_i hc
          simp only [Bool.and_eq_true, Nat.ble_eq] at hc
          obtain ⟨h1, h2⟩ := hc
          cases hk
          obtain rfl := decs_some hd hl
          have hall : ∀ l' : List α, (l'.map e).all (flat 3) = true := fun l' => by
            rw [List.all_eq_true]
            intro x hx
            obtain ⟨y, _, rfl⟩ := List.mem_map.1 hx
            exact hfl y
          obtain rfl : args = #[.slice (some ⟨i, 0, none⟩) (m + 1) k] := by rw [← hargs]
          exact CallJ.fresh (hall _) (fun r => .slice (some ⟨r, 0, none⟩) (m + 1) (m + 1)) (fun r m' => .slice (by simp)) (fun r ρ c hv => by
            obtain ⟨a', k', _, hp, _⟩ := hv.slice_any
            exact hp.born) (Small.one hg (hall _)) (hfull l (m + 1) el' row k (by omega) h1 h2)
        · cases hk
      · cases hk
    · cases hk
  · cases hk
end
end Go.Am
