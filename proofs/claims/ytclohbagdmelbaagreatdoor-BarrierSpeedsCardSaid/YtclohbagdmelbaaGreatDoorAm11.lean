/-
  OWN WORK. 'Am': functions of something plain and one slice that is read.
-/
import Derived.Test.YtclohbagdmelbaaGreatDoorAm10
namespace Go.Am
noncomputable section
/-- The calls of a function of a plain value and a slice. -/
def genL {α : Type} (d : Value → Option α) (B : Nat) (X : List α → Value → Option Out) : Array Value → AHeap → Option (Value × AHeap) := fun args h => match args.toList with
  | [p, .slice none 0 0] => match plainB p, X [] p with
    | true, some o => some (o.val h.n, o.heap h)
    | _, _ => none
  | [p, .slice (some _) 0 _] => match plainB p, X [] p with
    | true, some o => some (o.val h.n, o.heap h)
    | _, _ => none
  | [p, .slice (some ⟨i, 0, none⟩) (m + 1) k] => match h.get i with
    | some (.cells c _ _ _) => match decs d c with
      | some l => match Nat.ble (m + 1) l.length && Nat.ble (m + 1) B && Nat.ble (m + 1) k && plainB p, X (l.take (m + 1)) p with
        | true, some o => some (o.val h.n, o.heap h)
        | _, _ => none
      | none => none
    | _ => none
  | _ => none
def asksL {α : Type} (f : FuncId) (e : α → Value) (B : Nat) (Y : List α → Value → (Out → Prop) → Prop) (A : Asks) : Asks := fun f' args h k => match Nat.beq f f' with
  | true => match args.toList with
    | [p, .slice none n xk] => match plainB p with
      | true => n = 0 ∧ xk = 0 ∧ Y [] p fun o => o.kont h k
      | false => False
    | [p, .slice (some ⟨i, 0, none⟩) n xk] => match h.get i, plainB p with
      | some (.cells c _ _ _), true => ∃ l : List α, c = l.map e ∧ 0 < n ∧ n ≤ l.length ∧ n ≤ B ∧ n ≤ xk ∧ Y (l.take n) p fun o => o.kont h k
      | some .dead, true => n = 0 ∧ Y [] p fun o => o.kont h k
      | none, true => n = 0 ∧ Y [] p fun o => o.kont h k
      | _, _ => False
    | _ => False
  | false => A f' args h k
theorem asksL_ok {α : Type} {f : FuncId} {d : Value → Option α} {e : α → Value} (hd : ∀ x, d (e x) = some x) {B : Nat} {X : List α → Value → Option Out} {Y : List α → Value → (Out → Prop) → Prop} (hY : ∀ l r K, Y l r K → ∃ o, X l r = some o ∧ K o) {A : Asks} {orc : Orc} (hA : AsksOk orc A) : AsksOk (orElse f (genL d B X) orc) (asksL f e B Y A) := by
  intro f' args h k hk
  unfold asksL at hk
  split at hk
  · rename_i hf
    split at hk
    · rename_i p n xk hargs
      split at hk
      · rename_i hr
        obtain ⟨rfl, rfl, hk⟩ := hk
        obtain ⟨o, hX, hq⟩ := hY _ _ _ hk
        rw [o.kont_iff] at hq
        refine ⟨_, _, ?_, hq⟩
        have hS : genL d B X args h = some (o.val h.n, o.heap h) := by
          unfold genL
          rw [hargs]
          simp only [hr, hX]
        simp only [orElse, hf, hS]
      · exact hk.elim
    · rename_i p i n xk hargs
      have empty : n = 0 → plainB p = true → (Y [] p fun o => o.kont h k) → ∃ v h', orElse f (genL d B X) orc f' args h = some (v, h') ∧ k v h' := by
        rintro rfl hr hk
        obtain ⟨o, hX, hq⟩ := hY _ _ _ hk
        rw [o.kont_iff] at hq
        refine ⟨_, _, ?_, hq⟩
        have hS : genL d B X args h = some (o.val h.n, o.heap h) := by
          unfold genL
          rw [hargs]
          simp only [hr, hX]
        simp only [orElse, hf, hS]
      split at hk
      · rename_i c _ _ _ hg hr
        obtain ⟨l, rfl, h0, h1, h2, h3, hk⟩ := hk
        obtain ⟨o, hX, hq⟩ := hY _ _ _ hk
        rw [o.kont_iff] at hq
        obtain ⟨m, rfl⟩ : ∃ m, n = m + 1 := ⟨n - 1, by omega⟩
        refine ⟨_, _, ?_, hq⟩
        have hS : genL d B X args h = some (o.val h.n, o.heap h) := by
          unfold genL
          rw [hargs]
          have e1 : Nat.ble (m + 1) l.length = true := by rw [Nat.ble_eq]; exact h1
          have e2 : Nat.ble (m + 1) B = true := by rw [Nat.ble_eq]; exact h2
          have e3 : Nat.ble (m + 1) xk = true := by rw [Nat.ble_eq]; exact h3
          simp only [hg, decs_map hd, e1, e2, e3, hr, Bool.and_self, hX]
        simp only [orElse, hf, hS]
      · exact empty hk.1 (by assumption) hk.2
      · exact empty hk.1 (by assumption) hk.2
      · exact hk.elim
    · exact hk.elim
  · rename_i hf
    obtain ⟨v, h', e, q⟩ := hA f' args h k hk
    exact ⟨v, h', by simp only [orElse, hf, e], q⟩
end
section
variable {P : Program}
theorem lastL_nil {args : Array Value} {h : AHeap} {p : Value} (hargs : args.toList = [p, .slice none 0 0]) (hr : plainB p = true) : ∃ pre, Small P args args h (emp P) pre := by
  refine ⟨_, Small.canonE (P := P) (B := []) (ids := []) (args₂ := args) rfl (by simp) (fun j b i hb => by simp at hb) ⟨rfl, fun i x y hx hy => ?_⟩ (fun i hi => by simp at hi)⟩
  rw [hx] at hy
  cases hy
  rw [← Array.getElem?_toList, hargs] at hx
  match i, hx with
  | 0, hx => cases hx; exact .inl (plain_ren hr)
  | 1, hx => cases hx; exact .inl (.flat rfl)
theorem lastL_emp {args : Array Value} {h : AHeap} {p : Value} {a : Addr} {k : Nat} (hP : 0 < P.globals.size) (hargs : args.toList = [p, .slice (some a) 0 k]) (hr : plainB p = true) : ∃ pre, Small P args #[p, .slice (some ⟨0, 0, none⟩) 0 k] h (emp P) pre := by
  refine ⟨_, Small.canonE (P := P) (B := []) (ids := []) (args₂ := #[p, .slice (some ⟨0, 0, none⟩) 0 k]) rfl (by simp) (fun j b i hb => by simp at hb) ⟨?_, fun i x y hx hy => ?_⟩ (fun i hi => by simp at hi)⟩
  · rw [← Array.length_toList, hargs]; simp
  · rw [← Array.getElem?_toList, hargs] at hx
    match i, hx, hy with
    | 0, hx, hy => cases hx; cases hy; exact .inl (plain_ren hr)
    | 1, hx, hy => cases hx; cases hy; exact .inr (.inl ⟨_, 0, k, rfl, rfl, by simp [preOf], hP⟩)
theorem lastL_full {α : Type} {e : α → Value} (hfl : ∀ x, flat 3 (e x) = true) {args : Array Value} {h : AHeap} {p : Value} {i n k el row : Nat} {ro : Bool} {l : List α} (hargs : args.toList = [p, .slice (some ⟨i, 0, none⟩) n k]) (hr : plainB p = true) (hg : h.get i = some (.cells (l.map e) el row ro)) :
    ∃ pre, Small P args #[p, rdPo P 0 n k] h (rdH P (l.map e) el row) pre := by
  refine ⟨_, Small.canonE (P := P) (B := [(l.map e, el, row)]) (ids := [i]) (args₂ := #[p, rdPo P 0 n k]) rfl (by simp) (fun j b i' hb hi => ?_) ⟨?_, fun j x y hx hy => ?_⟩ (fun i' hi => ?_)⟩
  · match j, hb, hi with
    | 0, hb, hi =>
      cases hb; cases hi
      refine ⟨⟨ro, hg⟩, ?_⟩
      rw [List.all_eq_true]
      intro x hx
      obtain ⟨y, _, rfl⟩ := List.mem_map.1 hx
      exact hfl y
  · rw [← Array.length_toList, hargs]; simp
  · rw [← Array.getElem?_toList, hargs] at hx
    match j, hx, hy with
    | 0, hx, hy => cases hx; cases hy; exact .inl (plain_ren hr)
    | 1, hx, hy => cases hx; cases hy; exact .inl (.slice (by simp [preOf]))
  · obtain rfl : i' = i := by simpa using hi
    exact ⟨_, by rw [hargs]; exact .tail _ (.head _), .inl ⟨0, n, k, rfl⟩⟩
theorem genL_ok {α : Type} {f : FuncId} {d : Value → Option α} {e : α → Value} (hd : ∀ v x, d v = some x → v = e x) (hfl : ∀ x, flat 3 (e x) = true) (hP : 0 < P.globals.size) {B : Nat} {X : List α → Value → Option Out} {orc : Orc} (ho : OrcOk P orc)
    (hok : ∀ l r o, X l r = some o → o.Ok)
    (hnil : ∀ p o, X [] p = some o → CallJ P f #[p, .slice none 0 0] (emp P) o.Got)
    (hemp : ∀ p k o, X [] p = some o → CallJ P f #[p, .slice (some ⟨0, 0, none⟩) 0 k] (emp P) o.Got)
    (hfull : ∀ (l : List α) n p el row k o, 0 < n → n ≤ l.length → n ≤ B → n ≤ k → X (l.take n) p = some o → CallJ P f #[p, rdPo P 0 n k] (rdH P (l.map e) el row) o.Got) : OrcOk P (orElse f (genL d B X) orc) := by
  refine orElse_ok ho fun args h v h' hk => ?_
  unfold genL at hk
  split at hk
  · rename_i p hargs
    split at hk
    · rename_i o hr hX
      cases hk
      obtain ⟨pre, s⟩ := lastL_nil (P := P) (h := h) hargs hr
      refine Out.call (hok _ _ _ hX) s ?_
      rw [show args = #[p, .slice none 0 0] by rw [← Array.toArray_toList (xs := args), hargs]]
      exact hnil p o hX
    · cases hk
  · rename_i p a k hargs
    split at hk
    · rename_i o hr hX
      cases hk
      obtain ⟨pre, s⟩ := lastL_emp (P := P) (h := h) hP hargs hr
      exact Out.call (hok _ _ _ hX) s (hemp p k o hX)
    · cases hk
  · rename_i p i m k hargs
    split at hk
    · rename_i c el row ro hg
      split at hk
      · rename_i l hl
        split at hk
        · rename_i o hc hX
          simp only [Bool.and_eq_true, Nat.ble_eq] at hc
          obtain ⟨⟨⟨h1, h2⟩, h3⟩, hr⟩ := hc
          cases hk
          obtain rfl := decs_some hd hl
          obtain ⟨pre, s⟩ := lastL_full (P := P) hfl hargs hr hg
          exact Out.call (hok _ _ _ hX) s (hfull l (m + 1) p el row k o (by omega) h1 h2 h3 hX)
        · cases hk
      · cases hk
    · cases hk
  · cases hk
end
end Go.Am
