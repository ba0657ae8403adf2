/-
  OWN WORK. 'Am': functions of a slice whose elements are told by a list (each of some cells), and of plain values behind it, as known calls.
-/
import Derived.Test.YtclohbagdmelbaaGreatDoorAm18
import Derived.Test.YtclohbagdmelbaaGreatDoorAm16
namespace Go.Am
noncomputable section
/-- How elements are told by cells. -/
structure Tell (α : Type) where
  cells : List α → List Value
  dec : List Value → Option (List α)
  dec_cells : ∀ l, dec (cells l) = some l
  dec_some : ∀ {c l}, dec c = some l → c = cells l
  flat : ∀ l, (cells l).all (flat 3) = true
variable {α : Type}
def goodN (n m : Nat) : Bool := Nat.blt 0 n && (Nat.beq m n && Nat.ble n 65536)
theorem goodN_iff {n m : Nat} : goodN n m = true ↔ 0 < n ∧ m = n ∧ n ≤ 65536 := by
  unfold goodN
  rw [Bool.and_eq_true, Bool.and_eq_true, Nat.blt_eq, Nat.beq_eq, Nat.ble_eq]
def lstX (N : Nat) (T : Tell α) (X : List α → List Value → Option Out) (vs : List Value) (B : List Cells) : Option Out := match B with
  | [] => match vs with
    | .slice none 0 0 :: r => X [] r
    | .slice (some ⟨0, 0, none⟩) 0 _ :: r => X [] r
    | _ => none
  | [(c, _, _)] => match vs with
    | .slice (some ⟨i, 0, none⟩) n _ :: r => match Nat.beq i N && r.all plainB, T.dec c with
      | true, some l => match goodN n l.length with
        | true => X l r
        | false => none
      | _, _ => none
    | _ => none
  | _ => none
def lstY (N : Nat) (T : Tell α) (Y : List α → List Value → (Out → Prop) → Prop) (vs : List Value) (B : List Cells) (K : Out → Prop) : Prop := match B with
  | [] => match vs with
    | .slice none 0 0 :: r => Y [] r K
    | .slice (some ⟨0, 0, none⟩) 0 _ :: r => Y [] r K
    | _ => False
  | [(c, _, _)] => match vs with
    | .slice (some ⟨i, 0, none⟩) n _ :: r => (Nat.beq i N && r.all plainB) = true ∧ ∃ l, c = T.cells l ∧ (0 < n ∧ l.length = n ∧ n ≤ 65536) ∧ Y l r K
    | _ => False
  | _ => False
theorem lstY_ok {N : Nat} {T : Tell α} {X : List α → List Value → Option Out} {Y : List α → List Value → (Out → Prop) → Prop} (hY : ∀ l r K, Y l r K → ∃ o, X l r = some o ∧ K o) (vs : List Value) (B : List Cells) (K : Out → Prop) (h : lstY N T Y vs B K) : ∃ o, lstX N T X vs B = some o ∧ K o := by
  unfold lstY at h
  split at h
  · split at h
    · exact hY _ _ _ h
    · exact hY _ _ _ h
    · exact h.elim
  · split at h
    · obtain ⟨hi, l, rfl, hg, hK⟩ := h
      obtain ⟨o, h1, h2⟩ := hY _ _ _ hK
      refine ⟨o, ?_, h2⟩
      simp only [lstX, hi, T.dec_cells, goodN_iff.2 hg]
      exact h1
    · exact h.elim
  · exact h.elim
/-- The calls of a function of such a slice. -/
def lstO (N : Nat) (T : Tell α) (X : List α → List Value → Option Out) : Array Value → AHeap → Option (Value × AHeap) := anyO N (lstX N T X)
def asksT' (N : Nat) (f : FuncId) (T : Tell α) (Y : List α → List Value → (Out → Prop) → Prop) (A : Asks) : Asks := asksV N f (lstY N T Y) A
theorem asksT'_ok {N : Nat} {f : FuncId} {T : Tell α} {X : List α → List Value → Option Out} {Y : List α → List Value → (Out → Prop) → Prop} (hY : ∀ l r K, Y l r K → ∃ o, X l r = some o ∧ K o) {orc : Orc} {A : Asks} (hA : AsksOk orc A) : AsksOk (orElse f (lstO N T X) orc) (asksT' N f T Y A) :=
  asksV_ok (lstY_ok hY) hA
theorem lstO_ok {P : Program} {f : FuncId} {T : Tell α} {X : List α → List Value → Option Out} {orc : Orc} (hP : 0 < P.globals.size) (ho : OrcOk P orc)
    (hok : ∀ l r o, X l r = some o → o.Ok)
    (hnil : ∀ r o, X [] r = some o → CallJ P f (.slice none 0 0 :: r).toArray (canon P []) o.Got)
    (hemp : ∀ r o k, X [] r = some o → CallJ P f (.slice (some ⟨0, 0, none⟩) 0 k :: r).toArray (canon P []) o.Got)
    (hfull : ∀ l r o e row k, X l r = some o → 0 < l.length → l.length ≤ 65536 → CallJ P f (.slice (some ⟨P.globals.size, 0, none⟩) l.length k :: r).toArray (canon P [(T.cells l, e, row)]) o.Got) : OrcOk P (orElse f (lstO P.globals.size T X) orc) := by
  refine anyO_ok hP ho fun vs B o h _ => ?_
  unfold lstX at h
  split at h
  · split at h
    · exact ⟨hok _ _ _ h, hnil _ _ h⟩
    · exact ⟨hok _ _ _ h, hemp _ _ _ h⟩
    · cases h
  · rename_i c e row
    split at h
    · rename_i i n k r
      split at h
      · rename_i l hb hd
        split at h
        · rename_i hg
          obtain ⟨h0, rfl, h1⟩ := goodN_iff.1 hg
          rw [Bool.and_eq_true, Nat.beq_eq] at hb
          obtain rfl := hb.1
          obtain rfl := T.dec_some hd
          exact ⟨hok _ _ _ h, hfull _ _ _ _ _ _ h h0 h1⟩
        · cases h
      · cases h
    · cases h
  · cases h
open Classical in
/-- Under a condition. -/
def ifX (C : List α → List Value → Prop) (out : List α → List Value → Out) : List α → List Value → Option Out := fun l r => if C l r then some (out l r) else none
def ifY (C : List α → List Value → Prop) (out : List α → List Value → Out) : List α → List Value → (Out → Prop) → Prop := fun l r K => C l r ∧ K (out l r)
theorem ifX_some {C : List α → List Value → Prop} {out : List α → List Value → Out} {l : List α} {r : List Value} {o : Out} (h : ifX C out l r = some o) : C l r ∧ o = out l r := by
  unfold ifX at h
  split at h
  · rename_i hc; cases h; exact ⟨hc, rfl⟩
  · cases h
theorem ifY_ok {C : List α → List Value → Prop} {out : List α → List Value → Out} : ∀ l r K, ifY C out l r K → ∃ o, ifX C out l r = some o ∧ K o := fun l r K ⟨hc, hk⟩ => ⟨_, if_pos hc, hk⟩
def lstI (N : Nat) (T : Tell α) (C : List α → List Value → Prop) (out : List α → List Value → Out) : Array Value → AHeap → Option (Value × AHeap) := lstO N T (ifX C out)
def asksI' (N : Nat) (f : FuncId) (T : Tell α) (C : List α → List Value → Prop) (out : List α → List Value → Out) (A : Asks) : Asks := asksT' N f T (ifY C out) A
theorem asksI'_ok {N : Nat} {f : FuncId} {T : Tell α} {C : List α → List Value → Prop} {out : List α → List Value → Out} {orc : Orc} {A : Asks} (hA : AsksOk orc A) : AsksOk (orElse f (lstI N T C out) orc) (asksI' N f T C out A) := asksT'_ok ifY_ok hA
theorem lstI_ok {P : Program} {f : FuncId} {T : Tell α} {C : List α → List Value → Prop} {out : List α → List Value → Out} {orc : Orc} (hP : 0 < P.globals.size) (ho : OrcOk P orc)
    (hok : ∀ l r, C l r → (out l r).Ok)
    (hnil : ∀ r, C [] r → CallJ P f (.slice none 0 0 :: r).toArray (canon P []) (out [] r).Got)
    (hemp : ∀ r k, C [] r → CallJ P f (.slice (some ⟨0, 0, none⟩) 0 k :: r).toArray (canon P []) (out [] r).Got)
    (hfull : ∀ l r m e row k, C l r → l.length = m + 1 → m + 1 ≤ 65536 → CallJ P f (.slice (some ⟨P.globals.size, 0, none⟩) (m + 1) k :: r).toArray (canon P [(T.cells l, e, row)]) (out l r).Got) : OrcOk P (orElse f (lstI P.globals.size T C out) orc) :=
  lstO_ok hP ho (fun l r o h => by obtain ⟨hc, rfl⟩ := ifX_some h; exact hok l r hc) (fun r o h => by obtain ⟨hc, rfl⟩ := ifX_some h; exact hnil r hc) (fun r o k h => by obtain ⟨hc, rfl⟩ := ifX_some h; exact hemp r k hc)
    (fun l r o e row k h h0 h1 => by obtain ⟨hc, rfl⟩ := ifX_some h; obtain ⟨m, hm⟩ : ∃ m, l.length = m + 1 := ⟨l.length - 1, by omega⟩; rw [hm]; exact hfull l r m e row k hc hm (by omega))
end
end Go.Am
