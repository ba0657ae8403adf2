/-
  OWN WORK. 'Am': functions of any arguments whose blocks hold plain cells: the blocks that the arguments name, under new numbers; what they return becomes known.
-/
import Derived.Test.YtclohbagdmelbaaGreatDoorAm14
namespace Go.Am
noncomputable section
def namedS : Value → List Nat
  | .slice _ 0 _ => []
  | .slice (some ⟨i, _, none⟩) _ _ => [i]
  | _ => []
def namedA (v : Value) : List Nat := match v with
  | .agg cs => cs.toList.flatMap namedS
  | .slice _ 0 _ => []
  | v => named v
def idsA (vs : List Value) : List Nat := addIds [] (vs.flatMap namedA)
def renE (n : Nat) (ids : List Nat) (v : Value) : Option Value := match v with
  | .slice (some _) 0 k => some (.slice (some ⟨0, 0, none⟩) 0 k)
  | v => renV n ids v
def renA (n : Nat) (ids : List Nat) (v : Value) : Option Value := match v with
  | .agg cs => match flat 3 (.agg cs) with
    | true => some (.agg cs)
    | false => match amapM (renE n ids) cs.toList with
      | some l => some (.agg l.toArray)
      | none => none
  | .slice (some _) 0 k => some (.slice (some ⟨0, 0, none⟩) 0 k)
  | v => renV n ids v
abbrev Cells := List Value × TypeId × Nat
def blkB (h : AHeap) (i : Nat) : Option Cells := match h.get i with
  | some (.cells c e row _) => some (c, e, row)
  | _ => none
/-- The arguments, and the blocks that they name, under new numbers. -/
def viewA (n : Nat) (vs : List Value) (h : AHeap) : Option (List Value × List Cells) :=
  match (idsA vs).all (Nat.ble n), amapM (renA n (idsA vs)) vs, amapM (blkB h) (idsA vs) with
  | true, some us, some B => some (us, B)
  | _, _, _ => none
def flatB (B : List Cells) : Bool := B.all fun b => b.1.all (flat 3)
def flatP (B : List Cells) : Prop := List.rec (motive := fun _ => Prop) True (fun b _ ih => b.1.all (flat 3) = true ∧ ih) B
theorem flatP_iff : ∀ {B : List Cells}, flatP B → flatB B = true
  | [], _ => rfl
  | b :: B, h => by
    show (b.1.all (flat 3) && flatB B) = true
    rw [show b.1.all (flat 3) = true from h.1, flatP_iff (B := B) h.2]; rfl
def anyO (n : Nat) (X : List Value → List Cells → Option Out) : Array Value → AHeap → Option (Value × AHeap) := fun args h => match viewA n args.toList h with
  | some (vs, B) => match flatB B, X vs B with
    | true, some o => some (o.val h.n, o.heap h)
    | _, _ => none
  | none => none
def asksV (n : Nat) (f : FuncId) (Y : List Value → List Cells → (Out → Prop) → Prop) (A : Asks) : Asks := fun f' args h k => match Nat.beq f f' with
  | true => match viewA n args.toList h with
    | some (vs, B) => flatP B ∧ Y vs B fun o => o.kont h k
    | none => False
  | false => A f' args h k
theorem asksV_ok {n : Nat} {f : FuncId} {X : List Value → List Cells → Option Out} {Y : List Value → List Cells → (Out → Prop) → Prop} (hY : ∀ vs B K, Y vs B K → ∃ o, X vs B = some o ∧ K o) {A : Asks} {orc : Orc} (hA : AsksOk orc A) : AsksOk (orElse f (anyO n X) orc) (asksV n f Y A) := by
  intro f' args h k hk
  unfold asksV at hk
  split at hk
  · rename_i hf
    split at hk
    · rename_i vs B hv
      obtain ⟨hB, hk⟩ := hk
      obtain ⟨o, hX, hq⟩ := hY _ _ _ hk
      rw [o.kont_iff] at hq
      refine ⟨_, _, ?_, hq⟩
      have : anyO n X args h = some (o.val h.n, o.heap h) := by
        unfold anyO
        rw [hv]
        simp only [flatP_iff hB, hX]
      simp only [orElse, hf, this]
    · exact hk.elim
  · rename_i hf
    obtain ⟨v, h', e, q⟩ := hA f' args h k hk
    exact ⟨v, h', by simp only [orElse, hf, e], q⟩
theorem pre_same (n : Nat) (ids : List Nat) : preT n [] ids = preOf n ids := by
  funext j
  unfold preT preOf
  by_cases h : n ≤ j
  · rw [if_pos h, if_pos h]
  · rw [if_neg h, if_neg h]; rfl
theorem namedS_spec {v : Value} {i : Nat} (hi : i ∈ namedS v) : ∃ o n k, v = .slice (some ⟨i, o, none⟩) n k := by
  unfold namedS at hi
  split at hi
  · cases hi
  · simp only [List.mem_singleton] at hi; subst hi; exact ⟨_, _, _, rfl⟩
  · cases hi
theorem namedA_spec {v : Value} {i : Nat} (hi : i ∈ namedA v) : Mentions v i := by
  unfold namedA at hi
  split at hi
  · rename_i cs
    obtain ⟨c, hc, hi⟩ := List.mem_flatMap.1 hi
    obtain ⟨o, n, k, rfl⟩ := namedS_spec hi
    exact .inr (.inr (.inl ⟨cs, o, n, k, rfl, hc⟩))
  · cases hi
  · exact named_spec hi
theorem renE_spec {h₂ : AHeap} {pre : Pre} {n : Nat} {ids : List Nat} {v u : Value} (e : renE n ids v = some u) (hp : pre = preT n [] ids) (h0 : 0 < h₂.n) (hd : pre 0 = none) : Ren pre v u ∨ EmptS h₂ pre v u := by
  unfold renE at e
  split at e
  · rename_i a k
    cases e
    exact .inr ⟨a, 0, k, rfl, rfl, hd, h0⟩
  · rw [hp]; exact .inl (renV_spec e)
theorem renA_spec {P : Program} {B : List Cells} {ids : List Nat} {v u : Value} (hP : 0 < P.globals.size) (e : renA P.globals.size ids v = some u) : Ren (preOf P.globals.size ids) v u ∨ Empt (canon P B) (preOf P.globals.size ids) v u := by
  rw [← pre_same]
  unfold renA at e
  split at e
  · rename_i cs
    split at e
    · rename_i hf; cases e; exact .inl (.flat hf)
    · split at e
      · rename_i l hl
        cases e
        obtain ⟨h1, h2⟩ := amapM_spec hl
        have : Value.agg cs = .agg cs.toList.toArray := by rw [Array.toArray_toList]
        rw [this]
        exact .inr (.inr ⟨_, _, rfl, rfl, h1, fun i x y hx hy => renE_spec (h2 i x y hx hy) rfl (by rw [canon_n]; omega) (by simp only [preT]; rw [if_neg (by omega)]; rfl)⟩)
      · cases e
  · rename_i a k
    cases e
    refine .inr (.inl ⟨a, 0, k, rfl, rfl, ?_, by rw [canon_n]; omega⟩)
    simp only [preT]
    rw [if_neg (by omega)]; rfl
  · exact .inl (renV_spec e)
theorem anyO_ok {P : Program} {f : FuncId} {X : List Value → List Cells → Option Out} {orc : Orc} (hP : 0 < P.globals.size) (ho : OrcOk P orc)
    (hX : ∀ vs B o, X vs B = some o → flatB B = true → o.Ok ∧ CallJ P f vs.toArray (canon P B) o.Got) : OrcOk P (orElse f (anyO P.globals.size X) orc) := by
  refine orElse_ok ho fun args h v h' hk => ?_
  unfold anyO at hk
  split at hk
  · rename_i vs B hv
    split at hk
    · rename_i o hB ho'
      cases hk
      obtain ⟨h1, h2⟩ := hX vs B o ho' hB
      unfold viewA at hv
      split at hv
      · rename_i us B' hge hr hb
        cases hv
        obtain ⟨r1, r2⟩ := amapM_spec hr
        obtain ⟨b1, b2⟩ := amapM_spec hb
        obtain ⟨i1, i2⟩ := addIds_spec (args.toList.flatMap namedA) [] (by simp)
        have s : Small P args vs.toArray h (canon P B) (preOf P.globals.size (idsA args.toList)) := by
          refine Small.canonE b1 i1 (fun j b i hbj hij => ?_) ⟨?_, fun i x y hx hy => ?_⟩ (fun i hi => ?_)
          · have hq := b2 j i b hij hbj
            unfold blkB at hq
            split at hq
            · rename_i c e row ro hg
              cases hq
              refine ⟨⟨ro, hg⟩, ?_⟩
              exact List.all_eq_true.1 hB _ (List.mem_of_getElem? hbj)
            · cases hq
          · rw [← Array.length_toList, r1]; simp
          · exact renA_spec hP (r2 i x y (by rw [Array.getElem?_toList]; exact hx) (by simpa using hy))
          · rcases i2 i hi with hi | hi
            · cases hi
            · obtain ⟨v, hv', hi⟩ := List.mem_flatMap.1 hi
              exact ⟨v, hv', namedA_spec hi⟩
        exact Out.call h1 s h2
      · cases hv
    · cases hk
  · cases hk
end
end Go.Am
