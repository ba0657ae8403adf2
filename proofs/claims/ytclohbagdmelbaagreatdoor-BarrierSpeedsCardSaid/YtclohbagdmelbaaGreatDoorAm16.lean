/-
  OWN WORK. 'Am': functions of plain arguments that read the tables.
-/
import Derived.Test.YtclohbagdmelbaaGreatDoorAm15
namespace Go.Am
noncomputable section
variable {P : Program}
/-- The calls of a function on plain arguments, wherever the tables are. -/
noncomputable def tabSpec (T : Tabs) (S : List Value → Option Value) : Array Value → AHeap → Option (Value × AHeap) := fun args h => match hasTabs T h with
  | true => (S args.toList).map (·, h)
  | false => none
theorem tabSpec_ok {T : Tabs} (hT : tabsFlat P.globals.size T = true) {f : FuncId} {S : List Value → Option Value} (hS : ∀ l v, S l = some v → l.all (flat 3) = true ∧ flat 3 v = true ∧ ∀ es, CallJ P f l.toArray (base T es P.globals.size) (fun u _ => u = v)) {orc : Orc} (ho : OrcOk P orc) : OrcOk P (orElse f (tabSpec T S) orc) := by
  refine orElse_ok ho fun args h v h' hk => ?_
  unfold tabSpec at hk
  split at hk
  · rename_i htab
    obtain ⟨u, hu, e⟩ := Option.map_eq_some_iff.1 hk
    cases e
    obtain ⟨h1, h2, h3⟩ := hS _ _ hu
    have V := view_canonT (P := P) (B := []) (ids := []) hT htab rfl (by simp) (by simp) (fun j b i hb => by simp at hb)
    refine CallJ.plain h2 ⟨V, ⟨rfl, fun i x y hx hy => ?_⟩, fun j i e => ?_, fun j e => ?_⟩ (h3 (typesOf h))
    · rw [hx] at hy
      cases hy
      exact .inl (.flat (List.all_eq_true.1 h1 x (List.mem_of_getElem? (by rw [Array.getElem?_toList]; exact hx))))
    · simp only [preT] at e
      split at e
      · simp at e
      · split at e
        · cases e; left; omega
        · cases e
    · obtain ⟨i, hi⟩ := Option.isSome_iff_exists.1 e
      simp only [preT] at hi
      split at hi
      · simp at hi
      · split at hi
        · rename_i ht
          cases hi
          obtain ⟨c, hm⟩ := tab_any.1 ht
          obtain ⟨o, ho'⟩ := tab_some (es := typesOf h) hm
          obtain ⟨c', _, rfl⟩ := tab_get ho'
          have : (canonT T (typesOf h) P.globals.size []).get j = _ := ho'
          simp [AHeap.rw, this]
        · cases hi
  · cases hk
/-- What is asked of such a function, in words of its own. -/
noncomputable def asksT (T : Tabs) (f : FuncId) (Y : List Value → (Value → Prop) → Prop) (A : Asks) : Asks := fun f' args h k => match Nat.beq f f' with
  | true => match hasTabs T h with
    | true => Y args.toList fun v => k v h
    | false => False
  | false => A f' args h k
theorem asksT_ok {T : Tabs} {f : FuncId} {S : List Value → Option Value} {Y : List Value → (Value → Prop) → Prop} {orc : Orc} {A : Asks} (hY : ∀ l K, Y l K → ∃ v, S l = some v ∧ K v) (hA : AsksOk orc A) : AsksOk (orElse f (tabSpec T S) orc) (asksT T f Y A) := by
  intro f' args h k hk
  unfold asksT at hk
  split at hk
  · rename_i hf
    split at hk
    · rename_i ht
      obtain ⟨v, e, q⟩ := hY _ _ hk
      exact ⟨v, h, by simp only [orElse, hf, tabSpec, ht, e, Option.map_some], q⟩
    · exact hk.elim
  · rename_i hf
    obtain ⟨v, h', e, q⟩ := hA f' args h k hk
    exact ⟨v, h', by simp only [orElse, hf, e], q⟩
theorem asksQ_ok {f : FuncId} {S : List Value → Option Value} {Y : List Value → (Value → Prop) → Prop} {orc : Orc} {A : Asks} (hY : ∀ l K, Y l K → ∃ v, S l = some v ∧ K v) (hA : AsksOk orc A) : AsksOk (orElse f (flatSpec S) orc) (asksP f Y A) := by
  refine asksP_ok (fun args h K hk => ?_) hA
  obtain ⟨v, e, q⟩ := hY _ _ hk
  exact ⟨v, by simp only [flatSpec, e, Option.map_some], q⟩
end
end Go.Am
