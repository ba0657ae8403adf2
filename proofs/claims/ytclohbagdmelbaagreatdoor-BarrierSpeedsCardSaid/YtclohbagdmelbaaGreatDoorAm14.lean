/-
  OWN WORK. 'Am': a call that is carried out in place, loops and all, as a call.
-/
import Derived.Test.YtclohbagdmelbaaGreatDoorAm13
namespace Go.Am

theorem CallJ.ofE {P : Program} {orc : Orc} {sy : Sy} {pc : Asks} (hm : P.follows .mixedOrders = true) (ho : OrcOk P orc) (hpc : AsksOk orc pc) {n : Nat} {f : FuncId} {args : Array Value} {h : AHeap} {K : Value → AHeap → Prop} (hk : callE P orc sy pc n f args h K) : CallJ P f args h K := by
  intro ρ args' w H G hA
  obtain ⟨v, h', hc, hK⟩ := callE_ok hpc hk
  refine CallsIn.mono (acallRun_ok (exec_ok hm ho n) H G hA hc none) ?_
  rintro e w' ⟨v', ρ', rfl, hv, H', A⟩
  exact ⟨_, v', h', ρ', rfl, hK, hv, H', A.fr⟩
/-- One function's calls, known as elsewhere. -/
noncomputable def liftO (f : FuncId) (A B : Orc) : Orc := orElse f (A f) B
noncomputable def liftA (f : FuncId) (A B : Asks) : Asks := fun f' args h k => match Nat.beq f f' with
  | true => A f' args h k
  | false => B f' args h k
theorem liftO_ok {P : Program} {f : FuncId} {A B : Orc} (hA : OrcOk P A) (hB : OrcOk P B) : OrcOk P (liftO f A B) :=
  orElse_ok hB fun args h v h' hk => hA f args h v h' hk
theorem liftA_ok {f : FuncId} {A B : Orc} {a b : Asks} (hA : AsksOk A a) (hB : AsksOk B b) : AsksOk (liftO f A B) (liftA f a b) := by
  intro f' args h k hk
  unfold liftA at hk
  split at hk
  · rename_i hf
    obtain ⟨v, h', e, q⟩ := hA f' args h k hk
    obtain rfl : f = f' := Nat.eq_of_beq_eq_true hf
    exact ⟨v, h', by simp only [liftO, orElse, hf, e], q⟩
  · rename_i hf
    obtain ⟨v, h', e, q⟩ := hB f' args h k hk
    exact ⟨v, h', by simp only [liftO, orElse, hf, e], q⟩
/-- What is asked of a function of plain values, in words of its own. -/
noncomputable def asksP (f : FuncId) (Y : List Value → (Value → Prop) → Prop) (A : Asks) : Asks := fun f' args h k => match Nat.beq f f' with
  | true => Y args.toList fun v => k v h
  | false => A f' args h k
theorem asksP_ok {f : FuncId} {X : Array Value → AHeap → Option (Value × AHeap)} {Y : List Value → (Value → Prop) → Prop} {orc : Orc} {A : Asks} (hY : ∀ args h K, Y args.toList K → ∃ v, X args h = some (v, h) ∧ K v) (hA : AsksOk orc A) : AsksOk (orElse f X orc) (asksP f Y A) := by
  intro f' args h k hk
  unfold asksP at hk
  split at hk
  · rename_i hf
    obtain ⟨v, e, q⟩ := hY args h _ hk
    exact ⟨v, h, by simp only [orElse, hf, e], q⟩
  · rename_i hf
    obtain ⟨v, h', e, q⟩ := hA f' args h k hk
    exact ⟨v, h', by simp only [orElse, hf, e], q⟩
end Go.Am
