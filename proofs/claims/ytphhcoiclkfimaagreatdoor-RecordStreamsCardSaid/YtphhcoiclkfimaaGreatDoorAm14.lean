/-
  OWN WORK. 'Am': a call that is carried out in place, loops and all, as a call.
-/
import Derived.Test.YtphhcoiclkfimaaGreatDoorAm13
namespace Go.Am

theorem CallJ.ofE {P : Program} {orc : Orc} {sy : Sy} {pc : Asks} (hm : P.follows .mixedOrders = true) (ho : OrcOk P orc) (hpc : AsksOk orc pc) {n : Nat} {f : FuncId} {args : Array Value} {h : AHeap} {K : Value → AHeap → Prop} (hk : callE P orc sy pc n f args h K) : CallJ P f args h K := by
  intro ρ args' w H G hA
  obtain ⟨v, h', hc, hK⟩ := callE_ok hpc hk
  refine CallsIn.mono (acallRun_ok (exec_ok hm ho n) H G hA hc none) ?_
  rintro e w' ⟨v', ρ', rfl, hv, H', A⟩
  exact ⟨_, v', h', ρ', rfl, hK, hv, H', A.fr⟩
end Go.Am
