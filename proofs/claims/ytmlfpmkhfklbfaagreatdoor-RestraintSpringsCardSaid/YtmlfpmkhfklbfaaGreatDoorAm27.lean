/-
  OWN WORK. 'Am': two pieces of a long run at one time.
-/
import Derived.Test.YtmlfpmkhfklbfaaGreatDoorAm5
namespace Go.Am
/-- What follows behind a run that goes on. -/
noncomputable def exec2 (P : Program) (orc : Orc) (m : Nat) (c : Code) (r : Res) : Option Res := match r.1 with
  | .normal => exec P orc m none c r.2.1 r.2.2
  | _ => none
section
variable {P : Program} {a : AAct} {h : AHeap} {k : Post} {T : Tabs}
theorem J.seg2 {orc : Orc} (hm : P.follows .mixedOrders = true) (ho : OrcOk P orc) (hT : tabsFlat P.globals.size T = true) {D : Nat} (hD : D < P.globals.size) (hDT : T.any (fun x => Nat.beq x.1 D) = false) {m N : Nat} {f : FuncId} {i : Nat} {ts : List Nat} {vs : List Value} {B : List Blk}
    (hs1 : isSeq (codeAt P f i) = true) (hs2 : isSeq (codeAt P f (i + 1)) = true)
    (hx : ((exec P orc m none (fstS (codeAt P f i)) a h).bind (exec2 P orc m (fstS (codeAt P f (i + 1))))).bind (shrink P.globals.size T N ts) = some (vs, B))
    (hk : ∀ es g, J P (codeAt P f (i + 2)) (stOf N (ts.zip vs) g) (canonT T es P.globals.size B) k) : J P (codeAt P f i) a h k := by
  cases hr : exec P orc m none (fstS (codeAt P f i)) a h with
  | none => rw [hr] at hx; cases hx
  | some r =>
    obtain ⟨e, a', h'⟩ := r
    rw [hr, Option.bind_some] at hx
    cases e with
    | normal => exact J.seqAt hs1 (J.of_exec hm ho hr (J.seqAt hs2 (J.seg hm ho hT hD hDT hx fun es g => hk es g)))
    | _ => cases hx
end
end Go.Am
