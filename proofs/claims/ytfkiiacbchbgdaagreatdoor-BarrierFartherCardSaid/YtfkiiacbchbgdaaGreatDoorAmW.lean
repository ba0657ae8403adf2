/-
  OWN WORK. 'Am': calls that end with marks; loops that only read.
-/
import Derived.Test.YtfkiiacbchbgdaaGreatDoorAmV
import Derived.Test.YtfkiiacbchbgdaaGreatDoorAmX
/-! (OWN WORK. 'Am': calls carried out in place whose ranges over functions leave marks.) -/
namespace Go.Am
noncomputable section
def finK (P : Program) (fn : Func) (K : Value → AHeap → Prop) (a : AAct) (h : AHeap) : Prop := match shutMarks h a.marks with
  | some h'' => match aresult P fn a h'' with
    | some v => K v h''
    | none => False
  | none => False
def finR (P : Program) (fn : Func) (K : Value → AHeap → Prop) : Post := fun e a h => match e with
  | .normal => finK P fn K a h
  | .ret => finK P fn K a h
  | _ => False
theorem finK_M {P : Program} {fn : Func} {K : Value → AHeap → Prop} {a : AAct} {h : AHeap} (q : finK P fn K a h) : ∃ h'', shutMarks h a.marks = some h'' ∧ (match aresult P fn a h'' with
    | some v => K v h''
    | none => False) := by
  unfold finK at q
  split at q
  · rename_i h'' e; exact ⟨h'', e, q⟩
  · exact q.elim
theorem finR_M {P : Program} {fn : Func} {K : Value → AHeap → Prop} {e : Exit} {a : AAct} {h : AHeap} (q : finR P fn K e a h) : finM P fn K e a h := by
  unfold finR at q
  split at q
  · exact finK_M q
  · exact finK_M q
  · exact q.elim
/-- As callR, for a call that may end with marks. -/
def callN (P : Program) (orc : Orc) (syf : FuncId → Sy) (pc : Asks) (n : Nat) (f : FuncId) (args : Array Value) (h : AHeap) (K : Value → AHeap → Prop) : Prop :=
  match P.funcs[f]? with
  | some fn => match fn.body with
    | some c => match Nat.ble args.size fn.ntmps with
      | true => execR P orc syf pc n [syf f] none c (enterAct fn.ntmps args.toList) h (finR P fn K)
      | false => False
    | none => False
  | none => False
theorem CallJ.ofN {P : Program} {orc : Orc} {syf : FuncId → Sy} {pc : Asks} (hm : P.follows .mixedOrders = true) (ho : OrcOk P orc) (hpc : AsksOk orc pc) {n : Nat} {f : FuncId} {args : Array Value} {h : AHeap} {K : Value → AHeap → Prop} (hk : callN P orc syf pc n f args h K) : CallJ P f args h K := by
  unfold callN at hk
  split at hk
  · rename_i fn hfn
    split at hk
    · rename_i c hc
      split at hk
      · rename_i hs
        refine CallJ.of_bodyM hfn hc (by simpa [Nat.ble_eq] using hs) ?_
        obtain ⟨e, a', h', hx, hk⟩ := execR_ok hpc hk
        exact .of_exec hm ho hx (finR_M hk)
      · exact hk.elim
    · exact hk.elim
  · exact hk.elim
end
end Go.Am
/-! (OWN WORK. 'Am': loops that only read: rounds that are counted.) -/
namespace Go.Am
section
variable {P : Program}
/-- A loop whose rounds are counted and leave the heap as it is; V tells the temporaries by the round; it leaves in the round m at the latest. -/
theorem scan_rule {n : Nat} {ts : List Nat} {body : Code} (h₀ : AHeap) (V : Nat → List Value) (I : Nat → Prop) (m : Nat) (hI : I 0) (Out : Exit → List Value → AHeap → Prop)
    (step : ∀ j, j < m → I j → ∀ g, J P body (stOf n (ts.zip (V j)) g) h₀ (told n ts fun ex vs h => match ex with
      | .normal => I (j + 1) ∧ vs = V (j + 1) ∧ h = h₀
      | ex => Out ex vs h))
    (last : I m → ∀ g, J P body (stOf n (ts.zip (V m)) g) h₀ (told n ts fun ex vs h => match ex with
      | .normal => False
      | ex => Out ex vs h)) :
    ∀ a, a.n = n → a.marks = [] → ts.map a.tmp = V 0 → J P (.loop body) a h₀ (told n ts Out) := by
  intro a ha hm hv
  refine loop_rule (fun q vs h => ∃ j, j ≤ m ∧ q = m - j ∧ I j ∧ vs = V j ∧ h = h₀) Out ?_ m _ h₀ a ⟨0, Nat.zero_le _, rfl, hI, hv, rfl⟩ ha hm rfl
  rintro q vs h g ⟨j, hj, rfl, hIj, rfl, rfl⟩
  by_cases hjm : j < m
  · refine (step j hjm hIj g).mono fun ex a' h' q => ?_
    obtain ⟨q1, q2, q3⟩ := told_facts q
    simp only [told, q1, q2, Nat.beq_refl]
    cases ex with
    | normal => exact (⟨m - (j + 1), by omega, j + 1, by omega, rfl, q3.1, q3.2.1, q3.2.2⟩)
    | _ => simpa using q3
  · obtain rfl : j = m := by omega
    refine (last hIj g).mono fun ex a' h' q => ?_
    obtain ⟨q1, q2, q3⟩ := told_facts q
    simp only [told, q1, q2]
    cases ex with
    | normal => exact q3.elim
    | _ => simpa using q3
end
end Go.Am
