/-
  OWN WORK. 'Am': calls that are carried out in place on values that are not known; their loops as often as they go.
-/
import Derived.Test.YtclohbagdmelbaaGreatDoorAm12
namespace Go.Am
noncomputable section
section
variable (P : Program) (orc : Orc) (sy : Sy) (pc : Asks)
def runRegionE (ex : Ex) (ops : Array Oper) (draw : Bool) (a : AAct) (h : AHeap) (k : AAct → AHeap → Prop) : Prop :=
  match constsOk P ops, draw with
  | false, _ => False
  | true, false => runOpsC P ex sy pc ops ops.toList a h k
  | true, true => match orderly ops with
    | true => runDrawC P ex sy pc ops (befs ops.toList []) (ops.size + 1) (Array.replicate ops.size false) [] a h k
    | false => False
def stepE (ex : Ex) (ih : Code → AAct → AHeap → Post → Prop) (c : Code) (a : AAct) (h : AHeap) (k : Post) : Prop :=
  match c with
  | .skip => k .normal a h
  | .region _ ops draw => runRegionE P sy pc ex ops draw a h fun a' h' => k .normal a' h'
  | .seq x y => ih x a h fun e a' h' => match e with
    | .normal => ih y a' h' k
    | e => k e a' h'
  | .cond x y z => match a.eval x with
    | .bool true => ih y a h k
    | .bool false => ih z a h k
    | _ => False
  | .block id b => ih b a h fun e a' h' => match e with
    | .exit j => match Nat.beq j id with
      | true => k .normal a' h'
      | false => k (.exit j) a' h'
    | e => k e a' h'
  | .loop b => ih b a h fun e a' h' => match e with
    | .normal => ih (.loop b) a' h' k
    | e => k e a' h'
  | .exit id => k (.exit id) a h
  | .ret => k .ret a h
  | .label _ => k .normal a h
  | .scope b => ih b a h fun e a' h' => match e with
    | .goto _ => False
    | e => k e a' h'
  | _ => False
def execE (n : Nat) : Code → AAct → AHeap → Post → Prop := Nat.rec (motive := fun _ => Code → AAct → AHeap → Post → Prop) (fun _ _ _ _ => False) (fun n ih => stepE P sy pc (exec P orc n) ih) n
/-- What is asked of a call that is carried out in place. -/
def callE (n : Nat) (f : FuncId) (args : Array Value) (h : AHeap) (K : Value → AHeap → Prop) : Prop :=
  match P.funcs[f]? with
  | some fn => match fn.body with
    | some c => match Nat.ble args.size fn.ntmps with
      | true => execE P orc sy pc n c (enterAct fn.ntmps args.toList) h (fin P fn K)
      | false => False
    | none => False
  | none => False
end
/-- A function whose calls are carried out in place. -/
def inlO (P : Program) (f : FuncId) (n : Nat) (orc : Orc) : Orc := orElse f (fun args h => acallRun P (exec P orc n) f args h) orc
def asksI (P : Program) (f : FuncId) (n : Nat) (orc : Orc) (sy : Sy) (pc A : Asks) : Asks := fun f' args h k => match Nat.beq f f' with
  | true => callE P orc sy pc n f args h k
  | false => A f' args h k
end
section
variable {P : Program} {orc : Orc} {sy : Sy} {pc : Asks}
theorem runRegionE_ok {n : Nat} (hpc : AsksOk orc pc) {ops : Array Oper} {draw : Bool} {a : AAct} {h : AHeap} {k : AAct → AHeap → Prop} (hk : runRegionE P sy pc (exec P orc n) ops draw a h k) : ∃ a' h', runRegion P (exec P orc n) ops draw a h = some (a', h') ∧ k a' h' := by
  unfold runRegionE at hk
  split at hk
  · exact hk.elim
  · rename_i hc
    obtain ⟨a', h', hr, hk⟩ := runOpsC_ok (by rw [exec_orc]; exact hpc) hk
    exact ⟨a', h', by unfold runRegion; simp only [hc]; exact hr, hk⟩
  · rename_i hc
    split at hk
    · rename_i hor
      obtain ⟨a', h', hr, hk⟩ := runDrawC_ok (by rw [exec_orc]; exact hpc) (fun p hp => by cases hp) hk
      exact ⟨a', h', by unfold runRegion; simp only [hc, hor]; exact hr, hk⟩
    · exact hk.elim
theorem execE_ok (hpc : AsksOk orc pc) : ∀ {n : Nat} {c : Code} {a : AAct} {h : AHeap} {k : Post}, execE P orc sy pc n c a h k → ∃ e a' h', exec P orc n none c a h = some (e, a', h') ∧ k e a' h'
  | 0, _, _, _, _, hk => hk.elim
  | n + 1, c, a, h, k, hk => by
    have hk : stepE P sy pc (exec P orc n) (execE P orc sy pc n) c a h k := hk
    rw [exec_succ]
    cases c with
    | skip => exact ⟨_, _, _, rfl, hk⟩
    | region id ops draw =>
      obtain ⟨a', h', hr, hk⟩ := runRegionE_ok hpc hk
      exact ⟨_, a', h', by simp only [execStep, hr]; rfl, hk⟩
    | seq x y =>
      obtain ⟨e, a₁, h₁, hx, hk⟩ := execE_ok hpc (c := x) hk
      cases e with
      | normal =>
        obtain ⟨e', a', h', hy, hk⟩ := execE_ok hpc (c := y) hk
        exact ⟨e', a', h', by simp only [execStep, hx]; exact hy, hk⟩
      | _ => exact ⟨_, a₁, h₁, by simp only [execStep, hx], hk⟩
    | cond x y z =>
      simp only [stepE] at hk
      split at hk
      · rename_i hb
        obtain ⟨e', a', h', hy, hk⟩ := execE_ok hpc hk
        exact ⟨e', a', h', by simp only [execStep, hb]; exact hy, hk⟩
      · rename_i hb
        obtain ⟨e', a', h', hy, hk⟩ := execE_ok hpc hk
        exact ⟨e', a', h', by simp only [execStep, hb]; exact hy, hk⟩
      · exact hk.elim
    | block id b =>
      obtain ⟨e, a₁, h₁, hx, hk⟩ := execE_ok hpc (c := b) hk
      cases e with
      | exit j =>
        simp only at hk
        split at hk
        · rename_i hj
          exact ⟨_, a₁, h₁, by simp only [execStep, hx, hj], hk⟩
        · rename_i hj
          exact ⟨_, a₁, h₁, by simp only [execStep, hx, hj], hk⟩
      | _ => exact ⟨_, a₁, h₁, by simp only [execStep, hx], hk⟩
    | loop b =>
      obtain ⟨e, a₁, h₁, hx, hk⟩ := execE_ok hpc (c := b) hk
      cases e with
      | normal =>
        obtain ⟨e', a', h', hy, hk⟩ := execE_ok hpc (c := .loop b) hk
        exact ⟨e', a', h', by simp only [execStep, hx]; exact hy, hk⟩
      | _ => exact ⟨_, a₁, h₁, by simp only [execStep, hx], hk⟩
    | exit id => exact ⟨_, _, _, rfl, hk⟩
    | ret => exact ⟨_, _, _, rfl, hk⟩
    | label l => exact ⟨_, _, _, rfl, hk⟩
    | scope b =>
      obtain ⟨e, a₁, h₁, hx, hk⟩ := execE_ok hpc (c := b) hk
      cases e with
      | goto l => exact hk.elim
      | _ => exact ⟨_, a₁, h₁, by simp only [execStep, hx], hk⟩
    | _ => exact hk.elim
theorem callE_ok (hpc : AsksOk orc pc) {n : Nat} {f : FuncId} {args : Array Value} {h : AHeap} {K : Value → AHeap → Prop} (hk : callE P orc sy pc n f args h K) : ∃ v h', acallRun P (exec P orc n) f args h = some (v, h') ∧ K v h' := by
  unfold callE at hk
  split at hk
  · rename_i fn hfn
    split at hk
    · rename_i c hc
      split at hk
      · rename_i hs
        obtain ⟨e, a', h', hx, hk⟩ := execE_ok hpc hk
        obtain ⟨he, hm, v, hv, hk⟩ := fin_end hk
        refine ⟨v, h', ?_, hk⟩
        unfold acallRun
        rcases he with rfl | rfl
        · simp only [hfn, hc, hs, hx, hm, shutMarks, hv, Option.map_some]
        · simp only [hfn, hc, hs, hx, hm, shutMarks, hv, Option.map_some]
      · exact hk.elim
    · exact hk.elim
  · exact hk.elim
theorem inlO_ok (hm : P.follows .mixedOrders = true) (ho : OrcOk P orc) {f : FuncId} {n : Nat} : OrcOk P (inlO P f n orc) :=
  orElse_ok ho fun _ _ _ _ hk _ _ _ H G hA => acallRun_ok (exec_ok hm ho n) H G hA hk none
theorem asksI_ok {f : FuncId} {n : Nat} {A : Asks} (hpc : AsksOk orc pc) (hA : AsksOk orc A) : AsksOk (inlO P f n orc) (asksI P f n orc sy pc A) := by
  intro f' args h k hk
  unfold asksI at hk
  split at hk
  · rename_i hf
    obtain ⟨v, h', e, q⟩ := callE_ok hpc hk
    obtain rfl : f = f' := Nat.eq_of_beq_eq_true hf
    exact ⟨v, h', by simp only [inlO, orElse, hf, e], q⟩
  · rename_i hf
    obtain ⟨v, h', e, q⟩ := hA f' args h k hk
    exact ⟨v, h', by simp only [inlO, orElse, hf, e], q⟩
end
end Go.Am
