/-
  OWN WORK. 'Am': ranges over functions, carried out in place on values that are not known.
-/
import Derived.Test.YtclohbagdmelbaaGreatDoorAm15
import Derived.Test.YtclohbagdmelbaaGreatDoorAm21
namespace Go.Am
noncomputable section
section
variable (P : Program) (orc : Orc) (syf : FuncId → Sy) (pc : Asks)
/-- What is carried out: by which ways (those of the code itself first, then those of the code around it), in which loop. -/
abbrev RunR := List Sy → Option Nat → Code → AAct → AHeap → Post → Prop
def jumpOf (e : Exit) : Option (Option Code) := match e with
  | .normal => some none
  | .ret => some (some Code.ret)
  | .exit id => some (some (Code.exit id))
  | _ => none
/-- A round of a range over a function. -/
def symRound (ih : RunR) (S : List Sy) (o : Oper) (a : AAct) (h : AHeap) (k : Value → AHeap → Prop) : Prop :=
  match aop P o a.eval h with
  | some (.round l args) => match h.get l with
    | some (.loop _ _ b ps assign body _) => match Nat.beq args.size ps.size && ps.toList.all (Nat.blt · b.n) with
      | true => ih S.tail (some l) assign { n := b.n, t := setTmps b.t ps.toList args.toList, marks := [] } h fun e a₁ h₁ => match e with
        | .normal => match h₁.get l with
          | some (.loop .ready pend a' ps' assign' body' d') => ih S.tail (some l) body a₁ (h₁.set l (.loop .busy pend a' ps' assign' body' d')) fun e _ h₂ => match h₂.get l with
            | some (.loop _ _ a'' ps'' assign'' body'' d'') => match jumpOf e with
              | some jump => k (.bool jump.isNone) (h₂.set l (.loop (if jump.isNone then .ready else .done) jump a'' ps'' assign'' body'' d''))
              | none => False
            | _ => False
          | _ => False
        | _ => False
      | false => False
    | _ => False
  | _ => False
/-- A function that is entered, by ways of its own. -/
def symEnter (ex : Ex) (ih : RunR) (S : List Sy) (o : Oper) (a : AAct) (h : AHeap) (k : Value → AHeap → Prop) : Prop :=
  match aop P o a.eval h with
  | some (.enter f args) => match (ex.orc f args h).isNone, P.funcs[f]? with
    | true, some fn => match fn.body, Nat.ble args.size fn.ntmps with
      | some c, true => ih (syf f :: S) none c (enterAct fn.ntmps args.toList) h (fin P fn k)
      | _, _ => False
    | _, _ => False
  | _ => False
def opR (ex : Ex) (ih : RunR) (S : List Sy) (ops : Array Oper) (o : Oper) (a : AAct) (h : AHeap) (k : Value → AHeap → Prop) : Prop :=
  match Nat.beq (S.headD (fun _ => 0) o) 50 with
  | true => match dstOk o a with
    | true => match Region.wanted o (ayielded ops a) with
      | true => symRound P ih S o a h k
      | false => k undef h
    | false => False
  | false => match Nat.beq (S.headD (fun _ => 0) o) 55 with
    | true => match dstOk o a with
      | true => match Region.wanted o (ayielded ops a) with
        | true => symEnter P syf ex ih S o a h k
        | false => k undef h
      | false => False
    | false => opC P ex (S.headD fun _ => 0) pc ops o a h k
def runOpsR (ex : Ex) (ih : RunR) (S : List Sy) (ops : Array Oper) (l : List Oper) : AAct → AHeap → (AAct → AHeap → Prop) → Prop :=
  List.rec (motive := fun _ => AAct → AHeap → (AAct → AHeap → Prop) → Prop) (fun a h k => k a h)
    (fun o _ ih' a h k => opR P syf pc ex ih S ops o a h fun v h' => ih' (a.put o.dst v) h' k) l
def runRegionR (ex : Ex) (ih : RunR) (S : List Sy) (ops : Array Oper) (draw : Bool) (a : AAct) (h : AHeap) (k : AAct → AHeap → Prop) : Prop :=
  match constsOk P ops, draw with
  | false, _ => False
  | true, false => runOpsR P syf pc ex ih S ops ops.toList a h k
  | true, true => match orderly ops with
    | true => runDrawC P ex (S.headD fun _ => 0) pc ops (befs ops.toList []) (ops.size + 1) (Array.replicate ops.size false) [] a h k
    | false => False
/-- A range over a function: its function's code, and behind it what its rounds ask for. -/
def rangeR (ih : RunR) (S : List Sy) (rd : Option Nat) (f : Operand) (ps : Array Tmp) (assign body : Code) (a : AAct) (h : AHeap) (k : Post) : Prop :=
  match rangeIn rd h with
  | some (d, mark, h₁) => match fval a f with
    | .func (.func g) first captured => match P.funcs[g]? with
      | some fn => match fn.name == "runtime.NumGoroutine" || fn.body.isNone with
        | true => False
        | false => match (orc g (first ++ #[Value.func (.yield h₁.n) #[] #[]] ++ captured) (h₁.push (.loop .ready none a ps assign body d))).isNone, fn.body, Nat.ble (first ++ #[Value.func (.yield h₁.n) #[] #[]] ++ captured).size fn.ntmps with
          | true, some c, true => ih (syf g :: S) none c (enterAct fn.ntmps (first ++ #[Value.func (.yield h₁.n) #[] #[]] ++ captured).toList) (h₁.push (.loop .ready none a ps assign body d)) (fin P fn fun _ h₂ => match h₂.get h₁.n with
            | some (.loop .busy _ _ _ _ _ _) => False
            | some (.loop _ pending a' ps' assign' body' d') => match pending with
              | none => k .normal { n := a.n, t := a.t, marks := mark ++ a.marks } (h₂.set h₁.n (.loop .exhausted pending a' ps' assign' body' d'))
              | some c => ih S rd c { n := a.n, t := a.t, marks := mark ++ a.marks } (h₂.set h₁.n (.loop .exhausted pending a' ps' assign' body' d')) k
            | _ => False)
          | _, _, _ => False
      | none => False
    | _ => False
  | none => False
def stepR (ex : Ex) (ih : RunR) (S : List Sy) (rd : Option Nat) (c : Code) (a : AAct) (h : AHeap) (k : Post) : Prop :=
  match c with
  | .skip => k .normal a h
  | .region _ ops draw => runRegionR P syf pc ex ih S ops draw a h fun a' h' => k .normal a' h'
  | .seq x y => ih S rd x a h fun e a' h' => match e with
    | .normal => ih S rd y a' h' k
    | e => k e a' h'
  | .cond x y z => match a.eval x with
    | .bool true => ih S rd y a h k
    | .bool false => ih S rd z a h k
    | _ => False
  | .block id b => ih S rd b a h fun e a' h' => match e with
    | .exit j => match Nat.beq j id with
      | true => k .normal a' h'
      | false => k (.exit j) a' h'
    | e => k e a' h'
  | .loop b => ih S rd b a h fun e a' h' => match e with
    | .normal => ih S rd (.loop b) a' h' k
    | e => k e a' h'
  | .rangeFunc f ps assign body => rangeR P orc syf ih S rd f ps assign body a h k
  | .exit id => k (.exit id) a h
  | .ret => k .ret a h
  | .label _ => k .normal a h
  | .scope b => ih S rd b a h fun e a' h' => match e with
    | .goto _ => False
    | e => k e a' h'
  | _ => False
def execR (n : Nat) : RunR := Nat.rec (motive := fun _ => RunR) (fun _ _ _ _ _ _ => False) (fun n ih => stepR P orc syf pc (exec P orc n) ih) n
/-- What is asked of a call that is carried out in place, its ranges over functions, too. -/
def callR (n : Nat) (f : FuncId) (args : Array Value) (h : AHeap) (K : Value → AHeap → Prop) : Prop :=
  match P.funcs[f]? with
  | some fn => match fn.body with
    | some c => match Nat.ble args.size fn.ntmps with
      | true => execR P orc syf pc n [syf f] none c (enterAct fn.ntmps args.toList) h (fin P fn K)
      | false => False
    | none => False
  | none => False
end
section
variable {P : Program} {orc : Orc} {syf : FuncId → Sy} {pc : Asks}
/-- What is said of one is what the other comes to. -/
def Sound (ex : Ex) (ih : RunR) : Prop := ∀ {S : List Sy} {rd : Option Nat} {c : Code} {a : AAct} {h : AHeap} {k : Post}, ih S rd c a h k → ∃ e a' h', ex rd c a h = some (e, a', h') ∧ k e a' h'
theorem symRound_ok {ex : Ex} {ih : RunR} (E : Sound ex ih) {S : List Sy} {o : Oper} {a : AAct} {h : AHeap} {k : Value → AHeap → Prop} (hk : symRound P ih S o a h k) : ∃ x v h', aop P o a.eval h = some x ∧ doneBy P ex x h = some (v, h') ∧ k v h' := by
  unfold symRound at hk
  split at hk
  · rename_i l args hx
    split at hk
    · rename_i st pd b ps assign body d hg
      split at hk
      · rename_i hc
        obtain ⟨e, a₁, h₁, h1, hk⟩ := E hk
        cases e with
        | normal =>
          simp only at hk
          split at hk
          · rename_i pend a' ps' assign' body' d' hg1
            obtain ⟨e, a₂, h₂, h2, hk⟩ := E hk
            split at hk
            · rename_i st2 pd2 a'' ps'' assign'' body'' d'' hg2
              split at hk
              · rename_i jump hj
                refine ⟨_, _, _, hx, ?_, hk⟩
                simp only [doneBy, aroundBy, hg, hc, h1, hg1, h2, hg2]
                cases e <;> simp [jumpOf] at hj <;> subst hj <;> rfl
              · exact hk.elim
            · exact hk.elim
          · exact hk.elim
        | _ => exact hk.elim
      · exact hk.elim
    · exact hk.elim
  · exact hk.elim
theorem symEnter_ok {ex : Ex} {ih : RunR} (E : Sound ex ih) {S : List Sy} {o : Oper} {a : AAct} {h : AHeap} {k : Value → AHeap → Prop} (hk : symEnter P syf ex ih S o a h k) : ∃ x v h', aop P o a.eval h = some x ∧ doneBy P ex x h = some (v, h') ∧ k v h' := by
  unfold symEnter at hk
  split at hk
  · rename_i f args hx
    split at hk
    · rename_i fn hno hfn
      split at hk
      · rename_i c hc hs
        obtain ⟨e, a₂, h₂, hx2, hk⟩ := E hk
        obtain ⟨he, hm, v, hv, hk⟩ := fin_end hk
        refine ⟨_, v, h₂, hx, ?_, hk⟩
        show acallBy P ex f args h = some (v, h₂)
        unfold acallBy
        rw [Option.isNone_iff_eq_none] at hno
        rw [hno]
        unfold acallRun
        rcases he with rfl | rfl
        · simp only [hfn, hc, hs, hx2, hm, shutMarks, hv, Option.map_some]
        · simp only [hfn, hc, hs, hx2, hm, shutMarks, hv, Option.map_some]
      · exact hk.elim
    · exact hk.elim
  · exact hk.elim
theorem opR_ok {ex : Ex} {ih : RunR} (E : Sound ex ih) (hpc : AsksOk ex.orc pc) {S : List Sy} {ops : Array Oper} {o : Oper} {a : AAct} {h : AHeap} {k : Value → AHeap → Prop} (hk : opR P syf pc ex ih S ops o a h k) : ∃ v h', opBy P ex ops o a h = some (v, h') ∧ k v h' := by
  unfold opR at hk
  split at hk
  · split at hk
    · rename_i hd
      split at hk
      · rename_i hw
        obtain ⟨x, v, h', h1, h2, h3⟩ := symRound_ok E hk
        exact ⟨v, h', by unfold opBy; simp only [hd, hw, h1, h2], h3⟩
      · rename_i hw
        exact ⟨_, _, by unfold opBy; simp only [hd, hw], hk⟩
    · exact hk.elim
  · split at hk
    · split at hk
      · rename_i hd
        split at hk
        · rename_i hw
          obtain ⟨x, v, h', h1, h2, h3⟩ := symEnter_ok E hk
          exact ⟨v, h', by unfold opBy; simp only [hd, hw, h1, h2], h3⟩
        · rename_i hw
          exact ⟨_, _, by unfold opBy; simp only [hd, hw], hk⟩
      · exact hk.elim
    · exact opC_ok hpc hk
theorem runOpsR_ok {ex : Ex} {ih : RunR} (E : Sound ex ih) (hpc : AsksOk ex.orc pc) {S : List Sy} {ops : Array Oper} {k : AAct → AHeap → Prop} : ∀ {l : List Oper} {a : AAct} {h : AHeap}, runOpsR P syf pc ex ih S ops l a h k → ∃ a' h', runOps P ex ops l a h = some (a', h') ∧ k a' h'
  | [], a, h, hk => ⟨a, h, rfl, hk⟩
  | o :: l, a, h, hk => by
    obtain ⟨v, h', h1, h2⟩ := opR_ok E hpc (show opR P syf pc ex ih S ops o a h (fun v h' => runOpsR P syf pc ex ih S ops l (a.put o.dst v) h' k) from hk)
    obtain ⟨a', h'', h3, h4⟩ := runOpsR_ok E hpc h2
    exact ⟨a', h'', by rw [runOps_cons, h1]; exact h3, h4⟩
theorem runRegionR_ok {ex : Ex} {ih : RunR} (E : Sound ex ih) (hpc : AsksOk ex.orc pc) {S : List Sy} {ops : Array Oper} {draw : Bool} {a : AAct} {h : AHeap} {k : AAct → AHeap → Prop} (hk : runRegionR P syf pc ex ih S ops draw a h k) : ∃ a' h', runRegion P ex ops draw a h = some (a', h') ∧ k a' h' := by
  unfold runRegionR at hk
  split at hk
  · exact hk.elim
  · rename_i hc
    obtain ⟨a', h', hr, hk⟩ := runOpsR_ok E hpc hk
    exact ⟨a', h', by unfold runRegion; simp only [hc]; exact hr, hk⟩
  · rename_i hc
    split at hk
    · rename_i hor
      obtain ⟨a', h', hr, hk⟩ := runDrawC_ok hpc (fun p hp => by cases hp) hk
      exact ⟨a', h', by unfold runRegion; simp only [hc, hor]; exact hr, hk⟩
    · exact hk.elim
theorem rangeR_ok {ex : Ex} (ho : ex.orc = orc) {ih : RunR} (E : Sound ex ih) {S : List Sy} {rd : Option Nat} {f : Operand} {ps : Array Tmp} {assign body : Code} {a : AAct} {h : AHeap} {k : Post} (hk : rangeR P orc syf ih S rd f ps assign body a h k) :
    ∃ e a' h', rangeBy P ex rd f ps assign body a h = some (e, a', h') ∧ k e a' h' := by
  unfold rangeR at hk
  split at hk
  · rename_i d mark h₁ hr
    split at hk
    · rename_i g first captured hf
      split at hk
      · rename_i fn hfn
        split at hk
        · exact hk.elim
        · rename_i hnm
          split at hk
          · rename_i c hno hc hs
            obtain ⟨e, a₂, h₂, hx, hk⟩ := E hk
            obtain ⟨he, hm, v, hv, hk⟩ := fin_end hk
            have hcall : acallBy P ex g (first ++ #[Value.func (.yield h₁.n) #[] #[]] ++ captured) (h₁.push (.loop .ready none a ps assign body d)) = some (v, h₂) := by
              unfold acallBy
              rw [ho]
              rw [Option.isNone_iff_eq_none] at hno
              rw [hno]
              unfold acallRun
              rcases he with rfl | rfl
              · simp only [hfn, hc, hs, hx, hm, shutMarks, hv, Option.map_some]
              · simp only [hfn, hc, hs, hx, hm, shutMarks, hv, Option.map_some]
            split at hk
            · exact hk.elim
            · rename_i st pending a' ps' assign' body' d' hnb hg
              cases pending with
              | none =>
                refine ⟨_, _, _, ?_, hk⟩
                unfold rangeBy
                simp only [hr, hf, hfn, hnm, hcall, hg]
              | some c' =>
                obtain ⟨e', a₃, h₃, h3, hk⟩ := E hk
                refine ⟨e', a₃, h₃, ?_, hk⟩
                unfold rangeBy
                simp only [hr, hf, hfn, hnm, hcall, hg]
                exact h3
            · exact hk.elim
          · exact hk.elim
      · exact hk.elim
    · exact hk.elim
  · exact hk.elim
theorem execR_ok (hpc : AsksOk orc pc) : ∀ {n : Nat} {S : List Sy} {rd : Option Nat} {c : Code} {a : AAct} {h : AHeap} {k : Post}, execR P orc syf pc n S rd c a h k → ∃ e a' h', exec P orc n rd c a h = some (e, a', h') ∧ k e a' h'
  | 0, _, _, _, _, _, _, hk => hk.elim
  | n + 1, S, rd, c, a, h, k, hk => by
    have hk : stepR P orc syf pc (exec P orc n) (execR P orc syf pc n) S rd c a h k := hk
    have E : Sound (exec P orc n) (execR P orc syf pc n) := fun hk => execR_ok hpc hk
    have hpc' : AsksOk (exec P orc n).orc pc := by rw [exec_orc]; exact hpc
    rw [exec_succ]
    cases c with
    | skip => exact ⟨_, _, _, rfl, hk⟩
    | region id ops draw =>
      obtain ⟨a', h', hr, hk⟩ := runRegionR_ok E hpc' hk
      exact ⟨_, a', h', by simp only [execStep, hr]; rfl, hk⟩
    | seq x y =>
      obtain ⟨e, a₁, h₁, hx, hk⟩ := execR_ok hpc (c := x) hk
      cases e with
      | normal =>
        obtain ⟨e', a', h', hy, hk⟩ := execR_ok hpc (c := y) hk
        exact ⟨e', a', h', by simp only [execStep, hx]; exact hy, hk⟩
      | _ => exact ⟨_, a₁, h₁, by simp only [execStep, hx], hk⟩
    | cond x y z =>
      simp only [stepR] at hk
      split at hk
      · rename_i hb
        obtain ⟨e', a', h', hy, hk⟩ := execR_ok hpc hk
        exact ⟨e', a', h', by simp only [execStep, hb]; exact hy, hk⟩
      · rename_i hb
        obtain ⟨e', a', h', hy, hk⟩ := execR_ok hpc hk
        exact ⟨e', a', h', by simp only [execStep, hb]; exact hy, hk⟩
      · exact hk.elim
    | block id b =>
      obtain ⟨e, a₁, h₁, hx, hk⟩ := execR_ok hpc (c := b) hk
      cases e with
      | exit j =>
        simp only at hk
        split at hk
        · rename_i hj
          exact ⟨_, a₁, h₁, by simp only [execStep, hx, hj], hk⟩
        · rename_i hj
          exact ⟨_, a₁, h₁, by simp only [execStep, hx, hj], hk⟩
      | _ => exact ⟨_, a₁, h₁, by simp only [execStep, hx], hk⟩
    | loop b =>
      obtain ⟨e, a₁, h₁, hx, hk⟩ := execR_ok hpc (c := b) hk
      cases e with
      | normal =>
        obtain ⟨e', a', h', hy, hk⟩ := execR_ok hpc (c := .loop b) hk
        exact ⟨e', a', h', by simp only [execStep, hx]; exact hy, hk⟩
      | _ => exact ⟨_, a₁, h₁, by simp only [execStep, hx], hk⟩
    | rangeFunc f ps assign body => exact rangeR_ok (syf := syf) (ih := execR P orc syf pc n) (S := S) (exec_orc _ _) E hk
    | exit id => exact ⟨_, _, _, rfl, hk⟩
    | ret => exact ⟨_, _, _, rfl, hk⟩
    | label l => exact ⟨_, _, _, rfl, hk⟩
    | scope b =>
      obtain ⟨e, a₁, h₁, hx, hk⟩ := execR_ok hpc (c := b) hk
      cases e with
      | goto l => exact hk.elim
      | _ => exact ⟨_, a₁, h₁, by simp only [execStep, hx], hk⟩
    | _ => exact hk.elim
theorem callR_ok (hpc : AsksOk orc pc) {n : Nat} {f : FuncId} {args : Array Value} {h : AHeap} {K : Value → AHeap → Prop} (hk : callR P orc syf pc n f args h K) : ∃ v h', acallRun P (exec P orc n) f args h = some (v, h') ∧ K v h' := by
  unfold callR at hk
  split at hk
  · rename_i fn hfn
    split at hk
    · rename_i c hc
      split at hk
      · rename_i hs
        obtain ⟨e, a', h', hx, hk⟩ := execR_ok hpc hk
        obtain ⟨he, hm, v, hv, hk⟩ := fin_end hk
        refine ⟨v, h', ?_, hk⟩
        unfold acallRun
        rcases he with rfl | rfl
        · simp only [hfn, hc, hs, hx, hm, shutMarks, hv, Option.map_some]
        · simp only [hfn, hc, hs, hx, hm, shutMarks, hv, Option.map_some]
      · exact hk.elim
    · exact hk.elim
  · exact hk.elim
theorem CallJ.ofR (hm : P.follows .mixedOrders = true) (ho : OrcOk P orc) (hpc : AsksOk orc pc) {n : Nat} {f : FuncId} {args : Array Value} {h : AHeap} {K : Value → AHeap → Prop} (hk : callR P orc syf pc n f args h K) : CallJ P f args h K := by
  intro ρ args' w H G hA
  obtain ⟨v, h', hc, hK⟩ := callR_ok hpc hk
  refine CallsIn.mono (acallRun_ok (exec_ok hm ho n) H G hA hc none) ?_
  rintro e w' ⟨v', ρ', rfl, hv, H', A⟩
  exact ⟨_, v', h', ρ', rfl, hK, hv, H', A.fr⟩
theorem J.ofR (hm : P.follows .mixedOrders = true) (ho : OrcOk P orc) (hpc : AsksOk orc pc) {n : Nat} {S : List Sy} {c : Code} {a : AAct} {h : AHeap} {k : Post} (hk : execR P orc syf pc n S none c a h k) : J P c a h k := by
  obtain ⟨e, a', h', hx, hk⟩ := execR_ok hpc hk
  exact .of_exec hm ho hx hk
/-- Loops that are not told, and ranges over functions in place. -/
def rangesL (hm : P.follows .mixedOrders = true) (ho : OrcOk P orc) (hpc : AsksOk orc pc) (syf : FuncId → Sy) (n : Nat) (S : List Sy) : Loops P where
  body := fun _ => .skip
  spec := fun _ _ _ _ => False
  ok := fun _ _ _ _ h => h.elim
  rf := fun c a h k => execR P orc syf pc n S none c a h k
  rfok := fun _ _ _ _ hk => J.ofR hm ho hpc hk
end
end
end Go.Am
