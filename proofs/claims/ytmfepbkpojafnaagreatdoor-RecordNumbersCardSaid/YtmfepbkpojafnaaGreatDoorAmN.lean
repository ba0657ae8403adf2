/-
  OWN WORK. 'Am', fourteenth text: what is asked of the carrying out of code; calls.
-/
import Derived.Test.YtmfepbkpojafnaaGreatDoorAmM
namespace Go.Am

/-- A loop whose body is about to begin. -/
def LoopWp (F : Fence) (n : Nat) (P : Program) (c : Code) (Q : Exit → Act → World → Prop) (a : Act) (w : World) : Prop :=
  ∀ (b : Frame) (k : List Item) (cs : List Frame), b.roundOf = F.round → F.fn b.fn → F.room (cs.length + 1 + n) →
    ∃ e a' w', Q e a' w' ∧ ArrivesIn (Machine.fenced P F) P (lone (b.atR a (.code c :: .inLoop c :: k)) cs w) b k cs e a' w'
section
variable {F : Fence} {n : Nat} {P : Program} {Q : Exit → Act → World → Prop} {a : Act} {w : World}
theorem LoopWp.wp {c : Code} (h : LoopWp F n P c Q a w) : (Code.loop c).wpIn F n P Q a w := by
  intro b k cs hro hb hr
  obtain ⟨e, a', w', hq, harr⟩ := h b k cs hro hb hr
  exact ⟨e, a', w', hq, .of_steps (.one (fenced_calm hb hr rfl) stepR_loop) harr⟩
theorem LoopWp.round {c : Code} (h : c.wpIn F n P (Exit.then (LoopWp F n P c Q) Q) a w) : LoopWp F n P c Q a w := by
  intro b k cs hro hb hr
  obtain ⟨e, a₁, w₁, hq, harr⟩ := h b (.inLoop c :: k) cs hro hb hr
  cases e with
  | normal =>
    obtain ⟨e₂, a₂, w₂, hq₂, harr₂⟩ := hq b k cs hro hb hr
    exact ⟨e₂, a₂, w₂, hq₂, .of_steps (StepsIn.trans harr (.one (fenced_calm hb hr rfl) stepR_inLoop)) harr₂⟩
  | exit id => exact ⟨_, a₁, w₁, hq, .pass (x := .inLoop c) rfl (fun _ _ => .inl (by simp)) harr⟩
  | goto l => exact ⟨_, a₁, w₁, hq, .pass (x := .inLoop c) rfl (fun _ _ => .inl (by simp)) harr⟩
  | ret => exact ⟨_, a₁, w₁, hq, .pass (x := .inLoop c) rfl (fun _ _ => .inl (by simp)) harr⟩
  | panic ch => exact ⟨_, a₁, w₁, hq, .pass (x := .inLoop c) rfl (fun _ _ => .inl (by simp)) harr⟩
  | outgrown => exact ⟨_, a₁, w₁, hq, .pass (x := .inLoop c) rfl (fun _ _ => .inl (by simp)) harr⟩
theorem LoopWp.mono {c : Code} {Q' : Exit → Act → World → Prop} (h : LoopWp F n P c Q a w) (hq : ∀ e a w, Q e a w → Q' e a w) : LoopWp F n P c Q' a w :=
  fun b k cs hro hb hr => let ⟨e, a', w', q, r⟩ := h b k cs hro hb hr; ⟨e, a', w', hq _ _ _ q, r⟩
end

/-! What a call, or a round, comes to. -/
def CPost (ρ : Rho) (h : AHeap) (w : World) (v : Value) (h' : AHeap) : Ending → World → Prop :=
  fun e w' => ∃ v' ρ', e = .returned v' ∧ VRel ρ' v v' ∧ HRel ρ' h' w' ∧ Adv h.n ρ h w ρ' h' w'

/-- What is asked of a way to carry code out: wherever it comes to an end, the model comes to a like one. -/
def ExPost (P : Program) (ρ : Rho) (h : AHeap) (w : World) (e : Exit) (a' : AAct) (h' : AHeap) : Exit → Act → World → Prop :=
  fun e' act' w' => e' = e ∧ ∃ ρ', SRel P ρ' a' h' act' w' ∧ Adv h.n ρ h w ρ' h' w'
def WpX (rd : Option Nat) (P : Program) (c : Code) (Q : Exit → Act → World → Prop) (act : Act) (w : World) : Prop :=
  c.wpIn (fence rd) 0 P Q act w ∧ ∀ b, c = .loop b → LoopWp (fence rd) 0 P b Q act w
/-- What is known of calls beforehand is so. -/
def OrcOk (P : Program) (orc : Orc) : Prop := ∀ f args h v h', orc f args h = some (v, h') → ∀ ρ args' w, HRel ρ h w → Globs P ρ → ARel (VRel ρ) args args' → CallsIn (fence none) 0 P f args' w (CPost ρ h w v h')
structure ExOk (P : Program) (ex : Ex) : Prop where
  run : ∀ rd c a h e a' h', ex rd c a h = some (e, a', h') → ∀ rd' ρ act w, RdRel ρ rd rd' → SRel P ρ a h act w → WpX rd' P c (ExPost P ρ h w e a' h') act w
  orc : OrcOk P ex.orc

section
variable {P : Program} {ρ : Rho} {h : AHeap} {w : World}

/-! The arguments of a call are its first temporaries. -/
theorem enter_get : ∀ (l : List Value) (i : Nat) (t : Tr Value) (j : Nat),
    ((l.foldl (fun (s : Nat × Tr Value) v => (s.1 + 1, s.2.set s.1 v)) (i, t)).2).get j = if i ≤ j ∧ j < i + l.length then l[j - i]? else t.get j
  | [], i, t, j => by simp; intro a b; omega
  | v :: l, i, t, j => by
    rw [List.foldl_cons, enter_get l (i + 1) (t.set i v) j]
    simp only [List.length_cons]
    by_cases e : j = i
    · subst e
      rw [if_neg (by omega), if_pos (by omega), Tr.get_set, if_pos rfl]
      simp
    · by_cases e1 : i + 1 ≤ j ∧ j < i + 1 + l.length
      · rw [if_pos e1, if_pos (by omega), show j - i = (j - (i + 1)) + 1 by omega, List.getElem?_cons_succ]
      · rw [if_neg e1, if_neg (by omega), Tr.get_set, if_neg e]
theorem enter_tmp (n : Nat) (l : List Value) (j : Nat) : (enterAct n l).tmp j = l[j]?.getD Go.undef := by
  unfold enterAct AAct.tmp
  simp only
  rw [enter_get l 0 Tr.nil j]
  by_cases h : 0 ≤ j ∧ j < 0 + l.length
  · rw [if_pos h]; simp
  · rw [if_neg h, Tr.get_nil, List.getElem?_eq_none (by omega)]
theorem enter_rel {args args' : Array Value} {n : Nat} (hA : ARel (VRel ρ) args args') (hn : args.size ≤ n) :
    TmpsRel ρ (enterAct n args.toList) (args' ++ Array.replicate (n - args'.size) Go.undef) := by
  have hs := hA.1
  refine ⟨by simp [enterAct]; omega, fun t => ?_⟩
  rw [enter_tmp, Array.getD_eq_getD_getElem?, Array.getElem?_append]
  by_cases ht : t < args.size
  · have e1 : args.toList[t]? = some args[t] := by rw [Array.getElem?_toList]; exact Array.getElem?_eq_getElem ht
    have ht' : t < args'.size := by omega
    rw [e1, if_pos ht', Array.getElem?_eq_getElem ht']
    exact hA.2 t _ _ (Array.getElem?_eq_getElem ht) (Array.getElem?_eq_getElem ht')
  · rw [List.getElem?_eq_none (by simpa using ht), if_neg (by omega)]
    have : ((Array.replicate (n - args'.size) Go.undef)[t - args'.size]?).getD Go.undef = Go.undef := by
      rw [Array.getElem?_replicate]
      split <;> rfl
    rw [this]
    exact .undef

/-! The results. -/
theorem loadVar_ptr {t : TypeId} {v : Value} {x : Value} {w w' : World} (hv : (Instr.loadAt t v).run P w = .ok x w') : (do loadVar t (← asAddr v) : Sem Value).run P w = .ok x w' := by
  cases v with
  | pointer a =>
    cases a with
    | none => simp [Instr.loadAt, Instr.sureAddr] at hv
    | some a => simpa [Instr.loadAt, Instr.sureAddr, asAddr] using hv
  | _ => simp [Instr.loadAt, Instr.sureAddr] at hv
theorem result_ok (H : HRel ρ h w) {a : AAct} {tmps : Array Value} (T : TmpsRel ρ a tmps) {fn : Func} {v : Value} (hr : aresult P fn a h = some v) : ∃ v', (results fn tmps).run P w = .ok v' w ∧ VRel ρ v v' := by
  have list : ∀ (l : List ResultVar) (vs : List Value), amapM (fun
      | ResultVar.tmp t => some (a.tmp t)
      | ResultVar.cell x t => aload P h t (a.tmp x)) l = some vs → ∃ vs', (l.mapM fun
        | ResultVar.tmp t => (pure (tmps.getD t Go.undef) : Sem Value)
        | ResultVar.cell a t => do loadVar t (← asAddr (tmps.getD a Go.undef))).run P w = .ok vs' w ∧ LRel (VRel ρ) vs vs' := by
    intro l
    induction l with
    | nil => intro vs h; simp only [amapM, Option.some.injEq] at h; subst h; exact ⟨[], by simp, LRel.nil⟩
    | cons r l ih =>
      intro vs hvs
      simp only [amapM] at hvs
      split at hvs
      · rename_i y hy
        cases hm : amapM (fun
          | ResultVar.tmp t => some (a.tmp t)
          | ResultVar.cell x t => aload P h t (a.tmp x)) l with
        | none => rw [hm] at hvs; simp at hvs
        | some ys =>
          rw [hm] at hvs
          simp only [Option.map_some, Option.some.injEq] at hvs
          subst hvs
          obtain ⟨ys', q1, q2⟩ := ih ys hm
          cases r with
          | tmp t =>
            simp only [Option.some.injEq] at hy
            subst hy
            refine ⟨tmps.getD t Go.undef :: ys', ?_, LRel.cons (T.tmp t) q2⟩
            rw [List.mapM_cons]
            rw [run_then (x := (pure (tmps.getD t Go.undef) : Sem Value)) (a := tmps.getD t Go.undef) (w' := w) rfl, run_then q1]
            rfl
          | cell x t =>
            simp only at hy
            obtain ⟨y', z1, z2⟩ := aload_ok (P := P) H (T.tmp x) hy
            refine ⟨y' :: ys', ?_, LRel.cons z2 q2⟩
            have := loadVar_ptr z1
            rw [List.mapM_cons]
            rw [run_then this, run_then q1]
            rfl
      · cases hvs
  unfold aresult at hr
  have fin : ∀ vs vs' : List Value, amapM (fun
      | ResultVar.tmp t => some (a.tmp t)
      | ResultVar.cell x t => aload P h t (a.tmp x)) fn.results.toList = some vs → (fn.results.toList.mapM fun
        | ResultVar.tmp t => (pure (tmps.getD t Go.undef) : Sem Value)
        | ResultVar.cell a t => do loadVar t (← asAddr (tmps.getD a Go.undef))).run P w = .ok vs' w →
      (results fn tmps).run P w = .ok (if h : vs'.toArray.size = 1 then vs'.toArray[0] else .tuple vs'.toArray) w := by
    intro vs vs' _ hv
    unfold results
    have : (fn.results.mapM fun
        | ResultVar.tmp t => (pure (tmps.getD t Go.undef) : Sem Value)
        | ResultVar.cell a t => do loadVar t (← asAddr (tmps.getD a Go.undef))).run P w = .ok vs'.toArray w := by
      rw [Array.mapM_eq_mapM_toList, ← bind_pure_comp, run_then hv]
      rfl
    exact (run_then this).trans rfl
  split at hr
  · rename_i v0 hvs
    cases hr
    obtain ⟨vs', q1, q2⟩ := list _ _ hvs
    obtain ⟨v', r', rfl, k1, k2⟩ := q2.cons_left
    obtain rfl := k2.nil_left
    exact ⟨v', by rw [fin _ _ hvs q1]; rfl, k1⟩
  · rename_i vs hne hvs
    cases hr
    obtain ⟨vs', q1, q2⟩ := list _ _ hvs
    refine ⟨.tuple vs'.toArray, ?_, .fold ⟨_, rfl, ARel.of_LRel q2⟩⟩
    rw [fin _ _ hvs q1, dif_neg]
    intro e
    have hl := q2.1
    simp only [List.size_toArray] at e
    cases vs with
    | nil => simp at hl; omega
    | cons x vs =>
      cases vs with
      | nil => exact hne x rfl
      | cons y vs => simp at hl; omega
  · cases hr
end
end Go.Am
