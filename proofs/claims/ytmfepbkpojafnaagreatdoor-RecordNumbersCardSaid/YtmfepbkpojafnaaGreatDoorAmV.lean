/-
  OWN WORK. 'Am', twenty-second text: code, whole.
-/
import Derived.Test.YtmfepbkpojafnaaGreatDoorAmU
namespace Go.Am
section
variable {P : Program} {ρ : Rho} {h : AHeap} {w : World}

theorem WpX.of {rd : Option Nat} {c : Code} {Q : Exit → Act → World → Prop} {act : Act} {w : World} (h : c.wpIn (fence rd) 0 P Q act w) (hn : ∀ b, c ≠ .loop b) : WpX rd P c Q act w := ⟨h, fun b e => (hn b e).elim⟩
theorem ExPost.trans {ρ₁ : Rho} {h₁ : AHeap} {w₁ : World} (A : Adv h.n ρ h w ρ₁ h₁ w₁) {e : Exit} {a' : AAct} {h' : AHeap} {e' : Exit} {act' : Act} {w' : World} (k : ExPost P ρ₁ h₁ w₁ e a' h' e' act' w') : ExPost P ρ h w e a' h' e' act' w' := by
  obtain ⟨h1, ρ', S, A'⟩ := k
  exact ⟨h1, ρ', S, A.trans (A'.less A.n)⟩
theorem eval_bool {a : AAct} {act : Act} (T : TmpsRel ρ a act.tmps) {x : Operand} {b : Bool} (he : a.eval x = .bool b) : act.eval x = .bool b := by
  cases x with
  | tmp t =>
    have k := T.tmp t
    simp only [AAct.eval] at he
    rw [he] at k
    exact k.bool
  | const v => exact he
  | global g => cases he
  | func f => cases he

def noGoto (Q : Exit → Act → World → Prop) : Exit → Act → World → Prop
  | .goto _, _, _ => False
  | e, a, w => Q e a w
theorem wpIn_scope {F : Fence} {n : Nat} {Q : Exit → Act → World → Prop} {a : Act} {w : World} {c : Code} (h : c.wpIn F n P (noGoto Q) a w) : (Code.scope c).wpIn F n P Q a w := by
  intro b k cs hro hb hr
  have h0 : (lone (b.atR a (.code (.scope c) :: k)) cs w).fenced P F := fenced_calm hb hr rfl
  have s1 : step P (lone (b.atR a (.code (.scope c) :: k)) cs w) = .next (lone (b.atR a (.code c :: .inScope c :: k)) cs w) := step_lone_go (by simp [stepG, stepG.exec, Frame.atR])
  have s2 : ∀ a w, step P (lone (b.atR a (.inScope c :: k)) cs w) = .next (lone (b.atR a k) cs w) := fun a w => step_lone_go (by simp [stepG, stepG.exec, Frame.atR])
  obtain ⟨e, a₁, w₁, hq, harr⟩ := h b (.inScope c :: k) cs hro hb hr
  cases e with
  | normal => exact ⟨.normal, a₁, w₁, hq, .head h0 s1 (StepsIn.trans harr (.one (fenced_calm hb hr rfl) (s2 _ _)))⟩
  | exit id =>
    have hx : exitTo id (.inScope c :: k) = exitTo id k := by simp [exitTo]
    exact ⟨.exit id, a₁, w₁, hq, fun k' hk => .head h0 s1 (harr.1 k' (by rw [hx]; exact hk)),
      fun hr' hk => let ⟨k₁, h1, h2⟩ := harr.2 hr' (by rw [hx]; exact hk); ⟨k₁, h1, .head h0 s1 h2⟩⟩
  | goto l => exact hq.elim
  | ret => exact ⟨_, a₁, w₁, hq, .of_steps (.one h0 s1) harr⟩
  | panic ch => exact ⟨_, a₁, w₁, hq, .of_steps (.one h0 s1) harr⟩
  | outgrown => exact ⟨_, a₁, w₁, hq, .of_steps (.one h0 s1) harr⟩

/-- A range over a function is entered. -/
theorem enterLoop_ok {a : AAct} {act : Act} (S : SRel P ρ a h act w) {rd rd' : Option Nat} (R : RdRel ρ rd rd') {d : Nat} {mark : List Nat} {h₁ : AHeap} (hp : rangeIn rd h = some (d, mark, h₁)) (fn : FuncId) (ps : Array Tmp) (assign body : Code) :
    ∃ l' mk w₁ ρ₁, (Instr.enterLoop fn act.tmps ps assign body rd').run P w = .ok (l', mk) w₁ ∧ ρ₁ h₁.n = .live ⟨l', 0, 0, 0⟩ ∧
      SRel P ρ₁ { n := a.n, t := a.t, marks := mark ++ a.marks } (h₁.push (.loop .ready none a ps assign body d)) { act with defers := mk ++ act.defers } w₁ ∧ Adv h.n ρ h w ρ₁ (h₁.push (.loop .ready none a ps assign body d)) w₁ := by
  cases rd with
  | none =>
    cases rd' with
    | some _ => exact R.elim
    | none =>
      simp only [rangeIn, Option.some.injEq, Prod.mk.injEq] at hp
      obtain ⟨rfl, rfl, rfl⟩ := hp
      obtain ⟨H1, A1⟩ := S.heap.new ⟨w.heap.size, 0, 0, 0⟩ rfl .defd (.deferred (some [])) rfl
      have hT := S.tmps
      have hb : BRel (((ρ.upd h.n (.live ⟨w.heap.size, 0, 0, 0⟩))).upd (h.push .defd).n (.live ⟨(w.alloc (.deferred (some []))).heap.size, 0, 0, 0⟩)) h.n w.heap.size := by
        unfold BRel
        rw [Rho.upd_ne _ _ (by simp), Rho.upd_same]
      obtain ⟨H2, A2⟩ := H1.new ⟨(w.alloc (.deferred (some []))).heap.size, 0, 0, 0⟩ rfl (.loop .ready none a ps assign body h.n)
        (.loop { state := .ready, pending := none, fn, tmps := act.tmps, params := ps, assign, body, defers := w.heap.size })
        ⟨_, rfl, rfl, rfl, (hT.mono A1.le).mono (Rho.le_born (H1.bound _ (Nat.le_refl _))), rfl, rfl, rfl, hb⟩
      refine ⟨w.heap.size + 1, _, _, _, run_enterLoop_outer _ _ _ _ _, ?_, ⟨H2, ?_, ?_, ?_⟩, A1.trans (A2.less A1.n)⟩
      · rw [Rho.upd_same]; simp
      · exact ⟨hT.size, ((hT.mono A1.le).mono A2.le).tmp⟩
      · have M := S.marks.mono (Rho.le_trans A1.le A2.le)
        refine ⟨by simp [M.1], fun i m d hm hd => ?_⟩
        cases i with
        | zero =>
          simp at hm hd
          subst hm hd
          exact ⟨_, rfl, hb⟩
        | succ i => exact M.2 i m d (by simpa using hm) (by simpa using hd)
      · exact (S.globs.mono A1.le).mono A2.le
  | some l =>
    cases rd' with
    | none => exact R.elim
    | some l' =>
      have R : BRel ρ l l' := R
      simp only [rangeIn] at hp
      split at hp
      · rename_i hg
        simp only [Option.some.injEq, Prod.mk.injEq] at hp
        obtain ⟨rfl, rfl, rfl⟩ := hp
        obtain ⟨g, hl⟩ := S.heap.get_live hg (by simp) R.born
        obtain rfl := R.live hl
        obtain ⟨o, o', k1, k2, k3⟩ := S.heap.obj l g hl
        rw [hg] at k1
        cases k1
        obtain ⟨L, rfl, r1, r2, r3, r4, r5, r6, r7⟩ := k3
        have hle := Rho.le_born (s := .live ⟨w.heap.size, 0, 0, 0⟩) (S.heap.bound h.n (Nat.le_refl _))
        obtain ⟨H2, A2⟩ := S.heap.new ⟨w.heap.size, 0, 0, 0⟩ rfl (.loop .ready none a ps assign body _)
          (.loop { state := .ready, pending := none, fn, tmps := act.tmps, params := ps, assign, body, defers := L.defers })
          ⟨_, rfl, rfl, rfl, S.tmps.mono hle, rfl, rfl, rfl, r7.mono hle⟩
        refine ⟨w.heap.size, [], _, _, ?_, Rho.upd_same _ _ _, ⟨H2, ⟨S.tmps.size, (S.tmps.mono hle).tmp⟩, S.marks.mono hle, S.globs.mono hle⟩, A2⟩
        unfold Instr.enterLoop
        simp only [Sem.run_bind, run_getLoop k2, run_newObj_alloc, Result.andThen, Sem.run_pure]
      · cases hp

theorem rangeBy_ok {ex : Ex} (E : ExOk P ex) {a : AAct} {act : Act} (S : SRel P ρ a h act w) {rd rd' : Option Nat} (R : RdRel ρ rd rd') {f : Operand} {ps : Array Tmp} {assign body : Code} {e : Exit} {a' : AAct} {h' : AHeap}
    (hr : rangeBy P ex rd f ps assign body a h = some (e, a', h')) : (Code.rangeFunc f ps assign body).wpIn (fence rd') 0 P (ExPost P ρ h w e a' h') act w := by
  unfold rangeBy at hr
  split at hr
  · rename_i d mark h₁ hp
    split at hr
    · rename_i g first captured hv
      have hfv : ∃ first' captured', act.eval f = .func (.func g) first' captured' ∧ ARel (VRel ρ) first first' ∧ ARel (VRel ρ) captured captured' := by
        cases f with
        | const v => cases hv
        | tmp t =>
          have k := S.tmps.tmp t
          simp only [fval, AAct.eval] at hv
          rw [hv] at k
          obtain ⟨fn', f', c', q, h1, h2, h3⟩ := k.unfold
          have h1 : fn' = .func g := h1
          subst h1
          exact ⟨f', c', q, h2, h3⟩
        | global g => cases hv
        | func f =>
          cases hv
          exact ⟨#[], #[], rfl, ARel.refl_of fun x hx => by simp at hx, ARel.refl_of fun x hx => by simp at hx⟩
      obtain ⟨first', captured', hev, hA1, hA2⟩ := hfv
      split at hr
      · rename_i fn hfn
        split at hr
        · cases hr
        · rename_i hnm
          have hnm : ¬ fn.name = "runtime.NumGoroutine" ∧ fn.body.isNone = false := by simpa using hnm
          obtain ⟨bd, hbd⟩ : ∃ bd, fn.body = some bd := by
            cases hb : fn.body with
            | none => rw [hb] at hnm; simp at hnm
            | some bd => exact ⟨bd, rfl⟩
          split at hr
          · rename_i v₂ h₂ hc
            refine wpIn_rangeFunc fun fnId _ => ?_
            obtain ⟨l', mk, w₁, ρ₁, q1, q2, S₁, A₁⟩ := enterLoop_ok S R hp fnId ps assign body
            have hy : VRel ρ₁ (.func (.yield h₁.n) #[] #[]) (.func (.yield l') #[] #[]) :=
              .fold ⟨_, #[], #[], rfl, ⟨l', rfl, by simp [BRel, q2]⟩, ARel.refl_of fun x hx => by simp at hx, ARel.refl_of fun x hx => by simp at hx⟩
            have hy1 : ARel (VRel ρ₁) #[.func (.yield h₁.n) #[] #[]] #[.func (.yield l') #[] #[]] := ARel.of_LRel (a := [_]) (b := [_]) (LRel.cons hy LRel.nil)
            have hA := ((hA1.mono fun _ _ k => k.mono A₁.le).append hy1).append (hA2.mono fun _ _ k => k.mono A₁.le)
            have C := acallBy_ok E S₁.heap S₁.globs hA hc rd'
            have hlead : ∀ f', Target.leads P w₁ (.fn (.func g) captured') (first' ++ #[.func (.yield l') #[] #[]]) = some f' → (fence rd').fn f' := fun _ _ => trivial
            have hres : (resolve act.eval (rangeCall f l') 0).run P w₁ = .ok { target := .fn (.func g) captured', args := first' ++ #[.func (.yield l') #[] #[]] } w₁ := by
              simp only [rangeCall, resolve]
              rw [hev]
              simp [Deferred.ofValue, Act.eval]
            have hinv : (invoke (.fn (.func g) captured') (first' ++ #[.func (.yield l') #[] #[]])).run P w₁ = .ok (.enter g (first' ++ #[.func (.yield l') #[] #[]] ++ captured')) w₁ := by
              simp [invoke, callFunc, hfn, hnm.1, hbd]
            have C' : CallsIn (fence rd') (0 - 1) P g (first' ++ #[.func (.yield l') #[] #[]] ++ captured') w₁ (rangePost (fence rd') 0 P l' (ExPost P ρ h w e a' h') { act with defers := mk ++ act.defers }) := by
              refine CallsIn.mono C ?_
              rintro e' w₃ ⟨v', ρ₂, rfl, _, H₂, A₂⟩
              split at hr
              · cases hr
              · rename_i st pending a'' ps' assign' body' d' hnb hg
                have hst : st ≠ .busy := fun e => hnb e
                have hl1 : BRel ρ₂ h₁.n l' := BRel.mono A₂.le (by simp [BRel, q2])
                obtain ⟨g₂, hlive⟩ := H₂.get_live hg (by simp) hl1.born
                obtain rfl := hl1.live hlive
                obtain ⟨o, o', k1, k2, k3⟩ := H₂.obj h₁.n g₂ hlive
                rw [hg] at k1
                cases k1
                obtain ⟨L, rfl, r1, r2, r3, r4, r5, r6, r7⟩ := k3
                have H₃ := H₂.turn hlive (o := .loop .exhausted pending a'' ps' assign' body' d') (o' := .loop { L with state := .exhausted }) ⟨_, rfl, rfl, r2, r3, r4, r5, r6, r7⟩
                have A₃ := Adv.turn (w := w₃) hlive (h := h₂) (by simp [AHeap.rw, hg]) (.loop .exhausted pending a'' ps' assign' body' d') (.loop { L with state := .exhausted })
                have S₃ : SRel P ρ₂ { n := a.n, t := a.t, marks := mark ++ a.marks } (h₂.set h₁.n (.loop .exhausted pending a'' ps' assign' body' d')) { act with defers := mk ++ act.defers } (setBlock w₃ g₂.b (.loop { L with state := .exhausted })) :=
                  ⟨H₃, S₁.tmps.mono A₂.le, S₁.marks.mono A₂.le, S₁.globs.mono A₂.le⟩
                have A := A₁.trans ((A₂.less A₁.n).trans (A₃ _))
                refine ⟨pending, _, by rw [← r2]; exact run_endLoop k2 (by rw [r1]; exact hst), ?_⟩
                simp only at hr
                split at hr
                · simp only [Option.some.injEq, Prod.mk.injEq] at hr
                  obtain ⟨rfl, rfl, rfl⟩ := hr
                  exact ⟨rfl, ρ₂, S₃, A⟩
                · rename_i c
                  exact wpIn_mono (E.run rd c _ _ e a' h' hr rd' ρ₂ _ _ (R.mono (Rho.le_trans A₁.le A₂.le)) S₃).1 fun _ _ _ k => ExPost.trans A k
              · cases hr
            exact ⟨l', mk, w₁, _, w₁, g, _, w₁, q1, hres, hlead, hinv, fence_depth rd' 0, C'⟩
          · cases hr
      · cases hr
    · cases hr
  · cases hr

theorem execStep_ok {ex : Ex} (E : ExOk P ex) (hm : P.follows .mixedOrders = true) : ∀ rd c a h e a' h', execStep P ex rd c a h = some (e, a', h') → ∀ rd' ρ act w, RdRel ρ rd rd' → SRel P ρ a h act w → WpX rd' P c (ExPost P ρ h w e a' h') act w := by
  intro rd c a h e a' h' hx rd' ρ act w R S
  cases c with
  | skip =>
    cases hx
    exact .of (wpIn_skip ⟨rfl, ρ, S, Adv.refl _ _ _ _⟩) (fun b e => by cases e)
  | region id ops draw =>
    refine .of ?_ (fun b e => by cases e)
    simp only [execStep] at hx
    cases hr : runRegion P ex ops draw a h with
    | none => rw [hr] at hx; cases hx
    | some r =>
      rw [hr] at hx
      cases hx
      unfold runRegion at hr
      split at hr
      · cases hr
      · rename_i hc
        exact region_ok E S hc hr rd' fun act' w' ⟨ρ', S', A'⟩ => ⟨rfl, ρ', S', A'⟩
      · rename_i hc
        split at hr
        · rename_i ho
          exact region_draw_ok E hm S hc ho hr rd' fun act' w' ⟨ρ', S', A'⟩ => ⟨rfl, ρ', S', A'⟩
        · cases hr
  | seq x y =>
    refine .of ?_ (fun b e => by cases e)
    simp only [execStep] at hx
    refine wpIn_seq ?_
    split at hx
    · rename_i a₁ h₁ hx₁
      refine wpIn_mono (E.run rd x a h _ _ _ hx₁ rd' ρ act w R S).1 ?_
      rintro e' act₁ w₁ ⟨rfl, ρ₁, S₁, A₁⟩
      exact wpIn_mono (E.run rd y a₁ h₁ _ _ _ hx rd' ρ₁ act₁ w₁ (R.mono A₁.le) S₁).1 fun _ _ _ k => ExPost.trans A₁ k
    · rename_i hne
      refine wpIn_mono (E.run rd x a h _ _ _ hx rd' ρ act w R S).1 ?_
      rintro e' act₁ w₁ ⟨rfl, k⟩
      cases e' with
      | normal => exact (hne _ _ hx).elim
      | _ => exact ⟨rfl, k⟩
  | cond x y z =>
    refine .of ?_ (fun b e => by cases e)
    simp only [execStep] at hx
    split at hx
    · rename_i hb
      exact wpIn_cond_true (eval_bool S.tmps hb) (E.run rd y a h _ _ _ hx rd' ρ act w R S).1
    · rename_i hb
      exact wpIn_cond_false (eval_bool S.tmps hb) (E.run rd z a h _ _ _ hx rd' ρ act w R S).1
    · cases hx
  | block id b =>
    refine .of ?_ (fun b e => by cases e)
    simp only [execStep] at hx
    refine wpIn_block ?_
    split at hx
    · rename_i j a₁ h₁ hx₁
      refine wpIn_mono (E.run rd b a h _ _ _ hx₁ rd' ρ act w R S).1 ?_
      rintro e' act₁ w₁ ⟨rfl, k⟩
      simp only [Exit.inBlock]
      split at hx
      · rename_i hj
        have hj : j = id := by simpa using hj
        cases hx
        rw [if_pos hj]
        exact ⟨rfl, k⟩
      · rename_i hj
        have hj : j ≠ id := fun e => by subst e; simp at hj
        cases hx
        rw [if_neg hj]
        exact ⟨rfl, k⟩
    · rename_i hne
      refine wpIn_mono (E.run rd b a h _ _ _ hx rd' ρ act w R S).1 ?_
      rintro e' act₁ w₁ ⟨rfl, k⟩
      cases e' with
      | exit j => exact (hne _ _ _ hx).elim
      | _ => exact ⟨rfl, k⟩
  | loop b =>
    simp only [execStep] at hx
    have key : LoopWp (fence rd') 0 P b (ExPost P ρ h w e a' h') act w := by
      refine LoopWp.round ?_
      split at hx
      · rename_i a₁ h₁ hx₁
        refine wpIn_mono (E.run rd b a h _ _ _ hx₁ rd' ρ act w R S).1 ?_
        rintro e' act₁ w₁ ⟨rfl, ρ₁, S₁, A₁⟩
        exact LoopWp.mono ((E.run rd (.loop b) a₁ h₁ _ _ _ hx rd' ρ₁ act₁ w₁ (R.mono A₁.le) S₁).2 b rfl) fun _ _ _ k => ExPost.trans A₁ k
      · rename_i hne
        refine wpIn_mono (E.run rd b a h _ _ _ hx rd' ρ act w R S).1 ?_
        rintro e' act₁ w₁ ⟨rfl, k⟩
        cases e' with
        | normal => exact (hne _ _ hx).elim
        | _ => exact ⟨rfl, k⟩
    exact ⟨key.wp, fun b' e => by cases e; exact key⟩
  | rangeFunc f ps assign body =>
    refine .of ?_ (fun b e => by cases e)
    exact rangeBy_ok E S R hx
  | exit id =>
    cases hx
    exact .of (wpIn_exit ⟨rfl, ρ, S, Adv.refl _ _ _ _⟩) (fun b e => by cases e)
  | ret =>
    cases hx
    exact .of (wpIn_ret ⟨rfl, ρ, S, Adv.refl _ _ _ _⟩) (fun b e => by cases e)
  | label l =>
    cases hx
    exact .of (wpIn_label ⟨rfl, ρ, S, Adv.refl _ _ _ _⟩) (fun b e => by cases e)
  | scope b =>
    refine .of ?_ (fun b e => by cases e)
    simp only [execStep] at hx
    refine wpIn_scope ?_
    split at hx
    · cases hx
    · rename_i hne
      refine wpIn_mono (E.run rd b a h _ _ _ hx rd' ρ act w R S).1 ?_
      rintro e' act₁ w₁ ⟨rfl, k⟩
      cases e' with
      | goto l => exact (hne _ _ _ hx).elim
      | _ => exact ⟨rfl, k⟩
  | _ => cases hx

theorem exec_ok {orc : Orc} (hm : P.follows .mixedOrders = true) (ho : OrcOk P orc) : ∀ n, ExOk P (exec P orc n)
  | 0 => ⟨fun rd c a h e a' h' hx => (by cases hx), ho⟩
  | n + 1 => ⟨execStep_ok (exec_ok hm ho n) hm, ho⟩

theorem call_ok {orc : Orc} (hm : P.follows .mixedOrders = true) (ho : OrcOk P orc) (H : HRel ρ h w) (G : Globs P ρ) {n : Nat} {f : FuncId} {args args' : Array Value} {v : Value} {h' : AHeap} (hA : ARel (VRel ρ) args args') (hc : call P orc n f args h = some (v, h')) (rd : Option Nat) :
    CallsIn (fence rd) 0 P f args' w (CPost ρ h w v h') := acallBy_ok (exec_ok hm ho n) H G hA hc rd
end
end Go.Am
