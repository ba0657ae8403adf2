/-
  OWN WORK. 'Am', sixteenth text: one operation; operations in the order in which they are written.
-/
import Derived.Test.YtmfepbkpojafnaaGreatDoorAmO
namespace Go.Am
section
variable {P : Program} {ρ : Rho} {h : AHeap} {w : World}

theorem aop_not_defer {o : Oper} {ev : Operand → Value} {r : ANext} (ha : aop P o ev h = some r) : ∀ c, o.op ≠ .defer c := by
  intro c e
  unfold aop at ha
  rw [e] at ha
  cases ha

/-- What an operation that is carried out comes to. -/
theorem doneBy_ok {ex : Ex} (E : ExOk P ex) (H : HRel ρ h w) (G : Globs P ρ) {o : Oper} {a : AAct} {act₀ : Act} (he : ∀ x ∈ o.op.operands, VRel ρ (a.eval x) (act₀.eval x)) {x : ANext} (ha : aop P o a.eval h = some x) {v : Value} {h' : AHeap}
    (hd : doneBy P ex x h = some (v, h')) (rd : Option Nat) {next : Act → World → Prop} {Q : Exit → Act → World → Prop} (k : ∀ v' ρ' w', VRel ρ' v v' → HRel ρ' h' w' → Adv h.n ρ h w ρ' h' w' → next (act₀.put o.dst v') w') :
    o.wpIn (fence rd) 0 P act₀ w next Q := by
  refine ⟨fun _ _ => trivial, ?_⟩
  rw [Oper.semAt_eq _ _ _ (aop_not_defer ha)]
  have K := aop_ok H he ha
  cases x with
  | val v₁ h₁ =>
    obtain ⟨nx, v', ρ', w', e, hn, hv, H', A⟩ := K
    cases hd
    rw [e]
    rcases hn with rfl | ⟨rfl, rfl⟩
    · exact k v' ρ' w' hv H' A
    · exact k _ ρ' w' hv H' A
  | enter f args =>
    obtain ⟨args', e, hA⟩ := K
    rw [e, Oper.uponIn_enter]
    refine ⟨fence_depth rd 0, CallsIn.mono (acallBy_ok E H G hA hd rd) ?_⟩
    rintro e' w' ⟨v', ρ', rfl, hv, H', A⟩
    exact k v' ρ' w' hv H' A
  | round l args =>
    obtain ⟨l', args', e, hl, hA⟩ := K
    obtain ⟨f, tmps, assign, body, e', R⟩ := aroundBy_ok E H G hl hA hd rd
    rw [e, e', Oper.uponIn_round]
    refine ⟨fence_depth rd 0, RoundIn.mono R ?_⟩
    rintro e' w' ⟨v', ρ', rfl, hv, H', A⟩
    exact k v' ρ' w' hv H' A

theorem opBy_dst {ex : Ex} {ops : Array Oper} {o : Oper} {a : AAct} {x : Value × AHeap} (ho : opBy P ex ops o a h = some x) : ∀ d, o.dst = some d → d < a.n := by
  intro d hd
  unfold opBy at ho
  split at ho
  · rename_i hk
    unfold dstOk at hk
    rw [hd] at hk
    simpa [Nat.blt_eq] using hk
  · cases ho

theorem opBy_ok {ex : Ex} (E : ExOk P ex) {ops : Array Oper} {o : Oper} {a : AAct} {act : Act} (S : SRel P ρ a h act w) (hcf : constsFlat P o = true) {v : Value} {h' : AHeap} (ho : opBy P ex ops o a h = some (v, h')) (rd : Option Nat)
    {next : Act → World → Prop} {Q : Exit → Act → World → Prop} (k : ∀ v' ρ' w', VRel ρ' v v' → HRel ρ' h' w' → Adv h.n ρ h w ρ' h' w' → next (act.put o.dst v') w') :
    if Region.wanted o (yielded ops act.tmps) then o.wpIn (fence rd) 0 P act w next Q else (∀ f, o.about P w act.eval = some f → (fence rd).fn f) ∧ next (act.put o.dst Go.undef) w := by
  unfold opBy at ho
  split at ho
  · rw [wanted_rel S.tmps]
    split at ho
    · rename_i hw
      rw [if_pos hw]
      split at ho
      · rename_i x hx
        exact doneBy_ok E S.heap S.globs (eval_rel S.globs S.tmps hcf) hx ho rd k
      · cases ho
    · rename_i hw
      rw [if_neg (by rw [hw]; simp)]
      cases ho
      exact ⟨fun _ _ => trivial, k _ ρ w .undef S.heap (Adv.refl _ _ _ _)⟩
  · cases ho

/-- What a region comes to. -/
def RegPost (P : Program) (ρ : Rho) (h : AHeap) (w : World) (a' : AAct) (h' : AHeap) (act' : Act) (w' : World) : Prop := ∃ ρ', SRel P ρ' a' h' act' w' ∧ Adv h.n ρ h w ρ' h' w'

theorem runOps_ok {ex : Ex} (E : ExOk P ex) (ops : Array Oper) (rd : Option Nat) (Q : Exit → Act → World → Prop) : ∀ (l : List Oper) (i : Nat) (ρ : Rho) (a : AAct) (h : AHeap) (act : Act) (w : World) (a' : AAct) (h' : AHeap),
    ops.toList.drop i = l → (∀ o ∈ l, constsFlat P o = true) → SRel P ρ a h act w → runOps P ex ops l a h = some (a', h') → (∀ act' w', RegPost P ρ h w a' h' act' w' → Q .normal act' w') →
    wpOpsIn (fence rd) 0 P ops Q (List.range' i l.length) act w := by
  intro l
  induction l with
  | nil =>
    intro i ρ a h act w a' h' _ _ S hr k
    rw [runOps_nil] at hr
    cases hr
    exact k act w ⟨ρ, S, Adv.refl _ _ _ _⟩
  | cons o l ih =>
    intro i ρ a h act w a' h' hl hcf S hr k
    rw [runOps_cons] at hr
    split at hr
    · rename_i v h₁ ho
      have hi : ops[i]? = some o := by
        rw [← Array.getElem?_toList, ← List.head?_drop, hl]
        rfl
      simp only [List.length_cons, List.range'_succ, wpOpsIn, hi]
      refine opBy_ok E S (hcf o (by simp)) ho rd fun v' ρ' w' hv H' A => ?_
      refine ih (i + 1) ρ' _ h₁ _ w' a' h' ?_ (fun o' ho' => hcf o' (by simp [ho'])) (S.put A.le H' (opBy_dst ho) hv) hr fun act' w'' ⟨ρ'', S'', A''⟩ => k act' w'' ⟨ρ'', S'', A.trans (A''.less A.n)⟩
      rw [← List.tail_drop, hl]
      rfl
    · cases hr

theorem region_ok {ex : Ex} (E : ExOk P ex) {id : Nat} {ops : Array Oper} {a : AAct} {act : Act} (S : SRel P ρ a h act w) (hcf : constsOk P ops = true) {a' : AAct} {h' : AHeap} (hr : runOps P ex ops ops.toList a h = some (a', h')) (rd : Option Nat) {Q : Exit → Act → World → Prop}
    (k : ∀ act' w', RegPost P ρ h w a' h' act' w' → Q .normal act' w') : (Code.region id ops false).wpIn (fence rd) 0 P Q act w := by
  refine wpIn_region ?_
  rw [List.range_eq_range']
  exact runOps_ok E ops rd Q ops.toList 0 ρ a h act w a' h' rfl (List.all_eq_true.1 hcf) S hr k
end
end Go.Am
