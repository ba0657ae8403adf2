/-
  OWN WORK. 'Am', twenty-fourth text: what code comes to, seen from an abstract state; calls; a smaller view of a heap.
-/
import Derived.Test.YtmfepbkpojafnaaGreatDoorAmW
namespace Go.Am

/-- What becomes of a world, seen from an abstract state: what the state may not write has not changed, and it may write nothing more of what there was. -/
structure Fr (ρ : Rho) (h : AHeap) (w : World) (ρ' : Rho) (h' : AHeap) (w' : World) : Prop where
  size : w.heap.size ≤ w'.heap.size
  os : w'.os = w.os
  tape : w'.tape = w.tape
  output : w'.output = w.output
  kept : ∀ b, b < w.heap.size → ¬ Own ρ h b → w'.heap[b]? = w.heap[b]?
  own : ∀ b, b < w.heap.size → Own ρ' h' b → Own ρ h b
theorem Fr.refl (ρ : Rho) (h : AHeap) (w : World) : Fr ρ h w ρ h w := ⟨Nat.le_refl _, rfl, rfl, rfl, fun _ _ _ => rfl, fun _ _ o => o⟩
theorem Fr.trans {ρ ρ₁ ρ₂ : Rho} {h h₁ h₂ : AHeap} {w w₁ w₂ : World} (x : Fr ρ h w ρ₁ h₁ w₁) (y : Fr ρ₁ h₁ w₁ ρ₂ h₂ w₂) : Fr ρ h w ρ₂ h₂ w₂ where
  size := Nat.le_trans x.size y.size
  os := y.os.trans x.os
  tape := y.tape.trans x.tape
  output := y.output.trans x.output
  kept b hb ho := (y.kept b (Nat.lt_of_lt_of_le hb x.size) fun o => ho (x.own b hb o)).trans (x.kept b hb ho)
  own b hb o := x.own b hb (y.own b (Nat.lt_of_lt_of_le hb x.size) o)
theorem Adv.fr {k : Nat} {ρ ρ' : Rho} {h h' : AHeap} {w w' : World} (A : Adv k ρ h w ρ' h' w') : Fr ρ h w ρ' h' w' :=
  ⟨A.size, A.os, A.tape, A.output, A.kept, A.own⟩

abbrev Post := Exit → AAct → AHeap → Prop
def JPost (P : Program) (ρ : Rho) (h : AHeap) (w : World) (k : Post) (e : Exit) (act' : Act) (w' : World) : Prop :=
  ∃ a' h' ρ', k e a' h' ∧ SRel P ρ' a' h' act' w' ∧ Fr ρ h w ρ' h' w'
/-- Code that begins in whatever an abstract state stands for ends in what abstract states stand for of which k holds. -/
def J (P : Program) (c : Code) (a : AAct) (h : AHeap) (k : Post) : Prop :=
  ∀ ρ act w, SRel P ρ a h act w → WpX none P c (JPost P ρ h w k) act w
/-- The same of a call. -/
def CallJ (P : Program) (f : FuncId) (args : Array Value) (h : AHeap) (K : Value → AHeap → Prop) : Prop :=
  ∀ ρ args' w, HRel ρ h w → Globs P ρ → ARel (VRel ρ) args args' → CallsIn (fence none) 0 P f args' w (fun e w' => ∃ v v' h' ρ', e = .returned v' ∧ K v h' ∧ VRel ρ' v v' ∧ HRel ρ' h' w' ∧ Fr ρ h w ρ' h' w')
def onNormal (f : AAct → AHeap → Prop) (k : Post) : Post := fun e a h => match e with
  | .normal => f a h
  | e => k e a h
def onBlock (id : Nat) (k : Post) : Post := fun e a h => match e with
  | .exit j => if j = id then k .normal a h else k (.exit j) a h
  | e => k e a h

section
variable {P : Program} {a : AAct} {h : AHeap} {k : Post}
theorem WpX.mono {rd : Option Nat} {c : Code} {Q Q' : Exit → Act → World → Prop} {act : Act} {w : World} (x : WpX rd P c Q act w) (hq : ∀ e a w, Q e a w → Q' e a w) : WpX rd P c Q' act w :=
  ⟨wpIn_mono x.1 hq, fun b e => (x.2 b e).mono hq⟩
theorem JPost.trans {ρ ρ₁ : Rho} {h h₁ : AHeap} {w w₁ : World} {k : Post} {e : Exit} {act' : Act} {w' : World} (F : Fr ρ h w ρ₁ h₁ w₁) (x : JPost P ρ₁ h₁ w₁ k e act' w') : JPost P ρ h w k e act' w' :=
  let ⟨a', h', ρ', k1, k2, k3⟩ := x; ⟨a', h', ρ', k1, k2, F.trans k3⟩
theorem J.mono {c : Code} {k' : Post} (x : J P c a h k) (hk : ∀ e a h, k e a h → k' e a h) : J P c a h k' :=
  fun ρ act w S => (x ρ act w S).mono fun _ _ _ ⟨a', h', ρ', k1, k2, k3⟩ => ⟨a', h', ρ', hk _ _ _ k1, k2, k3⟩
theorem J.of_exec {orc : Orc} (hm : P.follows .mixedOrders = true) (ho : OrcOk P orc) {n : Nat} {c : Code} {e : Exit} {a' : AAct} {h' : AHeap} (hx : exec P orc n none c a h = some (e, a', h')) (hk : k e a' h') : J P c a h k :=
  fun ρ act w S => ((exec_ok hm ho n).run none c a h e a' h' hx none ρ act w trivial S).mono fun _ _ _ ⟨he, ρ', S', A⟩ => ⟨a', h', ρ', he ▸ hk, S', A.fr⟩
theorem J.seq {x y : Code} (hx : J P x a h (onNormal (fun a' h' => J P y a' h' k) k)) : J P (.seq x y) a h k := by
  intro ρ act w S
  refine .of (wpIn_seq ?_) (fun b e => by cases e)
  refine wpIn_mono (hx ρ act w S).1 ?_
  rintro e' act₁ w₁ ⟨a₁, h₁, ρ₁, hk, S₁, F₁⟩
  cases e' with
  | normal => exact wpIn_mono (hk ρ₁ act₁ w₁ S₁).1 fun _ _ _ x => x.trans F₁
  | _ => exact ⟨a₁, h₁, ρ₁, hk, S₁, F₁⟩
theorem J.cond {x : Operand} {y z : Code} {b : Bool} (he : a.eval x = .bool b) (hy : b = true → J P y a h k) (hz : b = false → J P z a h k) : J P (.cond x y z) a h k := by
  intro ρ act w S
  refine .of ?_ (fun b e => by cases e)
  cases b with
  | true => exact wpIn_cond_true (eval_bool S.tmps he) (hy rfl ρ act w S).1
  | false => exact wpIn_cond_false (eval_bool S.tmps he) (hz rfl ρ act w S).1
theorem J.block {id : Nat} {b : Code} (hb : J P b a h (onBlock id k)) : J P (.block id b) a h k := by
  intro ρ act w S
  refine .of (wpIn_block ?_) (fun b e => by cases e)
  refine wpIn_mono (hb ρ act w S).1 ?_
  rintro e' act₁ w₁ ⟨a₁, h₁, ρ₁, hk, S₁, F₁⟩
  cases e' with
  | exit j =>
    simp only [onBlock] at hk
    simp only [Exit.inBlock]
    split
    · rename_i hj
      rw [if_pos hj] at hk
      exact ⟨a₁, h₁, ρ₁, hk, S₁, F₁⟩
    · rename_i hj
      rw [if_neg hj] at hk
      exact ⟨a₁, h₁, ρ₁, hk, S₁, F₁⟩
  | _ => exact ⟨a₁, h₁, ρ₁, hk, S₁, F₁⟩
theorem J.loop {b : Code} (hb : J P b a h (onNormal (fun a' h' => J P (.loop b) a' h' k) k)) : J P (.loop b) a h k := by
  intro ρ act w S
  have key : LoopWp (fence none) 0 P b (JPost P ρ h w k) act w := by
    refine LoopWp.round ?_
    refine wpIn_mono (hb ρ act w S).1 ?_
    rintro e' act₁ w₁ ⟨a₁, h₁, ρ₁, hk, S₁, F₁⟩
    cases e' with
    | normal => exact LoopWp.mono ((hk ρ₁ act₁ w₁ S₁).2 b rfl) fun _ _ _ x => x.trans F₁
    | _ => exact ⟨a₁, h₁, ρ₁, hk, S₁, F₁⟩
  exact ⟨key.wp, fun b' e => by cases e; exact key⟩
theorem J.skip (hk : k .normal a h) : J P .skip a h k := fun ρ _ w S => .of (wpIn_skip ⟨a, h, ρ, hk, S, Fr.refl _ _ _⟩) (fun b e => by cases e)
theorem J.exit {id : Nat} (hk : k (.exit id) a h) : J P (.exit id) a h k := fun ρ _ w S => .of (wpIn_exit ⟨a, h, ρ, hk, S, Fr.refl _ _ _⟩) (fun b e => by cases e)
theorem J.ret (hk : k .ret a h) : J P .ret a h k := fun ρ _ w S => .of (wpIn_ret ⟨a, h, ρ, hk, S, Fr.refl _ _ _⟩) (fun b e => by cases e)
theorem J.label {l : Nat} (hk : k .normal a h) : J P (.label l) a h k := fun ρ _ w S => .of (wpIn_label ⟨a, h, ρ, hk, S, Fr.refl _ _ _⟩) (fun b e => by cases e)
theorem J.region {orc : Orc} (hm : P.follows .mixedOrders = true) (ho : OrcOk P orc) {n : Nat} {id : Nat} {ops : Array Oper} {draw : Bool} {a' : AAct} {h' : AHeap} (hr : runRegion P (exec P orc n) ops draw a h = some (a', h')) (hk : k .normal a' h') : J P (.region id ops draw) a h k :=
  J.of_exec hm ho (n := n + 1) (by rw [exec_succ]; simp only [execStep]; rw [hr]; rfl) hk

/-- What a state is for what it holds: whatever holds the same. -/
theorem SRel.ext {ρ : Rho} {act : Act} {w : World} {a₂ : AAct} (S : SRel P ρ a h act w) (hn : a₂.n = a.n) (hm : a₂.marks = a.marks) (ht : ∀ t, t < a.n → a₂.tmp t = a.tmp t) (hu : ∀ t, a.n ≤ t → a₂.tmp t = undef) : SRel P ρ a₂ h act w := by
  refine ⟨S.heap, ⟨hn.trans S.tmps.size, fun t => ?_⟩, hm ▸ S.marks, S.globs⟩
  by_cases h : t < a.n
  · rw [ht t h]; exact S.tmps.tmp t
  · have h : a.n ≤ t := Nat.le_of_not_lt h
    rw [hu t h, undef_getD _ _ (by rw [← S.tmps.size]; exact h)]
    exact .undef
noncomputable def lit (n : Nat) (f : Nat → Value) : Tr Value := Nat.rec (motive := fun _ => Tr Value) .nil (fun i t => t.set i (f i)) n
theorem get_lit (n : Nat) (f : Nat → Value) (i : Nat) : (lit n f).get i = if i < n then some (f i) else none := by
  induction n with
  | zero => rfl
  | succ n ih =>
    show ((lit n f).set n (f n)).get i = _
    rw [Tr.get_set, ih]
    by_cases e : i = n
    · subst e; simp
    · rw [if_neg e]
      by_cases l : i < n
      · rw [if_pos l, if_pos (by omega)]
      · rw [if_neg l, if_neg (by omega)]
/-- The state, spelt out. -/
theorem J.lit {c : Code} (f : Nat → Value) (hf : ∀ t, t < a.n → a.tmp t = f t) {n : Nat} (hn : a.n = n) (hm : a.marks = []) (hj : J P c { n, t := lit n f, marks := [] } h k) : J P c a h k := by
  subst hn
  intro ρ act w S
  refine hj ρ act w (S.ext rfl hm.symm (fun t ht => ?_) fun t ht => ?_)
  · simp only [AAct.tmp, get_lit, if_pos ht]
    exact (hf t ht).symm
  · simp only [AAct.tmp, get_lit, if_neg (Nat.not_lt.2 ht)]
    rfl

theorem CallJ.of_body {f : FuncId} {args : Array Value} {K : Value → AHeap → Prop} {fn : Func} {c : Code} (hfn : P.funcs[f]? = some fn) (hb : fn.body = some c) (hsz : args.size ≤ fn.ntmps)
    (hj : J P c (enterAct fn.ntmps args.toList) h (fun e a' h' => (e = .normal ∨ e = .ret) ∧ a'.marks = [] ∧ ∃ v, aresult P fn a' h' = some v ∧ K v h')) : CallJ P f args h K := by
  intro ρ args' w H G hA
  refine callsIn_of_wp_marks hfn hb trivial ?_
  refine wpIn_mono (hj ρ { tmps := args' ++ Array.replicate (fn.ntmps - args'.size) Go.undef, defers := [] } w ⟨H, enter_rel hA hsz, ⟨rfl, fun i m d hm => by simp [enterAct] at hm⟩, G⟩).1 ?_
  rintro e' act' w' ⟨a', h', ρ', ⟨he, hm, v, hv, hK⟩, S, F⟩
  have : LeavesInM (fence none) 0 P fn act'.tmps (fun e w' => ∃ v v' h' ρ', e = .returned v' ∧ K v h' ∧ VRel ρ' v v' ∧ HRel ρ' h' w' ∧ Fr ρ h w ρ' h' w') act'.defers .returning w' := by
    have M := S.marks
    rw [hm] at M
    refine leaves_ok [] act'.defers ρ' h' w' h' S.heap M rfl fun ρ₂ w₂ H₂ A₂ => ?_
    obtain ⟨v', q1, q2⟩ := result_ok H₂ (S.tmps.mono (A₂ 0).le) hv
    exact ⟨v', q1, v, v', h', ρ₂, rfl, hK, q2, H₂, F.trans (A₂ 0).fr⟩
  rcases he with rfl | rfl <;> exact this
theorem CallJ.mono {f : FuncId} {args : Array Value} {K K' : Value → AHeap → Prop} (x : CallJ P f args h K) (hk : ∀ v h, K v h → K' v h) : CallJ P f args h K' :=
  fun ρ args' w H G hA => CallsIn.mono (x ρ args' w H G hA) fun _ _ ⟨v, v', h', ρ', e, k1, k2⟩ => ⟨v, v', h', ρ', e, hk _ _ k1, k2⟩
end
end Go.Am
