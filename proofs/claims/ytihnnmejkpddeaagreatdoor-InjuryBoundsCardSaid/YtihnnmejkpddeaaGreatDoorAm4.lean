/-
  OWN WORK. 'Am': what code comes to, seen from an abstract state; smaller views of a heap; calls of strings.Join.
-/
import Derived.Test.YtihnnmejkpddeaaGreatDoorAm3
import Derived.Below
import Derived.Lib.Join
namespace Go.Am
structure Fr (ρ : Rho) (h : AHeap) (w : World) (ρ' : Rho) (h' : AHeap) (w' : World) : Prop where
 size : w.heap.size ≤ w'.heap.size
 os : w'.os = w.os
 tape : w'.tape = w.tape
 output : w'.output = w.output
 kept : ∀ b, b < w.heap.size → ¬ Own ρ h b → w'.heap[b]? = w.heap[b]?
 own : ∀ b, b < w.heap.size → Own ρ' h' b → Own ρ h b
theorem Fr.refl (ρ : Rho) (h : AHeap) (w : World) : Fr ρ h w ρ h w := ⟨Nat.le_refl _, rfl, rfl, rfl, fun _ _ _ => rfl, fun _ _ o => o⟩
theorem Fr.trans {ρ ρ₁ ρ₂ : Rho} {h h₁ h₂ : AHeap} {w w₁ w₂ : World} (x : Fr ρ h w ρ₁ h₁ w₁) (y : Fr ρ₁ h₁ w₁ ρ₂ h₂ w₂) : Fr ρ h w ρ₂ h₂ w₂ where
 size := Nat.le_trans x.size y.size
 os := y.os.trans x.os
 tape := y.tape.trans x.tape
 output := y.output.trans x.output
 kept b hb ho := (y.kept b (Nat.lt_of_lt_of_le hb x.size) fun o => ho (x.own b hb o)).trans (x.kept b hb ho)
 own b hb o := x.own b hb (y.own b (Nat.lt_of_lt_of_le hb x.size) o)
theorem Adv.fr {k : Nat} {ρ ρ' : Rho} {h h' : AHeap} {w w' : World} (A : Adv k ρ h w ρ' h' w') : Fr ρ h w ρ' h' w' :=
 ⟨A.size, A.os, A.tape, A.output, A.kept, A.own⟩
abbrev Post := Exit → AAct → AHeap → Prop
def JPost (P : Program) (ρ : Rho) (h : AHeap) (w : World) (k : Post) (e : Exit) (act' : Act) (w' : World) : Prop :=
 ∃ a' h' ρ', k e a' h' ∧ SRel P ρ' a' h' act' w' ∧ Fr ρ h w ρ' h' w'
def J (P : Program) (c : Code) (a : AAct) (h : AHeap) (k : Post) : Prop :=
 ∀ ρ act w, SRel P ρ a h act w → WpX none P c (JPost P ρ h w k) act w
def CallJ (P : Program) (f : FuncId) (args : Array Value) (h : AHeap) (K : Value → AHeap → Prop) : Prop :=
 ∀ ρ args' w, HRel ρ h w → Globs P ρ → ARel (VRel ρ) args args' → CallsIn (fence none) 0 P f args' w (fun e w' => ∃ v v' h' ρ', e = .returned v' ∧ K v h' ∧ VRel ρ' v v' ∧ HRel ρ' h' w' ∧ Fr ρ h w ρ' h' w')
def onNormal (f : AAct → AHeap → Prop) (k : Post) : Post := fun e a h => match e with
 | .normal => f a h
 | e => k e a h
def onBlock (id : Nat) (k : Post) : Post := fun e a h => match e with
 | .exit j => if j = id then k .normal a h else k (.exit j) a h
 | e => k e a h
section
variable {P : Program} {a : AAct} {h : AHeap} {k : Post}
theorem WpX.mono {rd : Option Nat} {c : Code} {Q Q' : Exit → Act → World → Prop} {act : Act} {w : World} (x : WpX rd P c Q act w) (hq : ∀ e a w, Q e a w → Q' e a w) : WpX rd P c Q' act w :=
 ⟨wpIn_mono x.1 hq, fun b e => (x.2 b e).mono hq⟩
theorem JPost.trans {ρ ρ₁ : Rho} {h h₁ : AHeap} {w w₁ : World} {k : Post} {e : Exit} {act' : Act} {w' : World} (F : Fr ρ h w ρ₁ h₁ w₁) (x : JPost P ρ₁ h₁ w₁ k e act' w') : JPost P ρ h w k e act' w' :=
 let ⟨a', h', ρ', k1, k2, k3⟩ := x; ⟨a', h', ρ', k1, k2, F.trans k3⟩
theorem J.mono {c : Code} {k' : Post} (x : J P c a h k) (hk : ∀ e a h, k e a h → k' e a h) : J P c a h k' :=
 fun ρ act w S => (x ρ act w S).mono fun _ _ _ ⟨a', h', ρ', k1, k2, k3⟩ => ⟨a', h', ρ', hk _ _ _ k1, k2, k3⟩
theorem J.of_exec {orc : Orc} (hm : P.follows .mixedOrders = true) (ho : OrcOk P orc) {n : Nat} {c : Code} {e : Exit} {a' : AAct} {h' : AHeap} (hx : exec P orc n none c a h = some (e, a', h')) (hk : k e a' h') : J P c a h k :=
 fun ρ act w S => ((exec_ok hm ho n).run none c a h e a' h' hx none ρ act w trivial S).mono fun _ _ _ ⟨he, ρ', S', A⟩ => ⟨a', h', ρ', he ▸ hk, S', A.fr⟩
theorem J.seq {x y : Code} (hx : J P x a h (onNormal (fun a' h' => J P y a' h' k) k)) : J P (.seq x y) a h k := by
 intro ρ act w S
 refine .of (wpIn_seq ?_) (fun b e => by cases e)
 refine wpIn_mono (hx ρ act w S).1 ?_
 rintro e' act₁ w₁ ⟨a₁, h₁, ρ₁, hk, S₁, F₁⟩
 cases e' with
 | normal => exact wpIn_mono (hk ρ₁ act₁ w₁ S₁).1 fun _ _ _ x => x.trans F₁
 | _ => exact ⟨a₁, h₁, ρ₁, hk, S₁, F₁⟩
theorem J.cond {x : Operand} {y z : Code} {b : Bool} (he : a.eval x = .bool b) (hy : b = true → J P y a h k) (hz : b = false → J P z a h k) : J P (.cond x y z) a h k := by
 intro ρ act w S
 refine .of ?_ (fun b e => by cases e)
 cases b with
 | true => exact wpIn_cond_true (eval_bool S.tmps he) (hy rfl ρ act w S).1
 | false => exact wpIn_cond_false (eval_bool S.tmps he) (hz rfl ρ act w S).1
theorem J.block {id : Nat} {b : Code} (hb : J P b a h (onBlock id k)) : J P (.block id b) a h k := by
 intro ρ act w S
 refine .of (wpIn_block ?_) (fun b e => by cases e)
 refine wpIn_mono (hb ρ act w S).1 ?_
 rintro e' act₁ w₁ ⟨a₁, h₁, ρ₁, hk, S₁, F₁⟩
 cases e' with
 | exit j =>
  simp only [onBlock] at hk
  simp only [Exit.inBlock]
  split
  ·rename_i hj
   rw [if_pos hj] at hk
   exact ⟨a₁, h₁, ρ₁, hk, S₁, F₁⟩
  ·rename_i hj
   rw [if_neg hj] at hk
   exact ⟨a₁, h₁, ρ₁, hk, S₁, F₁⟩
 | _ => exact ⟨a₁, h₁, ρ₁, hk, S₁, F₁⟩
theorem J.scope {b : Code} (hb : J P b a h (fun e a' h' => match e with
  | .goto _ => False
  | e => k e a' h')) : J P (.scope b) a h k := by
 intro ρ act w S
 refine .of (wpIn_scope ?_) (fun b e => by cases e)
 refine wpIn_mono (hb ρ act w S).1 ?_
 rintro e' act₁ w₁ ⟨a₁, h₁, ρ₁, hk, S₁, F₁⟩
 cases e' with
 | goto l => exact hk.elim
 | _ => exact ⟨a₁, h₁, ρ₁, hk, S₁, F₁⟩
theorem J.loop {b : Code} (hb : J P b a h (onNormal (fun a' h' => J P (.loop b) a' h' k) k)) : J P (.loop b) a h k := by
 intro ρ act w S
 have key : LoopWp (fence none) 0 P b (JPost P ρ h w k) act w := by
  refine LoopWp.round ?_
  refine wpIn_mono (hb ρ act w S).1 ?_
  rintro e' act₁ w₁ ⟨a₁, h₁, ρ₁, hk, S₁, F₁⟩
  cases e' with
  | normal => exact LoopWp.mono ((hk ρ₁ act₁ w₁ S₁).2 b rfl) fun _ _ _ x => x.trans F₁
  | _ => exact ⟨a₁, h₁, ρ₁, hk, S₁, F₁⟩
 exact ⟨key.wp, fun b' e => by cases e; exact key⟩
theorem J.skip (hk : k .normal a h) : J P .skip a h k := fun ρ _ w S => .of (wpIn_skip ⟨a, h, ρ, hk, S, Fr.refl _ _ _⟩) (fun b e => by cases e)
theorem J.exit {id : Nat} (hk : k (.exit id) a h) : J P (.exit id) a h k := fun ρ _ w S => .of (wpIn_exit ⟨a, h, ρ, hk, S, Fr.refl _ _ _⟩) (fun b e => by cases e)
theorem J.ret (hk : k .ret a h) : J P .ret a h k := fun ρ _ w S => .of (wpIn_ret ⟨a, h, ρ, hk, S, Fr.refl _ _ _⟩) (fun b e => by cases e)
theorem J.label {l : Nat} (hk : k .normal a h) : J P (.label l) a h k := fun ρ _ w S => .of (wpIn_label ⟨a, h, ρ, hk, S, Fr.refl _ _ _⟩) (fun b e => by cases e)
theorem J.region {orc : Orc} (hm : P.follows .mixedOrders = true) (ho : OrcOk P orc) {n : Nat} {id : Nat} {ops : Array Oper} {draw : Bool} {a' : AAct} {h' : AHeap} (hr : runRegion P (exec P orc n) ops draw a h = some (a', h')) (hk : k .normal a' h') : J P (.region id ops draw) a h k :=
 J.of_exec hm ho (n := n + 1) (by rw [exec_succ]; simp only [execStep]; rw [hr]; rfl) hk
theorem SRel.ext {ρ : Rho} {act : Act} {w : World} {a₂ : AAct} (S : SRel P ρ a h act w) (hn : a₂.n = a.n) (hm : a₂.marks = a.marks) (ht : ∀ t, t < a.n → a₂.tmp t = a.tmp t) (hu : ∀ t, a.n ≤ t → a₂.tmp t = undef) : SRel P ρ a₂ h act w := by
 refine ⟨S.heap, ⟨hn.trans S.tmps.size, fun t => ?_⟩, hm ▸ S.marks, S.globs⟩
 by_cases h : t < a.n
 ·rw [ht t h]; exact S.tmps.tmp t
 ·have h : a.n ≤ t := Nat.le_of_not_lt h
  rw [hu t h, undef_getD _ _ (by rw [← S.tmps.size]; exact h)]
  exact .undef
noncomputable def lit (n : Nat) (f : Nat → Value) : Tr Value := Nat.rec (motive := fun _ => Tr Value) .nil (fun i t => t.set i (f i)) n
theorem get_lit (n : Nat) (f : Nat → Value) (i : Nat) : (lit n f).get i = if i < n then some (f i) else none := by
 induction n with
 | zero => rfl
 | succ n ih =>
  show ((lit n f).set n (f n)).get i = _
  rw [Tr.get_set, ih]
  by_cases e : i = n
  ·subst e; simp
  ·rw [if_neg e]
   by_cases l : i < n
   ·rw [if_pos l, if_pos (by omega)]
   ·rw [if_neg l, if_neg (by omega)]
theorem J.lit {c : Code} (f : Nat → Value) (hf : ∀ t, t < a.n → a.tmp t = f t) {n : Nat} (hn : a.n = n) (hm : a.marks = []) (hj : J P c { n, t := lit n f, marks := [] } h k) : J P c a h k := by
 subst hn
 intro ρ act w S
 refine hj ρ act w (S.ext rfl hm.symm (fun t ht => ?_) fun t ht => ?_)
 ·simp only [AAct.tmp, get_lit, if_pos ht]
  exact (hf t ht).symm
 ·simp only [AAct.tmp, get_lit, if_neg (Nat.not_lt.2 ht)]
  rfl
theorem CallJ.of_body {f : FuncId} {args : Array Value} {K : Value → AHeap → Prop} {fn : Func} {c : Code} (hfn : P.funcs[f]? = some fn) (hb : fn.body = some c) (hsz : args.size ≤ fn.ntmps)
  (hj : J P c (enterAct fn.ntmps args.toList) h (fun e a' h' => (e = .normal ∨ e = .ret) ∧ a'.marks = [] ∧ ∃ v, aresult P fn a' h' = some v ∧ K v h')) : CallJ P f args h K := by
 intro ρ args' w H G hA
 refine callsIn_of_wp_marks hfn hb trivial ?_
 refine wpIn_mono (hj ρ { tmps := args' ++ Array.replicate (fn.ntmps - args'.size) Go.undef, defers := [] } w ⟨H, enter_rel hA hsz, ⟨rfl, fun i m d hm => by simp [enterAct] at hm⟩, G⟩).1 ?_
 rintro e' act' w' ⟨a', h', ρ', ⟨he, hm, v, hv, hK⟩, S, F⟩
 have : LeavesInM (fence none) 0 P fn act'.tmps (fun e w' => ∃ v v' h' ρ', e = .returned v' ∧ K v h' ∧ VRel ρ' v v' ∧ HRel ρ' h' w' ∧ Fr ρ h w ρ' h' w') act'.defers .returning w' := by
  have M := S.marks
  rw [hm] at M
  refine leaves_ok [] act'.defers ρ' h' w' h' S.heap M rfl fun ρ₂ w₂ H₂ A₂ => ?_
  obtain ⟨v', q1, q2⟩ := result_ok H₂ (S.tmps.mono (A₂ 0).le) hv
  exact ⟨v', q1, v, v', h', ρ₂, rfl, hK, q2, H₂, F.trans (A₂ 0).fr⟩
 rcases he with rfl | rfl <;> exact this
theorem CallJ.mono {f : FuncId} {args : Array Value} {K K' : Value → AHeap → Prop} (x : CallJ P f args h K) (hk : ∀ v h, K v h → K' v h) : CallJ P f args h K' :=
 fun ρ args' w H G hA => CallsIn.mono (x ρ args' w H G hA) fun _ _ ⟨v, v', h', ρ', e, k1, k2⟩ => ⟨v, v', h', ρ', e, hk _ _ k1, k2⟩
end
end Go.Am
namespace Go.Am
abbrev Pre := Nat → Option Nat
def viewRho (ρ : Rho) (n : Nat) (pre : Pre) : Rho := fun j => if j < n then (match pre j with | some i => ρ i | none => .dead) else .unborn
def Mentions (v : Value) (i : Nat) : Prop := (∃ o n k, v = .slice (some ⟨i, o, none⟩) n k) ∨ (∃ o, v = .pointer (some ⟨i, o, none⟩)) ∨ (∃ (cs : Array Value) (o n k : Nat), v = .agg cs ∧ .slice (some ⟨i, o, none⟩) n k ∈ cs.toList) ∨ ∃ (f : FuncId) (caps : Array Value) (o : Nat), v = .func (.func f) #[] caps ∧ .pointer (some ⟨i, o, none⟩) ∈ caps.toList
inductive Ren (pre : Pre) : Value → Value → Prop
 | flat {v : Value} : flat 3 v = true → Ren pre v v
 | slice {i j o n k : Nat} : pre j = some i → Ren pre (.slice (some ⟨i, o, none⟩) n k) (.slice (some ⟨j, o, none⟩) n k)
 | ptr {i j o : Nat} : pre j = some i → Ren pre (.pointer (some ⟨i, o, none⟩)) (.pointer (some ⟨j, o, none⟩))
 | fn {f : FuncId} : Ren pre (.func (.func f) #[] #[]) (.func (.func f) #[] #[])
 | agg {l l₂ : List Value} : l.length = l₂.length → (∀ (i : Nat) x y, l[i]? = some x → l₂[i]? = some y → Ren pre x y) → Ren pre (.agg l.toArray) (.agg l₂.toArray)
 | tuple {l l₂ : List Value} : l.length = l₂.length → (∀ (i : Nat) x y, l[i]? = some x → l₂[i]? = some y → Ren pre x y) → Ren pre (.tuple l.toArray) (.tuple l₂.toArray)
 | cl {f : FuncId} {l l₂ : List Value} : l.length = l₂.length → (∀ (i : Nat) x y, l[i]? = some x → l₂[i]? = some y → Ren pre x y) → Ren pre (.func (.func f) #[] l.toArray) (.func (.func f) #[] l₂.toArray)
 | mp {i j : Nat} : pre j = some i → Ren pre (.map (some i)) (.map (some j))
def SameObj (pre : Pre) : AObj → AObj → Prop
 | .cells c e row ro, .cells c₂ e₂ row₂ ro₂ => c₂.length = c.length ∧ e₂ = e ∧ row₂ = row ∧ (∀ (q : Nat) x y, c[q]? = some x → c₂[q]? = some y → Ren pre x y) ∧ (ro = true → ro₂ = true)
 | .iter s p, .iter s₂ p₂ => s₂ = s ∧ p₂ = p
 | .defd, .defd => True
 | .map es ck, .map es₂ ck₂ => es₂ = es ∧ ck₂ = ck ∧ ∀ e ∈ es, flat 3 e.val = true
 | _, _ => False
theorem flat_ren {pre : Pre} {c : List Value} (hf : c.all (flat 3) = true) : ∀ (q : Nat) x y, c[q]? = some x → c[q]? = some y → Ren pre x y := fun q x y hx hy => by
 rw [hx] at hy
 cases hy
 exact .flat (List.all_eq_true.1 hf x (List.mem_of_getElem? hx))
structure View (P : Program) (h h₂ : AHeap) (pre : Pre) : Prop where
 lt : ∀ j i, pre j = some i → j < h₂.n
 inj : ∀ j j' i, pre j = some i → pre j' = some i → j = j'
 obj : ∀ j i, pre j = some i → ∃ o o₂, h.get i = some o ∧ h₂.get j = some o₂ ∧ SameObj pre o o₂
 gone : ∀ j, pre j = none → j < h₂.n → ∀ o, h₂.get j = some o → o = .dead
 globs : ∀ g, g < P.globals.size → g < h₂.n ∧ (pre g = none ∨ pre g = some g)
section
variable {P : Program} {ρ : Rho} {h h₂ : AHeap} {w : World} {pre : Pre}
theorem Mentions.born {v c : Value} {i : Nat} (m : Mentions v i) (r : VRel ρ v c) : ρ i ≠ .unborn := by
 rcases m with ⟨o, n, k, rfl⟩ | ⟨o, rfl⟩ | ⟨cs, o, n, k, rfl, hm⟩ | ⟨f, caps, o, rfl, hm⟩
 ·obtain ⟨a', k', _, h1, _⟩ := r.unfold
  exact h1.born
 ·obtain ⟨a', _, h1⟩ := r.unfold
  exact h1.born
 ·obtain ⟨cs', rfl, e1, e2⟩ := r.unfold
  obtain ⟨j, hj⟩ := List.getElem?_of_mem hm
  have hj : cs[j]? = some (.slice (some ⟨i, o, none⟩) n k) := by rw [← Array.getElem?_toList]; exact hj
  have hlt : j < cs'.size := by rw [← e1]; exact (Array.getElem?_eq_some_iff.1 hj).1
  obtain ⟨a', k', _, h1, _⟩ := (e2 j _ cs'[j] hj (Array.getElem?_eq_getElem hlt)).unfold
  exact h1.born
 ·obtain ⟨fn', f', c', rfl, _, _, e1, e2⟩ := r.unfold
  obtain ⟨j, hj⟩ := List.getElem?_of_mem hm
  have hj : caps[j]? = some (.pointer (some ⟨i, o, none⟩)) := by rw [← Array.getElem?_toList]; exact hj
  have hlt : j < c'.size := by rw [← e1]; exact (Array.getElem?_eq_some_iff.1 hj).1
  obtain ⟨a', _, h1⟩ := (e2 j _ c'[j] hj (Array.getElem?_eq_getElem hlt)).unfold
  exact h1.born
def Alive (ρ : Rho) (pre : Pre) : Prop := ∀ j i, pre j = some i → ∃ g, ρ i = .live g
theorem View.alive (V : View P h h₂ pre) (H : HRel ρ h w) (hb : ∀ j i, pre j = some i → ρ i ≠ .unborn) : Alive ρ pre := fun j i hp => by
 obtain ⟨o, o₂, h1, _, h3⟩ := V.obj j i hp
 refine H.get_live h1 (fun e => ?_) (hb j i hp)
 subst e
 cases o₂ <;> exact h3
theorem viewRho_some (V : View P h h₂ pre) {j i : Nat} (hp : pre j = some i) : viewRho ρ h₂.n pre j = ρ i := by
 simp only [viewRho, if_pos (V.lt j i hp), hp]
theorem viewRho_live {j : Nat} {g : G} (hl : viewRho ρ h₂.n pre j = .live g) : ∃ i, pre j = some i ∧ ρ i = .live g := by
 simp only [viewRho] at hl
 split at hl
 ·split at hl
  ·exact ⟨_, by assumption, hl⟩
  ·cases hl
 ·cases hl
theorem Ren.vrel (V : View P h h₂ pre) : ∀ {v v₂ c : Value}, Ren pre v v₂ → VRel ρ v c → VRel (viewRho ρ h₂.n pre) v₂ c := by
 intro v v₂ c r
 induction r generalizing c with
 | flat hf => intro k; rw [VRel.flat_eq hf k]; exact .flat hf
 | @slice i j o n k hp =>
  intro x
  obtain ⟨a', k', rfl, h1, h2, h3, h4⟩ := x.unfold
  refine .fold ⟨a', k', rfl, ?_, h2, h3, fun g hg => h4 g ?_⟩
  ·unfold PRel at h1 ⊢
   rw [viewRho_some V hp]
   exact h1
  ·rw [viewRho_some V hp] at hg
   exact hg
 | @ptr i j o hp =>
  intro x
  obtain ⟨a', rfl, h1⟩ := x.unfold
  refine .fold ⟨a', rfl, ?_⟩
  unfold PRel at h1 ⊢
  rw [viewRho_some V hp]
  exact h1
 | @fn f =>
  intro x
  obtain ⟨fn', f', c', rfl, h0, h1, h2⟩ := x.unfold
  exact .fold ⟨fn', f', c', rfl, h0, ⟨h1.1, fun i x y hx _ => by simp at hx⟩, ⟨h2.1, fun i x y hx _ => by simp at hx⟩⟩
 | @agg l l₂ hl _ ih =>
  intro x
  obtain ⟨cs', rfl, h1, h2⟩ := x.unfold
  refine .fold ⟨cs', rfl, by simpa [hl] using h1, fun i x y hx hy => ?_⟩
  have hi : i < l.length := by
   rw [hl]
   have := (Array.getElem?_eq_some_iff.1 hx).1
   simpa using this
  exact ih i l[i] x (List.getElem?_eq_getElem hi) (by simpa using hx) (h2 i l[i] y (by simp [hi]) hy)
 | @tuple l l₂ hl _ ih =>
  intro x
  obtain ⟨cs', rfl, h1, h2⟩ := x.unfold
  refine .fold ⟨cs', rfl, by simpa [hl] using h1, fun i x y hx hy => ?_⟩
  have hi : i < l.length := by
   rw [hl]
   have := (Array.getElem?_eq_some_iff.1 hx).1
   simpa using this
  exact ih i l[i] x (List.getElem?_eq_getElem hi) (by simpa using hx) (h2 i l[i] y (by simp [hi]) hy)
 | @cl f l l₂ hl _ ih =>
  intro x
  obtain ⟨fn', f', c', rfl, h0, h1, h2⟩ := x.unfold
  refine .fold ⟨fn', f', c', rfl, h0, ⟨h1.1, fun i x y hx _ => by simp at hx⟩, ⟨by simpa [hl] using h2.1, fun i x y hx hy => ?_⟩⟩
  have hi : i < l.length := by
   rw [hl]
   have := (Array.getElem?_eq_some_iff.1 hx).1
   simpa using this
  exact ih i l[i] x (List.getElem?_eq_getElem hi) (by simpa using hx) (h2.2 i l[i] y (by simp [hi]) hy)
 | @mp i j hp =>
  intro x
  obtain ⟨r', rfl, h1⟩ := x.unfold
  refine .fold ⟨r', rfl, ?_⟩
  unfold BRel at h1 ⊢
  rw [viewRho_some V hp]
  exact h1
theorem View.hrel (V : View P h h₂ pre) (H : HRel ρ h w) (A : Alive ρ pre) : HRel (viewRho ρ h₂.n pre) h₂ w := by
 refine ⟨fun i hi => ?_, fun i j g g' hi hj e hr => ?_, fun i g hi => ?_, fun j hj o ho => ?_⟩
 ·simp only [viewRho]
  rw [if_neg (by omega)]
 ·obtain ⟨i', p1, q1⟩ := viewRho_live hi
  obtain ⟨j', p2, q2⟩ := viewRho_live hj
  have hr' : h.rw i' = true := by
   obtain ⟨x, x₂, r1, r2, r3⟩ := V.obj i i' p1
   simp only [AHeap.rw, r1, r2] at hr ⊢
   cases x with
   | cells c e row ro =>
    cases x₂ with
    | cells c₂ e₂ row₂ ro₂ =>
     obtain ⟨_, _, _, _, h5⟩ := r3
     cases ro with
     | false => rfl
     | true => rw [h5 rfl] at hr; cases hr
    | _ => exact r3.elim
   | _ => rfl
  obtain rfl := H.inj i' j' g g' q1 q2 e hr'
  exact V.inj i j i' p1 p2
 ·obtain ⟨i', p1, q1⟩ := viewRho_live hi
  obtain ⟨o, o', k1, k2, k3⟩ := H.obj i' g q1
  obtain ⟨x, x₂, r1, r2, r3⟩ := V.obj i i' p1
  rw [k1] at r1
  cases r1
  refine ⟨x₂, o', r2, k2, ?_⟩
  cases o with
  | cells c e row ro =>
   cases x₂ with
   | cells c₂ e₂ row₂ ro₂ =>
    obtain ⟨hl, rfl, rfl, hf, hro⟩ := r3
    obtain ⟨d, fr, q1, q2, q3, q4, q5, q6⟩ := k3
    refine ⟨d, fr, q1, by rw [hl]; exact q2, q3, q4, fun j v hv => ?_, fun e₃ => q6 (by cases ro with | false => rfl | true => rw [hro rfl] at e₃; cases e₃)⟩
    have hj : j < c.length := by rw [← hl]; exact (List.getElem?_eq_some_iff.1 hv).1
    obtain ⟨v', z1, z2⟩ := q5 j c[j] (List.getElem?_eq_getElem hj)
    exact ⟨v', z1, (hf j c[j] v (List.getElem?_eq_getElem hj) hv).vrel V z2⟩
   | _ => exact r3.elim
  | iter s p =>
   cases x₂ with
   | iter s₂ p₂ =>
    obtain ⟨rfl, rfl⟩ := r3
    exact k3
   | _ => exact r3.elim
  | defd =>
   cases x₂ with
   | defd => exact k3
   | _ => exact r3.elim
  | map es ck =>
   cases x₂ with
   | map es₂ ck₂ =>
    obtain ⟨rfl, rfl, hf⟩ := r3
    obtain ⟨es', z1, z2, z3⟩ := k3
    refine ⟨es', z1, z2, fun i e e' a b => ?_⟩
    obtain ⟨u1, u2, u3, u4⟩ := z3 i e e' a b
    have hv := hf e (List.mem_of_getElem? a)
    exact ⟨u1, u2, u3, by rw [VRel.flat_eq hv u4]; exact .flat hv⟩
   | _ => exact r3.elim
  | _ => cases x₂ <;> exact r3.elim
 ·simp only [viewRho] at hj
  split at hj
  ·rename_i hlt
   split at hj
   ·rename_i i hp
    obtain ⟨g, hg⟩ := A j i hp
    rw [hg] at hj
    cases hj
   ·rename_i hp
    exact V.gone j hp hlt o ho
  ·cases hj
theorem View.own (V : View P h h₂ pre) {b : Nat} (ho : Own (viewRho ρ h₂.n pre) h₂ b) : Own ρ h b := by
 obtain ⟨j, g, h1, h2, h3⟩ := ho
 obtain ⟨i, hp, hl⟩ := viewRho_live h1
 refine ⟨i, g, hl, h2, ?_⟩
 obtain ⟨o, o₂, k1, k2, k3⟩ := V.obj j i hp
 simp only [AHeap.rw, k1, k2] at h3 ⊢
 cases o with
 | cells c e row ro =>
  cases o₂ with
  | cells c₂ e₂ row₂ ro₂ =>
   obtain ⟨_, _, _, _, hr⟩ := k3
   cases ro with
   | false => rfl
   | true => simp [hr rfl] at h3
  | _ => exact k3.elim
 | _ => rfl
theorem View.globs' (V : View P h h₂ pre) (G : Globs P ρ) : Globs P (viewRho ρ h₂.n pre) := fun g hg => by
 obtain ⟨hl, hp⟩ := V.globs g hg
 simp only [viewRho, if_pos hl]
 rcases hp with hp | hp
 ·rw [hp]; exact .inl rfl
 ·rw [hp]; exact G g hg
theorem some_rel {ρ₂ : Rho} {D : Nat} (hD : ρ₂ D = .dead) {v c : Value} (r : VRel ρ v c) : ∃ x, VRel ρ₂ x c := by
 refine r (fun _ c => ∃ x, VRel ρ₂ x c) fun v c hs => ?_
 have arr : ∀ a b : Array Value, ARel (fun _ c => ∃ x, VRel ρ₂ x c) a b → ∃ a₂, ARel (VRel ρ₂) a₂ b := fun a b hab => by
  have : ∀ i : Fin b.size, ∃ x, VRel ρ₂ x b[i] := fun i => by
   have hi : i.1 < a.size := by rw [hab.1]; exact i.2
   exact hab.2 i.1 a[i.1] b[i.1] (Array.getElem?_eq_getElem hi) (Array.getElem?_eq_getElem i.2)
  refine ⟨Array.ofFn fun i => Classical.choose (this i), by simp, fun i x y hx hy => ?_⟩
  obtain ⟨hi, rfl⟩ := Array.getElem?_eq_some_iff.1 hy
  have := Classical.choose_spec (this ⟨i, hi⟩)
  rw [Array.getElem?_eq_getElem (by simpa using hi)] at hx
  cases hx
  simpa using this
 have atom : ∀ u, atomB u = true → c = u → ∃ x, VRel ρ₂ x c := fun u hu e => ⟨u, by rw [e]; exact .atom hu⟩
 have pd : ∀ a' : Addr, PRel ρ₂ ⟨D, 0, none⟩ a' := fun a' => by simp [PRel, hD]
 cases v with
 | pointer a =>
  cases a with
  | none => exact atom _ rfl hs
  | some a => obtain ⟨a', rfl, _⟩ := hs; exact ⟨.pointer (some ⟨D, 0, none⟩), .fold ⟨a', rfl, pd a'⟩⟩
 | slice a n k =>
  cases a with
  | none => exact atom _ rfl hs
  | some a =>
   obtain ⟨a', k', rfl, _, h2, h3, _⟩ := hs
   exact ⟨.slice (some ⟨D, 0, none⟩) n k, .fold ⟨a', k', rfl, pd a', h2, h3, fun g hg => by rw [hD] at hg; cases hg⟩⟩
 | map r =>
  cases r with
  | none => exact atom _ rfl hs
  | some r => obtain ⟨r', rfl, _⟩ := hs; exact ⟨.map (some D), .fold ⟨r', rfl, by simp [BRel, hD]⟩⟩
 | chan r =>
  cases r with
  | none => exact atom _ rfl hs
  | some r => exact hs.elim
 | func fn first cap =>
  obtain ⟨fn', f', c', rfl, hf, h1, h2⟩ := hs
  obtain ⟨x1, k1⟩ := arr _ _ h1
  obtain ⟨x2, k2⟩ := arr _ _ h2
  cases fn with
  | yield l =>
   obtain ⟨l', rfl, _⟩ := hf
   exact ⟨.func (.yield D) x1 x2, .fold ⟨_, _, _, rfl, ⟨l', rfl, by simp [BRel, hD]⟩, k1, k2⟩⟩
  | func f => exact ⟨.func (.func f) x1 x2, .fold ⟨_, _, _, rfl, hf, k1, k2⟩⟩
  | method t => exact ⟨.func (.method t) x1 x2, .fold ⟨_, _, _, rfl, hf, k1, k2⟩⟩
  | methodOf t m => exact ⟨.func (.methodOf t m) x1 x2, .fold ⟨_, _, _, rfl, hf, k1, k2⟩⟩
  | via t m b u => exact ⟨.func (.via t m b u) x1 x2, .fold ⟨_, _, _, rfl, hf, k1, k2⟩⟩
 | agg cs =>
  obtain ⟨cs', rfl, h1⟩ := hs
  obtain ⟨x1, k1⟩ := arr _ _ h1
  exact ⟨.agg x1, .fold ⟨_, rfl, k1⟩⟩
 | tuple cs =>
  obtain ⟨cs', rfl, h1⟩ := hs
  obtain ⟨x1, k1⟩ := arr _ _ h1
  exact ⟨.tuple x1, .fold ⟨_, rfl, k1⟩⟩
 | iface t v =>
  obtain ⟨v', rfl, x, hx⟩ := hs
  exact ⟨.iface t x, .fold ⟨v', rfl, hx⟩⟩
 | _ => exact atom _ rfl hs
end
section
variable {P : Program} {a : AAct} {h h₂ : AHeap} {k : Post} {pre : Pre}
inductive Reach (P : Program) (a : AAct) (h : AHeap) : Nat → Prop
 | glob {i : Nat} : i < P.globals.size → Reach P a h i
 | tmp {i t : Nat} : Mentions (a.tmp t) i → Reach P a h i
 | cell {i i' e row : Nat} {c : List Value} {ro : Bool} {v : Value} : Reach P a h i' → h.get i' = some (.cells c e row ro) → v ∈ c → Mentions v i → Reach P a h i
theorem Reach.born {ρ : Rho} {act : Act} {w : World} (S : SRel P ρ a h act w) {i : Nat} (r : Reach P a h i) : ρ i ≠ .unborn := by
 induction r with
 | glob hg => intro hu; rcases S.globs _ hg with e | ⟨q, e, _⟩ <;> rw [e] at hu <;> cases hu
 | @tmp i t ht => exact ht.born (S.tmps.tmp t)
 | @cell i i' e row c ro v _ hg hv hm ih =>
  obtain ⟨g, hl⟩ := S.heap.get_live hg (by simp) ih
  obtain ⟨o, o', k1, _, k3⟩ := S.heap.obj i' g hl
  rw [hg] at k1
  cases k1
  obtain ⟨d, fr, q1, q2, q3, q4, q5, q6⟩ := k3
  obtain ⟨j, hj⟩ := List.getElem?_of_mem hv
  obtain ⟨v', _, z2⟩ := q5 j v hj
  exact hm.born z2
theorem J.viewR {c : Code} (V : View P h h₂ pre) (kept : Nat → Option Value) {D : Nat} (hD : D < h₂.n) (hp : pre D = none) (hm : a.marks = [])
  (hk : ∀ t v, kept t = some v → Ren pre (a.tmp t) v) (hb : ∀ j i, pre j = some i → Reach P a h i)
  (hj : ∀ a₂ : AAct, a₂.n = a.n → a₂.marks = [] → (∀ t v, t < a.n → kept t = some v → a₂.tmp t = v) → J P c a₂ h₂ k) : J P c a h k := by
 intro ρ act w S
 have hDρ : viewRho ρ h₂.n pre D = .dead := by simp only [viewRho, if_pos hD, hp]
 have A : Alive ρ pre ∨ ∃ j i, pre j = some i ∧ ρ i = .dead := by
  by_cases hx : ∃ j i, pre j = some i ∧ ρ i = .dead
  ·exact .inr hx
  ·exact .inl (V.alive S.heap fun j i hji => (hb j i hji).born S)
 rcases A with A | ⟨j, i, hji, hd⟩
 ·have ex : ∀ t, ∃ x, VRel (viewRho ρ h₂.n pre) x (act.tmps.getD t Go.undef) ∧ ∀ v, kept t = some v → x = v := fun t => by
   cases hkt : kept t with
   | none => obtain ⟨x, hx⟩ := some_rel hDρ (S.tmps.tmp t); exact ⟨x, hx, fun v hv => by cases hv⟩
   | some v => exact ⟨v, (hk t v hkt).vrel V (S.tmps.tmp t), fun v' hv => by cases hv; rfl⟩
  let f : Nat → Value := fun t => Classical.choose (ex t)
  have hf : ∀ t, VRel (viewRho ρ h₂.n pre) (f t) (act.tmps.getD t Go.undef) ∧ ∀ v, kept t = some v → f t = v := fun t => Classical.choose_spec (ex t)
  let a₂ : AAct := { n := a.n, t := Go.Am.lit a.n f, marks := [] }
  have ht : ∀ t, a₂.tmp t = if t < a.n then f t else Go.undef := fun t => by
   simp only [a₂, AAct.tmp, get_lit]
   split <;> rfl
  have S₂ : SRel P (viewRho ρ h₂.n pre) a₂ h₂ act w := by
   refine ⟨V.hrel S.heap A, ⟨S.tmps.size, fun t => ?_⟩, ?_, V.globs' S.globs⟩
   ·rw [ht]
    by_cases hlt : t < a.n
    ·rw [if_pos hlt]; exact (hf t).1
    ·rw [if_neg hlt, undef_getD _ _ (by rw [← S.tmps.size]; exact Nat.le_of_not_lt hlt)]
     exact .undef
   ·have M := S.marks
    rw [hm] at M
    exact ⟨M.1, fun i m d hm' => by simp [a₂] at hm'⟩
  refine (hj a₂ rfl rfl (fun t v hlt hv => by rw [ht, if_pos hlt]; exact (hf t).2 v hv) _ act w S₂).mono ?_
  rintro e act' w' ⟨a', h', ρ', k1, k2, F⟩
  exact ⟨a', h', ρ', k1, k2, F.size, F.os, F.tape, F.output, fun b hb' ho => F.kept b hb' fun o => ho (V.own o), fun b hb' o => V.own (F.own b hb' o)⟩
 ·obtain ⟨o, o₂, h1, _, h3⟩ := V.obj j i hji
  have := S.heap.dead i hd o h1
  subst this
  cases o₂ <;> exact h3.elim
theorem J.view {c : Code} (V : View P h h₂ pre) (kept : Nat → Option Value) {D : Nat} (hD : D < h₂.n) (hp : pre D = none) (hm : a.marks = [])
  (hk : ∀ t v, kept t = some v → Ren pre (a.tmp t) v) (hb : ∀ j i, pre j = some i → i < P.globals.size ∨ ∃ t, Mentions (a.tmp t) i)
  (hj : ∀ a₂ : AAct, a₂.n = a.n → a₂.marks = [] → (∀ t v, t < a.n → kept t = some v → a₂.tmp t = v) → J P c a₂ h₂ k) : J P c a h k :=
 J.viewR V kept hD hp hm hk (fun j i hji => (hb j i hji).elim .glob fun ⟨_, ht⟩ => .tmp ht) hj
def EmptS (h₂ : AHeap) (pre : Pre) (x y : Value) : Prop := ∃ a D k, x = .slice (some a) 0 k ∧ y = .slice (some ⟨D, 0, none⟩) 0 k ∧ pre D = none ∧ D < h₂.n
theorem EmptS.vrel {ρ : Rho} {x y c : Value} (e : EmptS h₂ pre x y) (k : VRel ρ x c) : VRel (viewRho ρ h₂.n pre) y c := by
 obtain ⟨a, D, n, rfl, rfl, hD, hlt⟩ := e
 obtain ⟨a', k', rfl, _, h2, h3, _⟩ := k.slice_any
 have hd : viewRho ρ h₂.n pre D = .dead := by simp only [viewRho, if_pos hlt, hD]
 exact .fold ⟨a', k', rfl, by simp [PRel, hd], h2, h3, fun g hg => by simp only at hg; rw [hd] at hg; cases hg⟩
def Empt (h₂ : AHeap) (pre : Pre) (x y : Value) : Prop := EmptS h₂ pre x y ∨ ∃ l l₂ : List Value, x = .agg l.toArray ∧ y = .agg l₂.toArray ∧ l.length = l₂.length ∧ ∀ (i : Nat) a b, l[i]? = some a → l₂[i]? = some b → Ren pre a b ∨ EmptS h₂ pre a b
theorem Empt.vrel (V : View P h h₂ pre) {ρ : Rho} {x y c : Value} (e : Empt h₂ pre x y) (k : VRel ρ x c) : VRel (viewRho ρ h₂.n pre) y c := by
 rcases e with e | ⟨l, l₂, rfl, rfl, hl, he⟩
 ·exact e.vrel k
 obtain ⟨vs, rfl, e1, e2⟩ := k.unfold
 refine .fold ⟨vs, rfl, by rw [← e1]; simp [hl], fun i x y hx hy => ?_⟩
 have hi : i < l.length := by
  have := (Array.getElem?_eq_some_iff.1 hx).1
  rw [hl]; simpa using this
 have hx' : l₂[i]? = some x := by simpa using hx
 have q := e2 i l[i] y (by simp) hy
 rcases he i l[i] x (List.getElem?_eq_getElem hi) hx' with r | r
 ·exact r.vrel V q
 ·exact r.vrel q
structure Small (P : Program) (args args₂ : Array Value) (h h₂ : AHeap) (pre : Pre) : Prop where
 view : View P h h₂ pre
 rens : args.size = args₂.size ∧ ∀ (i : Nat) x y, args[i]? = some x → args₂[i]? = some y → Ren pre x y ∨ Empt h₂ pre x y
 born : ∀ j i, pre j = some i → i < P.globals.size ∨ ∃ v ∈ args.toList, Mentions v i
 ro : ∀ j, (pre j).isSome = true → h₂.rw j = false
theorem Small.start {args args₂ : Array Value} (s : Small P args args₂ h h₂ pre) {ρ : Rho} {w : World} {args' : Array Value} (H : HRel ρ h w) (G : Globs P ρ) (hA : ARel (VRel ρ) args args') :
  HRel (viewRho ρ h₂.n pre) h₂ w ∧ Globs P (viewRho ρ h₂.n pre) ∧ ARel (VRel (viewRho ρ h₂.n pre)) args₂ args' ∧ ∀ b, ¬ Own (viewRho ρ h₂.n pre) h₂ b := by
 have hnd : ∀ j i, pre j = some i → ρ i ≠ .dead := fun j i hji hd => by
  obtain ⟨o, o₂, h1, _, h3⟩ := s.view.obj j i hji
  have := H.dead i hd o h1
  subst this
  cases o₂ <;> exact h3.elim
 have A : Alive ρ pre := s.view.alive H fun j i hji hu => by
  rcases s.born j i hji with hg | ⟨v, hv, hm⟩
  ·rcases G i hg with e | ⟨q, e, _⟩
   ·exact hnd j i hji e
   ·rw [e] at hu; cases hu
  ·obtain ⟨n, hn⟩ := List.getElem?_of_mem hv
   have hn : args[n]? = some v := by rw [← Array.getElem?_toList]; exact hn
   have hlt : n < args'.size := by rw [← hA.1]; exact (Array.getElem?_eq_some_iff.1 hn).1
   exact hm.born (hA.2 n v args'[n] hn (Array.getElem?_eq_getElem hlt)) hu
 refine ⟨s.view.hrel H A, s.view.globs' G, ⟨s.rens.1 ▸ hA.1, fun i x y hx hy => ?_⟩, fun b ⟨j, g, hj, _, hr⟩ => ?_⟩
 ·have hi : i < args.size := by rw [s.rens.1]; exact (Array.getElem?_eq_some_iff.1 hx).1
  have hv := hA.2 i args[i] y (Array.getElem?_eq_getElem hi) hy
  rcases s.rens.2 i args[i] x (Array.getElem?_eq_getElem hi) hx with r | r
  ·exact r.vrel s.view hv
  ·exact r.vrel s.view hv
 ·obtain ⟨i, hp, _⟩ := viewRho_live hj
  rw [s.ro j (by rw [hp]; rfl)] at hr
  cases hr
theorem Fr.still {ρ ρ₂ ρ' : Rho} {h' : AHeap} {w w' : World} (H : HRel ρ h w) (own : ∀ b, ¬ Own ρ₂ h₂ b) (F : Fr ρ₂ h₂ w ρ' h' w') : HRel ρ h w' ∧ Adv h.n ρ h w ρ h w' := by
 have kept : ∀ b, b < w.heap.size → w'.heap[b]? = w.heap[b]? := fun b hb => F.kept b hb (own b)
 refine ⟨⟨H.bound, H.inj, fun i g hi => ?_, H.dead⟩, ⟨Rho.le_refl _, Nat.le_refl _, F.size, F.os, F.tape, F.output, fun b hb _ => kept b hb, fun _ _ o => o, fun _ _ u => u⟩⟩
 obtain ⟨o, o', k1, k2, k3⟩ := H.obj i g hi
 exact ⟨o, o', k1, by rw [kept _ (H.lt hi)]; exact k2, k3⟩
theorem CallJ.plain {f : FuncId} {args args₂ : Array Value} {res : Value} (hres : flat 3 res = true) (s : Small P args args₂ h h₂ pre) (hc : CallJ P f args₂ h₂ (fun v _ => v = res)) :
  ∀ ρ args' w, HRel ρ h w → Globs P ρ → ARel (VRel ρ) args args' → CallsIn (fence none) 0 P f args' w (CPost ρ h w res h) := by
 intro ρ args' w H G hA
 obtain ⟨H₂, G₂, A₂, own⟩ := s.start H G hA
 refine CallsIn.mono (hc _ args' w H₂ G₂ A₂) ?_
 rintro e w' ⟨v, v', h', ρ', rfl, rfl, hv, H', F⟩
 obtain rfl := VRel.flat_eq hres hv
 obtain ⟨k1, k2⟩ := F.still H own
 exact ⟨_, ρ, rfl, .flat hres, k1, k2⟩
theorem CallJ.fresh {f : FuncId} {args args₂ : Array Value} {xs : List Value} {el : TypeId} {row : Nat} (hxs : xs.all (flat 3) = true) (R : Nat → Value) (hR : ∀ r m, Ren (fun j => if j = m then some r else none) (R r) (R m)) (hMe : ∀ r ρ c, VRel ρ (R r) c → ρ r ≠ .unborn)
  (s : Small P args args₂ h h₂ pre) (hc : CallJ P f args₂ h₂ (fun v h' => ∃ r, v = R r ∧ h'.get r = some (.cells xs el row false))) :
  ∀ ρ args' w, HRel ρ h w → Globs P ρ → ARel (VRel ρ) args args' → CallsIn (fence none) 0 P f args' w (CPost ρ h w (R h.n) (h.push (.cells xs el row false))) := by
 intro ρ args' w H G hA
 obtain ⟨H₂, G₂, A₂, own⟩ := s.start H G hA
 refine CallsIn.mono (hc _ args' w H₂ G₂ A₂) ?_
 rintro e w' ⟨v, v', h', ρ', rfl, ⟨r, rfl, hget⟩, hv, H', F⟩
 obtain ⟨H₃, A₃⟩ := F.still H own
 obtain ⟨g, hg⟩ := H'.get_live hget (by simp) (hMe r ρ' _ hv)
 have hnew : w.heap.size ≤ g.b := by
  apply Nat.le_of_not_lt
  intro hlt
  exact own g.b (F.own g.b hlt ⟨r, g, hg, rfl, by simp [AHeap.rw, hget]⟩)
 obtain ⟨o, o', q1, q2, q3⟩ := H'.obj r g hg
 rw [hget] at q1
 cases q1
 have hun : ρ h.n = .unborn := H.bound h.n (Nat.le_refl _)
 let ρ₁ : Rho := fun i => if i = h.n then .live g else ρ i
 have hle : ρ.le ρ₁ := fun i => by
  simp only [ρ₁]
  by_cases e : i = h.n
  ·rw [e, hun]; trivial
  ·rw [if_neg e]; exact St.le_refl _
 have hlive : ∀ i q, ρ₁ i = .live q → (i = h.n ∧ q = g) ∨ (i ≠ h.n ∧ ρ i = .live q) := fun i q hi => by
  simp only [ρ₁] at hi
  by_cases e : i = h.n
  ·rw [if_pos e] at hi; cases hi; exact .inl ⟨e, rfl⟩
  ·rw [if_neg e] at hi; exact .inr ⟨e, hi⟩
 have V : View P h' (h.push (.cells xs el row false)) (fun j => if j = h.n then some r else none) → True := fun _ => trivial
 refine ⟨v', ρ₁, rfl, ?_, ⟨fun i hi => ?_, fun i j p q hi hj e hr => ?_, fun i p hi => ?_, fun i hi o ho => ?_⟩, ⟨hle, ?_, A₃.size, A₃.os, A₃.tape, A₃.output, A₃.kept, fun b hb o => ?_, fun i hi hu => ?_⟩⟩
 ·-- the result under the new map
  have key : ∀ {x y c : Value}, Ren (fun j => if j = h.n then some r else none) x y → VRel ρ' x c → VRel ρ₁ y c := by
   intro x y c hr
   have hpre : ∀ {j i : Nat}, (if j = h.n then some r else (none : Option Nat)) = some i → ρ₁ j = .live g ∧ ρ' i = .live g := fun {j i} e => by
    split at e
    ·rename_i e1
     cases e
     exact ⟨by simp only [ρ₁]; rw [if_pos e1], hg⟩
    ·cases e
   induction hr generalizing c with
   | flat hf => intro k; rw [VRel.flat_eq hf k]; exact .flat hf
   | @slice i j o n k hp =>
    intro x
    obtain ⟨e1, e2⟩ := hpre hp
    obtain ⟨a', k', rfl, h1, h2, h3, h4⟩ := x.unfold
    refine .fold ⟨a', k', rfl, ?_, h2, h3, fun q hq => h4 q ?_⟩
    ·unfold PRel at h1 ⊢
     simp only at h1 ⊢
     rw [e1]; rw [e2] at h1; exact h1
    ·simp only at hq ⊢
     rw [e1] at hq; rw [e2]; exact hq
   | @ptr i j o hp =>
    intro x
    obtain ⟨e1, e2⟩ := hpre hp
    obtain ⟨a', rfl, h1⟩ := x.unfold
    refine .fold ⟨a', rfl, ?_⟩
    unfold PRel at h1 ⊢
    simp only at h1 ⊢
    rw [e1]; rw [e2] at h1; exact h1
   | @fn f =>
    intro x
    obtain ⟨fn', f', c', rfl, h0, h1, h2⟩ := x.unfold
    exact .fold ⟨fn', f', c', rfl, h0, ⟨h1.1, fun i x y hx _ => by simp at hx⟩, ⟨h2.1, fun i x y hx _ => by simp at hx⟩⟩
   | @agg l l₂ hl _ ih =>
    intro x
    obtain ⟨cs', rfl, h1, h2⟩ := x.unfold
    refine .fold ⟨cs', rfl, by simpa [hl] using h1, fun i x y hx hy => ?_⟩
    have hi : i < l.length := by
     rw [hl]
     have := (Array.getElem?_eq_some_iff.1 hx).1
     simpa using this
    exact ih i l[i] x (List.getElem?_eq_getElem hi) (by simpa using hx) (h2 i l[i] y (by simp [hi]) hy)
   | @tuple l l₂ hl _ ih =>
    intro x
    obtain ⟨cs', rfl, h1, h2⟩ := x.unfold
    refine .fold ⟨cs', rfl, by simpa [hl] using h1, fun i x y hx hy => ?_⟩
    have hi : i < l.length := by
     rw [hl]
     have := (Array.getElem?_eq_some_iff.1 hx).1
     simpa using this
    exact ih i l[i] x (List.getElem?_eq_getElem hi) (by simpa using hx) (h2 i l[i] y (by simp [hi]) hy)
   | @cl f l l₂ hl _ ih =>
    intro x
    obtain ⟨fn', f', c', rfl, h0, h1, h2⟩ := x.unfold
    refine .fold ⟨fn', f', c', rfl, h0, ⟨h1.1, fun i x y hx _ => by simp at hx⟩, ⟨by simpa [hl] using h2.1, fun i x y hx hy => ?_⟩⟩
    have hi : i < l.length := by
     rw [hl]
     have := (Array.getElem?_eq_some_iff.1 hx).1
     simpa using this
    exact ih i l[i] x (List.getElem?_eq_getElem hi) (by simpa using hx) (h2.2 i l[i] y (by simp [hi]) hy)
   | @mp i j hp =>
    intro x
    obtain ⟨e1, e2⟩ := hpre hp
    obtain ⟨r', rfl, h1⟩ := x.unfold
    refine .fold ⟨r', rfl, ?_⟩
    unfold BRel at h1 ⊢
    rw [e1]; rw [e2] at h1; exact h1
  exact key (hR r h.n) hv
 ·have hi : h.n + 1 ≤ i := hi
  simp only [ρ₁]
  rw [if_neg (by omega)]
  exact H.bound i (by omega)
 ·rcases hlive i p hi with ⟨e1, e2⟩ | ⟨e1, e2⟩ <;> rcases hlive j q hj with ⟨e3, e4⟩ | ⟨e3, e4⟩
  ·rw [e1, e3]
  ·subst e2
   have := H.lt e4
   omega
  ·subst e4
   have := H.lt e2
   omega
  ·exact H.inj i j p q e2 e4 e (by rwa [rw_push_live H e2] at hr)
 ·rcases hlive i p hi with ⟨e1, e2⟩ | ⟨e1, e2⟩
  ·subst e1 e2
   refine ⟨_, o', by rw [AHeap.get_push, if_pos rfl], q2, ?_⟩
   obtain ⟨d, fr, z1, z2, z3, z4, z5, z6⟩ := q3
   refine ⟨d, fr, z1, z2, z3, z4, fun j v hv => ?_, z6⟩
   obtain ⟨v', y1, y2⟩ := z5 j v hv
   have hfv := List.all_eq_true.1 hxs v (List.mem_of_getElem? hv)
   exact ⟨v', y1, by rw [VRel.flat_eq hfv y2]; exact .flat hfv⟩
  ·obtain ⟨o₁, o₁', k1, k2, k3⟩ := H₃.obj i p e2
   refine ⟨o₁, o₁', by rw [AHeap.get_push, if_neg e1]; exact k1, k2, k3.mono hle⟩
 ·simp only [ρ₁] at hi
  by_cases e : i = h.n
  ·rw [if_pos e] at hi; cases hi
  ·rw [if_neg e] at hi
   rw [AHeap.get_push, if_neg e] at ho
   exact H.dead i hi o ho
 ·exact Nat.le_succ _
 ·obtain ⟨i, p, hi, hb', hr⟩ := o
  rcases hlive i p hi with ⟨e1, e2⟩ | ⟨e1, e2⟩
  ·subst e2; omega
  ·refine ⟨i, p, e2, hb', ?_⟩
   simpa [AHeap.rw, AHeap.get_push, if_neg e1] using hr
 ·simp only [ρ₁]
  rw [if_neg (by omega)]
  exact hu
def orElse (f : FuncId) (S : Array Value → AHeap → Option (Value × AHeap)) (orc : Orc) : Orc := fun f' args h =>
 match Nat.beq f f' with
 | true => match S args h with
  | some r => some r
  | none => orc f' args h
 | false => orc f' args h
theorem orElse_ok {f : FuncId} {S : Array Value → AHeap → Option (Value × AHeap)} {orc : Orc} (ho : OrcOk P orc)
  (hS : ∀ args h v h', S args h = some (v, h') → ∀ ρ args' w, HRel ρ h w → Globs P ρ → ARel (VRel ρ) args args' → CallsIn (fence none) 0 P f args' w (CPost ρ h w v h')) : OrcOk P (orElse f S orc) := by
 intro f' args h v h' hk
 unfold orElse at hk
 split at hk
 ·rename_i e
  obtain rfl : f = f' := by simpa using e
  split at hk
  ·rename_i r hr
   cases hk
   exact hS args h v h' hr
  ·exact ho _ _ _ _ _ hk
 ·exact ho _ _ _ _ _ hk
end
end Go.Am
namespace Go.Am
open Go.RowKit
noncomputable section
def strsOf : List Value → Option (List ByteArray)
 | [] => some []
 | .string s :: r => (strsOf r).map (s :: ·)
 | _ :: _ => none
def joinText (xs : List ByteArray) (sep : ByteArray) : List UInt8 := Lib.join (xs.map (·.data.toList)) sep.data.toList
def joinS (args : Array Value) (h : AHeap) : Option (Value × AHeap) :=
 match args.toList with
 | [.slice _ 0 _, .string _] => some (.string ⟨#[]⟩, h)
 | [.slice (some ⟨i, o, none⟩) (n + 1) _, .string sep] =>
  match h.get i with
  | some (.cells c _ _ _) =>
   match Nat.ble (o + (n + 1)) c.length, strsOf ((c.drop o).take (n + 1)) with
   | true, some xs => match Nat.ble xs.length 140737488355328 && Nat.ble (joinText xs sep).length 140737488355328 with
    | true => some (.string ⟨(joinText xs sep).toArray⟩, h)
    | false => none
   | _, _ => none
  | _ => none
 | _ => none
end
theorem strsOf_get : ∀ {l : List Value} {xs : List ByteArray}, strsOf l = some xs → xs.length = l.length ∧ ∀ (j : Nat) x, xs[j]? = some x → l[j]? = some (.string x)
 | [], xs, e => by cases e; exact ⟨rfl, fun j x hx => by simp at hx⟩
 | v :: l, xs, e => by
  unfold strsOf at e
  split at e
  ·rename_i h; cases h
  ·rename_i s r h
   cases h
   obtain ⟨ys, hy, rfl⟩ := Option.map_eq_some_iff.1 e
   obtain ⟨h1, h2⟩ := strsOf_get hy
   refine ⟨by simp [h1], fun j x hx => ?_⟩
   cases j with
   | zero => simp at hx; simp [hx]
   | succ j => simpa using h2 j x (by simpa using hx)
  ·cases e
variable {P : Program}
theorem below_still {ρ : Rho} {h : AHeap} {w w' : World} (H : HRel ρ h w) (B : Below w.heap.size w w') : HRel ρ h w' ∧ Adv h.n ρ h w ρ h w' := by
 refine ⟨⟨H.bound, H.inj, fun i g hi => ?_, H.dead⟩, ⟨Rho.le_refl _, Nat.le_refl _, B.size, B.os, B.tape, B.output, fun b hb _ => B.block b hb, fun _ _ o => o, fun _ _ u => u⟩⟩
 obtain ⟨o, o', k1, k2, k3⟩ := H.obj i g hi
 exact ⟨o, o', k1, by rw [B.block _ (H.lt hi)]; exact k2, k3⟩
theorem fence_none : fence none = Fence.wide := rfl
theorem joinS_ok {f : FuncId} (h0 : ∀ (a : Option Addr) (c : Nat) (sep : ByteArray) (w : World), Calls P f #[.slice a 0 c, .string sep] w fun e w' => e = .returned (.string ⟨#[]⟩) ∧ w' = w)
  (h1 : ∀ (bk o c : Nat) (xs : List ByteArray) (sep : ByteArray) (w : World), (∀ (j : Nat) x, xs[j]? = some x → w.cell? ⟨bk, o + j, none⟩ = some (.string x)) → bk < w.heap.size → xs.length ≤ 140737488355328 → xs.length ≤ c → (Lib.join (xs.map (·.data.toList)) sep.data.toList).length ≤ 140737488355328 →
   Calls P f #[.slice (some ⟨bk, o, none⟩) xs.length c, .string sep] w fun e w' => e = .returned (.string ⟨(Lib.join (xs.map (·.data.toList)) sep.data.toList).toArray⟩) ∧ Below w.heap.size w w')
  {orc : Orc} (ho : OrcOk P orc) : OrcOk P (orElse f joinS orc) := by
 refine orElse_ok ho fun args h v h' hk ρ args' w H G hA => ?_
 have hL := LRel.of_ARel hA
 unfold joinS at hk
 split at hk
 ·rename_i a k sep hargs
  cases hk
  rw [hargs] at hL
  obtain ⟨hl, hr⟩ := hL
  have hl' : args'.toList.length = 2 := by rw [← hl]; rfl
  match hb : args'.toList, hl' with
  | [x, y], _ =>
   rw [hb] at hr
   have hx := hr 0 _ x rfl rfl
   have hy := hr 1 _ y rfl rfl
   obtain rfl := hy.atom_eq rfl
   obtain rfl : args' = #[x, .string sep] := by cases args'; simp_all
   have hc : ∃ a' c', x = .slice a' 0 c' := by
    cases a with
    | none => exact ⟨none, k, hx.atom_eq rfl⟩
    | some a => obtain ⟨a', k', rfl, _⟩ := hx.slice_any; exact ⟨some a', k', rfl⟩
   obtain ⟨a', c', rfl⟩ := hc
   rw [fence_none]
   refine CallsIn.mono (callsIn_wide.2 (h0 a' c' sep w)) ?_
   rintro e w' ⟨rfl, rfl⟩
   exact ⟨_, ρ, rfl, .atom rfl, H, Adv.refl _ _ _ _⟩
 ·rename_i i o n k sep hargs
  split at hk
  ·rename_i c el row ro hg
   split at hk
   ·rename_i xs hle hxs
    split at hk
    ·rename_i hsz
     simp only [Bool.and_eq_true, Nat.ble_eq] at hsz
     cases hk
     rw [hargs] at hL
     obtain ⟨hl, hr⟩ := hL
     have hl' : args'.toList.length = 2 := by rw [← hl]; rfl
     match hb : args'.toList, hl' with
     | [x, y], _ =>
      rw [hb] at hr
      have hx := hr 0 _ x rfl rfl
      have hy := hr 1 _ y rfl rfl
      obtain rfl := hy.atom_eq rfl
      obtain rfl : args' = #[x, .string sep] := by cases args'; simp_all
      obtain ⟨g, k', hi, rfl, h3, h4, h5⟩ := hx.slice_live H hg (by simp)
      have hle := Nat.le_of_ble_eq_true hle
      obtain ⟨q1, q2⟩ := strsOf_get hxs
      have hn : xs.length = n + 1 := by rw [q1, List.length_take, List.length_drop]; omega
      rw [fence_none, show n.succ = xs.length from hn.symm]
      refine CallsIn.mono (callsIn_wide.2 (h1 g.b (o + g.sh) k' xs sep w (fun j x hx => ?_) (H.lt hi) hsz.1 (by omega) hsz.2)) ?_
      ·have hj : j < n + 1 := by rw [← hn]; exact (List.getElem?_eq_some_iff.1 hx).1
       have hc := q2 j x hx
       rw [List.getElem?_take, if_pos hj, List.getElem?_drop] at hc
       obtain ⟨v', e1, e2⟩ := H.cell hi hg hc
       obtain rfl := e2.atom_eq rfl
       rw [show o + g.sh + j = o + j + g.sh by omega]
       exact e1
      ·rintro e w' ⟨rfl, B⟩
       obtain ⟨H', A'⟩ := below_still H B
       exact ⟨_, ρ, rfl, .atom rfl, H', A'⟩
    ·cases hk
   ·cases hk
  ·cases hk
 ·cases hk
end Go.Am
