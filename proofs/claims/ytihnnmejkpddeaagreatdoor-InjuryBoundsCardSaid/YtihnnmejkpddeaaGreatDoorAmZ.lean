/-
  OWN WORK. 'Am': loops inside of ranges over functions.
-/
import Derived.Test.YtihnnmejkpddeaaGreatDoorAmV
/-! (OWN WORK. 'Am': code behind which what lay at its beginning keeps its numbers (it is pinned); a state seen with fewer blocks beside what is pinned, an entered range over a function among it.) -/
namespace Go.Am
noncomputable section
def Pin (K : Nat) (ρ ρ' : Rho) : Prop := ∀ i, i < K → (ρ i).le (ρ' i)
theorem Pin.refl (K : Nat) (ρ : Rho) : Pin K ρ ρ := fun _ _ => St.le_refl _
theorem Pin.trans {K : Nat} {a b c : Rho} (x : Pin K a b) (y : Pin K b c) : Pin K a c := fun i hi => St.le_trans (x i hi) (y i hi)
theorem Adv.pin {K k : Nat} {ρ ρ' : Rho} {h h' : AHeap} {w w' : World} (A : Adv k ρ h w ρ' h' w') : Pin K ρ ρ' := fun i _ => A.le i
theorem Pin.le {K : Nat} {ρ ρ' : Rho} {h : AHeap} {w : World} (p : Pin K ρ ρ') (H : HRel ρ h w) (hk : h.n ≤ K) : ρ.le ρ' := fun i => by
 by_cases hi : i < K
 ·exact p i hi
 ·rw [H.bound i (by omega)]; trivial
def JPostK (K : Nat) (P : Program) (ρ : Rho) (h : AHeap) (w : World) (k : Post) (e : Exit) (act' : Act) (w' : World) : Prop :=
 ∃ a' h' ρ', k e a' h' ∧ SRel P ρ' a' h' act' w' ∧ Fr ρ h w ρ' h' w' ∧ Pin K ρ ρ'
def JK (K : Nat) (P : Program) (c : Code) (a : AAct) (h : AHeap) (k : Post) : Prop :=
 ∀ ρ act w, SRel P ρ a h act w → WpX none P c (JPostK K P ρ h w k) act w
def CallJK (K : Nat) (P : Program) (f : FuncId) (args : Array Value) (h : AHeap) (Q : Value → AHeap → Prop) : Prop :=
 ∀ ρ args' w, HRel ρ h w → Globs P ρ → ARel (VRel ρ) args args' → CallsIn (fence none) 0 P f args' w (fun e w' => ∃ v v' h' ρ', e = .returned v' ∧ Q v h' ∧ VRel ρ' v v' ∧ HRel ρ' h' w' ∧ Fr ρ h w ρ' h' w' ∧ Pin K ρ ρ')
section
variable {K : Nat} {P : Program} {a : AAct} {h : AHeap} {k : Post}
theorem JPostK.trans {ρ ρ₁ : Rho} {h h₁ : AHeap} {w w₁ : World} {k : Post} {e : Exit} {act' : Act} {w' : World} (F : Fr ρ h w ρ₁ h₁ w₁) (p : Pin K ρ ρ₁) (x : JPostK K P ρ₁ h₁ w₁ k e act' w') : JPostK K P ρ h w k e act' w' :=
 let ⟨a', h', ρ', k1, k2, k3, k4⟩ := x; ⟨a', h', ρ', k1, k2, F.trans k3, p.trans k4⟩
theorem JK.mono {c : Code} {k' : Post} (x : JK K P c a h k) (hk : ∀ e a h, k e a h → k' e a h) : JK K P c a h k' :=
 fun ρ act w S => (x ρ act w S).mono fun _ _ _ ⟨a', h', ρ', k1, k2, k3, k4⟩ => ⟨a', h', ρ', hk _ _ _ k1, k2, k3, k4⟩
theorem JK.toJ {c : Code} (x : JK K P c a h k) : J P c a h k :=
 fun ρ act w S => (x ρ act w S).mono fun _ _ _ ⟨a', h', ρ', k1, k2, k3, _⟩ => ⟨a', h', ρ', k1, k2, k3⟩
theorem JK.of_exec {orc : Orc} (hm : P.follows .mixedOrders = true) (ho : OrcOk P orc) {n : Nat} {c : Code} {e : Exit} {a' : AAct} {h' : AHeap} (hx : exec P orc n none c a h = some (e, a', h')) (hk : k e a' h') : JK K P c a h k :=
 fun ρ act w S => ((exec_ok hm ho n).run none c a h e a' h' hx none ρ act w trivial S).mono fun _ _ _ ⟨he, ρ', S', A⟩ => ⟨a', h', ρ', he ▸ hk, S', A.fr, A.pin⟩
theorem JK.ofR {orc : Orc} {syf : FuncId → Sy} {pc : Asks} (hm : P.follows .mixedOrders = true) (ho : OrcOk P orc) (hpc : AsksOk orc pc) {n : Nat} {S : List Sy} {c : Code} (hk : execR P orc syf pc n S none c a h k) : JK K P c a h k := by
 obtain ⟨e, a', h', hx, hk⟩ := execR_ok hpc hk
 exact .of_exec hm ho hx hk
theorem JK.seq {x y : Code} (hx : JK K P x a h (onNormal (fun a' h' => JK K P y a' h' k) k)) : JK K P (.seq x y) a h k := by
 intro ρ act w S
 refine .of (wpIn_seq ?_) (fun b e => by cases e)
 refine wpIn_mono (hx ρ act w S).1 ?_
 rintro e' act₁ w₁ ⟨a₁, h₁, ρ₁, hk, S₁, F₁, p₁⟩
 cases e' with
 | normal => exact wpIn_mono (hk ρ₁ act₁ w₁ S₁).1 fun _ _ _ x => x.trans F₁ p₁
 | _ => exact ⟨a₁, h₁, ρ₁, hk, S₁, F₁, p₁⟩
theorem JK.cond {x : Operand} {y z : Code} {b : Bool} (he : a.eval x = .bool b) (hy : b = true → JK K P y a h k) (hz : b = false → JK K P z a h k) : JK K P (.cond x y z) a h k := by
 intro ρ act w S
 refine .of ?_ (fun b e => by cases e)
 cases b with
 | true => exact wpIn_cond_true (eval_bool S.tmps he) (hy rfl ρ act w S).1
 | false => exact wpIn_cond_false (eval_bool S.tmps he) (hz rfl ρ act w S).1
theorem JK.block {id : Nat} {b : Code} (hb : JK K P b a h (onBlock id k)) : JK K P (.block id b) a h k := by
 intro ρ act w S
 refine .of (wpIn_block ?_) (fun b e => by cases e)
 refine wpIn_mono (hb ρ act w S).1 ?_
 rintro e' act₁ w₁ ⟨a₁, h₁, ρ₁, hk, S₁, F₁, p₁⟩
 cases e' with
 | exit j =>
  simp only [onBlock] at hk
  simp only [Exit.inBlock]
  split
  ·rename_i hj
   rw [if_pos hj] at hk
   exact ⟨a₁, h₁, ρ₁, hk, S₁, F₁, p₁⟩
  ·rename_i hj
   rw [if_neg hj] at hk
   exact ⟨a₁, h₁, ρ₁, hk, S₁, F₁, p₁⟩
 | _ => exact ⟨a₁, h₁, ρ₁, hk, S₁, F₁, p₁⟩
theorem JK.scope {b : Code} (hb : JK K P b a h (fun e a' h' => match e with
  | .goto _ => False
  | e => k e a' h')) : JK K P (.scope b) a h k := by
 intro ρ act w S
 refine .of (wpIn_scope ?_) (fun b e => by cases e)
 refine wpIn_mono (hb ρ act w S).1 ?_
 rintro e' act₁ w₁ ⟨a₁, h₁, ρ₁, hk, S₁, F₁, p₁⟩
 cases e' with
 | goto l => exact hk.elim
 | _ => exact ⟨a₁, h₁, ρ₁, hk, S₁, F₁, p₁⟩
theorem JK.loop {b : Code} (hb : JK K P b a h (onNormal (fun a' h' => JK K P (.loop b) a' h' k) k)) : JK K P (.loop b) a h k := by
 intro ρ act w S
 have key : LoopWp (fence none) 0 P b (JPostK K P ρ h w k) act w := by
  refine LoopWp.round ?_
  refine wpIn_mono (hb ρ act w S).1 ?_
  rintro e' act₁ w₁ ⟨a₁, h₁, ρ₁, hk, S₁, F₁, p₁⟩
  cases e' with
  | normal => exact LoopWp.mono ((hk ρ₁ act₁ w₁ S₁).2 b rfl) fun _ _ _ x => x.trans F₁ p₁
  | _ => exact ⟨a₁, h₁, ρ₁, hk, S₁, F₁, p₁⟩
 exact ⟨key.wp, fun b' e => by cases e; exact key⟩
theorem JK.skip (hk : k .normal a h) : JK K P .skip a h k := fun ρ _ w S => .of (wpIn_skip ⟨a, h, ρ, hk, S, Fr.refl _ _ _, Pin.refl _ _⟩) (fun b e => by cases e)
theorem JK.exit {id : Nat} (hk : k (.exit id) a h) : JK K P (.exit id) a h k := fun ρ _ w S => .of (wpIn_exit ⟨a, h, ρ, hk, S, Fr.refl _ _ _, Pin.refl _ _⟩) (fun b e => by cases e)
theorem JK.ret (hk : k .ret a h) : JK K P .ret a h k := fun ρ _ w S => .of (wpIn_ret ⟨a, h, ρ, hk, S, Fr.refl _ _ _, Pin.refl _ _⟩) (fun b e => by cases e)
theorem JK.label {l : Nat} (hk : k .normal a h) : JK K P (.label l) a h k := fun ρ _ w S => .of (wpIn_label ⟨a, h, ρ, hk, S, Fr.refl _ _ _, Pin.refl _ _⟩) (fun b e => by cases e)
theorem JK.lit {c : Code} (f : Nat → Value) (hf : ∀ t, t < a.n → a.tmp t = f t) {n : Nat} (hn : a.n = n) (hm : a.marks = []) (hj : JK K P c { n, t := lit n f, marks := [] } h k) : JK K P c a h k := by
 subst hn
 intro ρ act w S
 refine hj ρ act w (S.ext rfl hm.symm (fun t ht => ?_) fun t ht => ?_)
 ·simp only [AAct.tmp, get_lit, if_pos ht]
  exact (hf t ht).symm
 ·simp only [AAct.tmp, get_lit, if_neg (Nat.not_lt.2 ht)]
  rfl
theorem CallJK.of_body {f : FuncId} {args : Array Value} {Q : Value → AHeap → Prop} {fn : Func} {c : Code} (hfn : P.funcs[f]? = some fn) (hb : fn.body = some c) (hsz : args.size ≤ fn.ntmps)
  (hj : JK K P c (enterAct fn.ntmps args.toList) h (fun e a' h' => (e = .normal ∨ e = .ret) ∧ a'.marks = [] ∧ ∃ v, aresult P fn a' h' = some v ∧ Q v h')) : CallJK K P f args h Q := by
 intro ρ args' w H G hA
 refine callsIn_of_wp_marks hfn hb trivial ?_
 refine wpIn_mono (hj ρ { tmps := args' ++ Array.replicate (fn.ntmps - args'.size) Go.undef, defers := [] } w ⟨H, enter_rel hA hsz, ⟨rfl, fun i m d hm => by simp [enterAct] at hm⟩, G⟩).1 ?_
 rintro e' act' w' ⟨a', h', ρ', ⟨he, hm, v, hv, hK⟩, S, F, p⟩
 have : LeavesInM (fence none) 0 P fn act'.tmps (fun e w' => ∃ v v' h' ρ', e = .returned v' ∧ Q v h' ∧ VRel ρ' v v' ∧ HRel ρ' h' w' ∧ Fr ρ h w ρ' h' w' ∧ Pin K ρ ρ') act'.defers .returning w' := by
  have M := S.marks
  rw [hm] at M
  refine leaves_ok [] act'.defers ρ' h' w' h' S.heap M rfl fun ρ₂ w₂ H₂ A₂ => ?_
  obtain ⟨v', q1, q2⟩ := result_ok H₂ (S.tmps.mono (A₂ 0).le) hv
  exact ⟨v', q1, v, v', h', ρ₂, rfl, hK, q2, H₂, F.trans (A₂ 0).fr, p.trans (A₂ 0).pin⟩
 rcases he with rfl | rfl <;> exact this
end
structure LoopsK (K : Nat) (P : Program) extends Loops P where
 okK : ∀ i a h k, spec i a h k → JK K P (.loop (body i)) a h k
 rokK : ∀ i c a h k, reg i = some c → rspec i a h k → JK K P c a h k
 rfokK : ∀ c a h k, rf c a h k → JK K P c a h k
section
variable {K : Nat} {P : Program} {a : AAct} {h : AHeap} {sy : Sy} {pc : Asks} {ops : Array Oper}
theorem regionK_ok {orc : Orc} (hm : P.follows .mixedOrders = true) (ho : OrcOk P orc) {m : Nat} (hpc : AsksOk orc pc) {id : Nat} {draw : Bool} {k : Post} (hk : runRegionC P (exec P orc m) sy pc ops draw a h fun a' h' => k .normal a' h') : JK K P (.region id ops draw) a h k := by
 unfold runRegionC at hk
 split at hk
 ·exact hk.elim
 ·rename_i hc
  intro ρ act w S
  refine .of (wpIn_region ?_) (fun b e => by cases e)
  rw [List.range_eq_range']
  exact runOpsD_ok hm ho hpc ops.toList 0 ρ a h act w rfl (List.all_eq_true.1 hc) S hk fun a' h' ρ' act' w' k1 k2 k3 => ⟨a', h', ρ', k1, k2, k3.fr, k3.pin⟩
 ·rename_i hc
  split at hk
  ·rename_i hor
   obtain ⟨a', h', hr, hk⟩ := runDrawC_ok (by rw [exec_orc]; exact hpc) (fun p hp => by cases hp) hk
   refine JK.of_exec hm ho (n := m + 1) (e := .normal) (a' := a') (h' := h') ?_ hk
   rw [exec_succ]
   simp only [execStep]
   rw [show runRegion P (exec P orc m) ops true a h = some (a', h') by unfold runRegion; simp only [hc, hor]; exact hr]
   rfl
  ·exact hk.elim
theorem execK_ok {orc : Orc} (hm : P.follows .mixedOrders = true) (ho : OrcOk P orc) {m : Nat} (hpc : AsksOk orc pc) (L : LoopsK K P) : ∀ {n : Nat} {c : Code} {a : AAct} {h : AHeap} {k : Post}, execC P (exec P orc m) sy pc L.toLoops n c a h k → JK K P c a h k
 | 0, _, _, _, _, hk => hk.elim
 | n + 1, c, a, h, k, hk => by
  have hk : stepC P (exec P orc m) sy pc L.toLoops (execC P (exec P orc m) sy pc L.toLoops n) c a h k := hk
  cases c with
  | skip => exact .skip hk
  | region id ops draw =>
   simp only [stepC] at hk
   split at hk
   ·rename_i c' hc
    rw [hk.1]
    exact L.rokK id c' a h k hc hk.2
   ·exact regionK_ok hm ho hpc hk
  | seq x y =>
   refine .seq ((execK_ok hm ho hpc L (show execC P (exec P orc m) sy pc L.toLoops n x a h _ from hk)).mono fun e a' h' q => ?_)
   cases e with
   | normal => exact execK_ok hm ho hpc L q
   | _ => exact q
  | cond x y z =>
   simp only [stepC] at hk
   split at hk
   ·rename_i hb
    exact .cond hb (fun _ => execK_ok hm ho hpc L hk) fun e => by cases e
   ·rename_i hb
    exact .cond hb (fun e => by cases e) fun _ => execK_ok hm ho hpc L hk
   ·exact hk.elim
  | block id b =>
   simp only [stepC] at hk
   split at hk
   ·rename_i c
    obtain ⟨rfl, hk⟩ := hk
    exact .block ((L.okK id a h _ hk).mono fun e a' h' q => onBlock_eq id k e a' h' q)
   ·exact .block ((execK_ok hm ho hpc L hk).mono fun e a' h' q => onBlock_eq id k e a' h' q)
  | exit id => exact .exit hk
  | ret => exact .ret hk
  | label l => exact .label hk
  | scope b =>
   refine .scope ((execK_ok hm ho hpc L (show execC P (exec P orc m) sy pc L.toLoops n b a h _ from hk)).mono fun e a' h' q => ?_)
   cases e with
   | goto l => exact q.elim
   | _ => exact q
  | rangeFunc f ps assign body => exact L.rfokK _ a h k hk
  | _ => exact False.elim hk
theorem callK_ok {orc : Orc} (hm : P.follows .mixedOrders = true) (ho : OrcOk P orc) {m : Nat} (hpc : AsksOk orc pc) {L : LoopsK K P} {n : Nat} {f : FuncId} {args : Array Value} {Q : Value → AHeap → Prop} (hk : callC P (exec P orc m) sy pc L.toLoops n f args h Q) : CallJK K P f args h Q := by
 unfold callC at hk
 split at hk
 ·rename_i fn hfn
  split at hk
  ·rename_i c hc
   split at hk
   ·rename_i hs
    exact CallJK.of_body hfn hc (by simpa [Nat.ble_eq] using hs) ((execK_ok hm ho hpc L hk).mono fun _ _ _ q => fin_end q)
   ·exact hk.elim
  ·exact hk.elim
 ·exact hk.elim
end
end
end Go.Am
/-! (OWN WORK. 'Am': a state seen with fewer blocks beside what is pinned, an entered range over a function among it.) -/
namespace Go.Am
noncomputable section
def preK (K : Nat) (pre : Pre) : Pre := fun j => if j < K then some j else pre j
def SameP (pre : Pre) (x y : Option AObj) : Prop := (x = none ∧ y = none) ∨ ∃ o o₂, x = some o ∧ y = some o₂ ∧ (SameObj pre o o₂ ∨ (o = .dead ∧ o₂ = .dead))
def RenY (pre : Pre) (v v₂ : Value) : Prop := Ren pre v v₂ ∨ ∃ l, v = .func (.yield l) #[] #[] ∧ v₂ = .func (.yield l) #[] #[] ∧ pre l = some l
structure ViewL (K lp : Nat) (h : AHeap) (H₂ : (Nat → Value) → AHeap) (n₂ : Nat) (pre : Pre) (la : List (Nat × Value)) : Prop where
 size : ∀ g, (H₂ g).n = n₂
 le : K ≤ n₂
 lt : ∀ j i, pre j = some i → K ≤ j ∧ j < n₂ ∧ K ≤ i
 inj : ∀ j j' i, pre j = some i → pre j' = some i → j = j'
 pin : ∀ i, i < K → i ≠ lp → ∀ g, SameP (preK K pre) (h.get i) ((H₂ g).get i)
 lpK : lp < K
 loop : ∃ st pd a ps as bd d, h.get lp = some (.loop st pd a ps as bd d) ∧ d < K ∧ (∀ g, (H₂ g).get lp = some (.loop st pd (stOf a.n la g) ps as bd d)) ∧ ∀ x ∈ la, Ren (preK K pre) (a.tmp x.1) x.2
 obj : ∀ j i, pre j = some i → ∀ g, ∃ o o₂, h.get i = some o ∧ (H₂ g).get j = some o₂ ∧ SameObj (preK K pre) o o₂
 gone : ∀ j, K ≤ j → pre j = none → j < n₂ → ∀ g o, (H₂ g).get j = some o → o = .dead
inductive Bn (h : AHeap) (a : AAct) : Nat → Prop
 | tmp {t i : Nat} : Mentions (a.tmp t) i → Bn h a i
 | yield {t l : Nat} : a.tmp t = .func (.yield l) #[] #[] → Bn h a l
 | loop {l : Nat} {st : LoopState} {pd : Option Code} {b : AAct} {ps : Array Tmp} {as bd : Code} {d t i : Nat} : Bn h a l → h.get l = some (.loop st pd b ps as bd d) → Mentions (b.tmp t) i → Bn h a i
 | cell {q : Nat} {c : List Value} {e row : Nat} {ro : Bool} {v : Value} {i : Nat} : Bn h a q → h.get q = some (.cells c e row ro) → v ∈ c → Mentions v i → Bn h a i
section
variable {P : Program} {ρ : Rho} {h : AHeap} {w : World} {K lp n₂ : Nat} {H₂ : (Nat → Value) → AHeap} {pre : Pre} {la : List (Nat × Value)} {a : AAct} {act : Act}
theorem Bn.born (S : SRel P ρ a h act w) {i : Nat} (b : Bn h a i) : ρ i ≠ .unborn := by
 induction b with
 | @tmp t i m => exact m.born (S.tmps.tmp t)
 | @yield t l e =>
  have k := S.tmps.tmp t
  rw [e] at k
  obtain ⟨fn', f', c', _, hf, _⟩ := k.unfold
  obtain ⟨l', _, hb⟩ := hf
  exact hb.born
 | @loop l st pd b ps as bd d t i _ hg m ih =>
  obtain ⟨g, hl⟩ := S.heap.get_live hg (by simp) ih
  obtain ⟨o, o', k1, k2, k3⟩ := S.heap.obj l g hl
  rw [hg] at k1
  cases k1
  obtain ⟨L, _, _, _, hT, _⟩ := k3
  exact m.born (hT.tmp t)
 | @cell q c e row ro v i _ hg hv m ih =>
  obtain ⟨g, hl⟩ := S.heap.get_live hg (by simp) ih
  obtain ⟨o, o', k1, k2, k3⟩ := S.heap.obj q g hl
  rw [hg] at k1
  cases k1
  obtain ⟨c', fr, _, _, _, _, hc, _⟩ := k3
  obtain ⟨j, hj⟩ := List.getElem?_of_mem hv
  obtain ⟨v', _, hr⟩ := hc j v hj
  exact m.born hr
abbrev rhoL (ρ : Rho) (n₂ K : Nat) (pre : Pre) : Rho := viewRho ρ n₂ (preK K pre)
theorem rhoL_low (V : ViewL K lp h H₂ n₂ pre la) {i : Nat} (hi : i < K) : rhoL ρ n₂ K pre i = ρ i := by
 simp only [rhoL, viewRho, preK, if_pos hi, if_pos (Nat.lt_of_lt_of_le hi V.le)]
theorem preK_lt (V : ViewL K lp h H₂ n₂ pre la) {j i : Nat} (hp : preK K pre j = some i) : j < n₂ := by
 simp only [preK] at hp
 split at hp
 ·exact Nat.lt_of_lt_of_le (by assumption) V.le
 ·exact (V.lt j i hp).2.1
theorem rhoL_some (V : ViewL K lp h H₂ n₂ pre la) {j i : Nat} (hp : preK K pre j = some i) : rhoL ρ n₂ K pre j = ρ i := by
 simp only [rhoL, viewRho, if_pos (preK_lt V hp), hp]
theorem rhoL_live {j : Nat} {g : G} (hl : rhoL ρ n₂ K pre j = .live g) : ∃ i, preK K pre j = some i ∧ ρ i = .live g := by
 simp only [rhoL, viewRho] at hl
 split at hl
 ·split at hl
  ·exact ⟨_, by assumption, hl⟩
  ·cases hl
 ·cases hl
theorem preK_inj (V : ViewL K lp h H₂ n₂ pre la) {j j' i : Nat} (h1 : preK K pre j = some i) (h2 : preK K pre j' = some i) : j = j' := by
 simp only [preK] at h1 h2
 split at h1
 ·split at h2
  ·cases h1; cases h2; rfl
  ·cases h1
   have := (V.lt j' j h2).2.2
   omega
 ·split at h2
  ·cases h2
   have := (V.lt j j' h1).2.2
   omega
  ·exact V.inj j j' i h1 h2
theorem Ren.vrelL (V : ViewL K lp h H₂ n₂ pre la) : ∀ {v v₂ c : Value}, Ren (preK K pre) v v₂ → VRel ρ v c → VRel (rhoL ρ n₂ K pre) v₂ c := by
 intro v v₂ c r
 induction r generalizing c with
 | flat hf => intro k; rw [VRel.flat_eq hf k]; exact .flat hf
 | @slice i j o n k hp =>
  intro x
  obtain ⟨a', k', rfl, h1, h2, h3, h4⟩ := x.unfold
  refine .fold ⟨a', k', rfl, ?_, h2, h3, fun g hg => h4 g ?_⟩
  ·unfold PRel at h1 ⊢
   rw [rhoL_some V hp]
   exact h1
  ·rw [rhoL_some V hp] at hg
   exact hg
 | @ptr i j o hp =>
  intro x
  obtain ⟨a', rfl, h1⟩ := x.unfold
  refine .fold ⟨a', rfl, ?_⟩
  unfold PRel at h1 ⊢
  rw [rhoL_some V hp]
  exact h1
 | @fn f =>
  intro x
  obtain ⟨fn', f', c', rfl, h0, h1, h2⟩ := x.unfold
  exact .fold ⟨fn', f', c', rfl, h0, ⟨h1.1, fun i x y hx _ => by simp at hx⟩, ⟨h2.1, fun i x y hx _ => by simp at hx⟩⟩
 | @agg l l₂ hl _ ih =>
  intro x
  obtain ⟨cs', rfl, h1, h2⟩ := x.unfold
  refine .fold ⟨cs', rfl, by simpa [hl] using h1, fun i x y hx hy => ?_⟩
  have hi : i < l.length := by
   rw [hl]
   have := (Array.getElem?_eq_some_iff.1 hx).1
   simpa using this
  exact ih i l[i] x (List.getElem?_eq_getElem hi) (by simpa using hx) (h2 i l[i] y (by simp [hi]) hy)
 | @tuple l l₂ hl _ ih =>
  intro x
  obtain ⟨cs', rfl, h1, h2⟩ := x.unfold
  refine .fold ⟨cs', rfl, by simpa [hl] using h1, fun i x y hx hy => ?_⟩
  have hi : i < l.length := by
   rw [hl]
   have := (Array.getElem?_eq_some_iff.1 hx).1
   simpa using this
  exact ih i l[i] x (List.getElem?_eq_getElem hi) (by simpa using hx) (h2 i l[i] y (by simp [hi]) hy)
 | @cl f l l₂ hl _ ih =>
  intro x
  obtain ⟨fn', f', c', rfl, h0, h1, h2⟩ := x.unfold
  refine .fold ⟨fn', f', c', rfl, h0, ⟨h1.1, fun i x y hx _ => by simp at hx⟩, ⟨by simpa [hl] using h2.1, fun i x y hx hy => ?_⟩⟩
  have hi : i < l.length := by
   rw [hl]
   have := (Array.getElem?_eq_some_iff.1 hx).1
   simpa using this
  exact ih i l[i] x (List.getElem?_eq_getElem hi) (by simpa using hx) (h2.2 i l[i] y (by simp [hi]) hy)
 | @mp i j hp =>
  intro x
  obtain ⟨r', rfl, h1⟩ := x.unfold
  refine .fold ⟨r', rfl, ?_⟩
  unfold BRel at h1 ⊢
  rw [rhoL_some V hp]
  exact h1
theorem RenY.vrelL (V : ViewL K lp h H₂ n₂ pre la) {v v₂ c : Value} (r : RenY (preK K pre) v v₂) (x : VRel ρ v c) : VRel (rhoL ρ n₂ K pre) v₂ c := by
 rcases r with r | ⟨l, rfl, rfl, hl⟩
 ·exact r.vrelL V x
 ·obtain ⟨fn', f', c', rfl, ⟨l', rfl, hb⟩, h1, h2⟩ := x.unfold
  refine .fold ⟨_, f', c', rfl, ⟨l', rfl, ?_⟩, ⟨h1.1, fun i x y hx _ => by simp at hx⟩, ⟨h2.1, fun i x y hx _ => by simp at hx⟩⟩
  unfold BRel at hb ⊢
  rw [rhoL_some V hl]
  exact hb
theorem SameObj.relL (V : ViewL K lp h H₂ n₂ pre la) {o o₂ : AObj} {o' : Obj} {g : G} (r3 : SameObj (preK K pre) o o₂) (k3 : ObjRel ρ g o o') : ObjRel (rhoL ρ n₂ K pre) g o₂ o' := by
 cases o with
 | cells c e row ro =>
  cases o₂ with
  | cells c₂ e₂ row₂ ro₂ =>
   obtain ⟨hl, rfl, rfl, hf, hro⟩ := r3
   obtain ⟨d, fr, q1, q2, q3, q4, q5, q6⟩ := k3
   refine ⟨d, fr, q1, by rw [hl]; exact q2, q3, q4, fun j v hv => ?_, fun e₃ => q6 (by cases ro with | false => rfl | true => rw [hro rfl] at e₃; cases e₃)⟩
   have hj : j < c.length := by rw [← hl]; exact (List.getElem?_eq_some_iff.1 hv).1
   obtain ⟨v', z1, z2⟩ := q5 j c[j] (List.getElem?_eq_getElem hj)
   exact ⟨v', z1, (hf j c[j] v (List.getElem?_eq_getElem hj) hv).vrelL V z2⟩
  | _ => exact r3.elim
 | iter s p =>
  cases o₂ with
  | iter s₂ p₂ =>
   obtain ⟨rfl, rfl⟩ := r3
   exact k3
  | _ => exact r3.elim
 | defd =>
  cases o₂ with
  | defd => exact k3
  | _ => exact r3.elim
 | map es ck =>
  cases o₂ with
  | map es₂ ck₂ =>
   obtain ⟨rfl, rfl, hf⟩ := r3
   obtain ⟨es', z1, z2, z3⟩ := k3
   refine ⟨es', z1, z2, fun i e e' a b => ?_⟩
   obtain ⟨u1, u2, u3, u4⟩ := z3 i e e' a b
   have hv := hf e (List.mem_of_getElem? a)
   exact ⟨u1, u2, u3, by rw [VRel.flat_eq hv u4]; exact .flat hv⟩
  | _ => exact r3.elim
 | _ => cases o₂ <;> exact r3.elim
theorem SameObj.rwL {o o₂ : AObj} {x y : AHeap} {i j : Nat} (h1 : x.get i = some o) (h2 : y.get j = some o₂) (r3 : SameObj pre o o₂) (hr : y.rw j = true) : x.rw i = true := by
 simp only [AHeap.rw, h1, h2] at hr ⊢
 cases o with
 | cells c e row ro =>
  cases o₂ with
  | cells c₂ e₂ row₂ ro₂ =>
   obtain ⟨_, _, _, _, h5⟩ := r3
   cases ro with
   | false => rfl
   | true => rw [h5 rfl] at hr; cases hr
  | _ => exact r3.elim
 | _ => rfl
theorem rwL (V : ViewL K lp h H₂ n₂ pre la) (g : Nat → Value) {j i : Nat} (hp : preK K pre j = some i) (hr : (H₂ g).rw j = true) : h.rw i = true := by
 simp only [preK] at hp
 split at hp
 ·rename_i hj
  cases hp
  by_cases e : j = lp
  ·subst e
   obtain ⟨st, pd, a, ps, as, bd, d, h1, _⟩ := V.loop
   simp only [AHeap.rw, h1]
  ·rcases V.pin j hj e g with ⟨h1, _⟩ | ⟨o, o₂, h1, h2, h3 | ⟨rfl, rfl⟩⟩
   ·simp only [AHeap.rw, h1]
   ·exact h3.rwL h1 h2 hr
   ·simp only [AHeap.rw, h1]
 ·obtain ⟨o, o₂, h1, h2, h3⟩ := V.obj j i hp g
  exact h3.rwL h1 h2 hr
theorem SRel.viewL (S : SRel P ρ a h act w) (V : ViewL K lp h H₂ n₂ pre la) (hb : ∀ j i, pre j = some i → Bn h a i) (hG : P.globals.size ≤ K) (l : List (Nat × Value)) {D : Nat} (hD : K ≤ D) (hD2 : D < n₂) (hp : pre D = none) (hm : a.marks = [])
  (hk : ∀ x ∈ l, RenY (preK K pre) (a.tmp x.1) x.2) : ∃ g g₂ ρ₂, SRel P ρ₂ (stOf a.n l g) (H₂ g₂) act w ∧ (∀ b, Own ρ₂ (H₂ g₂) b → Own ρ h b) ∧ Pin K ρ ρ₂ := by
 have hDd : rhoL ρ n₂ K pre D = .dead := by simp only [rhoL, viewRho, preK, if_pos hD2, if_neg (Nat.not_lt.2 hD), hp]
 have ex : ∀ t, ∃ x, VRel (rhoL ρ n₂ K pre) x (act.tmps.getD t Go.undef) := fun t => some_rel hDd (S.tmps.tmp t)
 let g : Nat → Value := fun t => Classical.choose (ex t)
 have hg : ∀ t, VRel (rhoL ρ n₂ K pre) (g t) (act.tmps.getD t Go.undef) := fun t => Classical.choose_spec (ex t)
 have hov : ∀ (g : Nat → Value) (C : Nat → Value) (b : Nat → Value), (∀ t, VRel (rhoL ρ n₂ K pre) (g t) (C t)) → (∀ t, VRel ρ (b t) (C t)) → ∀ (l : List (Nat × Value)), (∀ x ∈ l, RenY (preK K pre) (b x.1) x.2) → ∀ t, VRel (rhoL ρ n₂ K pre) (ov l g t) (C t) := by
  intro g C b hg hC l
  induction l with
  | nil => intro _ t; exact hg t
  | cons x l ih =>
   intro hx t
   rw [ov_cons]
   split
   ·rename_i e
    subst e
    exact (hx x (by simp)).vrelL V (hC x.1)
   ·exact ih (fun y hy => hx y (by simp [hy])) t
 obtain ⟨st, pd, b, ps, as, bd, d, hlp, hd, hlp2, hla⟩ := V.loop
 have exl : ∃ g₂ : Nat → Value, ∀ gl, ρ lp = .live gl → ∀ o', w.heap[gl.b]? = some o' → ObjRel ρ gl (.loop st pd b ps as bd d) o' → ObjRel (rhoL ρ n₂ K pre) gl (.loop st pd (stOf b.n la g₂) ps as bd d) o' := by
  by_cases hex : ∃ gl o', ρ lp = .live gl ∧ w.heap[gl.b]? = some o' ∧ ObjRel ρ gl (.loop st pd b ps as bd d) o'
  ·obtain ⟨gl, o', h1, h2, h3⟩ := hex
   obtain ⟨L, rfl, e1, e2, hT, e3, e4, e5, e6⟩ := h3
   have exb : ∀ t, ∃ x, VRel (rhoL ρ n₂ K pre) x (L.tmps.getD t Go.undef) := fun t => some_rel hDd (hT.tmp t)
   refine ⟨fun t => Classical.choose (exb t), fun gl' h1' o'' h2' _ => ?_⟩
   rw [h1] at h1'
   cases h1'
   rw [h2] at h2'
   cases h2'
   refine ⟨L, rfl, e1, e2, ⟨hT.size, fun t => ?_⟩, e3, e4, e5, ?_⟩
   ·simp only [stOf, AAct.tmp, get_lit]
    by_cases hlt : t < b.n
    ·rw [if_pos hlt]
     exact hov _ (fun t => L.tmps.getD t Go.undef) b.tmp (fun t => Classical.choose_spec (exb t)) hT.tmp la (fun x hx => .inl (hla x hx)) t
    ·rw [if_neg hlt, undef_getD _ _ (by rw [← hT.size]; exact Nat.le_of_not_lt hlt)]
     exact .undef
   ·unfold BRel at e6 ⊢
    rw [rhoL_low V hd]
    exact e6
  ·exact ⟨fun _ => Go.undef, fun gl h1 o' h2 h3 => absurd ⟨gl, o', h1, h2, h3⟩ hex⟩
 obtain ⟨g₂, hg₂⟩ := exl
 have alive : ∀ j i, pre j = some i → ∃ gl, ρ i = .live gl := fun j i hp => by
  obtain ⟨o, o₂, h1, _, h3⟩ := V.obj j i hp g₂
  refine S.heap.get_live h1 (fun e => ?_) ((hb j i hp).born S)
  subst e
  cases o₂ <;> exact h3
 refine ⟨g, g₂, rhoL ρ n₂ K pre, ⟨⟨fun i hi => ?_, fun i j g1 g2 hi hj e hr => ?_, fun i gl hi => ?_, fun j hj o ho => ?_⟩, ⟨S.tmps.size, fun t => ?_⟩, ?_, fun gb hgb => ?_⟩, fun bb ho => ?_, fun i hi => ?_⟩
 ·rw [V.size] at hi
  simp only [rhoL, viewRho]
  rw [if_neg (by omega)]
 ·obtain ⟨i', p1, q1⟩ := rhoL_live hi
  obtain ⟨j', p2, q2⟩ := rhoL_live hj
  obtain rfl := S.heap.inj i' j' g1 g2 q1 q2 e (rwL V g₂ p1 hr)
  exact preK_inj V p1 p2
 ·obtain ⟨i', p1, q1⟩ := rhoL_live hi
  obtain ⟨o, o', k1, k2, k3⟩ := S.heap.obj i' gl q1
  simp only [preK] at p1
  split at p1
  ·rename_i hiK
   cases p1
   by_cases e : i = lp
   ·subst e
    rw [hlp] at k1
    cases k1
    exact ⟨_, o', hlp2 g₂, k2, hg₂ gl q1 o' k2 k3⟩
   ·rcases V.pin i hiK e g₂ with ⟨h1, _⟩ | ⟨x, x₂, h1, h2, h3 | ⟨rfl, rfl⟩⟩
    ·rw [k1] at h1; cases h1
    ·rw [k1] at h1; cases h1
     exact ⟨x₂, o', h2, k2, h3.relL V k3⟩
    ·rw [k1] at h1; cases h1
     exact k3.elim
  ·obtain ⟨x, x₂, r1, r2, r3⟩ := V.obj i i' p1 g₂
   rw [k1] at r1
   cases r1
   exact ⟨x₂, o', r2, k2, r3.relL V k3⟩
 ·by_cases hjK : j < K
  ·rw [rhoL_low V hjK] at hj
   by_cases e : j = lp
   ·subst e
    have := S.heap.dead j hj _ hlp
    cases this
   ·rcases V.pin j hjK e g₂ with ⟨_, h2⟩ | ⟨x, x₂, h1, h2, h3 | ⟨rfl, rfl⟩⟩
    ·rw [ho] at h2; cases h2
    ·have := S.heap.dead j hj x h1
     subst this
     cases x₂ <;> exact h3.elim
    ·rw [ho] at h2; cases h2; rfl
  ·simp only [rhoL, viewRho, preK, if_neg hjK] at hj
   split at hj
   ·rename_i hlt
    split at hj
    ·rename_i i hp
     obtain ⟨gl, hgl⟩ := alive j i hp
     rw [hgl] at hj
     cases hj
    ·rename_i hp
     exact V.gone j (Nat.le_of_not_lt hjK) hp hlt g₂ o ho
   ·cases hj
 ·simp only [stOf, AAct.tmp, get_lit]
  by_cases hlt : t < a.n
  ·rw [if_pos hlt]; exact hov g (fun t => act.tmps.getD t Go.undef) a.tmp hg S.tmps.tmp l hk t
  ·rw [if_neg hlt, undef_getD _ _ (by rw [← S.tmps.size]; exact Nat.le_of_not_lt hlt)]
   exact .undef
 ·have M := S.marks
  rw [hm] at M
  exact ⟨M.1, fun i m d hm' => by simp [stOf] at hm'⟩
 ·rw [rhoL_low V (Nat.lt_of_lt_of_le hgb hG)]
  exact S.globs gb hgb
 ·obtain ⟨j, gl, h1, h2, h3⟩ := ho
  obtain ⟨i, hp, hl⟩ := rhoL_live h1
  exact ⟨i, gl, hl, h2, rwL V g₂ hp h3⟩
 ·rw [rhoL_low V hi]
  exact St.le_refl _
end
end
end Go.Am
/-! (OWN WORK. 'Am': loops inside of ranges over functions; a range over a function whose iterator is known by what it does with its pins.) -/
namespace Go.Am
noncomputable section
inductive BnV (h : AHeap) (vs : List Value) : Nat → Prop
 | val {v : Value} {i : Nat} : v ∈ vs → Mentions v i → BnV h vs i
 | yield {l : Nat} : .func (.yield l) #[] #[] ∈ vs → BnV h vs l
 | loop {l : Nat} {st : LoopState} {pd : Option Code} {b : AAct} {ps : Array Tmp} {as bd : Code} {d t i : Nat} : BnV h vs l → h.get l = some (.loop st pd b ps as bd d) → Mentions (b.tmp t) i → BnV h vs i
 | cell {q : Nat} {c : List Value} {e row : Nat} {ro : Bool} {v : Value} {i : Nat} : BnV h vs q → h.get q = some (.cells c e row ro) → v ∈ c → Mentions v i → BnV h vs i
theorem BnV.bn {h : AHeap} {a : AAct} {ts : List Nat} {vs : List Value} (hv : ts.map a.tmp = vs) {i : Nat} (b : BnV h vs i) : Bn h a i := by
 induction b with
 | val hv' m =>
  rw [← hv] at hv'
  obtain ⟨t, _, rfl⟩ := List.mem_map.1 hv'
  exact .tmp m
 | yield hv' =>
  rw [← hv] at hv'
  obtain ⟨t, _, e⟩ := List.mem_map.1 hv'
  exact .yield e
 | loop _ hg m ih => exact .loop ih hg m
 | cell _ hg hc m ih => exact .cell ih hg hc m
def See (K lp : Nat) (h : AHeap) (vs vs₂ : List Value) (H₂ : (Nat → Value) → AHeap) : Prop :=
 ∃ (pre : Pre) (n₂ : Nat) (la : List (Nat × Value)) (D : Nat), ViewL K lp h H₂ n₂ pre la ∧ (K ≤ D ∧ D < n₂ ∧ pre D = none) ∧ (∀ j i, pre j = some i → BnV h vs i) ∧ vs.length = vs₂.length ∧ ∀ (q : Nat) x y, vs[q]? = some x → vs₂[q]? = some y → RenY (preK K pre) x y
section
variable {P : Program} {K lp : Nat}
theorem JK.from_viewL {a : AAct} {h : AHeap} {k : Post} {c : Code} {H₂ : (Nat → Value) → AHeap} {n₂ : Nat} {pre : Pre} {la : List (Nat × Value)} (V : ViewL K lp h H₂ n₂ pre la) (hb : ∀ j i, pre j = some i → Bn h a i) (hG : P.globals.size ≤ K) (l : List (Nat × Value)) {D : Nat} (hD : K ≤ D) (hD2 : D < n₂) (hp : pre D = none) (hm : a.marks = [])
  (hk : ∀ x ∈ l, RenY (preK K pre) (a.tmp x.1) x.2) (hj : ∀ g g₂, JK K P c (stOf a.n l g) (H₂ g₂) k) : JK K P c a h k := by
 intro ρ act w S
 obtain ⟨g, g₂, ρ₂, S₂, own, p⟩ := S.viewL V hb hG l hD hD2 hp hm hk
 refine (hj g g₂ ρ₂ act w S₂).mono ?_
 rintro e act' w' ⟨a', h', ρ', k1, k2, F, p'⟩
 exact ⟨a', h', ρ', k1, k2, ⟨F.size, F.os, F.tape, F.output, fun b hb' ho => F.kept b hb' fun o => ho (own b o), fun b hb' o => own b (F.own b hb' o)⟩, p.trans p'⟩
theorem zip_ren {ts : List Nat} {a : AAct} {vs vs₂ : List Value} {R : Value → Value → Prop} (hv : ts.map a.tmp = vs) (hl : vs.length = vs₂.length) (hr : ∀ (q : Nat) x y, vs[q]? = some x → vs₂[q]? = some y → R x y) : ∀ x ∈ ts.zip vs₂, R (a.tmp x.1) x.2 := by
 intro x hx
 obtain ⟨q, hq⟩ := List.getElem?_of_mem hx
 rw [List.getElem?_zip_eq_some] at hq
 refine hr q _ _ ?_ hq.2
 rw [← hv, List.getElem?_map, hq.1]; rfl
theorem JK.foldL {n : Nat} {ts : List Nat} {body : Code} (hG : P.globals.size ≤ K) (V : Nat → List Value) (H : Nat → (Nat → Value) → AHeap) (I : Nat → Prop) (m : Nat) (hI : I 0) (Out : Exit → List Value → AHeap → Prop)
  (step : ∀ j, j < m → I j → ∀ g g₂, JK K P body (stOf n (ts.zip (V j)) g) (H j g₂) (told n ts fun ex vs h => match ex with
   | .normal => I (j + 1) ∧ See K lp h vs (V (j + 1)) (H (j + 1))
   | ex => Out ex vs h))
  (last : I m → ∀ g g₂, JK K P body (stOf n (ts.zip (V m)) g) (H m g₂) (told n ts fun ex vs h => match ex with
   | .normal => False
   | ex => Out ex vs h)) :
  ∀ a h, See K lp h (ts.map a.tmp) (V 0) (H 0) → a.n = n → a.marks = [] → JK K P (.loop body) a h (told n ts Out) := by
 have key : ∀ q j a h, q = m - j → j ≤ m → I j → See K lp h (ts.map a.tmp) (V j) (H j) → a.n = n → a.marks = [] → JK K P (.loop body) a h (told n ts Out) := by
  intro q
  induction q with
  | zero =>
   intro j a h hq hj hIj hs hn hm
   obtain rfl : j = m := by omega
   obtain ⟨pre, n₂, la, D, W, ⟨d1, d2, d3⟩, hb, hl, hr⟩ := hs
   refine JK.from_viewL W (fun j i hp => (hb j i hp).bn rfl) hG (ts.zip (V j)) d1 d2 d3 hm (zip_ren rfl hl hr) fun g g₂ => ?_
   rw [hn]
   refine JK.loop ((last hIj g g₂).mono fun e a' h' q => ?_)
   obtain ⟨q1, q2, q3⟩ := told_facts q
   cases e with
   | normal => exact q3.elim
   | _ =>
    simp only [onNormal, told, q1, q2]
    simpa using q3
  | succ q ih =>
   intro j a h hq hj hIj hs hn hm
   obtain ⟨pre, n₂, la, D, W, ⟨d1, d2, d3⟩, hb, hl, hr⟩ := hs
   refine JK.from_viewL W (fun j i hp => (hb j i hp).bn rfl) hG (ts.zip (V j)) d1 d2 d3 hm (zip_ren rfl hl hr) fun g g₂ => ?_
   rw [hn]
   refine JK.loop ((step j (by omega) hIj g g₂).mono fun e a' h' q => ?_)
   obtain ⟨q1, q2, q3⟩ := told_facts q
   cases e with
   | normal => exact ih (j + 1) a' h' (by omega) (by omega) q3.1 q3.2 q1 q2
   | _ =>
    simp only [onNormal, told, q1, q2]
    simpa using q3
 exact fun a h hs hn hm => key m 0 a h rfl (Nat.zero_le _) hI hs hn hm
theorem JK.post_lit {a : AAct} {h : AHeap} {k : Post} {c : Code} (hj : JK K P c a h (fun e a' h' => a'.marks = [] ∧ k e { n := a'.n, t := Go.Am.lit a'.n a'.tmp, marks := [] } h')) : JK K P c a h k := by
 intro ρ act w S
 refine (hj ρ act w S).mono ?_
 rintro e act' w' ⟨a', h', ρ', ⟨hm, hk⟩, S', F, p⟩
 refine ⟨_, h', ρ', hk, S'.ext rfl hm.symm (fun t ht => ?_) fun t ht => ?_, F, p⟩
 ·simp only [AAct.tmp, get_lit, if_pos ht]; rfl
 ·simp only [AAct.tmp, get_lit, if_neg (Nat.not_lt.2 ht)]; rfl
theorem JK.of_told {a : AAct} {h : AHeap} {k : Post} {n : Nat} {ts : List Nat} {c : Code} {Out : Exit → List Value → AHeap → Prop} (hj : JK K P c a h (told n ts Out)) (hk : ∀ e vs h' g, Out e vs h' → k e (stOf n (ts.zip vs) g) h') : JK K P c a h k := by
 refine JK.post_lit (hj.mono fun e a' h' q => ?_)
 obtain ⟨q1, q2, q3⟩ := told_facts q
 refine ⟨q2, ?_⟩
 have := hk e _ h' a'.tmp q3
 unfold stOf at this
 rw [ov_funext (zip_facts rfl)] at this
 rw [q1]
 exact this
theorem J.rangeK {a : AAct} {h : AHeap} {k : Post} {f : Operand} {ps : Array Tmp} {assign body : Code} {g : FuncId} {first captured : Array Value} {fn : Func} (hv : fval a f = .func (.func g) first captured) (hfn : P.funcs[g]? = some fn) (hnm : (fn.name == "runtime.NumGoroutine" || fn.body.isNone) = false)
  (hc : CallJK (h.n + 2) P g (first ++ #[.func (.yield (h.n + 1)) #[] #[]] ++ captured) ((h.push .defd).push (.loop .ready none a ps assign body h.n)) fun _ h₂ =>
   ∃ st a'' ps' as' bd' d', h₂.get (h.n + 1) = some (.loop st none a'' ps' as' bd' d') ∧ st ≠ .busy ∧ k .normal { n := a.n, t := a.t, marks := h.n :: a.marks } (h₂.set (h.n + 1) (.loop .exhausted none a'' ps' as' bd' d'))) : J P (.rangeFunc f ps assign body) a h k := by
 intro ρ act w S
 refine .of ?_ (fun b e => by cases e)
 have hfv : ∃ first' captured', act.eval f = .func (.func g) first' captured' ∧ ARel (VRel ρ) first first' ∧ ARel (VRel ρ) captured captured' := by
  cases f with
  | const v => cases hv
  | tmp t =>
   have k := S.tmps.tmp t
   simp only [fval, AAct.eval] at hv
   rw [hv] at k
   obtain ⟨fn', f', c', q, h1, h2, h3⟩ := k.unfold
   have h1 : fn' = .func g := h1
   subst h1
   exact ⟨f', c', q, h2, h3⟩
  | global g => cases hv
  | func f =>
   cases hv
   exact ⟨#[], #[], rfl, ARel.refl_of fun x hx => by simp at hx, ARel.refl_of fun x hx => by simp at hx⟩
 obtain ⟨first', captured', hev, hA1, hA2⟩ := hfv
 have hnm : ¬ fn.name = "runtime.NumGoroutine" ∧ fn.body.isNone = false := by simpa using hnm
 obtain ⟨bd, hbd⟩ : ∃ bd, fn.body = some bd := by
  cases hb : fn.body with
  | none => rw [hb] at hnm; simp at hnm
  | some bd => exact ⟨bd, rfl⟩
 refine wpIn_rangeFunc fun fnId _ => ?_
 obtain ⟨l', mk, w₁, ρ₁, q1, q2, S₁, A₁⟩ := enterLoop_ok S (rd := none) (rd' := none) trivial (d := h.n) (mark := [h.n]) (h₁ := h.push .defd) rfl fnId ps assign body
 have q2 : ρ₁ (h.n + 1) = .live ⟨l', 0, 0, 0⟩ := q2
 have hy : VRel ρ₁ (.func (.yield (h.n + 1)) #[] #[]) (.func (.yield l') #[] #[]) :=
  .fold ⟨_, #[], #[], rfl, ⟨l', rfl, by simp [BRel, q2]⟩, ARel.refl_of fun x hx => by simp at hx, ARel.refl_of fun x hx => by simp at hx⟩
 have hy1 : ARel (VRel ρ₁) #[.func (.yield (h.n + 1)) #[] #[]] #[.func (.yield l') #[] #[]] := ARel.of_LRel (a := [_]) (b := [_]) (LRel.cons hy LRel.nil)
 have hA := ((hA1.mono fun _ _ k => k.mono A₁.le).append hy1).append (hA2.mono fun _ _ k => k.mono A₁.le)
 have C := hc ρ₁ _ w₁ S₁.heap S₁.globs hA
 have hlead : ∀ f', Target.leads P w₁ (.fn (.func g) captured') (first' ++ #[.func (.yield l') #[] #[]]) = some f' → (fence none).fn f' := fun _ _ => trivial
 have hres : (resolve act.eval (rangeCall f l') 0).run P w₁ = .ok { target := .fn (.func g) captured', args := first' ++ #[.func (.yield l') #[] #[]] } w₁ := by
  simp only [resolve]
  rw [hev]
  simp [Deferred.ofValue, Act.eval]
 have hinv : (invoke (.fn (.func g) captured') (first' ++ #[.func (.yield l') #[] #[]])).run P w₁ = .ok (.enter g (first' ++ #[.func (.yield l') #[] #[]] ++ captured')) w₁ := by
  simp [invoke, callFunc, hfn, hnm.1, hbd]
 have C' : CallsIn (fence none) (0 - 1) P g (first' ++ #[.func (.yield l') #[] #[]] ++ captured') w₁ (rangePost (fence none) 0 P l' (JPost P ρ h w k) { act with defers := mk ++ act.defers }) := by
  refine CallsIn.mono C ?_
  rintro e' w₃ ⟨v, v', h₂, ρ₂, rfl, ⟨st, a'', ps', as', bd', d', hg, hst, hk⟩, _, H₂, F₂, p₂⟩
  have le : ρ₁.le ρ₂ := p₂.le S₁.heap (by show h.n + 1 + 1 ≤ h.n + 2; omega)
  have hl1 : BRel ρ₂ (h.n + 1) l' := BRel.mono le (by simp [BRel, q2])
  obtain ⟨g₂, hlive⟩ := H₂.get_live hg (by simp) hl1.born
  obtain rfl := hl1.live hlive
  obtain ⟨o, o', k1, k2, k3⟩ := H₂.obj (h.n + 1) g₂ hlive
  rw [hg] at k1
  cases k1
  obtain ⟨L, rfl, r1, r2, r3, r4, r5, r6, r7⟩ := k3
  have H₃ := H₂.turn hlive (by simp [AHeap.rw, hg]) (o := .loop .exhausted none a'' ps' as' bd' d') (o' := .loop { L with state := .exhausted }) ⟨_, rfl, rfl, r2, r3, r4, r5, r6, r7⟩
  have A₃ := Adv.turn (w := w₃) hlive (h := h₂) (by simp [AHeap.rw, hg]) (.loop .exhausted none a'' ps' as' bd' d') (.loop { L with state := .exhausted })
  have S₃ : SRel P ρ₂ { n := a.n, t := a.t, marks := h.n :: a.marks } (h₂.set (h.n + 1) (.loop .exhausted none a'' ps' as' bd' d')) { act with defers := mk ++ act.defers } (setBlock w₃ g₂.b (.loop { L with state := .exhausted })) :=
   ⟨H₃, S₁.tmps.mono le, S₁.marks.mono le, S₁.globs.mono le⟩
  refine ⟨none, _, by rw [← r2]; exact run_endLoop k2 (by rw [r1]; exact hst), ?_⟩
  exact ⟨_, _, ρ₂, hk, S₃, A₁.fr.trans (F₂.trans (A₃ 0).fr)⟩
 exact ⟨l', mk, w₁, _, w₁, g, _, w₁, q1, hres, hlead, hinv, fence_depth none 0, C'⟩
end
end
end Go.Am
/-! (OWN WORK. 'Am': the first range over a function in a function's code.) -/
namespace Go.Am
noncomputable section
def findRange : Code → Option (Operand × Array Tmp × Code × Code)
 | .seq x y => match findRange x with
  | some c => some c
  | none => findRange y
 | .cond _ y z => match findRange y with
  | some c => some c
  | none => findRange z
 | .block _ b => findRange b
 | .loop b => findRange b
 | .scope b => findRange b
 | .rangeFunc f ps as bd => some (f, ps, as, bd)
 | _ => none
def rangeAt (P : Program) (f : Nat) : Operand × Array Tmp × Code × Code := match P.funcs[f]? with
 | some fn => match fn.body with
  | some c => match findRange c with
   | some b => b
   | none => (.tmp 0, #[], .skip, .skip)
  | none => (.tmp 0, #[], .skip, .skip)
 | none => (.tmp 0, #[], .skip, .skip)
end
end Go.Am
