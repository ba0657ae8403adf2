/-
  OWN WORK. 'Am': ranges over functions, carried out in place.
-/
import Derived.Test.YtihnnmejkpddeaaGreatDoorAmX
import Derived.Test.YtihnnmejkpddeaaGreatDoorAmY
/-! (OWN WORK. 'Am': a state seen with the blocks that its temporaries name, and those that these name; loops over such blocks.) -/
namespace Go.Am
section
variable {P : Program} {a : AAct} {h h₂ : AHeap} {k : Post} {pre : Pre}
theorem SRel.viewR {ρ : Rho} {act : Act} {w : World} (S : SRel P ρ a h act w) (V : View P h h₂ pre) (l : List (Nat × Value)) {D : Nat} (hD : D < h₂.n) (hp : pre D = none) (hm : a.marks = [])
  (hk : ∀ x ∈ l, Ren pre (a.tmp x.1) x.2) (hb : ∀ j i, pre j = some i → Reach P a h i) :
  ∃ g ρ₂, SRel P ρ₂ (stOf a.n l g) h₂ act w ∧ ∀ b, Own ρ₂ h₂ b → Own ρ h b := by
 have hDρ : viewRho ρ h₂.n pre D = .dead := by simp only [viewRho, if_pos hD, hp]
 have A : Alive ρ pre := V.alive S.heap fun j i hji => (hb j i hji).born S
 have ex : ∀ t, ∃ x, VRel (viewRho ρ h₂.n pre) x (act.tmps.getD t Go.undef) := fun t => some_rel hDρ (S.tmps.tmp t)
 let g : Nat → Value := fun t => Classical.choose (ex t)
 have hg : ∀ t, VRel (viewRho ρ h₂.n pre) (g t) (act.tmps.getD t Go.undef) := fun t => Classical.choose_spec (ex t)
 have hov : ∀ (l : List (Nat × Value)), (∀ x ∈ l, Ren pre (a.tmp x.1) x.2) → ∀ t, VRel (viewRho ρ h₂.n pre) (ov l g t) (act.tmps.getD t Go.undef) := by
  intro l
  induction l with
  | nil => intro _ t; exact hg t
  | cons x l ih =>
   intro hx t
   rw [ov_cons]
   split
   ·rename_i e
    subst e
    exact (hx x (by simp)).vrel V (S.tmps.tmp x.1)
   ·exact ih (fun y hy => hx y (by simp [hy])) t
 refine ⟨g, viewRho ρ h₂.n pre, ⟨V.hrel S.heap A, ⟨S.tmps.size, fun t => ?_⟩, ?_, V.globs' S.globs⟩, fun b o => V.own o⟩
 ·simp only [stOf, AAct.tmp, get_lit]
  by_cases hlt : t < a.n
  ·rw [if_pos hlt]; exact hov l hk t
  ·rw [if_neg hlt, undef_getD _ _ (by rw [← S.tmps.size]; exact Nat.le_of_not_lt hlt)]
   exact .undef
 ·have M := S.marks
  rw [hm] at M
  exact ⟨M.1, fun i m d hm' => by simp [stOf] at hm'⟩
def Moves (P : Program) (h : AHeap) (ids : List Nat) (B₀ B : List Blk) : Prop := ∀ (q : Nat) i (b : Blk), ids[q]? = some i → B[q]? = some b →
 ∃ b₀ : Blk, B₀[q]? = some b₀ ∧ h.get i = some (.cells b₀.1 b₀.2.1 b₀.2.2.1 b₀.2.2.2) ∧ amapM (renV P.globals.size ids) b₀.1 = some b.1 ∧ b.2 = b₀.2
end
end Go.Am
/-! (OWN WORK. 'Am': ranges over functions, carried out in place on values that are not known.) -/
namespace Go.Am
noncomputable section
section
variable (P : Program) (orc : Orc) (syf : FuncId → Sy) (pc : Asks)
abbrev RunR := List Sy → Option Nat → Code → AAct → AHeap → Post → Prop
def jumpOf (e : Exit) : Option (Option Code) := match e with
 | .normal => some none
 | .ret => some (some Code.ret)
 | .exit id => some (some (Code.exit id))
 | _ => none
def symRound (ih : RunR) (S : List Sy) (o : Oper) (a : AAct) (h : AHeap) (k : Value → AHeap → Prop) : Prop :=
 match aop P o a.eval h with
 | some (.round l args) => match h.get l with
  | some (.loop _ _ b ps assign body _) => match Nat.beq args.size ps.size && ps.toList.all (Nat.blt · b.n) with
   | true => ih S.tail (some l) assign { n := b.n, t := setTmps b.t ps.toList args.toList, marks := [] } h fun e a₁ h₁ => match e with
    | .normal => match h₁.get l with
     | some (.loop .ready pend a' ps' assign' body' d') => ih S.tail (some l) body a₁ (h₁.set l (.loop .busy pend a' ps' assign' body' d')) fun e _ h₂ => match h₂.get l with
      | some (.loop _ _ a'' ps'' assign'' body'' d'') => match jumpOf e with
       | some jump => k (.bool jump.isNone) (h₂.set l (.loop (if jump.isNone then .ready else .done) jump a'' ps'' assign'' body'' d''))
       | none => False
      | _ => False
     | _ => False
    | _ => False
   | false => False
  | _ => False
 | _ => False
def symEnter (ex : Ex) (ih : RunR) (S : List Sy) (o : Oper) (a : AAct) (h : AHeap) (k : Value → AHeap → Prop) : Prop :=
 match aop P o a.eval h with
 | some (.enter f args) => match (ex.orc f args h).isNone, P.funcs[f]? with
  | true, some fn => match fn.body, Nat.ble args.size fn.ntmps with
   | some c, true => ih (syf f :: S) none c (enterAct fn.ntmps args.toList) h (fin P fn k)
   | _, _ => False
  | _, _ => False
 | _ => False
def opR (ex : Ex) (ih : RunR) (S : List Sy) (ops : Array Oper) (o : Oper) (a : AAct) (h : AHeap) (k : Value → AHeap → Prop) : Prop :=
 match Nat.beq (S.headD (fun _ => 0) o) 50 with
 | true => match dstOk o a with
  | true => match Region.wanted o (ayielded ops a) with
   | true => symRound P ih S o a h k
   | false => k undef h
  | false => False
 | false => match Nat.beq (S.headD (fun _ => 0) o) 55 with
  | true => match dstOk o a with
   | true => match Region.wanted o (ayielded ops a) with
    | true => symEnter P syf ex ih S o a h k
    | false => k undef h
   | false => False
  | false => opC P ex (S.headD fun _ => 0) pc ops o a h k
def runOpsR (ex : Ex) (ih : RunR) (S : List Sy) (ops : Array Oper) (l : List Oper) : AAct → AHeap → (AAct → AHeap → Prop) → Prop :=
 List.rec (motive := fun _ => AAct → AHeap → (AAct → AHeap → Prop) → Prop) (fun a h k => k a h)
  (fun o _ ih' a h k => opR P syf pc ex ih S ops o a h fun v h' => ih' (a.put o.dst v) h' k) l
def runDrawR (ex : Ex) (ih : RunR) (S : List Sy) (ops : Array Oper) (bs : List Nat) : Nat → Array Bool → List Pend → AAct → AHeap → (AAct → AHeap → Prop) → Prop
 | 0, _, _, _, _, _ => False
 | n + 1, listed, W, a, h, k =>
  match pickNext ops (Region.ready .any ops listed) with
  | none => False
  | some none => k a h
  | some (some i) =>
   match ops[i]? with
   | none => False
   | some o => opR P syf pc ex ih S ops o a h fun v h' =>
     match eager o with
     | true =>
      match Nat.beq h'.n h.n with
      | true => runDrawR ex ih S ops bs n (listed.setIfInBounds i true) ({ i, o, a, v, new := none } :: W) (a.put o.dst v) h' k
      | false => match Nat.beq h'.n (h.n + 1), h'.get h.n with
       | true, some obj => match maker o obj with
        | true => stillsC P (S.headD fun _ => 0) ops W h' <| runDrawR ex ih S ops bs n (listed.setIfInBounds i true) ({ i, o, a, v, new := some (h.n, obj) } :: W) (a.put o.dst v) h' k
        | false => False
       | _, _ => False
     | false =>
      let W' := W.filter fun p => !(bs.getD i 0).testBit p.i
      stillsC P (S.headD fun _ => 0) ops W' h' (runDrawR ex ih S ops bs n (listed.setIfInBounds i true) W' (a.put o.dst v) h' k)
def runRegionR (ex : Ex) (ih : RunR) (S : List Sy) (ops : Array Oper) (draw : Bool) (a : AAct) (h : AHeap) (k : AAct → AHeap → Prop) : Prop :=
 match constsOk P ops, draw with
 | false, _ => False
 | true, false => runOpsR P syf pc ex ih S ops ops.toList a h k
 | true, true => match orderly ops with
  | true => runDrawR P syf pc ex ih S ops (befs ops.toList []) (ops.size + 1) (Array.replicate ops.size false) [] a h k
  | false => False
def rangeR (ih : RunR) (S : List Sy) (rd : Option Nat) (f : Operand) (ps : Array Tmp) (assign body : Code) (a : AAct) (h : AHeap) (k : Post) : Prop :=
 match rangeIn rd h with
 | some (d, mark, h₁) => match fval a f with
  | .func (.func g) first captured => match P.funcs[g]? with
   | some fn => match fn.name == "runtime.NumGoroutine" || fn.body.isNone with
    | true => False
    | false => match (orc g (first ++ #[Value.func (.yield h₁.n) #[] #[]] ++ captured) (h₁.push (.loop .ready none a ps assign body d))).isNone, fn.body, Nat.ble (first ++ #[Value.func (.yield h₁.n) #[] #[]] ++ captured).size fn.ntmps with
     | true, some c, true => ih (syf g :: S) none c (enterAct fn.ntmps (first ++ #[Value.func (.yield h₁.n) #[] #[]] ++ captured).toList) (h₁.push (.loop .ready none a ps assign body d)) (fin P fn fun _ h₂ => match h₂.get h₁.n with
      | some (.loop .busy _ _ _ _ _ _) => False
      | some (.loop _ pending a' ps' assign' body' d') => match pending with
       | none => k .normal { n := a.n, t := a.t, marks := mark ++ a.marks } (h₂.set h₁.n (.loop .exhausted pending a' ps' assign' body' d'))
       | some c => ih S rd c { n := a.n, t := a.t, marks := mark ++ a.marks } (h₂.set h₁.n (.loop .exhausted pending a' ps' assign' body' d')) k
      | _ => False)
     | _, _, _ => False
   | none => False
  | _ => False
 | none => False
def stepR (ex : Ex) (ih : RunR) (S : List Sy) (rd : Option Nat) (c : Code) (a : AAct) (h : AHeap) (k : Post) : Prop :=
 match c with
 | .skip => k .normal a h
 | .region _ ops draw => runRegionR P syf pc ex ih S ops draw a h fun a' h' => k .normal a' h'
 | .seq x y => ih S rd x a h fun e a' h' => match e with
  | .normal => ih S rd y a' h' k
  | e => k e a' h'
 | .cond x y z => match a.eval x with
  | .bool true => ih S rd y a h k
  | .bool false => ih S rd z a h k
  | _ => False
 | .block id b => ih S rd b a h fun e a' h' => match e with
  | .exit j => match Nat.beq j id with
   | true => k .normal a' h'
   | false => k (.exit j) a' h'
  | e => k e a' h'
 | .loop b => ih S rd b a h fun e a' h' => match e with
  | .normal => ih S rd (.loop b) a' h' k
  | e => k e a' h'
 | .rangeFunc f ps assign body => rangeR P orc syf ih S rd f ps assign body a h k
 | .exit id => k (.exit id) a h
 | .ret => k .ret a h
 | .label _ => k .normal a h
 | .scope b => ih S rd b a h fun e a' h' => match e with
  | .goto _ => False
  | e => k e a' h'
 | _ => False
def execR (n : Nat) : RunR := Nat.rec (motive := fun _ => RunR) (fun _ _ _ _ _ _ => False) (fun n ih => stepR P orc syf pc (exec P orc n) ih) n
def callR (n : Nat) (f : FuncId) (args : Array Value) (h : AHeap) (K : Value → AHeap → Prop) : Prop :=
 match P.funcs[f]? with
 | some fn => match fn.body with
  | some c => match Nat.ble args.size fn.ntmps with
   | true => execR P orc syf pc n [syf f] none c (enterAct fn.ntmps args.toList) h (fin P fn K)
   | false => False
  | none => False
 | none => False
end
section
variable {P : Program} {orc : Orc} {syf : FuncId → Sy} {pc : Asks}
def Sound (ex : Ex) (ih : RunR) : Prop := ∀ {S : List Sy} {rd : Option Nat} {c : Code} {a : AAct} {h : AHeap} {k : Post}, ih S rd c a h k → ∃ e a' h', ex rd c a h = some (e, a', h') ∧ k e a' h'
theorem symRound_ok {ex : Ex} {ih : RunR} (E : Sound ex ih) {S : List Sy} {o : Oper} {a : AAct} {h : AHeap} {k : Value → AHeap → Prop} (hk : symRound P ih S o a h k) : ∃ x v h', aop P o a.eval h = some x ∧ doneBy P ex x h = some (v, h') ∧ k v h' := by
 unfold symRound at hk
 split at hk
 ·rename_i l args hx
  split at hk
  ·rename_i st pd b ps assign body d hg
   split at hk
   ·rename_i hc
    obtain ⟨e, a₁, h₁, h1, hk⟩ := E hk
    cases e with
    | normal =>
     simp only at hk
     split at hk
     ·rename_i pend a' ps' assign' body' d' hg1
      obtain ⟨e, a₂, h₂, h2, hk⟩ := E hk
      split at hk
      ·rename_i st2 pd2 a'' ps'' assign'' body'' d'' hg2
       split at hk
       ·rename_i jump hj
        refine ⟨_, _, _, hx, ?_, hk⟩
        simp only [doneBy, aroundBy, hg, hc, h1, hg1, h2, hg2]
        cases e <;> simp [jumpOf] at hj <;> subst hj <;> rfl
       ·exact hk.elim
      ·exact hk.elim
     ·exact hk.elim
    | _ => exact hk.elim
   ·exact hk.elim
  ·exact hk.elim
 ·exact hk.elim
theorem symEnter_ok {ex : Ex} {ih : RunR} (E : Sound ex ih) {S : List Sy} {o : Oper} {a : AAct} {h : AHeap} {k : Value → AHeap → Prop} (hk : symEnter P syf ex ih S o a h k) : ∃ x v h', aop P o a.eval h = some x ∧ doneBy P ex x h = some (v, h') ∧ k v h' := by
 unfold symEnter at hk
 split at hk
 ·rename_i f args hx
  split at hk
  ·rename_i fn hno hfn
   split at hk
   ·rename_i c hc hs
    obtain ⟨e, a₂, h₂, hx2, hk⟩ := E hk
    obtain ⟨he, hm, v, hv, hk⟩ := fin_end hk
    refine ⟨_, v, h₂, hx, ?_, hk⟩
    show acallBy P ex f args h = some (v, h₂)
    unfold acallBy
    rw [Option.isNone_iff_eq_none] at hno
    rw [hno]
    unfold acallRun
    rcases he with rfl | rfl
    ·simp only [hfn, hc, hs, hx2, hm, shutMarks, hv, Option.map_some]
    ·simp only [hfn, hc, hs, hx2, hm, shutMarks, hv, Option.map_some]
   ·exact hk.elim
  ·exact hk.elim
 ·exact hk.elim
theorem opR_ok {ex : Ex} {ih : RunR} (E : Sound ex ih) (hpc : AsksOk ex.orc pc) {S : List Sy} {ops : Array Oper} {o : Oper} {a : AAct} {h : AHeap} {k : Value → AHeap → Prop} (hk : opR P syf pc ex ih S ops o a h k) : ∃ v h', opBy P ex ops o a h = some (v, h') ∧ k v h' := by
 unfold opR at hk
 split at hk
 ·split at hk
  ·rename_i hd
   split at hk
   ·rename_i hw
    obtain ⟨x, v, h', h1, h2, h3⟩ := symRound_ok E hk
    exact ⟨v, h', by unfold opBy; simp only [hd, hw, h1, h2], h3⟩
   ·rename_i hw
    exact ⟨_, _, by unfold opBy; simp only [hd, hw], hk⟩
  ·exact hk.elim
 ·split at hk
  ·split at hk
   ·rename_i hd
    split at hk
    ·rename_i hw
     obtain ⟨x, v, h', h1, h2, h3⟩ := symEnter_ok E hk
     exact ⟨v, h', by unfold opBy; simp only [hd, hw, h1, h2], h3⟩
    ·rename_i hw
     exact ⟨_, _, by unfold opBy; simp only [hd, hw], hk⟩
   ·exact hk.elim
  ·exact opC_ok hpc hk
theorem runOpsR_ok {ex : Ex} {ih : RunR} (E : Sound ex ih) (hpc : AsksOk ex.orc pc) {S : List Sy} {ops : Array Oper} {k : AAct → AHeap → Prop} : ∀ {l : List Oper} {a : AAct} {h : AHeap}, runOpsR P syf pc ex ih S ops l a h k → ∃ a' h', runOps P ex ops l a h = some (a', h') ∧ k a' h'
 | [], a, h, hk => ⟨a, h, rfl, hk⟩
 | o :: l, a, h, hk => by
  obtain ⟨v, h', h1, h2⟩ := opR_ok E hpc (show opR P syf pc ex ih S ops o a h (fun v h' => runOpsR P syf pc ex ih S ops l (a.put o.dst v) h' k) from hk)
  obtain ⟨a', h'', h3, h4⟩ := runOpsR_ok E hpc h2
  exact ⟨a', h'', by rw [runOps_cons, h1]; exact h3, h4⟩
theorem runDrawR_ok {ex : Ex} {ih : RunR} (E : Sound ex ih) (hpc : AsksOk ex.orc pc) {S : List Sy} {ops : Array Oper} {k : AAct → AHeap → Prop} {bs : List Nat} : ∀ {n : Nat} {listed : Array Bool} {W : List Pend} {a : AAct} {h : AHeap}, (∀ p ∈ W, Ahead P ops p) → runDrawR P syf pc ex ih S ops bs n listed W a h k → ∃ a' h', runDraw P ex ops bs n listed W a h = some (a', h') ∧ k a' h'
 | 0, _, _, _, _, _, hk => hk.elim
 | n + 1, listed, W, a, h, hA, hk => by
  simp only [runDrawR] at hk
  simp only [runDraw]
  split at hk
  ·exact hk.elim
  ·rename_i hp
   rw [hp]
   exact ⟨a, h, rfl, hk⟩
  ·rename_i i hp
   rw [hp]
   split at hk
   ·exact hk.elim
   ·rename_i o ho
    simp only [ho]
    obtain ⟨v, h', hv, hk⟩ := opR_ok E hpc hk
    have grow : ∀ new, (new = none → h'.n = h.n) → ∀ p ∈ ({ i, o, a, v, new } : Pend) :: W, Ahead P ops p := fun new hnew p hp => by
     rcases List.mem_cons.1 hp with rfl | hp
     ·exact opC_ahead hv i new hnew
     ·exact hA p hp
    simp only [hv]
    split at hk
    ·rename_i he
     simp only [he]
     split at hk
     ·rename_i hn
      have hn' : h'.n = h.n := Nat.eq_of_beq_eq_true hn
      simp only [hn]
      exact runDrawR_ok E hpc (grow _ fun _ => hn') hk
     ·rename_i hn
      simp only [hn]
      split at hk
      ·rename_i obj h1 h2
       simp only [h1, h2]
       split at hk
       ·rename_i hc
        obtain ⟨h3, hk⟩ := stillsC_ok hA hk
        simp only [hc, h3, Bool.and_self]
        exact runDrawR_ok E hpc (grow _ fun e => by cases e) hk
       ·exact hk.elim
      ·exact hk.elim
    ·rename_i he
     simp only [he]
     have hA' : ∀ p ∈ W.filter (fun p => !(bs.getD i 0).testBit p.i), Ahead P ops p := fun p hp => hA p (List.mem_filter.1 hp).1
     obtain ⟨h3, hk⟩ := stillsC_ok hA' hk
     simp only [h3]
     exact runDrawR_ok E hpc hA' hk
theorem runRegionR_ok {ex : Ex} {ih : RunR} (E : Sound ex ih) (hpc : AsksOk ex.orc pc) {S : List Sy} {ops : Array Oper} {draw : Bool} {a : AAct} {h : AHeap} {k : AAct → AHeap → Prop} (hk : runRegionR P syf pc ex ih S ops draw a h k) : ∃ a' h', runRegion P ex ops draw a h = some (a', h') ∧ k a' h' := by
 unfold runRegionR at hk
 split at hk
 ·exact hk.elim
 ·rename_i hc
  obtain ⟨a', h', hr, hk⟩ := runOpsR_ok E hpc hk
  exact ⟨a', h', by unfold runRegion; simp only [hc]; exact hr, hk⟩
 ·rename_i hc
  split at hk
  ·rename_i hor
   obtain ⟨a', h', hr, hk⟩ := runDrawR_ok E hpc (fun p hp => by cases hp) hk
   exact ⟨a', h', by unfold runRegion; simp only [hc, hor]; exact hr, hk⟩
  ·exact hk.elim
theorem rangeR_ok {ex : Ex} (ho : ex.orc = orc) {ih : RunR} (E : Sound ex ih) {S : List Sy} {rd : Option Nat} {f : Operand} {ps : Array Tmp} {assign body : Code} {a : AAct} {h : AHeap} {k : Post} (hk : rangeR P orc syf ih S rd f ps assign body a h k) :
  ∃ e a' h', rangeBy P ex rd f ps assign body a h = some (e, a', h') ∧ k e a' h' := by
 unfold rangeR at hk
 split at hk
 ·rename_i d mark h₁ hr
  split at hk
  ·rename_i g first captured hf
   split at hk
   ·rename_i fn hfn
    split at hk
    ·exact hk.elim
    ·rename_i hnm
     split at hk
     ·rename_i c hno hc hs
      obtain ⟨e, a₂, h₂, hx, hk⟩ := E hk
      obtain ⟨he, hm, v, hv, hk⟩ := fin_end hk
      have hcall : acallBy P ex g (first ++ #[Value.func (.yield h₁.n) #[] #[]] ++ captured) (h₁.push (.loop .ready none a ps assign body d)) = some (v, h₂) := by
       unfold acallBy
       rw [ho]
       rw [Option.isNone_iff_eq_none] at hno
       rw [hno]
       unfold acallRun
       rcases he with rfl | rfl
       ·simp only [hfn, hc, hs, hx, hm, shutMarks, hv, Option.map_some]
       ·simp only [hfn, hc, hs, hx, hm, shutMarks, hv, Option.map_some]
      split at hk
      ·exact hk.elim
      ·rename_i st pending a' ps' assign' body' d' hnb hg
       cases pending with
       | none =>
        refine ⟨_, _, _, ?_, hk⟩
        unfold rangeBy
        simp only [hr, hf, hfn, hnm, hcall, hg]
       | some c' =>
        obtain ⟨e', a₃, h₃, h3, hk⟩ := E hk
        refine ⟨e', a₃, h₃, ?_, hk⟩
        unfold rangeBy
        simp only [hr, hf, hfn, hnm, hcall, hg]
        exact h3
      ·exact hk.elim
     ·exact hk.elim
   ·exact hk.elim
  ·exact hk.elim
 ·exact hk.elim
theorem execR_ok (hpc : AsksOk orc pc) : ∀ {n : Nat} {S : List Sy} {rd : Option Nat} {c : Code} {a : AAct} {h : AHeap} {k : Post}, execR P orc syf pc n S rd c a h k → ∃ e a' h', exec P orc n rd c a h = some (e, a', h') ∧ k e a' h'
 | 0, _, _, _, _, _, _, hk => hk.elim
 | n + 1, S, rd, c, a, h, k, hk => by
  have hk : stepR P orc syf pc (exec P orc n) (execR P orc syf pc n) S rd c a h k := hk
  have E : Sound (exec P orc n) (execR P orc syf pc n) := fun hk => execR_ok hpc hk
  have hpc' : AsksOk (exec P orc n).orc pc := by rw [exec_orc]; exact hpc
  rw [exec_succ]
  cases c with
  | skip => exact ⟨_, _, _, rfl, hk⟩
  | region id ops draw =>
   obtain ⟨a', h', hr, hk⟩ := runRegionR_ok E hpc' hk
   exact ⟨_, a', h', by simp only [execStep, hr]; rfl, hk⟩
  | seq x y =>
   obtain ⟨e, a₁, h₁, hx, hk⟩ := execR_ok hpc (c := x) hk
   cases e with
   | normal =>
    obtain ⟨e', a', h', hy, hk⟩ := execR_ok hpc (c := y) hk
    exact ⟨e', a', h', by simp only [execStep, hx]; exact hy, hk⟩
   | _ => exact ⟨_, a₁, h₁, by simp only [execStep, hx], hk⟩
  | cond x y z =>
   simp only [stepR] at hk
   split at hk
   ·rename_i hb
    obtain ⟨e', a', h', hy, hk⟩ := execR_ok hpc hk
    exact ⟨e', a', h', by simp only [execStep, hb]; exact hy, hk⟩
   ·rename_i hb
    obtain ⟨e', a', h', hy, hk⟩ := execR_ok hpc hk
    exact ⟨e', a', h', by simp only [execStep, hb]; exact hy, hk⟩
   ·exact hk.elim
  | block id b =>
   obtain ⟨e, a₁, h₁, hx, hk⟩ := execR_ok hpc (c := b) hk
   cases e with
   | exit j =>
    simp only at hk
    split at hk
    ·rename_i hj
     exact ⟨_, a₁, h₁, by simp only [execStep, hx, hj], hk⟩
    ·rename_i hj
     exact ⟨_, a₁, h₁, by simp only [execStep, hx, hj], hk⟩
   | _ => exact ⟨_, a₁, h₁, by simp only [execStep, hx], hk⟩
  | loop b =>
   obtain ⟨e, a₁, h₁, hx, hk⟩ := execR_ok hpc (c := b) hk
   cases e with
   | normal =>
    obtain ⟨e', a', h', hy, hk⟩ := execR_ok hpc (c := .loop b) hk
    exact ⟨e', a', h', by simp only [execStep, hx]; exact hy, hk⟩
   | _ => exact ⟨_, a₁, h₁, by simp only [execStep, hx], hk⟩
  | rangeFunc f ps assign body => exact rangeR_ok (syf := syf) (ih := execR P orc syf pc n) (S := S) (exec_orc _ _) E hk
  | exit id => exact ⟨_, _, _, rfl, hk⟩
  | ret => exact ⟨_, _, _, rfl, hk⟩
  | label l => exact ⟨_, _, _, rfl, hk⟩
  | scope b =>
   obtain ⟨e, a₁, h₁, hx, hk⟩ := execR_ok hpc (c := b) hk
   cases e with
   | goto l => exact hk.elim
   | _ => exact ⟨_, a₁, h₁, by simp only [execStep, hx], hk⟩
  | _ => exact hk.elim
theorem callR_ok (hpc : AsksOk orc pc) {n : Nat} {f : FuncId} {args : Array Value} {h : AHeap} {K : Value → AHeap → Prop} (hk : callR P orc syf pc n f args h K) : ∃ v h', acallRun P (exec P orc n) f args h = some (v, h') ∧ K v h' := by
 unfold callR at hk
 split at hk
 ·rename_i fn hfn
  split at hk
  ·rename_i c hc
   split at hk
   ·rename_i hs
    obtain ⟨e, a', h', hx, hk⟩ := execR_ok hpc hk
    obtain ⟨he, hm, v, hv, hk⟩ := fin_end hk
    refine ⟨v, h', ?_, hk⟩
    unfold acallRun
    rcases he with rfl | rfl
    ·simp only [hfn, hc, hs, hx, hm, shutMarks, hv, Option.map_some]
    ·simp only [hfn, hc, hs, hx, hm, shutMarks, hv, Option.map_some]
   ·exact hk.elim
  ·exact hk.elim
 ·exact hk.elim
theorem CallJ.ofR (hm : P.follows .mixedOrders = true) (ho : OrcOk P orc) (hpc : AsksOk orc pc) {n : Nat} {f : FuncId} {args : Array Value} {h : AHeap} {K : Value → AHeap → Prop} (hk : callR P orc syf pc n f args h K) : CallJ P f args h K := by
 intro ρ args' w H G hA
 obtain ⟨v, h', hc, hK⟩ := callR_ok hpc hk
 refine CallsIn.mono (acallRun_ok (exec_ok hm ho n) H G hA hc none) ?_
 rintro e w' ⟨v', ρ', rfl, hv, H', A⟩
 exact ⟨_, v', h', ρ', rfl, hK, hv, H', A.fr⟩
theorem J.ofR (hm : P.follows .mixedOrders = true) (ho : OrcOk P orc) (hpc : AsksOk orc pc) {n : Nat} {S : List Sy} {c : Code} {a : AAct} {h : AHeap} {k : Post} (hk : execR P orc syf pc n S none c a h k) : J P c a h k := by
 obtain ⟨e, a', h', hx, hk⟩ := execR_ok hpc hk
 exact .of_exec hm ho hx hk
def rangesL (hm : P.follows .mixedOrders = true) (ho : OrcOk P orc) (hpc : AsksOk orc pc) (syf : FuncId → Sy) (n : Nat) (S : List Sy) : Loops P where
 body := fun _ => .skip
 spec := fun _ _ _ _ => False
 ok := fun _ _ _ _ h => h.elim
 rf := fun c a h k => execR P orc syf pc n S none c a h k
 rfok := fun _ _ _ _ hk => J.ofR hm ho hpc hk
end
end
end Go.Am
/-! (OWN WORK. 'Am': loops whose rounds leave marks of their ranges over functions.) -/
namespace Go.Am
noncomputable section
variable {P : Program} {a : AAct} {h h₂ : AHeap} {k : Post} {pre : Pre}
def stM (n : Nat) (l : List (Nat × Value)) (g : Nat → Value) (ms : List Nat) : AAct := { n, t := lit n (ov l g), marks := ms }
def toldM (n : Nat) (ts : List Nat) (Q : Exit → List Value → List Nat → AHeap → Prop) : Post := fun e a h =>
 match Nat.beq a.n n with
 | true => Q e (ts.map a.tmp) a.marks h
 | false => False
theorem Ren.mono {pre pre' : Pre} (hp : ∀ j i, pre j = some i → pre' j = some i) : ∀ {v v₂ : Value}, Ren pre v v₂ → Ren pre' v v₂ := by
 intro v v₂ r
 induction r with
 | flat h => exact .flat h
 | slice h => exact .slice (hp _ _ h)
 | ptr h => exact .ptr (hp _ _ h)
 | fn => exact .fn
 | agg hl _ ih => exact .agg hl ih
 | tuple hl _ ih => exact .tuple hl ih
 | cl hl _ ih => exact .cl hl ih
 | mp h => exact .mp (hp _ _ h)
def padT (R j : Nat) (h : AHeap) : AHeap := Nat.rec (motive := fun _ => AHeap) h (fun i ih => ih.push (bif Nat.blt i j then .defd else .dead)) R
def canM (b j : Nat) : List Nat := Nat.rec (motive := fun _ => List Nat) [] (fun i ih => (b + i) :: ih) j
def MarksOk (j : Nat) (ms : List Nat) (h : AHeap) : Prop := ms.length = j ∧ ms.Nodup ∧ ∀ m ∈ ms, h.get m = some .defd
end
end Go.Am
/-! (OWN WORK. 'Am': loops whose rounds leave marks: their rule; calls that end with marks.) -/
namespace Go.Am
noncomputable section
variable {P : Program} {a : AAct} {h h₂ : AHeap} {k : Post} {pre : Pre}
def finM (P : Program) (fn : Func) (K : Value → AHeap → Prop) : Post := fun e a h =>
 match e with
 | .normal => ∃ h'', shutMarks h a.marks = some h'' ∧ (match aresult P fn a h'' with
  | some v => K v h''
  | none => False)
 | .ret => ∃ h'', shutMarks h a.marks = some h'' ∧ (match aresult P fn a h'' with
  | some v => K v h''
  | none => False)
 | _ => False
theorem finM_facts {fn : Func} {K : Value → AHeap → Prop} {e : Exit} (hx : finM P fn K e a h) : (e = .normal ∨ e = .ret) ∧ ∃ h'' v, shutMarks h a.marks = some h'' ∧ aresult P fn a h'' = some v ∧ K v h'' := by
 unfold finM at hx
 split at hx
 ·obtain ⟨h'', h1, h2⟩ := hx
  split at h2
  ·rename_i v hv; exact ⟨.inl rfl, h'', v, h1, hv, h2⟩
  ·exact h2.elim
 ·obtain ⟨h'', h1, h2⟩ := hx
  split at h2
  ·rename_i v hv; exact ⟨.inr rfl, h'', v, h1, hv, h2⟩
  ·exact h2.elim
 ·exact hx.elim
theorem CallJ.of_bodyM {f : FuncId} {args : Array Value} {K : Value → AHeap → Prop} {fn : Func} {c : Code} (hfn : P.funcs[f]? = some fn) (hb : fn.body = some c) (hsz : args.size ≤ fn.ntmps)
  (hj : J P c (enterAct fn.ntmps args.toList) h (finM P fn K)) : CallJ P f args h K := by
 intro ρ args' w H G hA
 refine callsIn_of_wp_marks hfn hb trivial ?_
 refine wpIn_mono (hj ρ { tmps := args' ++ Array.replicate (fn.ntmps - args'.size) Go.undef, defers := [] } w ⟨H, enter_rel hA hsz, ⟨rfl, fun i m d hm => by simp [enterAct] at hm⟩, G⟩).1 ?_
 rintro e' act' w' ⟨a', h', ρ', hfin, S, F⟩
 obtain ⟨he, h'', v, hsh, hv, hK⟩ := finM_facts hfin
 have : LeavesInM (fence none) 0 P fn act'.tmps (fun e w' => ∃ v v' h' ρ', e = .returned v' ∧ K v h' ∧ VRel ρ' v v' ∧ HRel ρ' h' w' ∧ Fr ρ h w ρ' h' w') act'.defers .returning w' := by
  refine leaves_ok a'.marks act'.defers ρ' h' w' h'' S.heap S.marks hsh fun ρ₂ w₂ H₂ A₂ => ?_
  obtain ⟨v', q1, q2⟩ := result_ok H₂ (S.tmps.mono (A₂ 0).le) hv
  exact ⟨v', q1, v, v', h'', ρ₂, rfl, hK, q2, H₂, F.trans (A₂ 0).fr⟩
 rcases he with rfl | rfl <;> exact this
def callM (P : Program) (ex : Ex) (sy : Sy) (pc : Asks) (L : Loops P) (n : Nat) (f : FuncId) (args : Array Value) (h : AHeap) (K : Value → AHeap → Prop) : Prop :=
 match P.funcs[f]? with
 | some fn => match fn.body with
  | some c => match Nat.ble args.size fn.ntmps with
   | true => execC P ex sy pc L n c (enterAct fn.ntmps args.toList) h (finM P fn K)
   | false => False
  | none => False
 | none => False
theorem callM_ok {orc : Orc} (hm : P.follows .mixedOrders = true) (ho : OrcOk P orc) {m : Nat} {sy : Sy} {pc : Asks} (hpc : AsksOk orc pc) {L : Loops P} {n : Nat} {f : FuncId} {args : Array Value} {K : Value → AHeap → Prop} (hk : callM P (exec P orc m) sy pc L n f args h K) : CallJ P f args h K := by
 unfold callM at hk
 split at hk
 ·rename_i fn hfn
  split at hk
  ·rename_i c hc
   split at hk
   ·rename_i hs
    exact CallJ.of_bodyM hfn hc (by simpa [Nat.ble_eq] using hs) (execC_ok hm ho hpc L hk)
   ·exact hk.elim
  ·exact hk.elim
 ·exact hk.elim
end
end Go.Am
/-! (OWN WORK. 'Am': functions of two slices whose elements are told by lists, and of plain values behind them, as known calls.) -/
namespace Go.Am
noncomputable section
variable {α β : Type}
def fullB (N : Nat) (T : Tell α) (v : Value) (c : List Value) : Option (List α) := match v with
 | .slice (some ⟨i, 0, none⟩) n k => match Nat.beq i N && Nat.ble n k, T.dec c with
  | true, some l => match goodN n l.length with
   | true => some l
   | false => none
  | _, _ => none
 | _ => none
def fullP (N : Nat) (T : Tell α) (v : Value) (c : List Value) (K : List α → Prop) : Prop := match v with
 | .slice (some ⟨i, 0, none⟩) n k => Nat.beq i N = true ∧ Nat.ble n k = true ∧ ∃ l, c = T.cells l ∧ (0 < n ∧ l.length = n ∧ n ≤ 65536) ∧ K l
 | _ => False
def isE (v : Value) : Bool := match v with
 | .slice none 0 0 => true
 | .slice (some ⟨0, 0, none⟩) 0 _ => true
 | _ => false
def NoEl (v : Value) : Prop := v = .slice none 0 0 ∨ ∃ k, v = .slice (some ⟨0, 0, none⟩) 0 k
def twoX (N : Nat) (T : Tell α) (U : Tell β) (X : List α → List β → List Value → Option Out) (vs : List Value) (B : List Cells) : Option Out := match vs with
 | a :: b :: r => match B with
  | [] => match isE a && isE b with
   | true => X [] [] r
   | false => none
  | [(c, _, _)] => match isE a with
   | true => match fullB N U b c with
    | some l => X [] l r
    | none => none
   | false => match isE b with
    | true => match fullB N T a c with
     | some l => X l [] r
     | none => none
    | false => none
  | [(c, _, _), (c', _, _)] => match fullB N T a c, fullB (N + 1) U b c' with
   | some l, some l' => X l l' r
   | _, _ => none
  | _ => none
 | _ => none
def twoY (N : Nat) (T : Tell α) (U : Tell β) (Y : List α → List β → List Value → (Out → Prop) → Prop) (vs : List Value) (B : List Cells) (K : Out → Prop) : Prop := match vs with
 | a :: b :: r => match B with
  | [] => match isE a && isE b with
   | true => Y [] [] r K
   | false => False
  | [(c, _, _)] => match isE a with
   | true => fullP N U b c fun l => Y [] l r K
   | false => match isE b with
    | true => fullP N T a c fun l => Y l [] r K
    | false => False
  | [(c, _, _), (c', _, _)] => fullP N T a c fun l => fullP (N + 1) U b c' fun l' => Y l l' r K
  | _ => False
 | _ => False
def twoO (N : Nat) (T : Tell α) (U : Tell β) (X : List α → List β → List Value → Option Out) : Array Value → AHeap → Option (Value × AHeap) := anyO N (twoX N T U X)
def asks2 (N : Nat) (f : FuncId) (T : Tell α) (U : Tell β) (Y : List α → List β → List Value → (Out → Prop) → Prop) (A : Asks) : Asks := asksV N f (twoY N T U Y) A
end
end Go.Am
