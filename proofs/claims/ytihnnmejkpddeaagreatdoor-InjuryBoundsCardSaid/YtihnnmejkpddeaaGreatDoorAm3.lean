/-
  OWN WORK. 'Am': that regions, code and calls do what the machine says; what is known of calls beforehand.
-/
import Derived.Test.YtihnnmejkpddeaaGreatDoorAm2
namespace Go.Am
section
variable {P : Program} {ρ : Rho} {h : AHeap} {w : World}
theorem HRel.turn {i : Nat} {g : G} (H : HRel ρ h w) (hi : ρ i = .live g) (hri : h.rw i = true) {o : AObj} {o' : Obj} (ho : ObjRel ρ g o o') : HRel ρ (h.set i o) (setBlock w g.b o') := by
 refine ⟨H.bound, fun a b p q hp hq hpq hr => H.inj a b p q hp hq hpq (by
  by_cases e : a = i
  ·rw [e]; exact hri
  ·unfold AHeap.rw at hr ⊢; rwa [AHeap.get_set, if_neg e] at hr), fun j gj hj => ?_, fun j hj o₁ h₁ => ?_⟩
 ·by_cases e : j = i
  ·subst e
   rw [hi] at hj
   cases hj
   exact ⟨o, o', by rw [AHeap.get_set, if_pos rfl], setBlock_at (H.lt hi), ho⟩
  ·obtain ⟨o1, o2, f1, f2, f3⟩ := H.obj j gj hj
   exact ⟨o1, o2, by rw [AHeap.get_set, if_neg e]; exact f1, by rw [setBlock_ne fun e' => e (H.inj i j g gj hi hj e'.symm hri).symm]; exact f2, f3⟩
 ·by_cases e : j = i
  ·subst e; rw [hi] at hj; cases hj
  ·rw [AHeap.get_set, if_neg e] at h₁
   exact H.dead j hj o₁ h₁
theorem Adv.turn {i : Nat} {g : G} (hi : ρ i = .live g) (hr : h.rw i = true) (o : AObj) (o' : Obj) (k : Nat) : Adv k ρ h w ρ (h.set i o) (setBlock w g.b o') := by
 refine ⟨Rho.le_refl _, Nat.le_refl _, by simp, rfl, rfl, rfl, fun b _ hn => setBlock_ne fun e => hn ⟨i, g, hi, e.symm, hr⟩, fun b _ ⟨j, gj, hj, hbj, hrj⟩ => ?_, fun _ _ hu => hu⟩
 by_cases e : j = i
 ·subst e; exact ⟨j, gj, hj, hbj, hr⟩
 ·unfold AHeap.rw at hrj
  rw [AHeap.get_set, if_neg e] at hrj
  exact ⟨j, gj, hj, hbj, hrj⟩
theorem SRel.put {a : AAct} {act : Act} (S : SRel P ρ a h act w) {ρ' : Rho} {h' : AHeap} {w' : World} (hle : ρ.le ρ') (H' : HRel ρ' h' w') {dst : Option Tmp} {v v' : Value} (hd : ∀ d, dst = some d → d < a.n) (hv : VRel ρ' v v') :
  SRel P ρ' (a.put dst v) h' (act.put dst v') w' := by
 refine ⟨H', S.tmps.put hle hd hv, ?_, S.globs.mono hle⟩
 have : (act.put dst v').defers = act.defers := by cases dst <;> rfl
 rw [this, AAct.put_marks]
 exact S.marks.mono hle
theorem leaves_ok {F : Fence} {n : Nat} {fn : Func} {tmps : Array Value} {R : Ending → World → Prop} : ∀ (ms : List Nat) (ds : List Deferred) (ρ : Rho) (h : AHeap) (w : World) (h' : AHeap),
  HRel ρ h w → MarksRel ρ ms ds → shutMarks h ms = some h' →
  (∀ ρ' w', HRel ρ' h' w' → (∀ k, Adv k ρ h w ρ' h' w') → LeavesInM F n P fn tmps R [] .returning w') → LeavesInM F n P fn tmps R ds .returning w := by
 intro ms
 induction ms with
 | nil =>
  intro ds ρ h w h' H M hs k
  obtain rfl : ds = [] := by simpa using M.1
  cases hs
  exact k ρ w H fun _ => Adv.refl _ _ _ _
 | cons m ms ih =>
  intro ds ρ h w h' H M hs k
  cases ds with
  | nil => have := M.1; simp at this
  | cons d ds =>
   unfold shutMarks at hs
   split at hs
   ·rename_i hg
    obtain ⟨r, hd, hb⟩ := M.2 0 m d rfl rfl
    obtain ⟨g, hl⟩ := H.get_live hg (by simp) hb.born
    obtain rfl := hb.live hl
    obtain ⟨o, o', k1, k2, k3⟩ := H.obj m g hl
    rw [hg] at k1
    cases k1
    have k3 : o' = .deferred (some []) := k3
    subst k3
    have H1 := (H.kill hl).setOther (b := g.b) (fun j gj hj e => by
     by_cases ej : j = m
     ·subst ej; rw [ρ.upd_same] at hj; cases hj
     ·rw [ρ.upd_ne _ ej] at hj; exact ej (H.inj m j g gj hl hj e.symm (by simp [AHeap.rw, hg])).symm) (.deferred none)
    have A1 : ∀ k, Adv k ρ h w (ρ.upd m .dead) (h.set m .dead) (setBlock w g.b (.deferred none)) := fun k =>
     have A := Adv.kill H hl k
     { A with
      size := by simp
      kept := fun b _ hn => setBlock_ne fun e => hn ⟨m, g, hl, e.symm, by simp [AHeap.rw, hg]⟩
      own := fun b hb o => A.own b hb o }
    refine ⟨by simp, .inl ⟨g.b, _, by rw [hd], run_takeDeferred k2, ?_⟩⟩
    refine ih ds _ _ _ h' H1 ⟨by have := M.1; simpa using this, fun i m' d' hm hd' => ?_⟩ hs fun ρ' w' H' A' => k ρ' w' H' fun j => (A1 j).trans (A' j)
    obtain ⟨r', e, hb'⟩ := M.2 (i + 1) m' d' (by simpa using hm) (by simpa using hd')
    exact ⟨r', e, hb'.mono Rho.le_dead⟩
   ·cases hs
theorem acallRun_ok {ex : Ex} (E : ExOk P ex) (H : HRel ρ h w) (G : Globs P ρ) {f : FuncId} {args args' : Array Value} {v : Value} {h' : AHeap} (hA : ARel (VRel ρ) args args') (hc : acallRun P ex f args h = some (v, h')) (rd : Option Nat) :
  CallsIn (fence rd) 0 P f args' w (CPost ρ h w v h') := by
 show CallsIn (fence none) 0 P f args' w (CPost ρ h w v h')
 unfold acallRun at hc
 split at hc
 ·rename_i fn hfn
  split at hc
  ·rename_i c hbody hsz
   have fin : ∀ e a₁ h₁, (e = .normal ∨ e = .ret) → ex none c (enterAct fn.ntmps args.toList) h = some (e, a₁, h₁) → (match shutMarks h₁ a₁.marks with
      | some h'' => (aresult P fn a₁ h'').map fun v => (v, h'')
      | none => none) = some (v, h') → CallsIn (fence none) 0 P f args' w (CPost ρ h w v h') := by
    intro e a₁ h₁ he hex hr
    split at hr
    ·rename_i h₂ hsh
     cases har : aresult P fn a₁ h₂ with
     | none => rw [har] at hr; simp at hr
     | some v₀ =>
      rw [har] at hr
      simp only [Option.map_some, Option.some.injEq, Prod.mk.injEq] at hr
      obtain ⟨rfl, rfl⟩ := hr
      refine callsIn_of_wp_marks hfn hbody trivial ?_
      refine wpIn_mono (E.run none c _ h e a₁ h₁ hex none ρ { tmps := args' ++ Array.replicate (fn.ntmps - args'.size) Go.undef, defers := [] } w trivial ⟨H, enter_rel hA (by simpa [Nat.ble_eq] using hsz), ⟨rfl, fun i m d hm => by simp [enterAct] at hm⟩, G⟩).1 ?_
      rintro e' a' w' ⟨rfl, ρ', S, A⟩
      have : LeavesInM (fence none) 0 P fn a'.tmps (CPost ρ h w v₀ h₂) a'.defers .returning w' := by
       refine leaves_ok a₁.marks a'.defers ρ' h₁ w' h₂ S.heap S.marks hsh fun ρ₂ w₂ H₂ A₂ => ?_
       obtain ⟨v', hv, hvr⟩ := result_ok H₂ (S.tmps.mono (A₂ 0).le) har
       exact ⟨v', hv, v', ρ₂, rfl, hvr, H₂, A.trans (A₂ _)⟩
      rcases he with rfl | rfl <;> exact this
    ·cases hr
   split at hc
   ·rename_i a₁ h₁ hex
    exact fin _ a₁ h₁ (.inl rfl) hex hc
   ·rename_i a₁ h₁ hex
    exact fin _ a₁ h₁ (.inr rfl) hex hc
   ·cases hc
  ·cases hc
 ·cases hc
theorem acallBy_ok {ex : Ex} (E : ExOk P ex) (H : HRel ρ h w) (G : Globs P ρ) {f : FuncId} {args args' : Array Value} {v : Value} {h' : AHeap} (hA : ARel (VRel ρ) args args') (hc : acallBy P ex f args h = some (v, h')) (rd : Option Nat) :
  CallsIn (fence rd) 0 P f args' w (CPost ρ h w v h') := by
 unfold acallBy at hc
 split at hc
 ·rename_i r ho
  cases hc
  exact E.orc f args h v h' ho ρ args' w H G hA
 ·exact acallRun_ok E H G hA hc rd
theorem setTmps_get : ∀ (ps : List Tmp) (vs : List Value) (t : Tr Value) (c : Array Value) (ρ : Rho) (vs' : List Value), LRel (VRel ρ) vs vs' → (∀ j, VRel ρ ((t.get j).getD Go.undef) (c.getD j Go.undef)) → (∀ p ∈ ps, p < c.size) →
  ∀ j, VRel ρ (((setTmps t ps vs).get j).getD Go.undef) (((ps.zip vs').foldl (fun tmps (q : Tmp × Value) => tmps.setIfInBounds q.1 q.2) c).getD j Go.undef)
 | [], vs, t, c, ρ, vs', _, hc, _, j => by simpa [setTmps] using hc j
 | p :: ps, [], t, c, ρ, vs', hv, hc, _, j => by
  obtain rfl := hv.nil_left
  simpa [setTmps] using hc j
 | p :: ps, v :: vs, t, c, ρ, vs', hv, hc, hp, j => by
  obtain ⟨v', r', rfl, k1, k2⟩ := hv.cons_left
  simp only [setTmps, List.zip_cons_cons, List.foldl_cons]
  refine setTmps_get ps vs (t.set p v) (c.setIfInBounds p v') ρ r' k2 (fun i => ?_) (fun q hq => by simpa using hp q (List.mem_cons_of_mem _ hq)) j
  rw [Tr.get_set, Array.getD_eq_getD_getElem?, Array.getElem?_setIfInBounds]
  by_cases e : i = p
  ·subst e
   rw [if_pos rfl, if_pos rfl, if_pos (hp i (by simp))]
   exact k1
  ·rw [if_neg e, if_neg (Ne.symm e), ← Array.getD_eq_getD_getElem?]
   exact hc i
theorem setTmps_size : ∀ (l : List (Tmp × Value)) (c : Array Value), (l.foldl (fun tmps (q : Tmp × Value) => tmps.setIfInBounds q.1 q.2) c).size = c.size
 | [], c => rfl
 | q :: l, c => by rw [List.foldl_cons, setTmps_size l]; simp
theorem aroundBy_ok {ex : Ex} (E : ExOk P ex) (H : HRel ρ h w) (G : Globs P ρ) {l l' : Nat} {args args' : Array Value} {v : Value} {h' : AHeap} (hl : BRel ρ l l') (hA : ARel (VRel ρ) args args') (hc : aroundBy ex l args h = some (v, h')) (rd : Option Nat) :
  ∃ f tmps assign body, (Instr.yield l' args').run P w = .ok (.round l' f tmps assign body) w ∧ RoundIn (fence rd) 0 P l' f tmps assign body w (CPost ρ h w v h') := by
 unfold aroundBy at hc
 split at hc
 ·rename_i st pend a ps assign body d hg
  split at hc
  ·rename_i hsz
   simp only [Bool.and_eq_true, Nat.beq_eq, List.all_eq_true, Nat.blt_eq] at hsz
   obtain ⟨hsz, hps⟩ := hsz
   obtain ⟨g, hlive⟩ := H.get_live hg (by simp) hl.born
   obtain rfl := hl.live hlive
   obtain ⟨o, o', k1, k2, k3⟩ := H.obj l g hlive
   rw [hg] at k1
   cases k1
   obtain ⟨L, rfl, r1, r2, r3, r4, r5, r6, r7⟩ := k3
   have hsz' : args'.size = L.params.size := by rw [r4, ← hA.1]; exact hsz
   refine ⟨L.fn, _, L.assign, L.body, run_yield k2 hsz', roundIn_of_wpIn trivial ?_⟩
   have hT : TmpsRel ρ { n := a.n, t := setTmps a.t ps.toList args.toList, marks := [] } ((L.params.zip args').foldl (fun tmps (t, a) => tmps.setIfInBounds t a) L.tmps) := by
    have e : (L.params.zip args').foldl (fun tmps (t, a) => tmps.setIfInBounds t a) L.tmps = (ps.toList.zip args'.toList).foldl (fun tmps (q : Tmp × Value) => tmps.setIfInBounds q.1 q.2) L.tmps := by
     rw [← Array.foldl_toList, Array.toList_zip, r4]
    rw [e]
    refine ⟨?_, fun j => setTmps_get _ _ _ _ ρ _ (LRel.of_ARel hA) r3.tmp (fun p hp => ?_) j⟩
    ·rw [setTmps_size]; exact r3.size
    ·rw [← r3.size]; exact hps p hp
   split at hc
   ·rename_i a₁ h₁ hex
    refine wpIn_mono (E.run (some l) assign _ h .normal a₁ h₁ hex (some g.b) ρ { tmps := _, defers := [] } w hl ⟨H, hT, ⟨rfl, fun i m d hm => by simp at hm⟩, G⟩).1 ?_ |> fun x => by rw [r5]; exact x
    rintro e' act₁ w₁ ⟨rfl, ρ₁, S₁, A₁⟩
    split at hc
    ·rename_i pend' a' ps' assign' body' d' hg₁
     have hl₁ := hl.mono A₁.le
     obtain ⟨g₁, hlive₁⟩ := S₁.heap.get_live hg₁ (by simp) hl₁.born
     have hg1b : g.b = g₁.b := hl₁.live hlive₁
     obtain ⟨o, o', j1, j2, j3⟩ := S₁.heap.obj l g₁ hlive₁
     rw [hg₁] at j1
     cases j1
     obtain ⟨L₁, rfl, s1, s2, s3, s4, s5, s6, s7⟩ := j3
     rw [← hg1b] at j2
     refine ⟨_, run_beginRound j2 s1, ?_⟩
     have H2 := S₁.heap.turn hlive₁ (by simp [AHeap.rw, hg₁]) (o := .loop .busy pend' a' ps' assign' body' d') (o' := .loop { L₁ with state := .busy }) ⟨_, rfl, rfl, s2, s3, s4, s5, s6, s7⟩
     have A2 := Adv.turn (w := w₁) hlive₁ (h := h₁) (by simp [AHeap.rw, hg₁]) (.loop .busy pend' a' ps' assign' body' d') (.loop { L₁ with state := .busy })
     rw [← hg1b] at H2 A2
     split at hc
     ·rename_i e a₂ h₂ hex₂
      refine wpIn_mono (E.run (some l) body _ _ e a₂ h₂ hex₂ (some g.b) ρ₁ act₁ _ hl₁ ⟨H2, S₁.tmps, S₁.marks, S₁.globs⟩).1 ?_ |> fun x => by rw [r6]; exact x
      rintro e' act₂ w₂ ⟨rfl, ρ₂, S₂, A₃⟩
      split at hc
      ·rename_i st'' pend'' a'' ps'' assign'' body'' d'' hg₂
       have hl₂ := hl₁.mono A₃.le
       obtain ⟨g₂, hlive₂⟩ := S₂.heap.get_live hg₂ (by simp) hl₂.born
       have hg2b : g.b = g₂.b := hl₂.live hlive₂
       obtain ⟨o, o', j1, j2, j3⟩ := S₂.heap.obj l g₂ hlive₂
       rw [hg₂] at j1
       cases j1
       obtain ⟨L₂, rfl, t1, t2, t3, t4, t5, t6, t7⟩ := j3
       rw [← hg2b] at j2
       have fin : ∀ jump : Option Code, some (Value.bool jump.isNone, h₂.set l (.loop (if jump.isNone then .ready else .done) jump a'' ps'' assign'' body'' d'')) = some (v, h') →
         ∃ y w', (Instr.endRound g.b jump).run P w₂ = .ok y w' ∧ CPost ρ h w v h' (.returned y) w' := by
        intro jump he
        cases he
        have H3 := S₂.heap.turn hlive₂ (by simp [AHeap.rw, hg₂]) (o := .loop (if jump.isNone then .ready else .done) jump a'' ps'' assign'' body'' d'') (o' := .loop { L₂ with state := if jump.isNone then .ready else .done, pending := jump }) ⟨_, rfl, rfl, rfl, t3, t4, t5, t6, t7⟩
        have A4 := Adv.turn (w := w₂) hlive₂ (h := h₂) (by simp [AHeap.rw, hg₂]) (.loop (if jump.isNone then .ready else .done) jump a'' ps'' assign'' body'' d'') (.loop { L₂ with state := if jump.isNone then .ready else .done, pending := jump })
        rw [← hg2b] at H3 A4
        refine ⟨_, _, run_endRound jump j2, .bool jump.isNone, ρ₂, rfl, .fold rfl, H3, ?_⟩
        exact A₁.trans ((A2 _).trans ((A₃.less (by simpa using A₁.n)).trans (A4 _)))
       cases e' with
       | normal => exact fin none hc
       | ret => exact fin _ hc
       | exit id => exact fin _ hc
       | goto t => cases hc
       | panic ch => cases hc
       | outgrown => cases hc
      ·cases hc
     ·cases hc
    ·cases hc
   ·cases hc
  ·cases hc
 ·cases hc
end
end Go.Am
namespace Go.Am
section
variable {P : Program} {ρ : Rho} {h : AHeap} {w : World}
theorem aop_not_defer {o : Oper} {ev : Operand → Value} {r : ANext} (ha : aop P o ev h = some r) : ∀ c, o.op ≠ .defer c := by
 intro c e
 unfold aop at ha
 rw [e] at ha
 cases ha
theorem doneBy_ok {ex : Ex} (E : ExOk P ex) (H : HRel ρ h w) (G : Globs P ρ) {o : Oper} {a : AAct} {act₀ : Act} (he : ∀ x ∈ o.op.operands, VRel ρ (a.eval x) (act₀.eval x)) {x : ANext} (ha : aop P o a.eval h = some x) {v : Value} {h' : AHeap}
  (hd : doneBy P ex x h = some (v, h')) (rd : Option Nat) {next : Act → World → Prop} {Q : Exit → Act → World → Prop} (k : ∀ v' ρ' w', VRel ρ' v v' → HRel ρ' h' w' → Adv h.n ρ h w ρ' h' w' → next (act₀.put o.dst v') w') :
  o.wpIn (fence rd) 0 P act₀ w next Q := by
 refine ⟨fun _ _ => trivial, ?_⟩
 rw [Oper.semAt_eq _ _ _ (aop_not_defer ha)]
 have K := aop_ok H he ha
 cases x with
 | val v₁ h₁ =>
  obtain ⟨nx, v', ρ', w', e, hn, hv, H', A⟩ := K
  cases hd
  rw [e]
  rcases hn with rfl | ⟨rfl, rfl⟩
  ·exact k v' ρ' w' hv H' A
  ·exact k _ ρ' w' hv H' A
 | enter f args =>
  obtain ⟨args', e, hA⟩ := K
  rw [e, Oper.uponIn_enter]
  refine ⟨fence_depth rd 0, CallsIn.mono (acallBy_ok E H G hA hd rd) ?_⟩
  rintro e' w' ⟨v', ρ', rfl, hv, H', A⟩
  exact k v' ρ' w' hv H' A
 | round l args =>
  obtain ⟨l', args', e, hl, hA⟩ := K
  obtain ⟨f, tmps, assign, body, e', R⟩ := aroundBy_ok E H G hl hA hd rd
  rw [e, e', Oper.uponIn_round]
  refine ⟨fence_depth rd 0, RoundIn.mono R ?_⟩
  rintro e' w' ⟨v', ρ', rfl, hv, H', A⟩
  exact k v' ρ' w' hv H' A
theorem opBy_dst {ex : Ex} {ops : Array Oper} {o : Oper} {a : AAct} {x : Value × AHeap} (ho : opBy P ex ops o a h = some x) : ∀ d, o.dst = some d → d < a.n := by
 intro d hd
 unfold opBy at ho
 split at ho
 ·rename_i hk
  unfold dstOk at hk
  rw [hd] at hk
  simpa [Nat.blt_eq] using hk
 ·cases ho
theorem opBy_ok {ex : Ex} (E : ExOk P ex) {ops : Array Oper} {o : Oper} {a : AAct} {act : Act} (S : SRel P ρ a h act w) (hcf : constsFlat P o = true) {v : Value} {h' : AHeap} (ho : opBy P ex ops o a h = some (v, h')) (rd : Option Nat)
  {next : Act → World → Prop} {Q : Exit → Act → World → Prop} (k : ∀ v' ρ' w', VRel ρ' v v' → HRel ρ' h' w' → Adv h.n ρ h w ρ' h' w' → next (act.put o.dst v') w') :
  if Region.wanted o (yielded ops act.tmps) then o.wpIn (fence rd) 0 P act w next Q else (∀ f, o.about P w act.eval = some f → (fence rd).fn f) ∧ next (act.put o.dst Go.undef) w := by
 unfold opBy at ho
 split at ho
 ·rw [wanted_rel S.tmps]
  split at ho
  ·rename_i hw
   rw [if_pos hw]
   split at ho
   ·rename_i x hx
    exact doneBy_ok E S.heap S.globs (eval_rel S.globs S.tmps hcf) hx ho rd k
   ·cases ho
  ·rename_i hw
   rw [if_neg (by rw [hw]; simp)]
   cases ho
   exact ⟨fun _ _ => trivial, k _ ρ w .undef S.heap (Adv.refl _ _ _ _)⟩
 ·cases ho
def RegPost (P : Program) (ρ : Rho) (h : AHeap) (w : World) (a' : AAct) (h' : AHeap) (act' : Act) (w' : World) : Prop := ∃ ρ', SRel P ρ' a' h' act' w' ∧ Adv h.n ρ h w ρ' h' w'
theorem runOps_ok {ex : Ex} (E : ExOk P ex) (ops : Array Oper) (rd : Option Nat) (Q : Exit → Act → World → Prop) : ∀ (l : List Oper) (i : Nat) (ρ : Rho) (a : AAct) (h : AHeap) (act : Act) (w : World) (a' : AAct) (h' : AHeap),
  ops.toList.drop i = l → (∀ o ∈ l, constsFlat P o = true) → SRel P ρ a h act w → runOps P ex ops l a h = some (a', h') → (∀ act' w', RegPost P ρ h w a' h' act' w' → Q .normal act' w') →
  wpOpsIn (fence rd) 0 P ops Q (List.range' i l.length) act w := by
 intro l
 induction l with
 | nil =>
  intro i ρ a h act w a' h' _ _ S hr k
  rw [runOps_nil] at hr
  cases hr
  exact k act w ⟨ρ, S, Adv.refl _ _ _ _⟩
 | cons o l ih =>
  intro i ρ a h act w a' h' hl hcf S hr k
  rw [runOps_cons] at hr
  split at hr
  ·rename_i v h₁ ho
   have hi : ops[i]? = some o := by
    rw [← Array.getElem?_toList, ← List.head?_drop, hl]
    rfl
   simp only [List.length_cons, List.range'_succ, wpOpsIn, hi]
   refine opBy_ok E S (hcf o (by simp)) ho rd fun v' ρ' w' hv H' A => ?_
   refine ih (i + 1) ρ' _ h₁ _ w' a' h' ?_ (fun o' ho' => hcf o' (by simp [ho'])) (S.put A.le H' (opBy_dst ho) hv) hr fun act' w'' ⟨ρ'', S'', A''⟩ => k act' w'' ⟨ρ'', S'', A.trans (A''.less A.n)⟩
   rw [← List.tail_drop, hl]
   rfl
  ·cases hr
theorem region_ok {ex : Ex} (E : ExOk P ex) {id : Nat} {ops : Array Oper} {a : AAct} {act : Act} (S : SRel P ρ a h act w) (hcf : constsOk P ops = true) {a' : AAct} {h' : AHeap} (hr : runOps P ex ops ops.toList a h = some (a', h')) (rd : Option Nat) {Q : Exit → Act → World → Prop}
  (k : ∀ act' w', RegPost P ρ h w a' h' act' w' → Q .normal act' w') : (Code.region id ops false).wpIn (fence rd) 0 P Q act w := by
 refine wpIn_region ?_
 rw [List.range_eq_range']
 exact runOps_ok E ops rd Q ops.toList 0 ρ a h act w a' h' rfl (List.all_eq_true.1 hcf) S hr k
end
end Go.Am
namespace Go.Am
section
variable {P : Program} {ρ : Rho} {h : AHeap} {w : World}
theorem beqA_eq : ∀ {a b : Value}, beqA a b = true → a = b := by
 intro a b h
 cases a <;> cases b <;> simp_all [beqA, ByteArray.ext_iff]
theorem beqV_eq {a b : Value} (h : beqV a b = true) : a = b := by
 unfold beqV at h
 split at h
 ·simp only [Bool.and_eq_true, beq_iff_eq] at h
  rw [h.1, beqA_eq h.2]
 ·simp only [beq_iff_eq] at h
  rw [h]
 ·exact beqA_eq h
theorem beqVs_eq : ∀ {a b : List Value}, beqVs a b = true → a = b
 | [], [], _ => rfl
 | x :: r, y :: s, h => by
  simp only [beqVs, Bool.and_eq_true] at h
  rw [beqV_eq h.1, beqVs_eq h.2]
 | [], _ :: _, h => by simp [beqVs] at h
 | _ :: _, [], h => by simp [beqVs] at h
theorem beqD_eq {a b : Value} (h : beqD a b = true) : a = b := by
 unfold beqD at h
 split at h
 ·rw [Array.toList_inj.1 (beqVs_eq h)]
 ·rw [Array.toList_inj.1 (beqVs_eq h)]
 ·simp only [Bool.and_eq_true, beq_iff_eq] at h
  rw [h.1.1, Array.toList_inj.1 (beqVs_eq h.1.2), Array.toList_inj.1 (beqVs_eq h.2)]
 ·exact beqV_eq h
theorem beqO_eq {a b : AObj} (h : beqO a b = true) : a = b := by
 unfold beqO at h
 split at h
 ·simp only [Bool.and_eq_true, beq_iff_eq] at h
  rw [beqVs_eq h.1.1.1, h.1.1.2, h.1.2, h.2]
 ·simp only [beq_iff_eq] at h
  rw [h]
 ·rfl
 ·cases h
def Born (P : Program) (ρ : Rho) (h : AHeap) (r : ANext) (s : Sem Value) : Prop :=
 ∃ v o, r = .val v (h.push o) ∧ ∀ w, ∃ g o' v', g.b = w.heap.size ∧ s.run P w = .ok v' (w.alloc o') ∧ ∀ ρ', ρ.le ρ' → ρ' h.n = .live g → VRel ρ' v v' ∧ ObjRel ρ' g o o'
theorem born_cells (ρ' : Rho) {c : List Value} {c' : Array Value} {elem : TypeId} {row b : Nat} (hc : LRel (VRel ρ') c c'.toList) : ObjRel ρ' ⟨b, 0, c'.size, row⟩ (.cells c elem row false) (.cells c' elem) := by
 refine ⟨c', (0, 0), rfl, ?_, rfl, rfl, fun j v hv => ?_, fun _ => .inl rfl⟩
 ·have := hc.1
  simp at this
  simp; omega
 ·have hj : j < c.length := (List.getElem?_eq_some_iff.1 hv).1
  have hj' : j < c'.toList.length := by rw [← hc.1]; exact hj
  have e2 := List.getElem?_eq_getElem hj'
  refine ⟨_, ?_, hc.2 j v _ hv e2⟩
  rw [Array.getElem?_toList] at e2
  simp [e2]
theorem aalloc_born {elem : TypeId} {old : Value} {r : ANext} (ha : aalloc P h elem = some r) : Born P ρ h r (Instr.alloc elem true old) := by
 unfold aalloc at ha
 split at ha
 ·rename_i z hz
  split at ha
  ·rename_i hf
   cases ha
   have r1 := pureRun_sound P _ _ hz
   refine ⟨_, _, rfl, fun w => ⟨⟨w.heap.size, 0, z.cells.size, 0⟩, .cells z.cells elem, .pointer (some ⟨w.heap.size, 0, none⟩), rfl, ?_, fun ρ' _ hl => ⟨VRel.mk_ptr hl, born_cells ρ' (VRel.flat hf).cells⟩⟩⟩
   cases old <;> simp [Instr.alloc, r1, newVar, newRow]
  ·cases ha
 ·cases ha
theorem abox_born {elem : TypeId} {x y : Value} {r : ANext} (hx : VRel ρ x y) (ha : abox h elem x = some r) : Born P ρ h r (Instr.box elem y) := by
 unfold abox at ha
 cases ha
 exact ⟨_, _, rfl, fun w => ⟨⟨w.heap.size, 0, y.cells.size, 0⟩, .cells y.cells elem, .pointer (some ⟨w.heap.size, 0, none⟩), rfl, by simp [Instr.box, newVar, newRow], fun ρ' hle hl => ⟨VRel.mk_ptr hl, born_cells ρ' (hx.mono hle).cells⟩⟩⟩
theorem abuildSlice_born {t : TypeId} {len : Nat} {parts parts' : Array (Nat × Value)} {r : ANext} (hp : PartsRel (VRel ρ) parts.toList parts'.toList) (ha : abuildSlice P h t len parts = some r) :
  Born P ρ h r (Instr.buildSlice t len parts') := by
 unfold abuildSlice at ha
 split at ha
 ·rename_i elem hu
  have r1 := pureRun_sound P _ _ hu
  split at ha
  ·rename_i size hs
   have r2 := pureRun_sound P _ _ hs
   split at ha
   ·rename_i hle
    have hle := Nat.le_of_ble_eq_true hle
    split at ha
    ·rename_i zero hz
     have r3 := pureRun_sound P _ _ hz
     split at ha
     ·rename_i hfz
      split at ha
      ·rename_i cells hf
       cases ha
       obtain ⟨r', e1, e2⟩ := fill_rel _ _ _ _ _ _ hp (zeros_rel (ρ := ρ) hfz (len * size)) hf
       have hlt : ¬ (16777216 < len * size) := by omega
       refine ⟨_, _, rfl, fun w => ⟨⟨w.heap.size, 0, r'.size, size + 1⟩, .cells r' elem, .slice (some ⟨w.heap.size, 0, none⟩) len len, rfl, ?_, fun ρ' hle hl => ⟨VRel.mk_slice hl (Nat.le_refl _) (Nat.le_refl _) (.inl rfl), born_cells ρ' ((LRel.of_ARel e2).mono fun _ _ k => k.mono hle)⟩⟩⟩
       by_cases h0 : len * size = 0
       ·have hz0 : zero = #[] := by
         have := r3 w
         simp only [h0] at this
         simpa using this.symm
        subst hz0
        simp [Instr.buildSlice, r1, r2, h0] at e1 ⊢
        simp [e1, newRow]
       ·have hr := r3 w
        rw [if_neg h0] at hr
        cases hzv : (zeroValue elem).run P w with
        | halt x y => simp [hzv] at hr
        | ok z w2 =>
         simp [hzv] at hr
         obtain ⟨rfl, rfl⟩ := hr
         simp [Instr.buildSlice, r1, r2, h0, hlt, hzv, e1, newRow]
      ·cases ha
     ·cases ha
    ·cases ha
   ·cases ha
  ·cases ha
 ·cases ha
theorem amakeSlice_born {t : TypeId} {len cap len' cap' : Value} {r : ANext} (hl : VRel ρ len len') (hc : VRel ρ cap cap') (ha : amakeSlice P h t len cap = some r) : Born P ρ h r (Instr.makeSlice t len' cap') := by
 unfold amakeSlice at ha
 split at ha
 ·rename_i elem l c hu
  have r1 := pureRun_sound P _ _ hu
  obtain rfl := hl.int
  obtain rfl := hc.int
  split at ha
  ·rename_i info s hi hs
   have r2 := pureRun_sound P _ _ hi
   have r3 := pureRun_sound P _ _ hs
   split at ha
   ·rename_i hb
    simp only [Bool.and_eq_true, Nat.ble_eq] at hb
    obtain ⟨⟨hlc, hc1⟩, hbytes⟩ := hb
    split at ha
    ·rename_i zero hz
     split at ha
     ·rename_i hfz
      cases ha
      refine ⟨_, _, rfl, fun w => ⟨⟨w.heap.size, 0, _, s + 1⟩, .cells ((Array.range (c * s)).map (zero[· % zero.size]!)) elem, .slice (some ⟨w.heap.size, 0, none⟩) l c, rfl, ?_, fun ρ' hle hl => ⟨VRel.mk_slice hl hlc (Nat.le_refl _) (.inl rfl), born_cells ρ' (LRel.of_ARel (zeros_rel (ρ := ρ') hfz (c * s)))⟩⟩⟩
      have w1 : IntKind.i64.wrap (l : Int) = (l : Int) := IntWalk.i64_in _ ⟨by omega, by omega⟩
      have w2 : IntKind.i64.wrap (c : Int) = (c : Int) := IntWalk.i64_in _ ⟨by omega, by omega⟩
      have g1 : ¬ ((c : Int) < 0) := by omega
      have g2 : ¬ ((281474976710656 : Int) < (info.bytes : Int) * (c : Int)) := by
       have : ((info.bytes * c : Nat) : Int) ≤ ((281474976710656 : Nat) : Int) := Int.ofNat_le.2 hbytes
       rw [Int.natCast_mul] at this
       exact Int.not_lt.2 this
      have g3 : ¬ ((l : Int) < 0) := by omega
      have g4 : ¬ ((c : Int) < (l : Int)) := by omega
      rcases zero_cells_run hz with ⟨h0, rfl⟩ | ⟨h0, z, rfl, hzr⟩
      ·simp [Instr.makeSlice, r1, asInt, asIntOf, r2, w1, w2, g1, g2, g3, g4, r3, h0, newRow]
      ·simp [Instr.makeSlice, r1, asInt, asIntOf, r2, w1, w2, g1, g2, g3, g4, r3, h0, hzr, newRow]
     ·cases ha
    ·cases ha
   ·cases ha
  ·cases ha
 ·cases ha
theorem amakeMap_born {t : TypeId} {x y : Option Value} {r : ANext} (hx : ORel (VRel ρ) x y) (ha : amakeMap P h t x = some r) : Born P ρ h r (Instr.makeMap t y) := by
 have core : Born P ρ h (.val (.map (some h.n)) (h.push (.map [] 0))) (do pure (.map (some (← newObj (.map #[] 0))))) :=
  ⟨_, _, rfl, fun w => ⟨⟨w.heap.size, 0, 0, 0⟩, .map #[] 0, .map (some w.heap.size), rfl, by simp, fun ρ' hle hl => ⟨.fold ⟨w.heap.size, rfl, by simp [BRel, hl]⟩, ⟨#[], rfl, rfl, fun i a b ha => by simp at ha⟩⟩⟩⟩
 unfold amakeMap at ha
 split at ha
 ·cases ha
  cases y with
  | some _ => exact hx.elim
  | none =>
   obtain ⟨v, o, e, k⟩ := core
   refine ⟨v, o, e, fun w => ?_⟩
   obtain ⟨g, o', v', k1, k2, k3⟩ := k w
   exact ⟨g, o', v', k1, by rw [← k2]; simp [Instr.makeMap], k3⟩
 ·split at ha
  ·rename_i hu
   have r1 := pureRun_sound P _ _ hu
   cases ha
   cases y with
   | none => exact hx.elim
   | some y =>
    obtain rfl := VRel.int hx
    obtain ⟨v, o, e, k⟩ := core
    refine ⟨v, o, e, fun w => ?_⟩
    obtain ⟨g, o', v', k1, k2, k3⟩ := k w
    exact ⟨g, o', v', k1, by rw [← k2]; simp [Instr.makeMap, r1, asInt, asIntOf], k3⟩
  ·cases ha
 ·cases ha
def BornN (P : Program) (ρ : Rho) (n : Nat) (v : Value) (o : AObj) (s : Sem Next) : Prop :=
 ∀ w, (∃ g o' v', g.b = w.heap.size ∧ s.run P w = .ok (.value v') (w.alloc o') ∧ ∀ ρ', ρ.le ρ' → ρ' n = .live g → VRel ρ' v v' ∧ ObjRel ρ' g o o') ∨
  (o = .dead ∧ ∃ v', s.run P w = .ok (.value v') w ∧ ∀ ρ', ρ.le ρ' → ρ' n = .dead → VRel ρ' v v')
theorem push_inj {h : AHeap} {o o' : AObj} (e : h.push o = h.push o') : o = o' := by
 have := congrArg (fun k : AHeap => k.get h.n) e
 simpa [AHeap.get_push] using this
theorem push_ne {h : AHeap} {o : AObj} (e : h = h.push o) : False := by
 have := congrArg AHeap.n e
 simp at this
theorem Born.op {r : ANext} {s : Sem Value} (k : Born P ρ h r s) {v : Value} {o : AObj} (e : r = .val v (h.push o)) : BornN P ρ h.n v o (do pure (.value (← s))) := by
 obtain ⟨v₀, o₀, rfl, k⟩ := k
 injection e with e1 e2
 subst e1
 obtain rfl := push_inj e2
 intro w
 obtain ⟨g, o', v', k1, k2, k3⟩ := k w
 exact .inl ⟨g, o', v', k1, by simp [k2], k3⟩
theorem nowhere_born {v : Value} {o : AObj} (e : nowhere h = .val v (h.push o)) {s : Sem Value} (hs : ∀ w, ∃ a k, s.run P w = .ok (.slice (some a) 0 k) w) : BornN P ρ h.n v o (do pure (.value (← s))) := by
 unfold nowhere at e
 injection e with e1 e2
 subst e1
 obtain rfl := push_inj e2
 intro w
 obtain ⟨a, k, hs⟩ := hs w
 refine .inr ⟨rfl, .slice (some a) 0 k, by simp [hs], fun ρ' _ hd => .fold ⟨a, k, rfl, ?_, Nat.le_refl _, Nat.zero_le _, fun g hg => ?_⟩⟩
 ·simp [PRel, hd]
 ·simp only at hg
  rw [hd] at hg
  cases hg
theorem aslice_born {t : TypeId} {x y : Value} {lo hi mx lo' hi' mx' : Option Value} {v : Value} {ob : AObj} (hx : VRel ρ x y) (hlo : ORel (VRel ρ) lo lo') (hhi : ORel (VRel ρ) hi hi') (hmx : ORel (VRel ρ) mx mx')
  (ha : aslice P h t x lo hi mx = some (.val v (h.push ob))) : BornN P ρ h.n v ob (do pure (.value (← Instr.sliceAt t y lo' hi' mx'))) := by
 have no : ∀ v₀, (some (ANext.val v₀ h) = some (.val v (h.push ob))) → False := fun v₀ e => by
  injection e with e
  injection e with _ e
  exact push_ne e
 unfold aslice at ha
 split at ha
 ·repeat' split at ha
  all_goals first
   | (cases ha; done)
   | exact (no _ ha).elim
 ·have hm : mx' = none := by
   cases mx' with
   | none => rfl
   | some _ => exact hmx.elim
  subst hm
  split at ha
  ·rename_i n elem i o hu
   have r1 := pureRun_sound P _ _ hu
   split at ha
   ·rename_i l u m s hb hs
    have r2 := pureRun_sound P _ _ hs
    obtain ⟨rfl, hlu, hun, hl1, hh1, hrun⟩ := bounds_inv (Nat.le_refl _) hb
    obtain rfl := hlo.int_eq hl1
    obtain rfl := hhi.int_eq hh1
    obtain ⟨a', rfl, hp⟩ := hx.ptr_any
    split at ha
    ·exact (no _ ha).elim
    ·split at ha
     ·rename_i hlm
      have hlm : l = m := by simpa using hlm
      subst hlm
      injection ha with ha
      refine nowhere_born ha fun w => ⟨a', 0, ?_⟩
      have hr := hrun l w (Nat.le_refl _)
      have : u - l = 0 := by omega
      simp [Instr.sliceAt, r1, Instr.sureAddr, hr, r2, this]
     ·cases ha
   ·cases ha
  ·rename_i elem a n k hu
   have r1 := pureRun_sound P _ _ hu
   split at ha
   ·rename_i l u m s hb hs
    have r2 := pureRun_sound P _ _ hs
    split at ha
    ·split at ha
     ·exact (no _ ha).elim
     ·cases ha
    ·rename_i i o
     obtain ⟨a', k', rfl, hp, hnk, hkk, hroom⟩ := hx.slice_any
     obtain ⟨rfl, hlu, hun, hl1, hh1, hrun⟩ := bounds_inv hnk hb
     obtain rfl := hlo.int_eq hl1
     obtain rfl := hhi.int_eq hh1
     split at ha
     ·exact (no _ ha).elim
     ·split at ha
      ·rename_i hlm
       have hlm : l = m := by simpa using hlm
       subst hlm
       injection ha with ha
       have : u - l = 0 := by omega
       by_cases e : k' = l
       ·subst e
        refine nowhere_born ha fun w => ⟨a', k' - k', ?_⟩
        have hr := hrun k' w hkk
        simp [Instr.sliceAt, r1, Instr.slice, hr, r2, this]
       ·refine nowhere_born ha fun w => ⟨a'.add (l * s), k' - l, ?_⟩
        have hr := hrun k' w hkk
        simp [Instr.sliceAt, r1, Instr.slice, hr, r2, this, e]
      ·cases ha
    ·cases ha
   ·cases ha
  ·cases ha
theorem maker_born {o : Oper} {ev ce : Operand → Value} {v : Value} {ob : AObj} (he : ∀ x ∈ o.op.operands, VRel ρ (ev x) (ce x)) (hm : maker o ob = true) (ha : aop P o ev h = some (.val v (h.push ob))) :
  BornN P ρ h.n v ob (execOp ce o) := by
 obtain ⟨dst, op, type, pos, after, guard⟩ := o
 simp only at he
 cases op <;> simp only [maker, Bool.false_eq_true] at hm
 case alloc elem => simp only [aop] at ha; exact Born.op (aalloc_born ha) rfl
 case box elem x => simp only [aop] at ha; exact Born.op (abox_born (he x (by simp [Op.operands])) ha) rfl
 case buildSlice t len parts => simp only [aop] at ha; exact Born.op (abuildSlice_born (parts_rel fun x hx => he x (by simpa [Op.operands] using hx)) ha) rfl
 case makeSlice t l c => simp only [aop] at ha; exact Born.op (amakeSlice_born (he l (by simp [Op.operands])) (he c (by simp [Op.operands])) ha) rfl
 case makeMap t r => simp only [aop] at ha; exact Born.op (amakeMap_born (orel_map fun y hy => he y (by simp [Op.operands, hy])) ha) rfl
 case slice t x lo hi mx =>
  simp only [aop] at ha
  split at ha
  ·unfold aflat at ha
   split at ha
   ·split at ha
    ·split at ha
     ·injection ha with ha
      injection ha with _ e
      exact (push_ne e).elim
     ·cases ha
    ·cases ha
   ·cases ha
  ·exact aslice_born (he x (by simp [Op.operands])) (orel_map fun y hy => he y (by simp [Op.operands, hy])) (orel_map fun y hy => he y (by simp [Op.operands, hy])) (orel_map fun y hy => he y (by simp [Op.operands, hy])) ha
def Mild (h : AHeap) (r : ANext) : Prop := ∃ v h', r = .val v h' ∧ (h' = h ∨ ∃ ob, h' = h.push ob)
theorem Mild.same (v : Value) : Mild h (.val v h) := ⟨v, h, rfl, .inl rfl⟩
theorem Mild.more (v : Value) (ob : AObj) : Mild h (.val v (h.push ob)) := ⟨v, _, rfl, .inr ⟨ob, rfl⟩⟩
theorem valOf_mild {x : Option Value} {r : ANext} (ha : valOf x h = some r) : Mild h r := by
 cases x with
 | none => cases ha
 | some v => cases ha; exact .same v
theorem aflat_mild {o : Oper} {ev : Operand → Value} {r : ANext} (ha : aflat P o ev h = some r) : Mild h r := by
 unfold aflat at ha
 repeat' split at ha
 all_goals first
  | cases ha; done
  | (cases ha; exact .same _)
theorem eager_mild {o : Oper} {ev : Operand → Value} {r : ANext} (he : eager o = true) (ha : aop P o ev h = some r) : Mild h r := by
 obtain ⟨dst, op, type, pos, after, guard⟩ := o
 cases op <;> simp only [eager, Bool.false_eq_true] at he
 case move x => cases ha; exact .same _
 case assign x => cases ha; exact .same _
 case pick c a b =>
  simp only [aop] at ha
  split at ha
  ·cases ha; exact .same _
  ·cases ha
 case build t parts => simp only [aop] at ha; exact valOf_mild ha
 case load t a => simp only [aop] at ha; exact valOf_mild ha
 case nilCheck x =>
  simp only [aop] at ha
  split at ha
  ·cases ha; exact .same _
  ·cases ha; exact .same _
  ·cases ha; exact .same _
  ·cases ha
 case binOp op t x y yt =>
  simp only [aop] at ha
  split at ha
  ·split at ha
   ·cases ha; exact .same _
   ·exact aflat_mild ha
  ·split at ha
   ·cases ha; exact .same _
   ·exact aflat_mild ha
 case unOp => simp only [aop] at ha; exact aflat_mild ha
 case index =>
  simp only [aop] at ha
  split at ha
  ·exact valOf_mild ha
  ·exact aflat_mild ha
 case convert src dst x =>
  simp only [aop, aconvert] at ha
  split at ha
  ·cases ha; exact .same _
  ·split at ha
   ·cases ha; exact .more _ _
   ·cases ha
  ·split at ha
   ·cases ha; exact .same _
   ·cases ha
  ·split at ha
   ·split at ha
    ·rename_i cs _
     cases hs : stringOf cs with
     | none => rw [hs] at ha; cases ha
     | some b => rw [hs] at ha; cases ha; exact .same _
    ·cases ha
   ·cases ha
  ·split at ha
   ·cases hc : pureRun P (convert src dst (ev x)) with
    | none => rw [hc] at ha; cases ha
    | some v =>
     rw [hc] at ha
     simp only [Option.bind_some] at ha
     split at ha
     ·cases ha; exact .same _
     ·cases ha
   ·cases ha
 case slice t x lo hi mx =>
  simp only [aop] at ha
  split at ha
  ·exact aflat_mild ha
  ·unfold aslice at ha
   repeat' split at ha
   all_goals first
    | cases ha; done
    | (cases ha; exact .same _)
    | (cases ha; exact .more _ _)
 case fieldAddr => simp only [aop] at ha; exact valOf_mild ha
 case lookup => simp only [aop] at ha; exact valOf_mild ha
 case indexAddr => simp only [aop] at ha; exact valOf_mild ha
 case field => simp only [aop] at ha; exact valOf_mild ha
 case extract => simp only [aop] at ha; exact valOf_mild ha
 case makeFunc fn first captured =>
  simp only [aop] at ha
  split at ha
  ·cases ha; exact .same _
  ·cases ha
 case alloc elem =>
  simp only [aop, aalloc] at ha
  repeat' split at ha
  all_goals first
   | cases ha; done
   | (cases ha; exact .more _ _)
 case box elem x => simp only [aop, abox] at ha; cases ha; exact .more _ _
 case buildSlice t len parts =>
  simp only [aop, abuildSlice] at ha
  repeat' split at ha
  all_goals first
   | cases ha; done
   | (cases ha; exact .more _ _)
 case makeSlice t l c =>
  simp only [aop, amakeSlice] at ha
  repeat' split at ha
  all_goals first
   | cases ha; done
   | (cases ha; exact .more _ _)
 case makeMap t r =>
  simp only [aop, amakeMap] at ha
  repeat' split at ha
  all_goals first
   | cases ha; done
   | (cases ha; exact .more _ _)
 case call c =>
  obtain ⟨callee, args, argTypes⟩ := c
  cases callee <;> simp only [Bool.false_eq_true] at he
  rename_i b
  simp only [aop, acall] at ha
  cases b <;> simp only [Bool.false_eq_true] at he ha
  case len =>
   split at ha
   ·cases ha; exact .same _
   ·exact aflat_mild ha
  all_goals exact aflat_mild ha
end
end Go.Am
namespace Go.Am
section
variable {P : Program} {ρ : Rho} {h : AHeap} {w : World}
def Looks (ρ : Rho) (ops : Array Oper) (o : Oper) (a : AAct) (act : Act) : Prop := a.n = act.tmps.size ∧ ∀ t ∈ o.looksAt ops, VRel ρ (a.tmp t) (act.tmps.getD t Go.undef)
theorem Looks.eval (G : Globs P ρ) {ops : Array Oper} {o : Oper} {a : AAct} {act : Act} (k : Looks ρ ops o a act) (hc : constsFlat P o = true) : ∀ x ∈ o.op.operands, VRel ρ (a.eval x) (act.eval x) := by
 intro x hx
 have hcx := List.all_eq_true.1 hc x (by simpa using hx)
 cases x with
 | tmp t => exact k.2 t (List.mem_append_left _ (List.mem_filterMap.2 ⟨.tmp t, by simpa using hx, rfl⟩))
 | const v => exact .flat (n := 3) hcx
 | global g =>
  have hg : g < P.globals.size := by simpa [Nat.blt_eq] using hcx
  refine .fold ⟨⟨g, 0, none⟩, rfl, ?_⟩
  unfold PRel
  rcases G g hg with e | ⟨q, e, h1, h2⟩
  ·simp [e]
  ·simp [e, h1, h2]
 | func f => exact .fold ⟨.func f, #[], #[], rfl, rfl, ARel.refl_of fun x hx => by simp at hx, ARel.refl_of fun x hx => by simp at hx⟩
theorem Looks.wanted {ops : Array Oper} {o : Oper} {a : AAct} {act : Act} (k : Looks ρ ops o a act) : Region.wanted o (yielded ops act.tmps) = Region.wanted o (ayielded ops a) := by
 unfold Region.wanted
 cases hg : o.guard with
 | none => rfl
 | some gw =>
  obtain ⟨j, want⟩ := gw
  have : yielded ops act.tmps j = ayielded ops a j := by
   unfold yielded ayielded
   cases hd : (ops[j]?).bind (·.dst) with
   | none => rfl
   | some t =>
    have hk := k.2 t (List.mem_append_right _ (by rw [hg]; simp [hd]))
    rw [Array.getD_eq_getD_getElem?] at hk
    simp only [Option.bind_some]
    by_cases hlt : t < act.tmps.size
    ·have e : act.tmps[t]? = some act.tmps[t] := Array.getElem?_eq_getElem hlt
     rw [e] at hk ⊢
     simp only [Option.getD_some] at hk
     have hb : Nat.blt t a.n = true := by rw [Nat.blt_eq, k.1]; exact hlt
     rw [hb]
     cases hc : act.tmps[t] with
     | bool b => rw [hc] at hk; rw [hk.bool_back]
     | _ =>
      cases ha : a.tmp t with
      | bool b => rw [ha] at hk; rw [hk.bool] at hc; cases hc
      | _ => rfl
    ·rw [Array.getElem?_eq_none (Nat.le_of_not_lt hlt)]
     have hb : Nat.blt t a.n = false := by
      cases hq : Nat.blt t a.n with
      | false => rfl
      | true => rw [Nat.blt_eq, k.1] at hq; exact absurd hq hlt
     rw [hb]
  show (yielded ops act.tmps j == some want) = (ayielded ops a j == some want)
  rw [this]
theorem opBy_looks {ex : Ex} (E : ExOk P ex) (H : HRel ρ h w) (G : Globs P ρ) {ops : Array Oper} {o : Oper} {a : AAct} {act : Act} (L : Looks ρ ops o a act) (hcf : constsFlat P o = true) {v : Value} {h' : AHeap} (ho : opBy P ex ops o a h = some (v, h')) (rd : Option Nat)
  {next : Act → World → Prop} {Q : Exit → Act → World → Prop} (k : ∀ v' ρ' w', VRel ρ' v v' → HRel ρ' h' w' → Adv h.n ρ h w ρ' h' w' → next (act.put o.dst v') w') :
  if Region.wanted o (yielded ops act.tmps) then o.wpIn (fence rd) 0 P act w next Q else (∀ f, o.about P w act.eval = some f → (fence rd).fn f) ∧ next (act.put o.dst Go.undef) w := by
 unfold opBy at ho
 split at ho
 ·rw [L.wanted]
  split at ho
  ·rename_i hw
   rw [if_pos hw]
   split at ho
   ·rename_i x hx
    exact doneBy_ok E H G (L.eval G hcf) hx ho rd k
   ·cases ho
  ·rename_i hw
   rw [if_neg (by rw [hw]; simp)]
   cases ho
   exact ⟨fun _ _ => trivial, k _ ρ w .undef H (Adv.refl _ _ _ _)⟩
 ·cases ho
def Bef (bs : List Nat) (j i : Nat) : Prop := (bs.getD j 0).testBit i = true
def befRow (acc : List Nat) (o : Oper) : Nat := (o.after.toList.filter (Region.binds .any)).foldl (fun s e => s ||| (2 ^ e.on ||| acc.getD e.on 0)) 0
theorem befs_cons (o : Oper) (r : List Oper) (acc : List Nat) : befs (o :: r) acc = befs r (acc ++ [befRow acc o]) := rfl
theorem befRow_bit (acc : List Nat) (o : Oper) (i : Nat) : (befRow acc o).testBit i = true ↔ ∃ e ∈ o.after, Region.binds .any e = true ∧ (i = e.on ∨ (acc.getD e.on 0).testBit i = true) := by
 have key : ∀ (l : List Edge) (s : Nat), (l.foldl (fun s e => s ||| (2 ^ e.on ||| acc.getD e.on 0)) s).testBit i = true ↔ s.testBit i = true ∨ ∃ e ∈ l, i = e.on ∨ (acc.getD e.on 0).testBit i = true := by
  intro l
  induction l with
  | nil => intro s; simp
  | cons e l ih =>
   intro s
   rw [List.foldl_cons, ih]
   simp only [Nat.testBit_or, Nat.testBit_two_pow, Bool.or_eq_true, decide_eq_true_eq, List.mem_cons, exists_eq_or_imp]
   constructor
   ·rintro ((h | h | h) | h)
    ·exact .inl h
    ·exact .inr (.inl (.inl h.symm))
    ·exact .inr (.inl (.inr h))
    ·exact .inr (.inr h)
   ·rintro (h | (h | h) | h)
    ·exact .inl (.inl h)
    ·exact .inl (.inr (.inl h.symm))
    ·exact .inl (.inr (.inr h))
    ·exact .inr h
 unfold befRow
 rw [key]
 simp only [Nat.zero_testBit, Bool.false_eq_true, false_or, List.mem_filter, Array.mem_toList_iff]
 constructor
 ·rintro ⟨e, ⟨h1, h2⟩, h3⟩; exact ⟨e, h1, h2, h3⟩
 ·rintro ⟨e, h1, h2, h3⟩; exact ⟨e, ⟨h1, h2⟩, h3⟩
theorem befs_prefix : ∀ (l : List Oper) (acc : List Nat) (j : Nat), j < acc.length → (befs l acc).getD j 0 = acc.getD j 0
 | [], acc, j, h => rfl
 | o :: l, acc, j, h => by
  rw [befs_cons, befs_prefix l _ j (by simp; omega), List.getD_eq_getElem?_getD, List.getElem?_append_left h, ← List.getD_eq_getElem?_getD]
theorem befs_at : ∀ (l : List Oper) (acc : List Nat) (k : Nat) (o : Oper), l[k]? = some o → ∃ acc', acc'.length = acc.length + k ∧ (∀ i, i < acc.length + k → acc'.getD i 0 = (befs l acc).getD i 0) ∧ (befs l acc).getD (acc.length + k) 0 = befRow acc' o
 | [], acc, k, o, h => by simp at h
 | x :: l, acc, 0, o, h => by
  simp at h
  subst h
  refine ⟨acc, rfl, fun i hi => ?_, ?_⟩
  ·exact (befs_prefix (x :: l) acc i (by omega)).symm
  ·rw [befs_cons, Nat.add_zero, befs_prefix l _ acc.length (by simp)]
   simp [List.getD_eq_getElem?_getD]
 | x :: l, acc, k + 1, o, h => by
  obtain ⟨acc', h1, h2, h3⟩ := befs_at l (acc ++ [befRow acc x]) k o (by simpa using h)
  rw [befs_cons]
  simp only [List.length_append, List.length_singleton] at h1 h2 h3
  exact ⟨acc', by omega, fun i hi => h2 i (by omega), by rw [← h3]; congr 1; omega⟩
structure Orderly (ops : Array Oper) (bs : List Nat) : Prop where
 back : ∀ j o, ops[j]? = some o → ∀ e ∈ o.after, Region.binds .any e = true → e.on < j
 bef : ∀ j o, ops[j]? = some o → ∀ i, Bef bs j i ↔ ∃ e ∈ o.after, Region.binds .any e = true ∧ (i = e.on ∨ Bef bs e.on i)
 apart : ∀ i j x y, i ≠ j → ops[i]? = some x → ops[j]? = some y → Bef bs j i ∨ Bef bs i j ∨ (Apart ops x y = true ∧ Apart ops y x = true)
theorem Apart_comm (ops : Array Oper) (x y : Oper) : Apart ops x y = Apart ops y x := by unfold Apart; exact Bool.and_comm _ _
theorem orderly_ok {ops : Array Oper} (h : orderly ops = true) : Orderly ops (befs ops.toList []) := by
 unfold orderly at h
 simp only [List.all_eq_true] at h
 have H : ∀ j y, ops[j]? = some y → _ := fun j y hj => h (y, j) (List.mk_mem_zipIdx_iff_getElem?.2 (by rw [Array.getElem?_toList]; exact hj))
 simp only [Bool.and_eq_true] at H
 have hback : ∀ j o, ops[j]? = some o → ∀ e ∈ o.after, Region.binds .any e = true → e.on < j := fun j o hj e he hb => by
  have := List.all_eq_true.1 (H j o hj).1.1.1 e (by simpa using he)
  simpa [hb, Nat.blt_eq] using this
 refine ⟨hback, fun j o hj i => ?_, fun i j x y ne hi hj => ?_⟩
 ·obtain ⟨acc', h1, h2, h3⟩ := befs_at ops.toList [] j o (by rw [Array.getElem?_toList]; exact hj)
  simp only [List.length_nil, Nat.zero_add] at h1 h2 h3
  unfold Bef
  rw [h3, befRow_bit]
  constructor
  ·rintro ⟨e, he, hb, hi⟩
   exact ⟨e, he, hb, by rw [← h2 e.on (hback j o hj e he hb)]; exact hi⟩
  ·rintro ⟨e, he, hb, hi⟩
   exact ⟨e, he, hb, by rw [h2 e.on (hback j o hj e he hb)]; exact hi⟩
 ·have key : ∀ i j x y, i < j → ops[i]? = some x → ops[j]? = some y → Bef (befs ops.toList []) j i ∨ Apart ops x y = true := fun i j x y hlt hi hj => by
   have := List.all_eq_true.1 (H j y hj).2 (x, i) (List.mk_mem_zipIdx_iff_getElem?.2 (by
    rw [List.getElem?_take, if_pos hlt, Array.getElem?_toList]; exact hi))
   simpa [Bef] using this
  rcases Nat.lt_or_gt_of_ne ne with hlt | hlt
  ·rcases key i j x y hlt hi hj with k | k
   ·exact .inl k
   ·exact .inr (.inr ⟨k, by rw [Apart_comm]; exact k⟩)
  ·rcases key j i y x hlt hj hi with k | k
   ·exact .inr (.inl k)
   ·exact .inr (.inr ⟨by rw [Apart_comm]; exact k, k⟩)
theorem Apart_spec {ops : Array Oper} {x y : Oper} (h : Apart ops x y = true) {d : Tmp} (hx : x.dst = some d) : d ∉ y.looksAt ops ∧ y.dst ≠ some d := by
 unfold Apart at h
 rw [Bool.and_eq_true] at h
 obtain ⟨h1, h2, _⟩ := Oper.apart_spec h.1
 exact ⟨h1 d hx, h2 d hx⟩
end
end Go.Am
namespace Go.Am
section
variable {P : Program}
def Does (P : Program) (ops : Array Oper) (ρ : Rho) (k : Nat) (h : AHeap) (p : Pend) : Prop :=
 (Region.wanted p.o (ayielded ops p.a) = false ∧ p.v = Go.undef) ∨
 (Region.wanted p.o (ayielded ops p.a) = true ∧
  ((p.new = none ∧ aop P p.o p.a.eval h = some (.val p.v h)) ∨
   ∃ id ob h₁, p.new = some (id, ob) ∧ ρ id = .unborn ∧ k ≤ id ∧ id < h.n ∧ h.get id = some ob ∧ h₁.n = id ∧ maker p.o ob = true ∧ aop P p.o p.a.eval h₁ = some (.val p.v (h₁.push ob))))
structure DInv (P : Program) (ops : Array Oper) (bs : List Nat) (ρ₀ : Rho) (h₀ : AHeap) (w₀ : World) (lc la : Array Bool) (W : List Pend) (ρ : Rho) (a : AAct) (h : AHeap) (act : Act) (w : World) : Prop where
 slc : lc.size = ops.size
 sla : la.size = ops.size
 sub : ∀ i, lc.getD i false = true → la.getD i false = true
 clc : ∀ j, lc.getD j false = true → ∀ i, Bef bs j i → lc.getD i false = true
 cla : ∀ j, la.getD j false = true → ∀ i, Bef bs j i → la.getD i false = true
 pend : ∀ j, la.getD j false = true → lc.getD j false = false → ∃ p ∈ W, p.i = j
 wla : ∀ p ∈ W, la.getD p.i false = true
 uniq : ∀ p ∈ W, ∀ q ∈ W, p.i = q.i → p = q
 op : ∀ p ∈ W, ops[p.i]? = some p.o ∧ eager p.o = true ∧ p.a.n = a.n ∧ (∀ d, p.o.dst = some d → d < a.n) ∧ ∀ id ob, p.new = some (id, ob) → id < h.n
 new : ∀ p ∈ W, ∀ q ∈ W, ∀ id o o', p.new = some (id, o) → q.new = some (id, o') → p = q
 does : ∀ p ∈ W, lc.getD p.i false = false → Does P ops ρ h₀.n h p
 n : a.n = act.tmps.size
 last : ∀ t, (∃ q ∈ W, lc.getD q.i false = false ∧ q.o.dst = some t ∧ q.v = a.tmp t ∧ ∀ r ∈ W, lc.getD r.i false = false → r.o.dst = some t → r.i = q.i ∨ Bef bs q.i r.i) ∨
  (VRel ρ (a.tmp t) (act.tmps.getD t Go.undef) ∧ ∀ q ∈ W, lc.getD q.i false = false → q.o.dst ≠ some t)
 reads : ∀ p ∈ W, lc.getD p.i false = false → ∀ t ∈ p.o.looksAt ops,
  (∃ q ∈ W, lc.getD q.i false = false ∧ Bef bs p.i q.i ∧ q.o.dst = some t ∧ q.v = p.a.tmp t ∧ ∀ r ∈ W, lc.getD r.i false = false → Bef bs p.i r.i → r.o.dst = some t → r.i = q.i ∨ Bef bs q.i r.i) ∨
  (VRel ρ (p.a.tmp t) (act.tmps.getD t Go.undef) ∧ ∀ q ∈ W, lc.getD q.i false = false → q.o.dst = some t → ¬ Bef bs p.i q.i)
 heap : HRel ρ h w
 marks : MarksRel ρ a.marks act.defers
 globs : Globs P ρ
 adv : Adv h₀.n ρ₀ h₀ w₀ ρ h w
theorem L_ne {l : Array Bool} {i j : Nat} (h : j ≠ i) : (l.setIfInBounds i true).getD j false = l.getD j false := getD_set_ne false (Ne.symm h)
theorem L_at {l : Array Bool} {i : Nat} (h : i < l.size) : (l.setIfInBounds i true).getD i false = true := by simp [h]
theorem L_up {l : Array Bool} {i j : Nat} (h : l.getD j false = true) : (l.setIfInBounds i true).getD j false = true := getD_set_true h
theorem L_false {l : Array Bool} {i j : Nat} (hi : i < l.size) (h : (l.setIfInBounds i true).getD j false = false) : j ≠ i ∧ l.getD j false = false := by
 have ne : j ≠ i := fun e => by subst e; rw [L_at hi] at h; cases h
 exact ⟨ne, by rwa [L_ne ne] at h⟩
theorem L_true {l : Array Bool} {i j : Nat} (h : (l.setIfInBounds i true).getD j false = true) : j = i ∨ l.getD j false = true := by
 by_cases e : j = i
 ·exact .inl e
 ·rw [L_ne e] at h; exact .inr h
theorem ready_bef {ops : Array Oper} {bs : List Nat} (O : Orderly ops bs) {l : Array Bool} (cl : ∀ j, l.getD j false = true → ∀ i, Bef bs j i → l.getD i false = true) {j : Nat} (hj : j ∈ Region.ready .any ops l) :
  j < l.size ∧ l.getD j false = false ∧ ∀ i, Bef bs j i → l.getD i false = true := by
 obtain ⟨h0, o, ho, hall⟩ := mem_ready.1 hj
 have hlt : j < l.size := by
  rcases Nat.lt_or_ge j l.size with h | h
  ·exact h
  ·simp [Array.getElem?_eq_none h] at h0
 refine ⟨hlt, by simpa [hlt] using h0, fun i hb => ?_⟩
 obtain ⟨e, he, hb', hi⟩ := (O.bef j o ho i).1 hb
 rcases hi with rfl | hi
 ·exact hall e he hb'
 ·exact cl e.on (hall e he hb') i hi
theorem put_size (act : Act) (dst : Option Tmp) (v : Value) : (act.put dst v).tmps.size = act.tmps.size := by cases dst <;> simp [Act.put]
theorem put_defers (act : Act) (dst : Option Tmp) (v : Value) : (act.put dst v).defers = act.defers := by cases dst <;> rfl
theorem put_getD (act : Act) {dst : Option Tmp} {v : Value} {t : Tmp} (h : dst ≠ some t) : (act.put dst v).tmps.getD t Go.undef = act.tmps.getD t Go.undef := by
 cases dst with
 | none => rfl
 | some d =>
  have : d ≠ t := fun e => h (by rw [e])
  simp [Act.put, Array.getElem?_setIfInBounds_ne this]
theorem put_getD_at (act : Act) {dst : Option Tmp} {v : Value} {t : Tmp} (h : dst = some t) (ht : t < act.tmps.size) : (act.put dst v).tmps.getD t Go.undef = v := by
 subst h
 simp [Act.put, ht]
theorem aput_tmp (a : AAct) {dst : Option Tmp} {v : Value} {t : Tmp} (h : dst ≠ some t) : (a.put dst v).tmp t = a.tmp t := by
 cases dst with
 | none => rfl
 | some d => rw [AAct.tmp_put, if_neg fun e => h (by rw [e])]
theorem aput_tmp_at (a : AAct) {dst : Option Tmp} {v : Value} {t : Tmp} (h : dst = some t) : (a.put dst v).tmp t = v := by
 subst h
 rw [AAct.tmp_put, if_pos rfl]
theorem HRel.lost {ρ : Rho} {h : AHeap} {w : World} (H : HRel ρ h w) {id : Nat} (hid : ρ id = .unborn) (hlt : id < h.n) (hg : h.get id = some .dead) : HRel (ρ.upd id .dead) h w := by
 have old : ∀ {j gj}, ρ.upd id .dead j = .live gj → j ≠ id ∧ ρ j = .live gj := fun {j gj} h' => by
  by_cases e : j = id
  ·subst e; rw [ρ.upd_same] at h'; cases h'
  ·rw [ρ.upd_ne _ e] at h'; exact ⟨e, h'⟩
 refine ⟨fun j hj => ?_, fun j k gj gk hj hk he hr => H.inj j k gj gk (old hj).2 (old hk).2 he hr, fun j gj hj => ?_, fun j hj o ho => ?_⟩
 ·rw [ρ.upd_ne _ (by omega)]; exact H.bound j hj
 ·obtain ⟨o1, o2, f1, f2, f3⟩ := H.obj j gj (old hj).2
  exact ⟨o1, o2, f1, f2, f3.mono (Rho.le_born hid)⟩
 ·by_cases e : j = id
  ·subst e; rw [hg] at ho; cases ho; rfl
  ·rw [ρ.upd_ne _ e] at hj; exact H.dead j hj o ho
theorem Adv.lost {ρ : Rho} {h : AHeap} {w : World} {id k : Nat} (hid : ρ id = .unborn) (hk : k ≤ id) : Adv k ρ h w (ρ.upd id .dead) h w := by
 refine ⟨Rho.le_born hid, Nat.le_refl _, Nat.le_refl _, rfl, rfl, rfl, fun _ _ _ => rfl, fun b _ ⟨j, gj, hj, hbj, hr⟩ => ?_, fun j hj hu => ?_⟩
 ·by_cases e : j = id
  ·subst e; rw [ρ.upd_same] at hj; cases hj
  ·rw [ρ.upd_ne _ e] at hj; exact ⟨j, gj, hj, hbj, hr⟩
 ·rw [ρ.upd_ne _ (by omega)]; exact hu
theorem Does.mono {ops : Array Oper} {ρ ρ' : Rho} {k : Nat} {h : AHeap} {p : Pend} (d : Does P ops ρ k h p) (hs : ∀ id ob, p.new = some (id, ob) → id < h.n → ρ id = .unborn → ρ' id = .unborn) : Does P ops ρ' k h p := by
 rcases d with d | ⟨d, e | ⟨id, ob, h₁, e1, e2, e3, e4, e5⟩⟩
 ·exact .inl d
 ·exact .inr ⟨d, .inl e⟩
 ·exact .inr ⟨d, .inr ⟨id, ob, h₁, e1, hs id ob e1 e4 e2, e3, e4, e5⟩⟩
section
variable {ops : Array Oper} {bs : List Nat} {ρ₀ ρ : Rho} {h₀ h : AHeap} {w₀ w : World} {lc la : Array Bool} {W : List Pend} {a : AAct} {act : Act}
theorem pend_step (O : Orderly ops bs) (hcf : constsOk P ops = true) (I : DInv P ops bs ρ₀ h₀ w₀ lc la W ρ a h act w) {j : Nat} (hj : j ∈ Region.ready .any ops lc) (hla : la.getD j false = true) (rd : Option Nat)
  {Q : Exit → Act → World → Prop} {K : Act → World → Prop} (k : ∀ ρ' act' w', DInv P ops bs ρ₀ h₀ w₀ (lc.setIfInBounds j true) la W ρ' a h act' w' → K act' w') : wpOpIn (fence rd) 0 P ops Q j K act w := by
 obtain ⟨hlt, hlc, hpre⟩ := ready_bef O I.clc hj
 obtain ⟨p, hp, rfl⟩ := I.pend j hla hlc
 obtain ⟨hop, heag, han, hdst, _⟩ := I.op p hp
 have hcfp : constsFlat P p.o = true := List.all_eq_true.1 hcf p.o (by
  rw [← Array.getElem?_toList] at hop; exact List.mem_of_getElem? hop)
 have L : Looks ρ ops p.o p.a act := ⟨by rw [han]; exact I.n, fun t ht => by
  rcases I.reads p hp hlc t ht with ⟨q, _, h1, h2, _⟩ | ⟨h1, _⟩
  ·rw [hpre _ h2] at h1; cases h1
  ·exact h1⟩
 have finish : ∀ v' ρ' w', VRel ρ' p.v v' → HRel ρ' h w' → Adv h₀.n ρ h w ρ' h w' → (∀ q ∈ W, q.i ≠ p.i → lc.getD q.i false = false → Does P ops ρ' h₀.n h q) → K (act.put p.o.dst v') w' := by
  intro v' ρ' w' hv H' A hdo
  refine k ρ' _ w' ?_
  have low : ∀ i, (lc.setIfInBounds p.i true).getD i false = false → i ≠ p.i ∧ lc.getD i false = false := fun i hi => L_false hlt hi
  refine ⟨by simpa using I.slc, I.sla, fun i hi => ?_, fun i hi x hb => ?_, I.cla, fun i h1 h2 => I.pend i h1 (low i h2).2, I.wla, I.uniq, I.op, I.new, fun q hq hl => hdo q hq (low _ hl).1 (low _ hl).2, ?_, fun t => ?_, fun p' hp' hl' t ht => ?_, H', ?_, I.globs.mono A.le, I.adv.trans A⟩
  ·rcases L_true hi with rfl | e
   ·exact hla
   ·exact I.sub i e
  ·rcases L_true hi with rfl | e
   ·exact L_up (hpre x hb)
   ·exact L_up (I.clc i e x hb)
  ·rw [put_size]; exact I.n
  ·rcases I.last t with ⟨q, hq, h1, h2, h3, h4⟩ | ⟨h1, h2⟩
   ·by_cases e : q.i = p.i
    ·obtain rfl := I.uniq q hq p hp e
     refine .inr ⟨?_, fun r hr hl hd => ?_⟩
     ·rw [← h3, put_getD_at act h2 (by rw [← I.n]; exact hdst t h2)]
      exact hv
     ·obtain ⟨ne, hl⟩ := low _ hl
      rcases h4 r hr hl hd with e | e
      ·exact ne e
      ·rw [hpre _ e] at hl; cases hl
    ·exact .inl ⟨q, hq, by rw [L_ne e]; exact h1, h2, h3, fun r hr hl => h4 r hr (low _ hl).2⟩
   ·refine .inr ⟨?_, fun q hq hl => h2 q hq (low _ hl).2⟩
    rw [put_getD act (h2 p hp hlc)]
    exact h1.mono A.le
  ·obtain ⟨ne', hl'⟩ := low _ hl'
   rcases I.reads p' hp' hl' t ht with ⟨q, hq, h1, h2, h3, h4, h5⟩ | ⟨h1, h2⟩
   ·by_cases e : q.i = p.i
    ·obtain rfl := I.uniq q hq p hp e
     refine .inr ⟨?_, fun r hr hl hd hb => ?_⟩
     ·rw [← h4, put_getD_at act h3 (by rw [← I.n]; exact hdst t h3)]
      exact hv
     ·obtain ⟨ne, hl⟩ := low _ hl
      rcases h5 r hr hl hb hd with e | e
      ·exact ne e
      ·rw [hpre _ e] at hl; cases hl
    ·exact .inl ⟨q, hq, by rw [L_ne e]; exact h1, h2, h3, h4, fun r hr hl => h5 r hr (low _ hl).2⟩
   ·refine .inr ⟨?_, fun q hq hl => h2 q hq (low _ hl).2⟩
    rw [put_getD act ?_]
    ·exact h1.mono A.le
    ·intro hd
     rcases O.apart p'.i p.i p'.o p.o ne' (I.op p' hp').1 hop with b | b | b
     ·rw [hpre _ b] at hl'; cases hl'
     ·exact h2 p hp hlc hd b
     ·exact (Apart_spec b.2 hd).1 ht
  ·rw [put_defers]; exact I.marks.mono A.le
 unfold wpOpIn
 rw [hop]
 simp only
 rw [L.wanted]
 rcases I.does p hp hlc with ⟨hw, hv⟩ | ⟨hw, d⟩
 ·rw [if_neg (by rw [hw]; simp)]
  exact ⟨fun _ _ => trivial, finish _ ρ w (by rw [hv]; exact .undef) I.heap (Adv.refl _ _ _ _) fun q hq _ hl => I.does q hq hl⟩
 ·rw [if_pos hw]
  have he := L.eval I.globs hcfp
  rcases d with ⟨hn, ha⟩ | ⟨id, ob, h₁, e1, e2, e3, e4, e5, e6, e7, e8⟩
  ·refine doneBy_ok (ex := ⟨fun _ _ _ _ => none, fun _ _ _ => none⟩) ⟨fun rd c a h e a' h' hh => (by cases hh), fun f args h v h' hh => by cases hh⟩ I.heap I.globs he ha rfl rd fun v' ρ' w' hv H' A => ?_
   exact finish v' ρ' w' hv H' (A.less I.adv.n) fun q hq _ hl => (I.does q hq hl).mono fun id ob _ hid hu => A.stay id hid hu
  ·refine ⟨fun _ _ => trivial, ?_⟩
   rw [Oper.semAt_eq _ _ _ (aop_not_defer e8)]
   have other : ∀ q ∈ W, q.i ≠ p.i → ∀ s, lc.getD q.i false = false → Does P ops (ρ.upd id s) h₀.n h q := fun q hq ne s hl => (I.does q hq hl).mono fun id' ob' hn hid hu => by
    rw [ρ.upd_ne _ ?_]
    ·exact hu
    ·intro e
     subst e
     exact ne (by rw [I.new q hq p hp id' ob' ob hn e1])
   rcases maker_born he e7 e8 w with ⟨g, o', v', b1, b2, b3⟩ | ⟨rfl, v', b2, b3⟩
   ·rw [b2, Oper.uponIn_value]
    obtain ⟨r1, r2⟩ := b3 (ρ.upd id (.live g)) (Rho.le_born e2) (by rw [e6]; exact ρ.upd_same _ _)
    exact finish v' _ _ r1 (I.heap.birth e2 e4 b1 e5 r2) (Adv.birth e2 e3 b1 o') fun q hq ne hl => other q hq ne _ hl
   ·rw [b2, Oper.uponIn_value]
    exact finish v' _ _ (b3 (ρ.upd id .dead) (Rho.le_born e2) (by rw [e6]; exact ρ.upd_same _ _)) (I.heap.lost e2 e4 e5) (Adv.lost e2 e3) fun q hq ne hl => other q hq ne _ hl
end
end
end Go.Am
namespace Go.Am
section
variable {P : Program} {ops : Array Oper} {bs : List Nat} {ρ₀ ρ : Rho} {h₀ h : AHeap} {w₀ w : World} {lc la : Array Bool} {W : List Pend} {a : AAct} {act : Act}
theorem opBy_eager {ex : Ex} {o : Oper} {v : Value} {h' : AHeap} (he : eager o = true) (ho : opBy P ex ops o a h = some (v, h')) :
  (Region.wanted o (ayielded ops a) = false ∧ v = Go.undef ∧ h' = h) ∨ (Region.wanted o (ayielded ops a) = true ∧ aop P o a.eval h = some (.val v h') ∧ (h' = h ∨ ∃ ob, h' = h.push ob)) := by
 unfold opBy at ho
 split at ho
 ·split at ho
  ·rename_i hw
   split at ho
   ·rename_i x hx
    obtain ⟨v₁, h₁, rfl, k⟩ := eager_mild he hx
    cases ho
    exact .inr ⟨hw, hx, k⟩
   ·cases ho
  ·rename_i hw
   cases ho
   exact .inl ⟨hw, rfl, rfl⟩
 ·cases ho
theorem eager_core (O : Orderly ops bs) (I : DInv P ops bs ρ₀ h₀ w₀ lc la W ρ a h act w) {p : Pend} {h' : AHeap} (hi : p.i ∈ Region.ready .any ops la) (ho : ops[p.i]? = some p.o) (he : eager p.o = true) (hpa : p.a = a) (hd : ∀ d, p.o.dst = some d → d < a.n)
  (hn : h.n ≤ h'.n) (hnew : ∀ id ob, p.new = some (id, ob) → id < h'.n) (hdif : ∀ q ∈ W, ∀ id o o', p.new = some (id, o) → q.new = some (id, o') → False) (D : Does P ops ρ h₀.n h' p) (DW : ∀ q ∈ W, lc.getD q.i false = false → Does P ops ρ h₀.n h' q)
  (H' : HRel ρ h' w) (A' : Adv h₀.n ρ₀ h₀ w₀ ρ h' w) : DInv P ops bs ρ₀ h₀ w₀ lc (la.setIfInBounds p.i true) (p :: W) ρ (a.put p.o.dst p.v) h' act w := by
 obtain ⟨hlt, hla, hpre⟩ := ready_bef O I.cla hi
 have hlc : lc.getD p.i false = false := by
  cases e : lc.getD p.i false with
  | false => rfl
  | true => rw [I.sub _ e] at hla; cases hla
 have wne : ∀ q ∈ W, q.i ≠ p.i := fun q hq e => by have := I.wla q hq; rw [e, hla] at this; cases this
 have irr : ¬ Bef bs p.i p.i := fun b => by rw [hpre _ b] at hla; cases hla
 have nb : ∀ q ∈ W, ¬ Bef bs q.i p.i := fun q hq b => by rw [I.cla _ (I.wla q hq) _ b] at hla; cases hla
 have ord : ∀ q ∈ W, (Apart ops q.o p.o = true → False) → Bef bs p.i q.i := fun q hq na => by
  rcases O.apart q.i p.i q.o p.o (wne q hq) (I.op q hq).1 ho with b | b | b
  ·exact b
  ·exact (nb q hq b).elim
  ·exact (na b.1).elim
 have put : ∀ t, p.o.dst ≠ some t → (a.put p.o.dst p.v).tmp t = a.tmp t := fun t ht => aput_tmp a ht
 refine ⟨I.slc, by simpa using I.sla, fun i hi => L_up (I.sub i hi), I.clc, fun i hi x hb => ?_, fun i h1 h2 => ?_, fun q hq => ?_, fun q hq r hr e => ?_, fun q hq => ?_, fun q hq r hr id o o' e1 e2 => ?_, fun q hq hl => ?_, by simpa using I.n, fun t => ?_, fun p' hp' hl' t ht => ?_, H', by rw [AAct.put_marks]; exact I.marks, I.globs, A'⟩
 ·rcases L_true hi with rfl | e
  ·exact L_up (hpre x hb)
  ·exact L_up (I.cla i e x hb)
 ·rcases L_true h1 with rfl | e
  ·exact ⟨p, by simp, rfl⟩
  ·obtain ⟨q, hq, e⟩ := I.pend i e h2
   exact ⟨q, by simp [hq], e⟩
 ·rcases List.mem_cons.1 hq with rfl | hq
  ·exact L_at hlt
  ·exact L_up (I.wla q hq)
 ·rcases List.mem_cons.1 hq with k1 | k1 <;> rcases List.mem_cons.1 hr with k2 | k2
  ·rw [k1, k2]
  ·rw [k1] at e; exact (wne r k2 e.symm).elim
  ·rw [k2] at e; exact (wne q k1 e).elim
  ·exact I.uniq q k1 r k2 e
 ·rcases List.mem_cons.1 hq with rfl | hq
  ·exact ⟨ho, he, by rw [hpa]; simp, fun d hd' => by simpa using hd d hd', hnew⟩
  ·obtain ⟨a1, a2, a3, a4, a5⟩ := I.op q hq
   exact ⟨a1, a2, by simpa using a3, fun d hd' => by simpa using a4 d hd', fun id ob e => Nat.lt_of_lt_of_le (a5 id ob e) hn⟩
 ·rcases List.mem_cons.1 hq with k1 | k1 <;> rcases List.mem_cons.1 hr with k2 | k2
  ·rw [k1, k2]
  ·rw [k1] at e1; exact (hdif r k2 id o o' e1 e2).elim
  ·rw [k2] at e2; exact (hdif q k1 id o' o e2 e1).elim
  ·exact I.new q k1 r k2 id o o' e1 e2
 ·rcases List.mem_cons.1 hq with rfl | hq
  ·exact D
  ·exact DW q hq hl
 ·by_cases e : p.o.dst = some t
  ·refine .inl ⟨p, by simp, hlc, e, (aput_tmp_at a e).symm, fun r hr hl hdr => ?_⟩
   rcases List.mem_cons.1 hr with rfl | hr
   ·exact .inl rfl
   ·exact .inr (ord r hr fun ap => (Apart_spec ap hdr).2 e)
  ·rw [put t e]
   rcases I.last t with ⟨q, hq, h1, h2, h3, h4⟩ | ⟨h1, h2⟩
   ·refine .inl ⟨q, by simp [hq], h1, h2, h3, fun r hr hl hdr => ?_⟩
    rcases List.mem_cons.1 hr with rfl | hr
    ·exact (e hdr).elim
    ·exact h4 r hr hl hdr
   ·refine .inr ⟨h1, fun q hq hl => ?_⟩
    rcases List.mem_cons.1 hq with rfl | hq
    ·exact e
    ·exact h2 q hq hl
 ·rcases List.mem_cons.1 hp' with kp | hp'
  ·subst kp
   rw [hpa]
   rcases I.last t with ⟨q, hq, h1, h2, h3, h4⟩ | ⟨h1, h2⟩
   ·refine .inl ⟨q, by simp [hq], h1, ord q hq fun ap => (Apart_spec ap h2).1 ht, h2, h3, fun r hr hl hb hdr => ?_⟩
    rcases List.mem_cons.1 hr with rfl | hr
    ·exact (irr hb).elim
    ·exact h4 r hr hl hdr
   ·refine .inr ⟨h1, fun q hq hl hdq hb => ?_⟩
    rcases List.mem_cons.1 hq with rfl | hq
    ·exact irr hb
    ·exact h2 q hq hl hdq
  ·rcases I.reads p' hp' hl' t ht with ⟨q, hq, h1, h2, h3, h4, h5⟩ | ⟨h1, h2⟩
   ·refine .inl ⟨q, by simp [hq], h1, h2, h3, h4, fun r hr hl hb hdr => ?_⟩
    rcases List.mem_cons.1 hr with k1 | hr
    ·rw [k1] at hb; exact (nb p' hp' hb).elim
    ·exact h5 r hr hl hb hdr
   ·refine .inr ⟨h1, fun q hq hl hdq hb => ?_⟩
    rcases List.mem_cons.1 hq with k1 | hq
    ·rw [k1] at hb; exact nb p' hp' hb
    ·exact h2 q hq hl hdq hb
theorem still_does {k : Nat} {p : Pend} {ρ' : Rho} {h' : AHeap} (D : Does P ops ρ k h p) (he : eager p.o = true) (hst : still P ops p h' = true) (hn : h.n ≤ h'.n) (hu : ∀ id, id < h.n → ρ id = .unborn → ρ' id = .unborn) : Does P ops ρ' k h' p := by
 rcases D with d | ⟨d, e⟩
 ·exact .inl d
 ·refine .inr ⟨d, ?_⟩
  unfold still at hst
  rw [d] at hst
  simp only at hst
  rcases e with ⟨e1, e2⟩ | ⟨id, ob, h₁, e1, e2, e3, e4, e5, e6⟩
  ·rw [e1] at hst
   simp only at hst
   split at hst
   ·rename_i v h₂ hv
    simp only [Bool.and_eq_true] at hst
    obtain rfl := beqD_eq hst.1
    obtain ⟨v₁, h₃, r1, r2⟩ := eager_mild he hv
    injection r1 with r1 r3
    subst r1 r3
    have hnn : h₂.n = h'.n := Nat.eq_of_beq_eq_true hst.2
    rcases r2 with rfl | ⟨ob, rfl⟩
    ·exact .inl ⟨e1, hv⟩
    ·simp at hnn
   ·cases hst
  ·rw [e1] at hst
   simp only at hst
   split at hst
   ·rename_i o ho
    obtain rfl := beqO_eq hst
    exact .inr ⟨id, o, h₁, e1, hu id e4 e2, e3, Nat.lt_of_lt_of_le e4 hn, ho, e6⟩
   ·cases hst
theorem eager_same (O : Orderly ops bs) {ex : Ex} (I : DInv P ops bs ρ₀ h₀ w₀ lc la W ρ a h act w) {i : Nat} {o : Oper} {v : Value} {h' : AHeap} (hi : i ∈ Region.ready .any ops la) (ho : ops[i]? = some o) (he : eager o = true) (hop : opBy P ex ops o a h = some (v, h')) (hn : h'.n = h.n) :
  DInv P ops bs ρ₀ h₀ w₀ lc (la.setIfInBounds i true) ({ i, o, a, v, new := none } :: W) ρ (a.put o.dst v) h' act w := by
 have hh : h' = h ∧ Does P ops ρ h₀.n h { i, o, a, v, new := none } := by
  rcases opBy_eager he hop with ⟨k1, k2, k3⟩ | ⟨k1, k2, k3 | ⟨ob, k3⟩⟩
  ·exact ⟨k3, .inl ⟨k1, k2⟩⟩
  ·subst k3; exact ⟨rfl, .inr ⟨k1, .inl ⟨rfl, k2⟩⟩⟩
  ·subst k3; simp at hn
 obtain ⟨rfl, D⟩ := hh
 exact eager_core O I (p := { i, o, a, v, new := none }) hi ho he rfl (opBy_dst hop) (Nat.le_refl _) (fun id ob e => by cases e) (fun q hq id o o' e => by cases e) D I.does I.heap I.adv
theorem eager_more (O : Orderly ops bs) {ex : Ex} (I : DInv P ops bs ρ₀ h₀ w₀ lc la W ρ a h act w) {i : Nat} {o : Oper} {v : Value} {h' : AHeap} (hi : i ∈ Region.ready .any ops la) (ho : ops[i]? = some o) (he : eager o = true) (hop : opBy P ex ops o a h = some (v, h')) (hn : h'.n = h.n + 1)
  {ob : AObj} (hg : h'.get h.n = some ob) (hm : maker o ob = true) (hst : W.all (still P ops · h') = true) :
  DInv P ops bs ρ₀ h₀ w₀ lc (la.setIfInBounds i true) ({ i, o, a, v, new := some (h.n, ob) } :: W) ρ (a.put o.dst v) h' act w := by
 have hh : h' = h.push ob ∧ Does P ops ρ h₀.n (h.push ob) { i, o, a, v, new := some (h.n, ob) } := by
  rcases opBy_eager he hop with ⟨k1, k2, k3⟩ | ⟨k1, k2, k3 | ⟨ob', k3⟩⟩
  ·subst k3; simp at hn
  ·subst k3; simp at hn
  ·subst k3
   have : ob' = ob := by simpa [AHeap.get_push] using hg
   subst this
   exact ⟨rfl, .inr ⟨k1, .inr ⟨h.n, ob', h, rfl, I.heap.bound _ (Nat.le_refl _), I.adv.n, by simp, by simp [AHeap.get_push], rfl, hm, k2⟩⟩⟩
 obtain ⟨rfl, D⟩ := hh
 refine eager_core O I (p := { i, o, a, v, new := some (h.n, ob) }) hi ho he rfl (opBy_dst hop) (by simp) (fun id ob e => by cases e; simp) (fun q hq id o o' e1 e2 => ?_) D (fun q hq hl => ?_) (I.heap.push ob) (I.adv.trans ((Adv.push I.heap ob).less I.adv.n))
 ·cases e1
  have := (I.op q hq).2.2.2.2 _ _ e2
  omega
 ·exact still_does (I.does q hq hl) (I.op q hq).2.1 (List.all_eq_true.1 hst q hq) (by simp) fun id _ hu => hu
theorem act_step {ex : Ex} (E : ExOk P ex) (O : Orderly ops bs) (hcf : constsOk P ops = true) (I : DInv P ops bs ρ₀ h₀ w₀ lc la W ρ a h act w) {i : Nat} {o : Oper} {v : Value} {h' : AHeap} (hi : i ∈ Region.ready .any ops lc) (hla : la.getD i false = false) (ho : ops[i]? = some o)
  (hop : opBy P ex ops o a h = some (v, h')) (hst : (W.filter fun p => !(bs.getD i 0).testBit p.i).all (still P ops · h') = true) (rd : Option Nat)
  {Q : Exit → Act → World → Prop} {K : Act → World → Prop} (k : ∀ ρ' act' w', DInv P ops bs ρ₀ h₀ w₀ (lc.setIfInBounds i true) (la.setIfInBounds i true) (W.filter fun p => !(bs.getD i 0).testBit p.i) ρ' (a.put o.dst v) h' act' w' → K act' w') :
  wpOpIn (fence rd) 0 P ops Q i K act w := by
 obtain ⟨hlt, hlc, hpre⟩ := ready_bef O I.clc hi
 have hlta : i < la.size := by rw [I.sla, ← I.slc]; exact hlt
 have hcfo : constsFlat P o = true := List.all_eq_true.1 hcf o (by
  rw [← Array.getElem?_toList] at ho; exact List.mem_of_getElem? ho)
 have wne : ∀ q ∈ W, q.i ≠ i := fun q hq e => by have := I.wla q hq; rw [e, hla] at this; cases this
 have apart : ∀ q ∈ W, lc.getD q.i false = false → Apart ops q.o o = true ∧ Apart ops o q.o = true := fun q hq hl => by
  rcases O.apart q.i i q.o o (wne q hq) (I.op q hq).1 ho with b | b | b
  ·rw [hpre _ b] at hl; cases hl
  ·rw [I.cla _ (I.wla q hq) _ b] at hla; cases hla
  ·exact b
 have L : Looks ρ ops o a act := ⟨I.n, fun t ht => by
  rcases I.last t with ⟨q, hq, h1, h2, _⟩ | ⟨h1, _⟩
  ·exact ((Apart_spec (apart q hq h1).1 h2).1 ht).elim
  ·exact h1⟩
 unfold wpOpIn
 rw [ho]
 simp only
 refine opBy_looks E I.heap I.globs L hcfo hop rd fun v' ρ' w' hv H' A => k ρ' _ w' ?_
 have low : ∀ j, (lc.setIfInBounds i true).getD j false = false → j ≠ i ∧ lc.getD j false = false := fun j hj => L_false hlt hj
 have sub : ∀ q ∈ W.filter fun p => !(bs.getD i 0).testBit p.i, q ∈ W := fun q hq => (List.mem_filter.1 hq).1
 have keep : ∀ q ∈ W, lc.getD q.i false = false → q ∈ W.filter fun p => !(bs.getD i 0).testBit p.i := fun q hq hl => by
  refine List.mem_filter.2 ⟨hq, ?_⟩
  cases e : (bs.getD i 0).testBit q.i with
  | false => rfl
  | true => rw [hpre q.i e] at hl; cases hl
 refine ⟨by simpa using I.slc, by simpa using I.sla, fun j hj => ?_, fun j hj x hb => ?_, fun j hj x hb => ?_, fun j h1 h2 => ?_, fun q hq => L_up (I.wla q (sub q hq)), fun q hq r hr => I.uniq q (sub q hq) r (sub r hr), fun q hq => ?_, fun q hq r hr => I.new q (sub q hq) r (sub r hr), fun q hq hl => ?_, ?_, fun t => ?_, fun p hp hl t ht => ?_, H', ?_, I.globs.mono A.le, I.adv.trans (A.less I.adv.n)⟩
 ·rcases L_true hj with rfl | e
  ·exact L_at hlta
  ·exact L_up (I.sub j e)
 ·rcases L_true hj with rfl | e
  ·exact L_up (hpre x hb)
  ·exact L_up (I.clc j e x hb)
 ·rcases L_true hj with rfl | e
  ·exact L_up (I.sub x (hpre x hb))
  ·exact L_up (I.cla j e x hb)
 ·obtain ⟨ne, hl⟩ := low j h2
  rw [L_ne ne] at h1
  obtain ⟨q, hq, rfl⟩ := I.pend j h1 hl
  exact ⟨q, keep q hq hl, rfl⟩
 ·obtain ⟨a1, a2, a3, a4, a5⟩ := I.op q (sub q hq)
  exact ⟨a1, a2, by simpa using a3, fun d hd => by simpa using a4 d hd, fun id ob e => Nat.lt_of_lt_of_le (a5 id ob e) A.n⟩
 ·exact still_does (I.does q (sub q hq) (low _ hl).2) (I.op q (sub q hq)).2.1 (List.all_eq_true.1 hst q hq) A.n fun id hid hu => A.stay id hid hu
 ·rw [put_size]; simpa using I.n
 ·by_cases e : o.dst = some t
  ·refine .inr ⟨?_, fun q hq hl hd => (Apart_spec (apart q (sub q hq) (low _ hl).2).1 hd).2 e⟩
   rw [aput_tmp_at a e, put_getD_at act e (by rw [← I.n]; exact opBy_dst hop t e)]
   exact hv
  ·rw [aput_tmp a e, put_getD act e]
   rcases I.last t with ⟨q, hq, h1, h2, h3, h4⟩ | ⟨h1, h2⟩
   ·exact .inl ⟨q, keep q hq h1, by rw [L_ne (wne q hq)]; exact h1, h2, h3, fun r hr hl => h4 r (sub r hr) (low _ hl).2⟩
   ·exact .inr ⟨h1.mono A.le, fun q hq hl => h2 q (sub q hq) (low _ hl).2⟩
 ·have hl := (low _ hl).2
  have e : o.dst ≠ some t := fun e => (Apart_spec (apart p (sub p hp) hl).2 e).1 ht
  rw [put_getD act e]
  rcases I.reads p (sub p hp) hl t ht with ⟨q, hq, h1, h2, h3, h4, h5⟩ | ⟨h1, h2⟩
  ·exact .inl ⟨q, keep q hq h1, by rw [L_ne (wne q hq)]; exact h1, h2, h3, h4, fun r hr hl => h5 r (sub r hr) (low _ hl).2⟩
  ·exact .inr ⟨h1.mono A.le, fun q hq hl => h2 q (sub q hq) (low _ hl).2⟩
 ·rw [put_defers, AAct.put_marks]; exact I.marks.mono A.le
end
end Go.Am
namespace Go.Am
section
variable {P : Program} {ops : Array Oper} {bs : List Nat} {ρ₀ ρ : Rho} {h₀ h : AHeap} {w₀ w : World} {lc la : Array Bool} {W : List Pend} {a : AAct} {act : Act}
def cnt (l : Array Bool) : Nat := l.toList.count false
theorem cnt_set {l : Array Bool} {j : Nat} (hj : j < l.size) (hl : l.getD j false = false) : cnt (l.setIfInBounds j true) + 1 = cnt l := by
 unfold cnt
 rw [Array.toList_setIfInBounds]
 have hj' : j < l.toList.length := by simpa using hj
 have hv : l.toList[j] = false := by simpa [hj] using hl
 have hpos : 0 < l.toList.count false := List.count_pos_iff.2 (by rw [← hv]; exact List.getElem_mem hj')
 rw [List.count_set hj', hv, if_pos (by decide), if_neg (by decide)]
 omega
theorem cnt_zero {l : Array Bool} (h : cnt l = 0) {j : Nat} (hj : j < l.size) : l.getD j false = true := by
 unfold cnt at h
 rw [List.count_eq_zero] at h
 cases e : l.getD j false with
 | true => rfl
 | false =>
  have hv : l.toList[j]'(by simpa using hj) = false := by simpa [hj] using e
  exact (h (by rw [← hv]; exact List.getElem_mem _)).elim
theorem DInv.stuck (O : Orderly ops bs) (I : DInv P ops bs ρ₀ h₀ w₀ lc la W ρ a h act w) (hr : Region.ready .any ops lc = []) : ∀ j, la.getD j false = true → lc.getD j false = true := by
 intro j
 induction j using Nat.strongRecOn with
 | _ j ih =>
  intro hla
  cases hl : lc.getD j false with
  | true => rfl
  | false =>
   obtain ⟨p, hp, rfl⟩ := I.pend j hla hl
   have hop := (I.op p hp).1
   have hlt : p.i < lc.size := by rw [I.slc]; exact (Array.getElem?_eq_some_iff.1 hop).1
   have : p.i ∈ Region.ready .any ops lc := mem_ready.2 ⟨by simpa [hlt] using hl, p.o, hop, fun e he hb =>
    ih e.on (O.back p.i p.o hop e he hb) (I.cla _ hla _ ((O.bef p.i p.o hop e.on).2 ⟨e, he, hb, .inl rfl⟩))⟩
   rw [hr] at this
   cases this
theorem DInv.ready_up (I : DInv P ops bs ρ₀ h₀ w₀ lc la W ρ a h act w) {i : Nat} (hi : i ∈ Region.ready .any ops lc) (hla : la.getD i false = false) : i ∈ Region.ready .any ops la := by
 obtain ⟨h0, o, ho, hall⟩ := mem_ready.1 hi
 have hlt : i < la.size := by rw [I.sla]; exact (Array.getElem?_eq_some_iff.1 ho).1
 exact mem_ready.2 ⟨by simpa [hlt] using hla, o, ho, fun e he hb => I.sub _ (hall e he hb)⟩
theorem DInv.ready_down (I : DInv P ops bs ρ₀ h₀ w₀ lc la W ρ a h act w) (hd : ∀ j, la.getD j false = true → lc.getD j false = true) {i : Nat} (hi : i ∈ Region.ready .any ops la) : i ∈ Region.ready .any ops lc := by
 obtain ⟨h0, o, ho, hall⟩ := mem_ready.1 hi
 have hlt : i < ops.size := (Array.getElem?_eq_some_iff.1 ho).1
 have ha : la.getD i false = false := by
  have : i < la.size := by rw [I.sla]; exact hlt
  simpa [this] using h0
 refine mem_ready.2 ⟨?_, o, ho, fun e he hb => hd _ (hall e he hb)⟩
 have hl : lc.getD i false = false := by
  cases e : lc.getD i false with
  | false => rfl
  | true => rw [I.sub _ e] at ha; cases ha
 have : i < lc.size := by rw [I.slc]; exact hlt
 simpa [this] using hl
theorem catch_up (O : Orderly ops bs) (hcf : constsOk P ops = true) (rd : Option Nat) {Q : Exit → Act → World → Prop}
  (step : ∀ fuel lc ρ act w, DInv P ops bs ρ₀ h₀ w₀ lc la W ρ a h act w → cnt lc ≤ fuel + 1 → ∀ i ∈ Region.ready .any ops lc, la.getD i false = false → wpOpIn (fence rd) 0 P ops Q i (wpAnyIn (fence rd) 0 P .any ops Q fuel (lc.setIfInBounds i true)) act w)
  (fin : ∀ lc ρ act w, DInv P ops bs ρ₀ h₀ w₀ lc la W ρ a h act w → Region.ready .any ops lc = [] → Q .normal act w) :
  ∀ fuel lc ρ act w, DInv P ops bs ρ₀ h₀ w₀ lc la W ρ a h act w → cnt lc ≤ fuel → wpAnyIn (fence rd) 0 P .any ops Q fuel lc act w := by
 intro fuel
 induction fuel with
 | zero =>
  intro lc ρ act w I hc
  have hr : Region.ready .any ops lc = [] := by
   cases hr : Region.ready .any ops lc with
   | nil => rfl
   | cons i l =>
    have hi : i ∈ Region.ready .any ops lc := by rw [hr]; simp
    obtain ⟨hlt, hl, _⟩ := ready_bef O I.clc hi
    rw [cnt_zero (by omega) hlt] at hl
    cases hl
  exact ⟨hr, fin lc ρ act w I hr⟩
 | succ fuel ih =>
  intro lc ρ act w I hc
  refine ⟨fun hr => fin lc ρ act w I hr, fun i hi => ?_⟩
  cases hla : la.getD i false with
  | false => exact step fuel lc ρ act w I hc i hi hla
  | true =>
   obtain ⟨hlt, hl, _⟩ := ready_bef O I.clc hi
   refine pend_step O hcf I hi hla rd fun ρ' act' w' I' => ih _ ρ' act' w' I' ?_
   have := cnt_set hlt hl
   omega
theorem pickNext_none {ready : List Nat} (h : pickNext ops ready = some none) : ready = [] := by
 unfold pickNext at h
 split at h
 ·cases h
 ·split at h
  ·rfl
  ·cases h
  ·cases h
theorem pickNext_some {ready : List Nat} {i : Nat} (h : pickNext ops ready = some (some i)) : i ∈ ready ∧ ∀ o, ops[i]? = some o → eager o = false → ready = [i] := by
 unfold pickNext at h
 split at h
 ·rename_i j hj
  cases h
  refine ⟨List.mem_of_find?_eq_some hj, fun o ho he => ?_⟩
  have := List.find?_some hj
  rw [ho] at this
  simp [he] at this
 ·split at h
  ·cases h
  ·cases h
   exact ⟨by simp, fun _ _ _ => rfl⟩
  ·cases h
theorem draw_ok {ex : Ex} (E : ExOk P ex) (O : Orderly ops bs) (hcf : constsOk P ops = true) (rd : Option Nat) {Q : Exit → Act → World → Prop} {a' : AAct} {h' : AHeap} (hQ : ∀ act' w', RegPost P ρ₀ h₀ w₀ a' h' act' w' → Q .normal act' w') :
  ∀ n lc la W ρ a h act w fuel, DInv P ops bs ρ₀ h₀ w₀ lc la W ρ a h act w → runDraw P ex ops bs n la W a h = some (a', h') → cnt lc ≤ fuel → wpAnyIn (fence rd) 0 P .any ops Q fuel lc act w := by
 intro n
 induction n with
 | zero => intro lc la W ρ a h act w fuel I hr; cases hr
 | succ n ih =>
  intro lc la W ρ a h act w fuel I hr hc
  unfold runDraw at hr
  split at hr
  ·cases hr
  ·rename_i hp
   cases hr
   have hrdy := pickNext_none hp
   refine catch_up O hcf rd (fun fuel lc ρ act w I hc i hi hla => ?_) (fun lc ρ act w I hr => ?_) fuel lc ρ act w I hc
   ·have := I.ready_up hi hla
    rw [hrdy] at this
    cases this
   ·refine hQ act w ⟨ρ, ⟨I.heap, ⟨I.n, fun t => ?_⟩, I.marks, I.globs⟩, I.adv⟩
    rcases I.last t with ⟨q, hq, h1, _⟩ | ⟨h1, _⟩
    ·rw [I.stuck O hr _ (I.wla q hq)] at h1; cases h1
    ·exact h1
  ·rename_i i hp
   obtain ⟨hi, hone⟩ := pickNext_some hp
   split at hr
   ·cases hr
   ·rename_i o ho
    split at hr
    ·cases hr
    ·rename_i v h₁ hop
     split at hr
     ·rename_i he
      split at hr
      ·rename_i hn
       have hn : h₁.n = h.n := by simpa using hn
       have J := eager_same O I hi ho he hop hn
       exact ih _ _ _ _ _ _ _ _ fuel J hr hc
      ·rename_i hn
       split at hr
       ·rename_i ob hn' hg
        split at hr
        ·rename_i hst
         rw [Bool.and_eq_true] at hst
         exact ih _ _ _ _ _ _ _ _ fuel (eager_more O I hi ho he hop (by simpa using hn') hg hst.1 hst.2) hr hc
        ·cases hr
       ·cases hr
     ·rename_i he
      have honly := hone o ho he
      simp only at hr
      split at hr
      ·rename_i hst
       have hla : la.getD i false = false := (ready_bef O I.cla hi).2.1
       refine catch_up O hcf rd (fun fuel lc ρ act w I hc j hj hlj => ?_) (fun lc ρ act w I hr => ?_) fuel lc ρ act w I hc
       ·have hji : j = i := by
         have := I.ready_up hj hlj
         rw [honly] at this
         simpa using this
        subst hji
        obtain ⟨hlt, hl, _⟩ := ready_bef O I.clc hj
        refine act_step E O hcf I hj hlj ho hop hst rd fun ρ' act' w' I' => ih _ _ _ ρ' _ _ act' w' fuel I' hr ?_
        have := cnt_set hlt hl
        omega
       ·have := I.ready_down (I.stuck O hr) hi
        rw [hr] at this
        cases this
      ·cases hr
theorem region_draw_ok {ex : Ex} (E : ExOk P ex) (hm : P.follows .mixedOrders = true) {id : Nat} (S : SRel P ρ a h act w) (hcf : constsOk P ops = true) (ho : orderly ops = true) {a' : AAct} {h' : AHeap}
  (hr : runDraw P ex ops (befs ops.toList []) (ops.size + 1) (Array.replicate ops.size false) [] a h = some (a', h')) (rd : Option Nat) {Q : Exit → Act → World → Prop}
  (k : ∀ act' w', RegPost P ρ h w a' h' act' w' → Q .normal act' w') : (Code.region id ops true).wpIn (fence rd) 0 P Q act w := by
 refine wpIn_region_any hm ?_
 have none : ∀ i, ¬ ((Array.replicate ops.size false).getD i false = true) := fun i => by
  rw [Array.getD_eq_getD_getElem?, Array.getElem?_replicate]
  split <;> simp
 refine draw_ok E (orderly_ok ho) hcf rd k _ _ _ [] ρ a h act _ ops.size ⟨by simp, by simp, fun i hi => hi, fun j hj => (none j hj).elim, fun j hj => (none j hj).elim, fun j hj => (none j hj).elim, fun p hp => (by cases hp), fun p hp => (by cases hp), fun p hp => (by cases hp), fun p hp => (by cases hp), fun p hp => (by cases hp), S.tmps.size,
  fun t => .inr ⟨S.tmps.tmp t, fun q hq => by cases hq⟩, fun p hp => (by cases hp), S.heap.drew _, S.marks, S.globs, Adv.drew _ _ _ _ _⟩ hr ?_
 unfold cnt
 simp
end
end Go.Am
namespace Go.Am
section
variable {P : Program} {ρ : Rho} {h : AHeap} {w : World}
theorem WpX.of {rd : Option Nat} {c : Code} {Q : Exit → Act → World → Prop} {act : Act} {w : World} (h : c.wpIn (fence rd) 0 P Q act w) (hn : ∀ b, c ≠ .loop b) : WpX rd P c Q act w := ⟨h, fun b e => (hn b e).elim⟩
theorem ExPost.trans {ρ₁ : Rho} {h₁ : AHeap} {w₁ : World} (A : Adv h.n ρ h w ρ₁ h₁ w₁) {e : Exit} {a' : AAct} {h' : AHeap} {e' : Exit} {act' : Act} {w' : World} (k : ExPost P ρ₁ h₁ w₁ e a' h' e' act' w') : ExPost P ρ h w e a' h' e' act' w' := by
 obtain ⟨h1, ρ', S, A'⟩ := k
 exact ⟨h1, ρ', S, A.trans (A'.less A.n)⟩
theorem eval_bool {a : AAct} {act : Act} (T : TmpsRel ρ a act.tmps) {x : Operand} {b : Bool} (he : a.eval x = .bool b) : act.eval x = .bool b := by
 cases x with
 | tmp t =>
  have k := T.tmp t
  simp only [AAct.eval] at he
  rw [he] at k
  exact k.bool
 | const v => exact he
 | global g => cases he
 | func f => cases he
def noGoto (Q : Exit → Act → World → Prop) : Exit → Act → World → Prop
 | .goto _, _, _ => False
 | e, a, w => Q e a w
theorem wpIn_scope {F : Fence} {n : Nat} {Q : Exit → Act → World → Prop} {a : Act} {w : World} {c : Code} (h : c.wpIn F n P (noGoto Q) a w) : (Code.scope c).wpIn F n P Q a w := by
 intro b k cs hro hb hr
 have h0 : (lone (b.atR a (.code (.scope c) :: k)) cs w).fenced P F := fenced_calm hb hr rfl
 have s1 : step P (lone (b.atR a (.code (.scope c) :: k)) cs w) = .next (lone (b.atR a (.code c :: .inScope c :: k)) cs w) := step_lone_go (by simp [stepG, stepG.exec, Frame.atR])
 have s2 : ∀ a w, step P (lone (b.atR a (.inScope c :: k)) cs w) = .next (lone (b.atR a k) cs w) := fun a w => step_lone_go (by simp [stepG, stepG.exec, Frame.atR])
 obtain ⟨e, a₁, w₁, hq, harr⟩ := h b (.inScope c :: k) cs hro hb hr
 cases e with
 | normal => exact ⟨.normal, a₁, w₁, hq, .head h0 s1 (StepsIn.trans harr (.one (fenced_calm hb hr rfl) (s2 _ _)))⟩
 | exit id =>
  have hx : exitTo id (.inScope c :: k) = exitTo id k := by simp [exitTo]
  exact ⟨.exit id, a₁, w₁, hq, fun k' hk => .head h0 s1 (harr.1 k' (by rw [hx]; exact hk)),
   fun hr' hk => let ⟨k₁, h1, h2⟩ := harr.2 hr' (by rw [hx]; exact hk); ⟨k₁, h1, .head h0 s1 h2⟩⟩
 | goto l => exact hq.elim
 | ret => exact ⟨_, a₁, w₁, hq, .of_steps (.one h0 s1) harr⟩
 | panic ch => exact ⟨_, a₁, w₁, hq, .of_steps (.one h0 s1) harr⟩
 | outgrown => exact ⟨_, a₁, w₁, hq, .of_steps (.one h0 s1) harr⟩
theorem enterLoop_ok {a : AAct} {act : Act} (S : SRel P ρ a h act w) {rd rd' : Option Nat} (R : RdRel ρ rd rd') {d : Nat} {mark : List Nat} {h₁ : AHeap} (hp : rangeIn rd h = some (d, mark, h₁)) (fn : FuncId) (ps : Array Tmp) (assign body : Code) :
  ∃ l' mk w₁ ρ₁, (Instr.enterLoop fn act.tmps ps assign body rd').run P w = .ok (l', mk) w₁ ∧ ρ₁ h₁.n = .live ⟨l', 0, 0, 0⟩ ∧
   SRel P ρ₁ { n := a.n, t := a.t, marks := mark ++ a.marks } (h₁.push (.loop .ready none a ps assign body d)) { act with defers := mk ++ act.defers } w₁ ∧ Adv h.n ρ h w ρ₁ (h₁.push (.loop .ready none a ps assign body d)) w₁ := by
 cases rd with
 | none =>
  cases rd' with
  | some _ => exact R.elim
  | none =>
   simp only [rangeIn, Option.some.injEq, Prod.mk.injEq] at hp
   obtain ⟨rfl, rfl, rfl⟩ := hp
   obtain ⟨H1, A1⟩ := S.heap.new ⟨w.heap.size, 0, 0, 0⟩ rfl .defd (.deferred (some [])) rfl
   have hT := S.tmps
   have hb : BRel (((ρ.upd h.n (.live ⟨w.heap.size, 0, 0, 0⟩))).upd (h.push .defd).n (.live ⟨(w.alloc (.deferred (some []))).heap.size, 0, 0, 0⟩)) h.n w.heap.size := by
    unfold BRel
    rw [Rho.upd_ne _ _ (by simp), Rho.upd_same]
   obtain ⟨H2, A2⟩ := H1.new ⟨(w.alloc (.deferred (some []))).heap.size, 0, 0, 0⟩ rfl (.loop .ready none a ps assign body h.n)
    (.loop { state := .ready, pending := none, fn, tmps := act.tmps, params := ps, assign, body, defers := w.heap.size })
    ⟨_, rfl, rfl, rfl, (hT.mono A1.le).mono (Rho.le_born (H1.bound _ (Nat.le_refl _))), rfl, rfl, rfl, hb⟩
   refine ⟨w.heap.size + 1, _, _, _, run_enterLoop_outer _ _ _ _ _, ?_, ⟨H2, ?_, ?_, ?_⟩, A1.trans (A2.less A1.n)⟩
   ·rw [Rho.upd_same]; simp
   ·exact ⟨hT.size, ((hT.mono A1.le).mono A2.le).tmp⟩
   ·have M := S.marks.mono (Rho.le_trans A1.le A2.le)
    refine ⟨by simp [M.1], fun i m d hm hd => ?_⟩
    cases i with
    | zero =>
     simp at hm hd
     subst hm hd
     exact ⟨_, rfl, hb⟩
    | succ i => exact M.2 i m d (by simpa using hm) (by simpa using hd)
   ·exact (S.globs.mono A1.le).mono A2.le
 | some l =>
  cases rd' with
  | none => exact R.elim
  | some l' =>
   have R : BRel ρ l l' := R
   simp only [rangeIn] at hp
   split at hp
   ·rename_i hg
    simp only [Option.some.injEq, Prod.mk.injEq] at hp
    obtain ⟨rfl, rfl, rfl⟩ := hp
    obtain ⟨g, hl⟩ := S.heap.get_live hg (by simp) R.born
    obtain rfl := R.live hl
    obtain ⟨o, o', k1, k2, k3⟩ := S.heap.obj l g hl
    rw [hg] at k1
    cases k1
    obtain ⟨L, rfl, r1, r2, r3, r4, r5, r6, r7⟩ := k3
    have hle := Rho.le_born (s := .live ⟨w.heap.size, 0, 0, 0⟩) (S.heap.bound h.n (Nat.le_refl _))
    obtain ⟨H2, A2⟩ := S.heap.new ⟨w.heap.size, 0, 0, 0⟩ rfl (.loop .ready none a ps assign body _)
     (.loop { state := .ready, pending := none, fn, tmps := act.tmps, params := ps, assign, body, defers := L.defers })
     ⟨_, rfl, rfl, rfl, S.tmps.mono hle, rfl, rfl, rfl, r7.mono hle⟩
    refine ⟨w.heap.size, [], _, _, ?_, Rho.upd_same _ _ _, ⟨H2, ⟨S.tmps.size, (S.tmps.mono hle).tmp⟩, S.marks.mono hle, S.globs.mono hle⟩, A2⟩
    unfold Instr.enterLoop
    simp only [Sem.run_bind, run_getLoop k2, run_newObj_alloc, Result.andThen, Sem.run_pure]
   ·cases hp
theorem rangeBy_ok {ex : Ex} (E : ExOk P ex) {a : AAct} {act : Act} (S : SRel P ρ a h act w) {rd rd' : Option Nat} (R : RdRel ρ rd rd') {f : Operand} {ps : Array Tmp} {assign body : Code} {e : Exit} {a' : AAct} {h' : AHeap}
  (hr : rangeBy P ex rd f ps assign body a h = some (e, a', h')) : (Code.rangeFunc f ps assign body).wpIn (fence rd') 0 P (ExPost P ρ h w e a' h') act w := by
 unfold rangeBy at hr
 split at hr
 ·rename_i d mark h₁ hp
  split at hr
  ·rename_i g first captured hv
   have hfv : ∃ first' captured', act.eval f = .func (.func g) first' captured' ∧ ARel (VRel ρ) first first' ∧ ARel (VRel ρ) captured captured' := by
    cases f with
    | const v => cases hv
    | tmp t =>
     have k := S.tmps.tmp t
     simp only [fval, AAct.eval] at hv
     rw [hv] at k
     obtain ⟨fn', f', c', q, h1, h2, h3⟩ := k.unfold
     have h1 : fn' = .func g := h1
     subst h1
     exact ⟨f', c', q, h2, h3⟩
    | global g => cases hv
    | func f =>
     cases hv
     exact ⟨#[], #[], rfl, ARel.refl_of fun x hx => by simp at hx, ARel.refl_of fun x hx => by simp at hx⟩
   obtain ⟨first', captured', hev, hA1, hA2⟩ := hfv
   split at hr
   ·rename_i fn hfn
    split at hr
    ·cases hr
    ·rename_i hnm
     have hnm : ¬ fn.name = "runtime.NumGoroutine" ∧ fn.body.isNone = false := by simpa using hnm
     obtain ⟨bd, hbd⟩ : ∃ bd, fn.body = some bd := by
      cases hb : fn.body with
      | none => rw [hb] at hnm; simp at hnm
      | some bd => exact ⟨bd, rfl⟩
     split at hr
     ·rename_i v₂ h₂ hc
      refine wpIn_rangeFunc fun fnId _ => ?_
      obtain ⟨l', mk, w₁, ρ₁, q1, q2, S₁, A₁⟩ := enterLoop_ok S R hp fnId ps assign body
      have hy : VRel ρ₁ (.func (.yield h₁.n) #[] #[]) (.func (.yield l') #[] #[]) :=
       .fold ⟨_, #[], #[], rfl, ⟨l', rfl, by simp [BRel, q2]⟩, ARel.refl_of fun x hx => by simp at hx, ARel.refl_of fun x hx => by simp at hx⟩
      have hy1 : ARel (VRel ρ₁) #[.func (.yield h₁.n) #[] #[]] #[.func (.yield l') #[] #[]] := ARel.of_LRel (a := [_]) (b := [_]) (LRel.cons hy LRel.nil)
      have hA := ((hA1.mono fun _ _ k => k.mono A₁.le).append hy1).append (hA2.mono fun _ _ k => k.mono A₁.le)
      have C := acallBy_ok E S₁.heap S₁.globs hA hc rd'
      have hlead : ∀ f', Target.leads P w₁ (.fn (.func g) captured') (first' ++ #[.func (.yield l') #[] #[]]) = some f' → (fence rd').fn f' := fun _ _ => trivial
      have hres : (resolve act.eval (rangeCall f l') 0).run P w₁ = .ok { target := .fn (.func g) captured', args := first' ++ #[.func (.yield l') #[] #[]] } w₁ := by
       simp only [resolve]
       rw [hev]
       simp [Deferred.ofValue, Act.eval]
      have hinv : (invoke (.fn (.func g) captured') (first' ++ #[.func (.yield l') #[] #[]])).run P w₁ = .ok (.enter g (first' ++ #[.func (.yield l') #[] #[]] ++ captured')) w₁ := by
       simp [invoke, callFunc, hfn, hnm.1, hbd]
      have C' : CallsIn (fence rd') (0 - 1) P g (first' ++ #[.func (.yield l') #[] #[]] ++ captured') w₁ (rangePost (fence rd') 0 P l' (ExPost P ρ h w e a' h') { act with defers := mk ++ act.defers }) := by
       refine CallsIn.mono C ?_
       rintro e' w₃ ⟨v', ρ₂, rfl, _, H₂, A₂⟩
       split at hr
       ·cases hr
       ·rename_i st pending a'' ps' assign' body' d' hnb hg
        have hst : st ≠ .busy := fun e => hnb e
        have hl1 : BRel ρ₂ h₁.n l' := BRel.mono A₂.le (by simp [BRel, q2])
        obtain ⟨g₂, hlive⟩ := H₂.get_live hg (by simp) hl1.born
        obtain rfl := hl1.live hlive
        obtain ⟨o, o', k1, k2, k3⟩ := H₂.obj h₁.n g₂ hlive
        rw [hg] at k1
        cases k1
        obtain ⟨L, rfl, r1, r2, r3, r4, r5, r6, r7⟩ := k3
        have H₃ := H₂.turn hlive (by simp [AHeap.rw, hg]) (o := .loop .exhausted pending a'' ps' assign' body' d') (o' := .loop { L with state := .exhausted }) ⟨_, rfl, rfl, r2, r3, r4, r5, r6, r7⟩
        have A₃ := Adv.turn (w := w₃) hlive (h := h₂) (by simp [AHeap.rw, hg]) (.loop .exhausted pending a'' ps' assign' body' d') (.loop { L with state := .exhausted })
        have S₃ : SRel P ρ₂ { n := a.n, t := a.t, marks := mark ++ a.marks } (h₂.set h₁.n (.loop .exhausted pending a'' ps' assign' body' d')) { act with defers := mk ++ act.defers } (setBlock w₃ g₂.b (.loop { L with state := .exhausted })) :=
         ⟨H₃, S₁.tmps.mono A₂.le, S₁.marks.mono A₂.le, S₁.globs.mono A₂.le⟩
        have A := A₁.trans ((A₂.less A₁.n).trans (A₃ _))
        refine ⟨pending, _, by rw [← r2]; exact run_endLoop k2 (by rw [r1]; exact hst), ?_⟩
        simp only at hr
        split at hr
        ·simp only [Option.some.injEq, Prod.mk.injEq] at hr
         obtain ⟨rfl, rfl, rfl⟩ := hr
         exact ⟨rfl, ρ₂, S₃, A⟩
        ·rename_i c
         exact wpIn_mono (E.run rd c _ _ e a' h' hr rd' ρ₂ _ _ (R.mono (Rho.le_trans A₁.le A₂.le)) S₃).1 fun _ _ _ k => ExPost.trans A k
       ·cases hr
      exact ⟨l', mk, w₁, _, w₁, g, _, w₁, q1, hres, hlead, hinv, fence_depth rd' 0, C'⟩
     ·cases hr
   ·cases hr
  ·cases hr
 ·cases hr
theorem execStep_ok {ex : Ex} (E : ExOk P ex) (hm : P.follows .mixedOrders = true) : ∀ rd c a h e a' h', execStep P ex rd c a h = some (e, a', h') → ∀ rd' ρ act w, RdRel ρ rd rd' → SRel P ρ a h act w → WpX rd' P c (ExPost P ρ h w e a' h') act w := by
 intro rd c a h e a' h' hx rd' ρ act w R S
 cases c with
 | skip =>
  cases hx
  exact .of (wpIn_skip ⟨rfl, ρ, S, Adv.refl _ _ _ _⟩) (fun b e => by cases e)
 | region id ops draw =>
  refine .of ?_ (fun b e => by cases e)
  simp only [execStep] at hx
  cases hr : runRegion P ex ops draw a h with
  | none => rw [hr] at hx; cases hx
  | some r =>
   rw [hr] at hx
   cases hx
   unfold runRegion at hr
   split at hr
   ·cases hr
   ·rename_i hc
    exact region_ok E S hc hr rd' fun act' w' ⟨ρ', S', A'⟩ => ⟨rfl, ρ', S', A'⟩
   ·rename_i hc
    split at hr
    ·rename_i ho
     exact region_draw_ok E hm S hc ho hr rd' fun act' w' ⟨ρ', S', A'⟩ => ⟨rfl, ρ', S', A'⟩
    ·cases hr
 | seq x y =>
  refine .of ?_ (fun b e => by cases e)
  simp only [execStep] at hx
  refine wpIn_seq ?_
  split at hx
  ·rename_i a₁ h₁ hx₁
   refine wpIn_mono (E.run rd x a h _ _ _ hx₁ rd' ρ act w R S).1 ?_
   rintro e' act₁ w₁ ⟨rfl, ρ₁, S₁, A₁⟩
   exact wpIn_mono (E.run rd y a₁ h₁ _ _ _ hx rd' ρ₁ act₁ w₁ (R.mono A₁.le) S₁).1 fun _ _ _ k => ExPost.trans A₁ k
  ·rename_i hne
   refine wpIn_mono (E.run rd x a h _ _ _ hx rd' ρ act w R S).1 ?_
   rintro e' act₁ w₁ ⟨rfl, k⟩
   cases e' with
   | normal => exact (hne _ _ hx).elim
   | _ => exact ⟨rfl, k⟩
 | cond x y z =>
  refine .of ?_ (fun b e => by cases e)
  simp only [execStep] at hx
  split at hx
  ·rename_i hb
   exact wpIn_cond_true (eval_bool S.tmps hb) (E.run rd y a h _ _ _ hx rd' ρ act w R S).1
  ·rename_i hb
   exact wpIn_cond_false (eval_bool S.tmps hb) (E.run rd z a h _ _ _ hx rd' ρ act w R S).1
  ·cases hx
 | block id b =>
  refine .of ?_ (fun b e => by cases e)
  simp only [execStep] at hx
  refine wpIn_block ?_
  split at hx
  ·rename_i j a₁ h₁ hx₁
   refine wpIn_mono (E.run rd b a h _ _ _ hx₁ rd' ρ act w R S).1 ?_
   rintro e' act₁ w₁ ⟨rfl, k⟩
   simp only [Exit.inBlock]
   split at hx
   ·rename_i hj
    have hj : j = id := by simpa using hj
    cases hx
    rw [if_pos hj]
    exact ⟨rfl, k⟩
   ·rename_i hj
    have hj : j ≠ id := fun e => by subst e; simp at hj
    cases hx
    rw [if_neg hj]
    exact ⟨rfl, k⟩
  ·rename_i hne
   refine wpIn_mono (E.run rd b a h _ _ _ hx rd' ρ act w R S).1 ?_
   rintro e' act₁ w₁ ⟨rfl, k⟩
   cases e' with
   | exit j => exact (hne _ _ _ hx).elim
   | _ => exact ⟨rfl, k⟩
 | loop b =>
  simp only [execStep] at hx
  have key : LoopWp (fence rd') 0 P b (ExPost P ρ h w e a' h') act w := by
   refine LoopWp.round ?_
   split at hx
   ·rename_i a₁ h₁ hx₁
    refine wpIn_mono (E.run rd b a h _ _ _ hx₁ rd' ρ act w R S).1 ?_
    rintro e' act₁ w₁ ⟨rfl, ρ₁, S₁, A₁⟩
    exact LoopWp.mono ((E.run rd (.loop b) a₁ h₁ _ _ _ hx rd' ρ₁ act₁ w₁ (R.mono A₁.le) S₁).2 b rfl) fun _ _ _ k => ExPost.trans A₁ k
   ·rename_i hne
    refine wpIn_mono (E.run rd b a h _ _ _ hx rd' ρ act w R S).1 ?_
    rintro e' act₁ w₁ ⟨rfl, k⟩
    cases e' with
    | normal => exact (hne _ _ hx).elim
    | _ => exact ⟨rfl, k⟩
  exact ⟨key.wp, fun b' e => by cases e; exact key⟩
 | rangeFunc f ps assign body =>
  refine .of ?_ (fun b e => by cases e)
  exact rangeBy_ok E S R hx
 | exit id =>
  cases hx
  exact .of (wpIn_exit ⟨rfl, ρ, S, Adv.refl _ _ _ _⟩) (fun b e => by cases e)
 | ret =>
  cases hx
  exact .of (wpIn_ret ⟨rfl, ρ, S, Adv.refl _ _ _ _⟩) (fun b e => by cases e)
 | label l =>
  cases hx
  exact .of (wpIn_label ⟨rfl, ρ, S, Adv.refl _ _ _ _⟩) (fun b e => by cases e)
 | scope b =>
  refine .of ?_ (fun b e => by cases e)
  simp only [execStep] at hx
  refine wpIn_scope ?_
  split at hx
  ·cases hx
  ·rename_i hne
   refine wpIn_mono (E.run rd b a h _ _ _ hx rd' ρ act w R S).1 ?_
   rintro e' act₁ w₁ ⟨rfl, k⟩
   cases e' with
   | goto l => exact (hne _ _ _ hx).elim
   | _ => exact ⟨rfl, k⟩
 | _ => cases hx
theorem exec_ok {orc : Orc} (hm : P.follows .mixedOrders = true) (ho : OrcOk P orc) : ∀ n, ExOk P (exec P orc n)
 | 0 => ⟨fun rd c a h e a' h' hx => (by cases hx), ho⟩
 | n + 1 => ⟨execStep_ok (exec_ok hm ho n) hm, ho⟩
end
end Go.Am
namespace Go.Am
abbrev Tabs := List (Nat × List Value)
noncomputable def tabT (T : Tabs) (es : Nat → TypeId) : Tr AObj := List.rec (motive := fun _ => Tr AObj) .nil (fun x _ ih => ih.set x.1 (.cells x.2 (es x.1) 0 true)) T
noncomputable def base (T : Tabs) (es : Nat → TypeId) (n : Nat) : AHeap := { n := n, t := tabT T es }
noncomputable def hasTabs (T : Tabs) (h : AHeap) : Bool := T.all fun x => match h.get x.1 with
 | some (.cells c _ row ro) => beqVs c x.2 && Nat.beq row 0 && ro
 | _ => false
def tabsFlat (n : Nat) (T : Tabs) : Bool := T.all fun x => Nat.blt x.1 n && x.2.all (flat 3)
noncomputable def known (T : Tabs) (orc : Orc) (f : FuncId) (args : Array Value) (res : Value) : Orc := fun f' args' h =>
 match Nat.beq f f' && beqDs args.toList args'.toList && hasTabs T h with
 | true => some (res, h)
 | false => orc f' args' h
section
variable {P : Program} {ρ : Rho} {h : AHeap} {w : World} {T : Tabs}
theorem tab_get {es : Nat → TypeId} : ∀ {T : Tabs} {i : Nat} {o : AObj}, (tabT T es).get i = some o → ∃ c, (i, c) ∈ T ∧ o = .cells c (es i) 0 true
 | [], i, o, h => by cases h
 | x :: T, i, o, h => by
  have h : ((tabT T es).set x.1 (.cells x.2 (es x.1) 0 true)).get i = some o := h
  rw [Tr.get_set] at h
  by_cases e : i = x.1
  ·subst e
   rw [if_pos rfl] at h
   cases h
   exact ⟨x.2, by simp, rfl⟩
  ·rw [if_neg e] at h
   obtain ⟨c, hm, ho⟩ := tab_get h
   exact ⟨c, by simp [hm], ho⟩
theorem tab_some {es : Nat → TypeId} : ∀ {T : Tabs} {x : Nat × List Value}, x ∈ T → ∃ o, (tabT T es).get x.1 = some o
 | y :: T, x, hx => by
  show ∃ o, ((tabT T es).set y.1 (.cells y.2 (es y.1) 0 true)).get x.1 = some o
  rw [Tr.get_set]
  by_cases e : x.1 = y.1
  ·rw [if_pos e]; exact ⟨_, rfl⟩
  ·rw [if_neg e]
   rcases List.mem_cons.1 hx with rfl | hx
   ·exact (e rfl).elim
   ·exact tab_some hx
noncomputable def typesOf (h : AHeap) (i : Nat) : TypeId := match h.get i with
 | some (.cells _ e _ _) => e
 | _ => 0
theorem hasTabs_get (hT : hasTabs T h = true) {i : Nat} {c : List Value} (hx : (i, c) ∈ T) : h.get i = some (.cells c (typesOf h i) 0 true) := by
 have := List.all_eq_true.1 hT _ hx
 simp only at this
 split at this
 ·rename_i c' e row ro ho
  simp only [Bool.and_eq_true, Nat.beq_eq] at this
  obtain ⟨⟨h1, h2⟩, h3⟩ := this
  rw [ho, beqVs_eq h1, h2, h3]
  simp only [typesOf, ho]
 ·cases this
end
end Go.Am
