/-
  OWN WORK. 'Am', fifteenth text: calls, rounds, operations one after another.
-/
import Derived.Test.YtmfepbkpojafnaaGreatDoorAmN
namespace Go.Am
section
variable {P : Program} {ρ : Rho} {h : AHeap} {w : World}

theorem HRel.turn {i : Nat} {g : G} (H : HRel ρ h w) (hi : ρ i = .live g) {o : AObj} {o' : Obj} (ho : ObjRel ρ g o o') : HRel ρ (h.set i o) (setBlock w g.b o') := by
  refine ⟨H.bound, H.inj, fun j gj hj => ?_, fun j hj o₁ h₁ => ?_⟩
  · by_cases e : j = i
    · subst e
      rw [hi] at hj
      cases hj
      exact ⟨o, o', by rw [AHeap.get_set, if_pos rfl], setBlock_at (H.lt hi), ho⟩
    · obtain ⟨o1, o2, f1, f2, f3⟩ := H.obj j gj hj
      exact ⟨o1, o2, by rw [AHeap.get_set, if_neg e]; exact f1, by rw [setBlock_ne fun e' => e (H.inj j i gj g hj hi e')]; exact f2, f3⟩
  · by_cases e : j = i
    · subst e; rw [hi] at hj; cases hj
    · rw [AHeap.get_set, if_neg e] at h₁
      exact H.dead j hj o₁ h₁
theorem Adv.turn {i : Nat} {g : G} (hi : ρ i = .live g) (hr : h.rw i = true) (o : AObj) (o' : Obj) (k : Nat) : Adv k ρ h w ρ (h.set i o) (setBlock w g.b o') := by
  refine ⟨Rho.le_refl _, Nat.le_refl _, by simp, rfl, rfl, rfl, fun b _ hn => setBlock_ne fun e => hn ⟨i, g, hi, e.symm, hr⟩, fun b _ ⟨j, gj, hj, hbj, hrj⟩ => ?_, fun _ _ hu => hu⟩
  by_cases e : j = i
  · subst e; exact ⟨j, gj, hj, hbj, hr⟩
  · unfold AHeap.rw at hrj
    rw [AHeap.get_set, if_neg e] at hrj
    exact ⟨j, gj, hj, hbj, hrj⟩
theorem setBlock_putObj (w : World) (b : Nat) (o : Obj) : w.putObj b o = setBlock w b o := rfl

theorem SRel.put {a : AAct} {act : Act} (S : SRel P ρ a h act w) {ρ' : Rho} {h' : AHeap} {w' : World} (hle : ρ.le ρ') (H' : HRel ρ' h' w') {dst : Option Tmp} {v v' : Value} (hd : ∀ d, dst = some d → d < a.n) (hv : VRel ρ' v v') :
    SRel P ρ' (a.put dst v) h' (act.put dst v') w' := by
  refine ⟨H', S.tmps.put hle hd hv, ?_, S.globs.mono hle⟩
  have : (act.put dst v').defers = act.defers := by cases dst <;> rfl
  rw [this, AAct.put_marks]
  exact S.marks.mono hle

theorem leaves_ok {F : Fence} {n : Nat} {fn : Func} {tmps : Array Value} {R : Ending → World → Prop} : ∀ (ms : List Nat) (ds : List Deferred) (ρ : Rho) (h : AHeap) (w : World) (h' : AHeap),
    HRel ρ h w → MarksRel ρ ms ds → shutMarks h ms = some h' →
    (∀ ρ' w', HRel ρ' h' w' → (∀ k, Adv k ρ h w ρ' h' w') → LeavesInM F n P fn tmps R [] .returning w') → LeavesInM F n P fn tmps R ds .returning w := by
  intro ms
  induction ms with
  | nil =>
    intro ds ρ h w h' H M hs k
    obtain rfl : ds = [] := by simpa using M.1
    cases hs
    exact k ρ w H fun _ => Adv.refl _ _ _ _
  | cons m ms ih =>
    intro ds ρ h w h' H M hs k
    cases ds with
    | nil => have := M.1; simp at this
    | cons d ds =>
      unfold shutMarks at hs
      split at hs
      · rename_i hg
        obtain ⟨r, hd, hb⟩ := M.2 0 m d rfl rfl
        obtain ⟨g, hl⟩ := H.get_live hg (by simp) hb.born
        obtain rfl := hb.live hl
        obtain ⟨o, o', k1, k2, k3⟩ := H.obj m g hl
        rw [hg] at k1
        cases k1
        have k3 : o' = .deferred (some []) := k3
        subst k3
        have H1 := (H.kill hl).setOther (b := g.b) (fun j gj hj e => by
          by_cases ej : j = m
          · subst ej; rw [ρ.upd_same] at hj; cases hj
          · rw [ρ.upd_ne _ ej] at hj; exact ej (H.inj j m gj g hj hl e)) (.deferred none)
        have A1 : ∀ k, Adv k ρ h w (ρ.upd m .dead) (h.set m .dead) (setBlock w g.b (.deferred none)) := fun k =>
          have A := Adv.kill H hl k
          { A with
            size := by simp
            kept := fun b _ hn => setBlock_ne fun e => hn ⟨m, g, hl, e.symm, by simp [AHeap.rw, hg]⟩
            own := fun b hb o => A.own b hb o }
        refine ⟨by simp, .inl ⟨g.b, _, by rw [hd], run_takeDeferred k2, ?_⟩⟩
        refine ih ds _ _ _ h' H1 ⟨by have := M.1; simpa using this, fun i m' d' hm hd' => ?_⟩ hs fun ρ' w' H' A' => k ρ' w' H' fun j => (A1 j).trans (A' j)
        obtain ⟨r', e, hb'⟩ := M.2 (i + 1) m' d' (by simpa using hm) (by simpa using hd')
        exact ⟨r', e, hb'.mono Rho.le_dead⟩
      · cases hs

theorem acallRun_ok {ex : Ex} (E : ExOk P ex) (H : HRel ρ h w) (G : Globs P ρ) {f : FuncId} {args args' : Array Value} {v : Value} {h' : AHeap} (hA : ARel (VRel ρ) args args') (hc : acallRun P ex f args h = some (v, h')) (rd : Option Nat) :
    CallsIn (fence rd) 0 P f args' w (CPost ρ h w v h') := by
  show CallsIn (fence none) 0 P f args' w (CPost ρ h w v h')
  unfold acallRun at hc
  split at hc
  · rename_i fn hfn
    split at hc
    · rename_i c hbody hsz
      have fin : ∀ e a₁ h₁, (e = .normal ∨ e = .ret) → ex none c (enterAct fn.ntmps args.toList) h = some (e, a₁, h₁) → (match shutMarks h₁ a₁.marks with
            | some h'' => (aresult P fn a₁ h'').map fun v => (v, h'')
            | none => none) = some (v, h') → CallsIn (fence none) 0 P f args' w (CPost ρ h w v h') := by
        intro e a₁ h₁ he hex hr
        split at hr
        · rename_i h₂ hsh
          cases har : aresult P fn a₁ h₂ with
          | none => rw [har] at hr; simp at hr
          | some v₀ =>
            rw [har] at hr
            simp only [Option.map_some, Option.some.injEq, Prod.mk.injEq] at hr
            obtain ⟨rfl, rfl⟩ := hr
            refine callsIn_of_wp_marks hfn hbody trivial ?_
            refine wpIn_mono (E.run none c _ h e a₁ h₁ hex none ρ { tmps := args' ++ Array.replicate (fn.ntmps - args'.size) Go.undef, defers := [] } w trivial ⟨H, enter_rel hA (by simpa [Nat.ble_eq] using hsz), ⟨rfl, fun i m d hm => by simp [enterAct] at hm⟩, G⟩).1 ?_
            rintro e' a' w' ⟨rfl, ρ', S, A⟩
            have : LeavesInM (fence none) 0 P fn a'.tmps (CPost ρ h w v₀ h₂) a'.defers .returning w' := by
              refine leaves_ok a₁.marks a'.defers ρ' h₁ w' h₂ S.heap S.marks hsh fun ρ₂ w₂ H₂ A₂ => ?_
              obtain ⟨v', hv, hvr⟩ := result_ok H₂ (S.tmps.mono (A₂ 0).le) har
              exact ⟨v', hv, v', ρ₂, rfl, hvr, H₂, A.trans (A₂ _)⟩
            rcases he with rfl | rfl <;> exact this
        · cases hr
      split at hc
      · rename_i a₁ h₁ hex
        exact fin _ a₁ h₁ (.inl rfl) hex hc
      · rename_i a₁ h₁ hex
        exact fin _ a₁ h₁ (.inr rfl) hex hc
      · cases hc
    · cases hc
  · cases hc

theorem acallBy_ok {ex : Ex} (E : ExOk P ex) (H : HRel ρ h w) (G : Globs P ρ) {f : FuncId} {args args' : Array Value} {v : Value} {h' : AHeap} (hA : ARel (VRel ρ) args args') (hc : acallBy P ex f args h = some (v, h')) (rd : Option Nat) :
    CallsIn (fence rd) 0 P f args' w (CPost ρ h w v h') := by
  unfold acallBy at hc
  split at hc
  · rename_i r ho
    cases hc
    exact E.orc f args h v h' ho ρ args' w H G hA
  · exact acallRun_ok E H G hA hc rd

theorem setTmps_get : ∀ (ps : List Tmp) (vs : List Value) (t : Tr Value) (c : Array Value) (ρ : Rho) (vs' : List Value), LRel (VRel ρ) vs vs' → (∀ j, VRel ρ ((t.get j).getD Go.undef) (c.getD j Go.undef)) → (∀ p ∈ ps, p < c.size) →
    ∀ j, VRel ρ (((setTmps t ps vs).get j).getD Go.undef) (((ps.zip vs').foldl (fun tmps (q : Tmp × Value) => tmps.setIfInBounds q.1 q.2) c).getD j Go.undef)
  | [], vs, t, c, ρ, vs', _, hc, _, j => by simpa [setTmps] using hc j
  | p :: ps, [], t, c, ρ, vs', hv, hc, _, j => by
    obtain rfl := hv.nil_left
    simpa [setTmps] using hc j
  | p :: ps, v :: vs, t, c, ρ, vs', hv, hc, hp, j => by
    obtain ⟨v', r', rfl, k1, k2⟩ := hv.cons_left
    simp only [setTmps, List.zip_cons_cons, List.foldl_cons]
    refine setTmps_get ps vs (t.set p v) (c.setIfInBounds p v') ρ r' k2 (fun i => ?_) (fun q hq => by simpa using hp q (List.mem_cons_of_mem _ hq)) j
    rw [Tr.get_set, Array.getD_eq_getD_getElem?, Array.getElem?_setIfInBounds]
    by_cases e : i = p
    · subst e
      rw [if_pos rfl, if_pos rfl, if_pos (hp i (by simp))]
      exact k1
    · rw [if_neg e, if_neg (Ne.symm e), ← Array.getD_eq_getD_getElem?]
      exact hc i
theorem setTmps_size : ∀ (l : List (Tmp × Value)) (c : Array Value), (l.foldl (fun tmps (q : Tmp × Value) => tmps.setIfInBounds q.1 q.2) c).size = c.size
  | [], c => rfl
  | q :: l, c => by rw [List.foldl_cons, setTmps_size l]; simp

theorem aroundBy_ok {ex : Ex} (E : ExOk P ex) (H : HRel ρ h w) (G : Globs P ρ) {l l' : Nat} {args args' : Array Value} {v : Value} {h' : AHeap} (hl : BRel ρ l l') (hA : ARel (VRel ρ) args args') (hc : aroundBy ex l args h = some (v, h')) (rd : Option Nat) :
    ∃ f tmps assign body, (Instr.yield l' args').run P w = .ok (.round l' f tmps assign body) w ∧ RoundIn (fence rd) 0 P l' f tmps assign body w (CPost ρ h w v h') := by
  unfold aroundBy at hc
  split at hc
  · rename_i st pend a ps assign body d hg
    split at hc
    · rename_i hsz
      simp only [Bool.and_eq_true, Nat.beq_eq, List.all_eq_true, Nat.blt_eq] at hsz
      obtain ⟨hsz, hps⟩ := hsz
      obtain ⟨g, hlive⟩ := H.get_live hg (by simp) hl.born
      obtain rfl := hl.live hlive
      obtain ⟨o, o', k1, k2, k3⟩ := H.obj l g hlive
      rw [hg] at k1
      cases k1
      obtain ⟨L, rfl, r1, r2, r3, r4, r5, r6, r7⟩ := k3
      have hsz' : args'.size = L.params.size := by rw [r4, ← hA.1]; exact hsz
      refine ⟨L.fn, _, L.assign, L.body, run_yield k2 hsz', roundIn_of_wpIn trivial ?_⟩
      have hT : TmpsRel ρ { n := a.n, t := setTmps a.t ps.toList args.toList, marks := [] } ((L.params.zip args').foldl (fun tmps (t, a) => tmps.setIfInBounds t a) L.tmps) := by
        have e : (L.params.zip args').foldl (fun tmps (t, a) => tmps.setIfInBounds t a) L.tmps = (ps.toList.zip args'.toList).foldl (fun tmps (q : Tmp × Value) => tmps.setIfInBounds q.1 q.2) L.tmps := by
          rw [← Array.foldl_toList, Array.toList_zip, r4]
        rw [e]
        refine ⟨?_, fun j => setTmps_get _ _ _ _ ρ _ (LRel.of_ARel hA) r3.tmp (fun p hp => ?_) j⟩
        · rw [setTmps_size]; exact r3.size
        · rw [← r3.size]; exact hps p hp
      split at hc
      · rename_i a₁ h₁ hex
        refine wpIn_mono (E.run (some l) assign _ h .normal a₁ h₁ hex (some g.b) ρ { tmps := _, defers := [] } w hl ⟨H, hT, ⟨rfl, fun i m d hm => by simp at hm⟩, G⟩).1 ?_ |> fun x => by rw [r5]; exact x
        rintro e' act₁ w₁ ⟨rfl, ρ₁, S₁, A₁⟩
        split at hc
        · rename_i pend' a' ps' assign' body' d' hg₁
          have hl₁ := hl.mono A₁.le
          obtain ⟨g₁, hlive₁⟩ := S₁.heap.get_live hg₁ (by simp) hl₁.born
          have hg1b : g.b = g₁.b := hl₁.live hlive₁
          obtain ⟨o, o', j1, j2, j3⟩ := S₁.heap.obj l g₁ hlive₁
          rw [hg₁] at j1
          cases j1
          obtain ⟨L₁, rfl, s1, s2, s3, s4, s5, s6, s7⟩ := j3
          rw [← hg1b] at j2
          refine ⟨_, run_beginRound j2 s1, ?_⟩
          have H2 := S₁.heap.turn hlive₁ (o := .loop .busy pend' a' ps' assign' body' d') (o' := .loop { L₁ with state := .busy }) ⟨_, rfl, rfl, s2, s3, s4, s5, s6, s7⟩
          have A2 := Adv.turn (w := w₁) hlive₁ (h := h₁) (by simp [AHeap.rw, hg₁]) (.loop .busy pend' a' ps' assign' body' d') (.loop { L₁ with state := .busy })
          rw [← hg1b] at H2 A2
          split at hc
          · rename_i e a₂ h₂ hex₂
            refine wpIn_mono (E.run (some l) body _ _ e a₂ h₂ hex₂ (some g.b) ρ₁ act₁ _ hl₁ ⟨H2, S₁.tmps, S₁.marks, S₁.globs⟩).1 ?_ |> fun x => by rw [r6]; exact x
            rintro e' act₂ w₂ ⟨rfl, ρ₂, S₂, A₃⟩
            split at hc
            · rename_i st'' pend'' a'' ps'' assign'' body'' d'' hg₂
              have hl₂ := hl₁.mono A₃.le
              obtain ⟨g₂, hlive₂⟩ := S₂.heap.get_live hg₂ (by simp) hl₂.born
              have hg2b : g.b = g₂.b := hl₂.live hlive₂
              obtain ⟨o, o', j1, j2, j3⟩ := S₂.heap.obj l g₂ hlive₂
              rw [hg₂] at j1
              cases j1
              obtain ⟨L₂, rfl, t1, t2, t3, t4, t5, t6, t7⟩ := j3
              rw [← hg2b] at j2
              have fin : ∀ jump : Option Code, some (Value.bool jump.isNone, h₂.set l (.loop (if jump.isNone then .ready else .done) jump a'' ps'' assign'' body'' d'')) = some (v, h') →
                  ∃ y w', (Instr.endRound g.b jump).run P w₂ = .ok y w' ∧ CPost ρ h w v h' (.returned y) w' := by
                intro jump he
                cases he
                have H3 := S₂.heap.turn hlive₂ (o := .loop (if jump.isNone then .ready else .done) jump a'' ps'' assign'' body'' d'') (o' := .loop { L₂ with state := if jump.isNone then .ready else .done, pending := jump }) ⟨_, rfl, rfl, rfl, t3, t4, t5, t6, t7⟩
                have A4 := Adv.turn (w := w₂) hlive₂ (h := h₂) (by simp [AHeap.rw, hg₂]) (.loop (if jump.isNone then .ready else .done) jump a'' ps'' assign'' body'' d'') (.loop { L₂ with state := if jump.isNone then .ready else .done, pending := jump })
                rw [← hg2b] at H3 A4
                refine ⟨_, _, run_endRound jump j2, .bool jump.isNone, ρ₂, rfl, .fold rfl, H3, ?_⟩
                exact A₁.trans ((A2 _).trans ((A₃.less (by simpa using A₁.n)).trans (A4 _)))
              cases e' with
              | normal => exact fin none hc
              | ret => exact fin _ hc
              | exit id => exact fin _ hc
              | goto t => cases hc
              | panic ch => cases hc
              | outgrown => cases hc
            · cases hc
          · cases hc
        · cases hc
      · cases hc
    · cases hc
  · cases hc
end
end Go.Am
