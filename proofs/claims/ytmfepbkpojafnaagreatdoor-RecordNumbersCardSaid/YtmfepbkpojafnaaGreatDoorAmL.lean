/-
  OWN WORK. 'Am', twelfth text: copy, calls; each operation at once.
-/
import Derived.Test.YtmfepbkpojafnaaGreatDoorAmK
namespace Go.Am
section
variable {P : Program} {ρ : Rho} {h : AHeap} {w : World}

theorem acopy_ok (H : HRel ρ h w) {argTypes : Array TypeId} {args args' : Array Value} {r : ANext} (ty : TypeId) (hA : ARel (VRel ρ) args args') (ha : acopy P h argTypes args = some r) : ValOkN P ρ h w r (Builtin.copy_ argTypes ty args') := by
  unfold acopy at ha
  split at ha
  · rename_i dType base dLen dCap src h0 h1 h2
    obtain ⟨d', g1, hd'⟩ := hA.get h1
    obtain ⟨s', g2, hs'⟩ := hA.get h2
    split at ha
    · rename_i elem hu
      have r1 := pureRun_sound P _ _ hu
      split at ha
      · rename_i size hsz
        have r2 := pureRun_sound P _ _ hsz
        -- what is read
        have read : ∀ n cs, (match src with
               | .slice a n _ => (rcells h a (Nat.min n dLen * size)).map (Nat.min n dLen, ·)
               | .string s => match Nat.beq size 1 with
                 | true => some (Nat.min s.size dLen, (bytesOf s).take (Nat.min s.size dLen))
                 | false => none
               | _ => none) = some (n, cs) → ∃ m ys, (Builtin.lenOf s').run P w = .ok m w ∧ Nat.min m dLen = n ∧ LRel (VRel ρ) cs ys ∧ (Builtin.firstCells size n s').run P w = .ok ys.toArray w := by
          intro n cs hm
          split at hm
          · rename_i a m k
            simp only [Option.map_eq_some_iff, Prod.mk.injEq] at hm
            obtain ⟨cs', hc, rfl, rfl⟩ := hm
            cases a with
            | none =>
              obtain rfl := hs'.atom_eq rfl
              refine ⟨m, [], by simp [Builtin.lenOf], rfl, ?_, by simp [Builtin.firstCells]⟩
              unfold rcells at hc
              split at hc
              · cases hc; exact LRel.nil
              · cases hc
            | some a =>
              obtain ⟨a', k', rfl, hp, _⟩ := hs'.slice_any
              obtain ⟨ys, q1, q2, q3⟩ := rcells_ok (P := P) H hp hc
              exact ⟨m, ys, by simp [Builtin.lenOf], rfl, q1, by simp [Builtin.firstCells, q3]⟩
          · rename_i s
            obtain rfl := hs'.atom_eq rfl
            split at hm
            · simp only [Option.some.injEq, Prod.mk.injEq] at hm
              obtain ⟨rfl, rfl⟩ := hm
              refine ⟨s.size, (bytesOf s).take (Nat.min s.size dLen), by simp [Builtin.lenOf], rfl, (LRel.flat (bytesOf_flat s)).take _, ?_⟩
              simp only [Builtin.firstCells]
              show Result.ok _ w = _
              congr 1
              apply Array.ext'
              simp only [Array.toList_map, bytesOf, List.map_take]
              congr 1
              have : (s.extract 0 (Nat.min s.size dLen)).data = s.data.extract 0 (Nat.min s.size dLen) := by simp
              rw [this]
              simp
            · cases hm
          · cases hm
        split at ha
        · rename_i n hm
          cases ha
          obtain ⟨m, ys, q1, q2, q3, q4⟩ := read _ _ hm
          obtain rfl := q3.nil_left
          refine ValOk.same H (v' := goInt n) ?_ (.atom rfl)
          cases base with
          | none =>
            obtain rfl := hd'.atom_eq rfl
            simp [Builtin.copy_, h0, g1, g2, r1, q1, r2]
            rw [q2, q4]
            rfl
          | some a =>
            obtain ⟨a', k', rfl, _⟩ := hd'.slice_any
            simp [Builtin.copy_, h0, g1, g2, r1, q1, r2]
            rw [q2, q4]
            rfl
        · rename_i n cs hne hm
          obtain ⟨m, ys, q1, q2, q3, q4⟩ := read _ _ hm
          split at ha
          · rename_i i o
            cases hw : wcells h i o cs with
            | none => simp [hw] at ha
            | some h' =>
              simp [hw] at ha
              subst ha
              have hg : ∃ z, h.get i = some z ∧ z ≠ .dead := by
                unfold wcells at hw
                split at hw
                · rename_i hg; exact ⟨_, hg, by simp⟩
                · cases hw
              obtain ⟨z, hg, hz⟩ := hg
              obtain ⟨g, k', hi, rfl, _⟩ := hd'.slice_live H hg hz
              obtain ⟨w', hrun, H', A'⟩ := wcells_ok (P := P) H hi q3 hw
              refine ⟨goInt n, ρ, w', ?_, .atom rfl, H', A'⟩
              simp [Builtin.copy_, h0, g1, g2, r1, q1, r2]
              rw [q2, q4]
              simp [hrun]
          · cases ha
        · cases ha
      · cases ha
    · cases ha
  · cases ha

theorem acallFunc_ok (H : HRel ρ h w) {f : FuncId} {args args' : Array Value} {r : ANext} (hA : ARel (VRel ρ) args args') (ha : acallFunc P h f args = some r) : OpOk P ρ h w r (callFunc f args') := by
  unfold acallFunc at ha
  split at ha
  · rename_i fn hf
    split at ha
    · cases ha
    · rename_i hn
      split at ha
      · rename_i b hb
        cases ha
        have hn' : ¬ fn.name = "runtime.NumGoroutine" := by simpa using hn
        exact ⟨args', by simp [callFunc, hf, hn', hb], hA⟩
      · rename_i hb
        split at ha
        · rename_i hfl
          have hArgs : args' = args := toList_of_ARel_eq hA fun x hx y hy => VRel.flat_eq (List.all_eq_true.1 hfl x hx) hy
          subst hArgs
          split at ha
          · rename_i v hv
            split at ha
            · rename_i hfv
              cases ha
              exact ⟨.value v, v, ρ, w, pureRun_sound P _ _ hv w, .inl rfl, .flat hfv, H, Adv.refl _ _ _ _⟩
            · cases ha
          · cases ha
        · cases ha
  · cases ha

theorem aflat_ok (H : HRel ρ h w) {o : Oper} (hs : ∀ cs b, o.op ≠ .select cs b) {ev ce : Operand → Value} {r : ANext} (he : ∀ x ∈ o.op.operands, VRel ρ (ev x) (ce x)) (ha : aflat P o ev h = some r) : OpOk P ρ h w r (execOp ce o) := by
  unfold aflat at ha
  split at ha
  · rename_i hf
    have e : execOp ce o = execOp ev o := execOp_congr o hs fun x hx => VRel.flat_eq (List.all_eq_true.1 hf x (by simpa using hx)) (he x hx)
    rw [e]
    split at ha
    · rename_i v hv
      split at ha
      · rename_i hfv
        cases ha
        exact ⟨.value v, v, ρ, w, pureRun_sound P _ _ hv w, .inl rfl, .flat hfv, H, Adv.refl _ _ _ _⟩
      · cases ha
    · cases ha
  · cases ha

theorem ARel.append {R : Value → Value → Prop} {a b c d : Array Value} (k : ARel R a b) (l : ARel R c d) : ARel R (a ++ c) (b ++ d) := by
  have e : ∀ x y : Array Value, (x.toList ++ y.toList).toArray = x ++ y := fun x y => by
    apply Array.ext'
    simp
  rw [← e, ← e]
  exact ARel.of_LRel (LRel.append (LRel.of_ARel k) (LRel.of_ARel l))
theorem ARel.map {ev ce : Operand → Value} {xs : Array Operand} (he : ∀ x ∈ xs, VRel ρ (ev x) (ce x)) : ARel (VRel ρ) (xs.map ev) (xs.map ce) := by
  refine ⟨by simp, fun i x y hx hy => ?_⟩
  simp only [Array.getElem?_map, Option.map_eq_some_iff] at hx hy
  obtain ⟨a, ha, rfl⟩ := hx
  obtain ⟨b, hb, rfl⟩ := hy
  rw [ha] at hb
  cases hb
  exact he a (Array.mem_of_getElem? ha)

theorem OpOk.eq {r : ANext} {s s' : Sem Next} (k : OpOk P ρ h w r s) (e : s'.run P w = s.run P w) : OpOk P ρ h w r s' := by
  cases r with
  | val v h' =>
    obtain ⟨nx, v', ρ', w', q, k⟩ := k
    exact ⟨nx, v', ρ', w', e.trans q, k⟩
  | enter f args =>
    obtain ⟨args', q, k⟩ := k
    exact ⟨args', e.trans q, k⟩
  | round l args =>
    obtain ⟨l', args', q, k⟩ := k
    exact ⟨l', args', e.trans q, k⟩

theorem acall_ok (H : HRel ρ h w) {o : Oper} {c : Call} (ho : o.op = .call c) {ev ce : Operand → Value} {r : ANext} (he : ∀ x ∈ o.op.operands, VRel ρ (ev x) (ce x)) (ha : acall P o c ev h = some r) : OpOk P ρ h w r (execOp ce o) := by
  have hs : ∀ cs b, o.op ≠ .select cs b := by rw [ho]; intro cs b e; cases e
  have hex : execOp ce o = (do let d ← resolve ce c o.type; invoke d.target d.args) := by
    obtain ⟨dst, op, type, pos, after, guard⟩ := o
    simp only at ho
    subst ho
    rfl
  have hops : ∀ x ∈ c.operands, VRel ρ (ev x) (ce x) := fun x hx => he x (by rw [ho]; exact hx)
  have hargs : ARel (VRel ρ) (c.args.map ev) (c.args.map ce) := ARel.map fun x hx => hops x (by simp [Call.operands, hx])
  unfold acall at ha
  split at ha
  · rename_i f hcal
    have hf : VRel ρ (ev f) (ce f) := hops f (by simp [Call.operands, hcal])
    split at ha
    · rename_i g first captured hev
      rw [hev] at hf
      obtain ⟨fn', first', cap', q, hfn, h1, h2⟩ := hf.unfold
      have hfn : fn' = .func g := hfn
      subst hfn
      have := acallFunc_ok (P := P) H ((h1.append hargs).append h2) ha
      rw [hex]
      refine this.eq ?_
      simp [resolve, hcal, q, Deferred.ofValue, invoke]
    · rename_i l first captured hev
      rw [hev] at hf
      obtain ⟨fn', first', cap', q, hfn, h1, h2⟩ := hf.unfold
      obtain ⟨l', rfl, hl⟩ := hfn
      cases ha
      rw [hex]
      refine ⟨l', first' ++ c.args.map ce, ?_, hl, h1.append hargs⟩
      simp [resolve, hcal, q, Deferred.ofValue, invoke]
    · cases ha
  · rename_i b hcal
    split at ha
    · rw [hex]
      refine (ValOkN.op (aappend_ok H o.type hargs ha)).eq ?_
      simp [resolve, hcal, invoke, builtin]
    · rw [hex]
      refine (ValOkN.op (acopy_ok H o.type hargs ha)).eq ?_
      simp [resolve, hcal, invoke, builtin]
    · split at ha
      · rename_i v hv
        cases ha
        rw [hex]
        obtain ⟨q1, q2⟩ := alen_ok H hargs hv o.type
        exact ⟨.value v, v, ρ, w, by simp [resolve, hcal, invoke, builtin, q1], .inl rfl, .flat q2, H, Adv.refl _ _ _ _⟩
      · exact aflat_ok H hs he ha
    · exact aflat_ok H hs he ha
  · cases ha

theorem valOf_ok (H : HRel ρ h w) {x : Option Value} {r : ANext} {s : Sem Value} (hx : ∀ v, x = some v → ∃ v', s.run P w = .ok v' w ∧ VRel ρ v v') (ha : valOf x h = some r) : OpOk P ρ h w r (do pure (.value (← s))) := by
  cases x with
  | none => simp [valOf] at ha
  | some v =>
    simp only [valOf, Option.map_some, Option.some.injEq] at ha
    subst ha
    obtain ⟨v', q1, q2⟩ := hx v rfl
    exact ValOkN.op (r := .val v h) (ValOk.same H q1 q2)
theorem skipOf_ok {x : Option AHeap} {r : ANext} {s : Sem Unit} (hx : ∀ h', x = some h' → ∃ w', s.run P w = .ok () w' ∧ HRel ρ h' w' ∧ Adv h.n ρ h w ρ h' w') (ha : skipOf x = some r) : OpOk P ρ h w r (do s; pure .skip) := by
  cases x with
  | none => simp [skipOf] at ha
  | some h' =>
    simp only [skipOf, Option.map_some, Option.some.injEq] at ha
    subst ha
    obtain ⟨w', q1, q2, q3⟩ := hx h' rfl
    exact ⟨.skip, Go.undef, ρ, w', by simp [q1], .inr ⟨rfl, rfl⟩, .undef, q2, q3⟩

theorem parts_rel {ev ce : Operand → Value} {ps : Array (Nat × Operand)} (he : ∀ x ∈ ps.map (·.2), VRel ρ (ev x) (ce x)) :
    PartsRel (VRel ρ) (ps.map fun (i, x) => (i, ev x)).toList (ps.map fun (i, x) => (i, ce x)).toList := by
  refine ⟨by simp, fun i x y hx hy => ?_⟩
  simp only [Array.toList_map, List.getElem?_map, Option.map_eq_some_iff] at hx hy
  obtain ⟨a, ha, rfl⟩ := hx
  obtain ⟨b, hb, rfl⟩ := hy
  rw [ha] at hb
  cases hb
  refine ⟨rfl, he a.2 ?_⟩
  rw [Array.mem_map]
  exact ⟨a, by rw [Array.mem_def]; exact List.mem_of_getElem? ha, rfl⟩
theorem orel_map {ev ce : Operand → Value} {x : Option Operand} (he : ∀ y, x = some y → VRel ρ (ev y) (ce y)) : ORel (VRel ρ) (x.map ev) (x.map ce) := by
  cases x with
  | none => trivial
  | some y => exact he y rfl

theorem vfield_ok {t : TypeId} {x y v : Value} {f : Nat} (hx : VRel ρ x y) (ha : pureRun P (Instr.field t x f) = some v) : ∃ v', (∀ w, (Instr.field t y f).run P w = .ok v' w) ∧ VRel ρ v v' := by
  unfold Instr.field at ha
  rw [pureRun_bind] at ha
  cases hu : pureRun P (underlying t) with
  | none => simp [hu] at ha
  | some u =>
    have r1 := pureRun_sound P _ _ hu
    rw [hu, Option.bind_some] at ha
    cases u with
    | struct fields =>
      simp only at ha
      cases hf : fields[f]? with
      | none => simp [hf, pureRun_stuck] at ha
      | some fd =>
        simp only [hf] at ha
        rw [pureRun_bind] at ha
        cases x with
        | agg cs =>
          obtain ⟨cs', rfl, hc⟩ := hx.unfold
          simp only [asAgg, pureRun_pure, Option.bind_some, part] at ha
          rw [pureRun_bind] at ha
          cases hg : pureRun P (isAgg fd.type) with
          | none => simp [hg] at ha
          | some b =>
            have r2 := pureRun_sound P _ _ hg
            rw [hg, Option.bind_some] at ha
            cases b with
            | true =>
              simp only [if_true] at ha
              rw [pureRun_bind] at ha
              cases hs : pureRun P (sizeOf fd.type) with
              | none => simp [hs] at ha
              | some n =>
                have r3 := pureRun_sound P _ _ hs
                rw [hs, Option.bind_some, pureRun_pure] at ha
                simp only [Option.some.injEq] at ha
                subst ha
                refine ⟨.agg (cs'.extract fd.offset (fd.offset + n)), fun w => by simp [Instr.field, r1, hf, asAgg, part, r2, r3], .fold ⟨_, rfl, ?_⟩⟩
                refine ⟨by simp [hc.1], fun i a b ha hb => ?_⟩
                rw [Array.getElem?_extract] at ha hb
                rw [← hc.1] at hb
                split at ha
                · rename_i hlt
                  rw [if_pos hlt] at hb
                  exact hc.2 _ _ _ ha hb
                · cases ha
            | false =>
              simp only [Bool.false_eq_true, if_false] at ha
              cases he : cs[fd.offset]? with
              | none => simp [he, pureRun_stuck] at ha
              | some z =>
                simp only [he, pureRun_pure, Option.some.injEq] at ha
                subst ha
                obtain ⟨z', q1, q2⟩ := ARel.get hc he
                exact ⟨z', fun w => by simp [Instr.field, r1, hf, asAgg, part, r2, q1], q2⟩
        | _ => simp [asAgg, pureRun_stuck] at ha
    | _ => simp [pureRun_stuck] at ha

theorem arrayAt_ok (H : HRel ρ h w) {arr : TypeId} {x y : Value} {r : ANext} (hx : VRel ρ x y) (ha : aarrayAt P h arr x = some r) : ValOkN P ρ h w r (Instr.arrayAt arr y) := by
  unfold aarrayAt at ha
  split at ha
  · rename_i n e a len k hu
    have r1 := pureRun_sound P _ _ hu
    split at ha
    · rename_i hle
      have hle := Nat.le_of_ble_eq_true hle
      cases ha
      obtain ⟨a', k', rfl, hp, _⟩ := hx.slice_any
      refine ValOk.same H (v' := .pointer (some a')) ?_ (.fold ⟨a', rfl, hp⟩)
      have : ¬ len < n := by omega
      simp [Instr.arrayAt, r1, this]
    · cases ha
  · cases ha

/-- WHAT AN OPERATION OF THE ABSTRACT RUN DOES, THE MODEL's DOES. -/
theorem aop_ok (H : HRel ρ h w) {o : Oper} {ev ce : Operand → Value} {r : ANext} (he : ∀ x ∈ o.op.operands, VRel ρ (ev x) (ce x)) (ha : aop P o ev h = some r) : OpOk P ρ h w r (execOp ce o) := by
  have hflat : (∀ cs b, o.op ≠ .select cs b) → aflat P o ev h = some r → OpOk P ρ h w r (execOp ce o) := fun hs k => aflat_ok H hs he k
  have hcall : ∀ c, o.op = .call c → acall P o c ev h = some r → OpOk P ρ h w r (execOp ce o) := fun c hc k => acall_ok H hc he k
  obtain ⟨dst, op, type, pos, after, guard⟩ := o
  simp only at he hflat hcall
  cases op with
  | move x =>
    simp only [aop, Option.some.injEq] at ha
    subst ha
    exact ⟨.value (ce x), ce x, ρ, w, rfl, .inl rfl, he x (by simp [Op.operands]), H, Adv.refl _ _ _ _⟩
  | assign x =>
    simp only [aop, Option.some.injEq] at ha
    subst ha
    exact ⟨.value (ce x), ce x, ρ, w, rfl, .inl rfl, he x (by simp [Op.operands]), H, Adv.refl _ _ _ _⟩
  | pick c a b =>
    simp only [aop] at ha
    have hc := he c (by simp [Op.operands])
    split at ha
    · rename_i t ht
      rw [ht] at hc
      have hc := hc.bool
      cases ha
      refine ⟨.value (if t then ce a else ce b), if t then ce a else ce b, ρ, w, by simp [execOp, hc, asBool], .inl rfl, ?_, H, Adv.refl _ _ _ _⟩
      cases t
      · exact he b (by simp [Op.operands])
      · exact he a (by simp [Op.operands])
    · cases ha
  | alloc elem => simp only [aop] at ha; exact ValOkN.op (aalloc_ok H ha)
  | box elem x => simp only [aop] at ha; exact ValOkN.op (abox_ok H (he x (by simp [Op.operands])) ha)
  | build t parts =>
    simp only [aop] at ha
    refine valOf_ok H (fun v hv => ?_) ha
    obtain ⟨v', q1, q2⟩ := abuild_ok (parts_rel fun x hx => he x (by simpa [Op.operands] using hx)) hv
    exact ⟨v', q1 w, q2⟩
  | buildSlice t len parts => simp only [aop] at ha; exact ValOkN.op (abuildSlice_ok H (parts_rel fun x hx => he x (by simpa [Op.operands] using hx)) ha)
  | load t a => simp only [aop] at ha; exact valOf_ok H (fun v hv => aload_ok H (he a (by simp [Op.operands])) hv) ha
  | store t a x => simp only [aop] at ha; exact skipOf_ok (fun h' hh => astore_ok H (he a (by simp [Op.operands])) (he x (by simp [Op.operands])) hh) ha
  | nilCheck x =>
    simp only [aop] at ha
    have hx := he x (by simp [Op.operands])
    split at ha
    · rename_i a hv
      rw [hv] at hx
      obtain ⟨a', q, hp⟩ := hx.ptr_any
      cases ha
      exact ⟨.value (.pointer (some a')), _, ρ, w, by simp [execOp, q], .inl rfl, .fold ⟨a', rfl, hp⟩, H, Adv.refl _ _ _ _⟩
    · rename_i f first captured hv
      rw [hv] at hx
      obtain ⟨fn', f', c', q, h1, h2, h3⟩ := hx.unfold
      have h1 : fn' = .func f := h1
      subst h1
      cases ha
      exact ⟨.value (.func (.func f) f' c'), _, ρ, w, by simp [execOp, q], .inl rfl, .fold ⟨_, f', c', rfl, rfl, h2, h3⟩, H, Adv.refl _ _ _ _⟩
    · rename_i f first captured hv
      rw [hv] at hx
      obtain ⟨fn', f', c', q, ⟨l', rfl, hl⟩, h2, h3⟩ := hx.unfold
      cases ha
      exact ⟨.value (.func (.yield l') f' c'), _, ρ, w, by simp [execOp, q], .inl rfl, .fold ⟨_, f', c', rfl, ⟨l', rfl, hl⟩, h2, h3⟩, H, Adv.refl _ _ _ _⟩
    · cases ha
  | binOp op t x y yt =>
    simp only [aop] at ha
    have hx := he x (by simp [Op.operands])
    have hy := he y (by simp [Op.operands])
    split at ha
    · rename_i k a k' b hvx hvy
      rw [hvx] at hx
      rw [hvy] at hy
      split at ha
      · rename_i v hv
        cases ha
        obtain ⟨q1, q2⟩ := fbin_ok (P := P) t x y hv w
        refine ValOkN.op (s := do eqGuard op t x y (ce x) (ce y); binOp op t (ce x) (ce y)) (r := .val v h) (ValOk.same H (v' := v) ?_ (.flat q2))
        rw [hx.int, hy.int]
        exact q1
      · exact hflat (by simp) ha
    · split at ha
      · rename_i v hv
        cases ha
        obtain ⟨q1, q2⟩ := anil_ok x y hx hy hv w
        exact ValOkN.op (s := do eqGuard op t x y (ce x) (ce y); binOp op t (ce x) (ce y)) (r := .val v h) (ValOk.same H q1 (.flat q2))
      · exact hflat (by simp) ha
  | convert src dst x => simp only [aop] at ha; exact ValOkN.op (aconvert_ok H (he x (by simp [Op.operands])) ha)
  | sliceToArrayPointer arr x => simp only [aop] at ha; exact ValOkN.op (arrayAt_ok H (he x (by simp [Op.operands])) ha)
  | makeFunc fn first captured =>
    simp only [aop] at ha
    split at ha
    · rename_i f
      cases ha
      exact ⟨.value (.func (.func f) (first.map ce) (captured.map ce)), _, ρ, w, rfl, .inl rfl, .fold ⟨_, _, _, rfl, rfl, ARel.map fun x hx => he x (by simp [Op.operands, hx]), ARel.map fun x hx => he x (by simp [Op.operands, hx])⟩, H, Adv.refl _ _ _ _⟩
    · cases ha
  | makeMap t r => simp only [aop] at ha; exact ValOkN.op (amakeMap_ok H (orel_map fun y hy => he y (by simp [Op.operands, hy])) ha)
  | makeSlice t l c => simp only [aop] at ha; exact ValOkN.op (amakeSlice_ok H (he l (by simp [Op.operands])) (he c (by simp [Op.operands])) ha)
  | slice t x lo hi mx =>
    simp only [aop] at ha
    split at ha
    · exact hflat (by simp) ha
    · exact ValOkN.op (aslice_ok H (he x (by simp [Op.operands])) (orel_map fun y hy => he y (by simp [Op.operands, hy])) (orel_map fun y hy => he y (by simp [Op.operands, hy])) (orel_map fun y hy => he y (by simp [Op.operands, hy])) ha)
  | fieldAddr s x f =>
    simp only [aop] at ha
    refine valOf_ok H (fun v hv => ?_) ha
    obtain ⟨v', q1, q2⟩ := afield_ok (he x (by simp [Op.operands])) hv
    exact ⟨v', q1 w, q2⟩
  | field t x f =>
    simp only [aop] at ha
    refine valOf_ok H (fun v hv => ?_) ha
    obtain ⟨v', q1, q2⟩ := vfield_ok (he x (by simp [Op.operands])) hv
    exact ⟨v', q1 w, q2⟩
  | indexAddr t x ix =>
    simp only [aop] at ha
    refine valOf_ok H (fun v hv => ?_) ha
    obtain ⟨v', q1, q2⟩ := aindex_ok (he x (by simp [Op.operands])) (he ix (by simp [Op.operands])) hv
    exact ⟨v', q1 w, q2⟩
  | lookup t x ix ok => simp only [aop] at ha; exact valOf_ok H (fun v hv => alookup_ok H (he x (by simp [Op.operands])) (he ix (by simp [Op.operands])) hv) ha
  | mapUpdate t m k x => simp only [aop] at ha; exact skipOf_ok (fun h' hh => amapUpdate_ok H (he m (by simp [Op.operands])) (he k (by simp [Op.operands])) (he x (by simp [Op.operands])) hh) ha
  | range t x => simp only [aop] at ha; exact ValOkN.op (arange_ok H (he x (by simp [Op.operands])) ha)
  | next it isString => simp only [aop] at ha; exact ValOkN.op (anext_ok H (he it (by simp [Op.operands])) ha)
  | extract t i =>
    simp only [aop] at ha
    refine valOf_ok H (fun v hv => ?_) ha
    obtain ⟨v', q1, q2⟩ := aextract_ok (he t (by simp [Op.operands])) hv
    exact ⟨v', q1 w, q2⟩
  | call c => simp only [aop] at ha; exact hcall c rfl ha
  | unOp op t x => simp only [aop] at ha; exact hflat (by simp) ha
  | index t x ix => simp only [aop] at ha; exact hflat (by simp) ha
  | _ => simp [aop] at ha
end
end Go.Am
