/-
  OWN WORK. 'Am', seventeenth text: equality of values; operations that make a block of their own.
-/
import Derived.Test.YtmfepbkpojafnaaGreatDoorAmP
namespace Go.Am
section
variable {P : Program} {ρ : Rho} {h : AHeap} {w : World}

theorem beqA_eq : ∀ {a b : Value}, beqA a b = true → a = b := by
  intro a b h
  cases a <;> cases b <;> simp_all [beqA, ByteArray.ext_iff]
theorem beqV_eq {a b : Value} (h : beqV a b = true) : a = b := by
  unfold beqV at h
  split at h
  · simp only [Bool.and_eq_true, beq_iff_eq] at h
    rw [h.1, beqA_eq h.2]
  · exact beqA_eq h
theorem beqVs_eq : ∀ {a b : List Value}, beqVs a b = true → a = b
  | [], [], _ => rfl
  | x :: r, y :: s, h => by
    simp only [beqVs, Bool.and_eq_true] at h
    rw [beqV_eq h.1, beqVs_eq h.2]
  | [], _ :: _, h => by simp [beqVs] at h
  | _ :: _, [], h => by simp [beqVs] at h
theorem beqD_eq {a b : Value} (h : beqD a b = true) : a = b := by
  unfold beqD at h
  split at h
  · rw [Array.toList_inj.1 (beqVs_eq h)]
  · rw [Array.toList_inj.1 (beqVs_eq h)]
  · exact beqV_eq h
theorem beqDs_eq : ∀ {a b : List Value}, beqDs a b = true → a = b
  | [], [], _ => rfl
  | x :: r, y :: s, h => by
    simp only [beqDs, Bool.and_eq_true] at h
    rw [beqD_eq h.1, beqDs_eq h.2]
  | [], _ :: _, h => by simp [beqDs] at h
  | _ :: _, [], h => by simp [beqDs] at h
theorem beqO_eq {a b : AObj} (h : beqO a b = true) : a = b := by
  unfold beqO at h
  split at h
  · simp only [Bool.and_eq_true, beq_iff_eq] at h
    rw [beqVs_eq h.1.1.1, h.1.1.2, h.1.2, h.2]
  · simp only [beq_iff_eq] at h
    rw [h]
  · rfl
  · cases h

/-! What an operation that makes a block of its own comes to, in whatever heap it is carried out. -/
def Born (P : Program) (ρ : Rho) (h : AHeap) (r : ANext) (s : Sem Value) : Prop :=
  ∃ v o, r = .val v (h.push o) ∧ ∀ w, ∃ g o' v', g.b = w.heap.size ∧ s.run P w = .ok v' (w.alloc o') ∧ ∀ ρ', ρ.le ρ' → ρ' h.n = .live g → VRel ρ' v v' ∧ ObjRel ρ' g o o'

theorem born_cells (ρ' : Rho) {c : List Value} {c' : Array Value} {elem : TypeId} {row b : Nat} (hc : LRel (VRel ρ') c c'.toList) : ObjRel ρ' ⟨b, 0, c'.size, row⟩ (.cells c elem row false) (.cells c' elem) := by
  refine ⟨c', (0, 0), rfl, ?_, rfl, rfl, fun j v hv => ?_, .inl rfl⟩
  · have := hc.1
    simp at this
    simp; omega
  · have hj : j < c.length := (List.getElem?_eq_some_iff.1 hv).1
    have hj' : j < c'.toList.length := by rw [← hc.1]; exact hj
    have e2 := List.getElem?_eq_getElem hj'
    refine ⟨_, ?_, hc.2 j v _ hv e2⟩
    rw [Array.getElem?_toList] at e2
    simp [e2]

theorem aalloc_born {elem : TypeId} {old : Value} {r : ANext} (ha : aalloc P h elem = some r) : Born P ρ h r (Instr.alloc elem true old) := by
  unfold aalloc at ha
  split at ha
  · rename_i z hz
    split at ha
    · rename_i hf
      cases ha
      have r1 := pureRun_sound P _ _ hz
      refine ⟨_, _, rfl, fun w => ⟨⟨w.heap.size, 0, z.cells.size, 0⟩, .cells z.cells elem, .pointer (some ⟨w.heap.size, 0, none⟩), rfl, ?_, fun ρ' _ hl => ⟨VRel.mk_ptr hl, born_cells ρ' (VRel.flat hf).cells⟩⟩⟩
      cases old <;> simp [Instr.alloc, r1, newVar, newRow]
    · cases ha
  · cases ha
theorem abox_born {elem : TypeId} {x y : Value} {r : ANext} (hx : VRel ρ x y) (ha : abox h elem x = some r) : Born P ρ h r (Instr.box elem y) := by
  unfold abox at ha
  cases ha
  exact ⟨_, _, rfl, fun w => ⟨⟨w.heap.size, 0, y.cells.size, 0⟩, .cells y.cells elem, .pointer (some ⟨w.heap.size, 0, none⟩), rfl, by simp [Instr.box, newVar, newRow], fun ρ' hle hl => ⟨VRel.mk_ptr hl, born_cells ρ' (hx.mono hle).cells⟩⟩⟩
theorem abuildSlice_born {t : TypeId} {len : Nat} {parts parts' : Array (Nat × Value)} {r : ANext} (hp : PartsRel (VRel ρ) parts.toList parts'.toList) (ha : abuildSlice P h t len parts = some r) :
    Born P ρ h r (Instr.buildSlice t len parts') := by
  unfold abuildSlice at ha
  split at ha
  · rename_i elem hu
    have r1 := pureRun_sound P _ _ hu
    split at ha
    · rename_i size hs
      have r2 := pureRun_sound P _ _ hs
      split at ha
      · rename_i hle
        have hle := Nat.le_of_ble_eq_true hle
        split at ha
        · rename_i zero hz
          have r3 := pureRun_sound P _ _ hz
          split at ha
          · rename_i hfz
            split at ha
            · rename_i cells hf
              cases ha
              obtain ⟨r', e1, e2⟩ := fill_rel _ _ _ _ _ _ hp (zeros_rel (ρ := ρ) hfz (len * size)) hf
              have hlt : ¬ (16777216 < len * size) := by omega
              refine ⟨_, _, rfl, fun w => ⟨⟨w.heap.size, 0, r'.size, size + 1⟩, .cells r' elem, .slice (some ⟨w.heap.size, 0, none⟩) len len, rfl, ?_, fun ρ' hle hl => ⟨VRel.mk_slice hl (Nat.le_refl _) (Nat.le_refl _) (.inl rfl), born_cells ρ' ((LRel.of_ARel e2).mono fun _ _ k => k.mono hle)⟩⟩⟩
              by_cases h0 : len * size = 0
              · have hz0 : zero = #[] := by
                  have := r3 w
                  simp only [h0] at this
                  simpa using this.symm
                subst hz0
                simp [Instr.buildSlice, r1, r2, h0] at e1 ⊢
                simp [e1, newRow]
              · have hr := r3 w
                rw [if_neg h0] at hr
                cases hzv : (zeroValue elem).run P w with
                | halt x y => simp [hzv] at hr
                | ok z w2 =>
                  simp [hzv] at hr
                  obtain ⟨rfl, rfl⟩ := hr
                  simp [Instr.buildSlice, r1, r2, h0, hlt, hzv, e1, newRow]
            · cases ha
          · cases ha
        · cases ha
      · cases ha
    · cases ha
  · cases ha
theorem amakeSlice_born {t : TypeId} {len cap len' cap' : Value} {r : ANext} (hl : VRel ρ len len') (hc : VRel ρ cap cap') (ha : amakeSlice P h t len cap = some r) : Born P ρ h r (Instr.makeSlice t len' cap') := by
  unfold amakeSlice at ha
  split at ha
  · rename_i elem l c hu
    have r1 := pureRun_sound P _ _ hu
    obtain rfl := hl.int
    obtain rfl := hc.int
    split at ha
    · rename_i info s hi hs
      have r2 := pureRun_sound P _ _ hi
      have r3 := pureRun_sound P _ _ hs
      split at ha
      · rename_i hb
        simp only [Bool.and_eq_true, Nat.ble_eq] at hb
        obtain ⟨⟨hlc, hc1⟩, hbytes⟩ := hb
        split at ha
        · rename_i zero hz
          split at ha
          · rename_i hfz
            cases ha
            refine ⟨_, _, rfl, fun w => ⟨⟨w.heap.size, 0, _, s + 1⟩, .cells ((Array.range (c * s)).map (zero[· % zero.size]!)) elem, .slice (some ⟨w.heap.size, 0, none⟩) l c, rfl, ?_, fun ρ' hle hl => ⟨VRel.mk_slice hl hlc (Nat.le_refl _) (.inl rfl), born_cells ρ' (LRel.of_ARel (zeros_rel (ρ := ρ') hfz (c * s)))⟩⟩⟩
            have w1 : IntKind.i64.wrap (l : Int) = (l : Int) := IntWalk.i64_in _ ⟨by omega, by omega⟩
            have w2 : IntKind.i64.wrap (c : Int) = (c : Int) := IntWalk.i64_in _ ⟨by omega, by omega⟩
            have g1 : ¬ ((c : Int) < 0) := by omega
            have g2 : ¬ ((281474976710656 : Int) < (info.bytes : Int) * (c : Int)) := by
              have : ((info.bytes * c : Nat) : Int) ≤ ((281474976710656 : Nat) : Int) := Int.ofNat_le.2 hbytes
              rw [Int.natCast_mul] at this
              exact Int.not_lt.2 this
            have g3 : ¬ ((l : Int) < 0) := by omega
            have g4 : ¬ ((c : Int) < (l : Int)) := by omega
            rcases zero_cells_run hz with ⟨h0, rfl⟩ | ⟨h0, z, rfl, hzr⟩
            · simp [Instr.makeSlice, r1, asInt, asIntOf, r2, w1, w2, g1, g2, g3, g4, r3, h0, newRow]
            · simp [Instr.makeSlice, r1, asInt, asIntOf, r2, w1, w2, g1, g2, g3, g4, r3, h0, hzr, newRow]
          · cases ha
        · cases ha
      · cases ha
    · cases ha
  · cases ha
theorem amakeMap_born {t : TypeId} {x y : Option Value} {r : ANext} (hx : ORel (VRel ρ) x y) (ha : amakeMap P h t x = some r) : Born P ρ h r (Instr.makeMap t y) := by
  have core : Born P ρ h (.val (.map (some h.n)) (h.push (.map [] 0))) (do pure (.map (some (← newObj (.map #[] 0))))) :=
    ⟨_, _, rfl, fun w => ⟨⟨w.heap.size, 0, 0, 0⟩, .map #[] 0, .map (some w.heap.size), rfl, by simp, fun ρ' hle hl => ⟨.fold ⟨w.heap.size, rfl, by simp [BRel, hl]⟩, ⟨#[], rfl, rfl, fun i a b ha => by simp at ha⟩⟩⟩⟩
  unfold amakeMap at ha
  split at ha
  · cases ha
    cases y with
    | some _ => exact hx.elim
    | none =>
      obtain ⟨v, o, e, k⟩ := core
      refine ⟨v, o, e, fun w => ?_⟩
      obtain ⟨g, o', v', k1, k2, k3⟩ := k w
      exact ⟨g, o', v', k1, by rw [← k2]; simp [Instr.makeMap], k3⟩
  · split at ha
    · rename_i hu
      have r1 := pureRun_sound P _ _ hu
      cases ha
      cases y with
      | none => exact hx.elim
      | some y =>
        obtain rfl := VRel.int hx
        obtain ⟨v, o, e, k⟩ := core
        refine ⟨v, o, e, fun w => ?_⟩
        obtain ⟨g, o', v', k1, k2, k3⟩ := k w
        exact ⟨g, o', v', k1, by rw [← k2]; simp [Instr.makeMap, r1, asInt, asIntOf], k3⟩
    · cases ha
  · cases ha

/-- The same of an operation, a block of which nothing is known among them. -/
def BornN (P : Program) (ρ : Rho) (n : Nat) (v : Value) (o : AObj) (s : Sem Next) : Prop :=
  ∀ w, (∃ g o' v', g.b = w.heap.size ∧ s.run P w = .ok (.value v') (w.alloc o') ∧ ∀ ρ', ρ.le ρ' → ρ' n = .live g → VRel ρ' v v' ∧ ObjRel ρ' g o o') ∨
    (o = .dead ∧ ∃ v', s.run P w = .ok (.value v') w ∧ ∀ ρ', ρ.le ρ' → ρ' n = .dead → VRel ρ' v v')
theorem push_inj {h : AHeap} {o o' : AObj} (e : h.push o = h.push o') : o = o' := by
  have := congrArg (fun k : AHeap => k.get h.n) e
  simpa [AHeap.get_push] using this
theorem push_ne {h : AHeap} {o : AObj} (e : h = h.push o) : False := by
  have := congrArg AHeap.n e
  simp at this
theorem Born.op {r : ANext} {s : Sem Value} (k : Born P ρ h r s) {v : Value} {o : AObj} (e : r = .val v (h.push o)) : BornN P ρ h.n v o (do pure (.value (← s))) := by
  obtain ⟨v₀, o₀, rfl, k⟩ := k
  injection e with e1 e2
  subst e1
  obtain rfl := push_inj e2
  intro w
  obtain ⟨g, o', v', k1, k2, k3⟩ := k w
  exact .inl ⟨g, o', v', k1, by simp [k2], k3⟩

theorem nowhere_born {v : Value} {o : AObj} (e : nowhere h = .val v (h.push o)) {s : Sem Value} (hs : ∀ w, ∃ a k, s.run P w = .ok (.slice (some a) 0 k) w) : BornN P ρ h.n v o (do pure (.value (← s))) := by
  unfold nowhere at e
  injection e with e1 e2
  subst e1
  obtain rfl := push_inj e2
  intro w
  obtain ⟨a, k, hs⟩ := hs w
  refine .inr ⟨rfl, .slice (some a) 0 k, by simp [hs], fun ρ' _ hd => .fold ⟨a, k, rfl, ?_, Nat.le_refl _, Nat.zero_le _, fun g hg => ?_⟩⟩
  · simp [PRel, hd]
  · simp only at hg
    rw [hd] at hg
    cases hg

theorem aslice_born {t : TypeId} {x y : Value} {lo hi mx lo' hi' mx' : Option Value} {v : Value} {ob : AObj} (hx : VRel ρ x y) (hlo : ORel (VRel ρ) lo lo') (hhi : ORel (VRel ρ) hi hi') (hmx : ORel (VRel ρ) mx mx')
    (ha : aslice P h t x lo hi mx = some (.val v (h.push ob))) : BornN P ρ h.n v ob (do pure (.value (← Instr.sliceAt t y lo' hi' mx'))) := by
  have no : ∀ v₀, (some (ANext.val v₀ h) = some (.val v (h.push ob))) → False := fun v₀ e => by
    injection e with e
    injection e with _ e
    exact push_ne e
  unfold aslice at ha
  split at ha
  · cases ha
  · have hm : mx' = none := by
      cases mx' with
      | none => rfl
      | some _ => exact hmx.elim
    subst hm
    split at ha
    · rename_i n elem i o hu
      have r1 := pureRun_sound P _ _ hu
      split at ha
      · rename_i l u m s hb hs
        have r2 := pureRun_sound P _ _ hs
        obtain ⟨rfl, hlu, hun, hl1, hh1, hrun⟩ := bounds_inv (Nat.le_refl _) hb
        obtain rfl := hlo.int_eq hl1
        obtain rfl := hhi.int_eq hh1
        obtain ⟨a', rfl, hp⟩ := hx.ptr_any
        split at ha
        · exact (no _ ha).elim
        · split at ha
          · rename_i hlm
            have hlm : l = m := by simpa using hlm
            subst hlm
            injection ha with ha
            refine nowhere_born ha fun w => ⟨a', 0, ?_⟩
            have hr := hrun l w (Nat.le_refl _)
            have : u - l = 0 := by omega
            simp [Instr.sliceAt, r1, Instr.sureAddr, hr, r2, this]
          · cases ha
      · cases ha
    · rename_i elem a n k hu
      have r1 := pureRun_sound P _ _ hu
      split at ha
      · rename_i l u m s hb hs
        have r2 := pureRun_sound P _ _ hs
        split at ha
        · split at ha
          · exact (no _ ha).elim
          · cases ha
        · rename_i i o
          obtain ⟨a', k', rfl, hp, hnk, hkk, hroom⟩ := hx.slice_any
          obtain ⟨rfl, hlu, hun, hl1, hh1, hrun⟩ := bounds_inv hnk hb
          obtain rfl := hlo.int_eq hl1
          obtain rfl := hhi.int_eq hh1
          split at ha
          · exact (no _ ha).elim
          · split at ha
            · rename_i hlm
              have hlm : l = m := by simpa using hlm
              subst hlm
              injection ha with ha
              have : u - l = 0 := by omega
              by_cases e : k' = l
              · subst e
                refine nowhere_born ha fun w => ⟨a', k' - k', ?_⟩
                have hr := hrun k' w hkk
                simp [Instr.sliceAt, r1, Instr.slice, hr, r2, this]
              · refine nowhere_born ha fun w => ⟨a'.add (l * s), k' - l, ?_⟩
                have hr := hrun k' w hkk
                simp [Instr.sliceAt, r1, Instr.slice, hr, r2, this, e]
            · cases ha
        · cases ha
      · cases ha
    · cases ha

/-- An operation that makes a block of its own does so in whatever heap. -/
theorem maker_born {o : Oper} {ev ce : Operand → Value} {v : Value} {ob : AObj} (he : ∀ x ∈ o.op.operands, VRel ρ (ev x) (ce x)) (hm : maker o ob = true) (ha : aop P o ev h = some (.val v (h.push ob))) :
    BornN P ρ h.n v ob (execOp ce o) := by
  obtain ⟨dst, op, type, pos, after, guard⟩ := o
  simp only at he
  cases op <;> simp only [maker, Bool.false_eq_true] at hm
  case alloc elem => simp only [aop] at ha; exact Born.op (aalloc_born ha) rfl
  case box elem x => simp only [aop] at ha; exact Born.op (abox_born (he x (by simp [Op.operands])) ha) rfl
  case buildSlice t len parts => simp only [aop] at ha; exact Born.op (abuildSlice_born (parts_rel fun x hx => he x (by simpa [Op.operands] using hx)) ha) rfl
  case makeSlice t l c => simp only [aop] at ha; exact Born.op (amakeSlice_born (he l (by simp [Op.operands])) (he c (by simp [Op.operands])) ha) rfl
  case makeMap t r => simp only [aop] at ha; exact Born.op (amakeMap_born (orel_map fun y hy => he y (by simp [Op.operands, hy])) ha) rfl
  case slice t x lo hi mx =>
    simp only [aop] at ha
    split at ha
    · unfold aflat at ha
      split at ha
      · split at ha
        · split at ha
          · injection ha with ha
            injection ha with _ e
            exact (push_ne e).elim
          · cases ha
        · cases ha
      · cases ha
    · exact aslice_born (he x (by simp [Op.operands])) (orel_map fun y hy => he y (by simp [Op.operands, hy])) (orel_map fun y hy => he y (by simp [Op.operands, hy])) (orel_map fun y hy => he y (by simp [Op.operands, hy])) ha

/-- A value, the heap as it was or with a block more. -/
def Mild (h : AHeap) (r : ANext) : Prop := ∃ v h', r = .val v h' ∧ (h' = h ∨ ∃ ob, h' = h.push ob)
theorem Mild.same (v : Value) : Mild h (.val v h) := ⟨v, h, rfl, .inl rfl⟩
theorem Mild.more (v : Value) (ob : AObj) : Mild h (.val v (h.push ob)) := ⟨v, _, rfl, .inr ⟨ob, rfl⟩⟩
theorem valOf_mild {x : Option Value} {r : ANext} (ha : valOf x h = some r) : Mild h r := by
  cases x with
  | none => cases ha
  | some v => cases ha; exact .same v
theorem aflat_mild {o : Oper} {ev : Operand → Value} {r : ANext} (ha : aflat P o ev h = some r) : Mild h r := by
  unfold aflat at ha
  repeat' split at ha
  all_goals first
    | cases ha; done
    | (cases ha; exact .same _)
/-- An operation that changes nothing but for a block of its own. -/
theorem eager_mild {o : Oper} {ev : Operand → Value} {r : ANext} (he : eager o = true) (ha : aop P o ev h = some r) : Mild h r := by
  obtain ⟨dst, op, type, pos, after, guard⟩ := o
  cases op <;> simp only [eager, Bool.false_eq_true] at he
  case move x => cases ha; exact .same _
  case assign x => cases ha; exact .same _
  case pick c a b =>
    simp only [aop] at ha
    split at ha
    · cases ha; exact .same _
    · cases ha
  case build t parts => simp only [aop] at ha; exact valOf_mild ha
  case load t a => simp only [aop] at ha; exact valOf_mild ha
  case nilCheck x =>
    simp only [aop] at ha
    split at ha
    · cases ha; exact .same _
    · cases ha; exact .same _
    · cases ha; exact .same _
    · cases ha
  case binOp op t x y yt =>
    simp only [aop] at ha
    split at ha
    · split at ha
      · cases ha; exact .same _
      · exact aflat_mild ha
    · split at ha
      · cases ha; exact .same _
      · exact aflat_mild ha
  case unOp => simp only [aop] at ha; exact aflat_mild ha
  case index => simp only [aop] at ha; exact aflat_mild ha
  case convert src dst x =>
    simp only [aop, aconvert] at ha
    split at ha
    · cases ha; exact .same _
    · split at ha
      · cases ha; exact .more _ _
      · cases ha
    · split at ha
      · cases ha; exact .same _
      · cases ha
    · split at ha
      · split at ha
        · rename_i cs _
          cases hs : stringOf cs with
          | none => rw [hs] at ha; cases ha
          | some b => rw [hs] at ha; cases ha; exact .same _
        · cases ha
      · cases ha
    · split at ha
      · cases hc : pureRun P (convert src dst (ev x)) with
        | none => rw [hc] at ha; cases ha
        | some v =>
          rw [hc] at ha
          simp only [Option.bind_some] at ha
          split at ha
          · cases ha; exact .same _
          · cases ha
      · cases ha
  case slice t x lo hi mx =>
    simp only [aop] at ha
    split at ha
    · exact aflat_mild ha
    · unfold aslice at ha
      repeat' split at ha
      all_goals first
        | cases ha; done
        | (cases ha; exact .same _)
        | (cases ha; exact .more _ _)
  case fieldAddr => simp only [aop] at ha; exact valOf_mild ha
  case indexAddr => simp only [aop] at ha; exact valOf_mild ha
  case field => simp only [aop] at ha; exact valOf_mild ha
  case extract => simp only [aop] at ha; exact valOf_mild ha
  case makeFunc fn first captured =>
    simp only [aop] at ha
    split at ha
    · cases ha; exact .same _
    · cases ha
  case alloc elem =>
    simp only [aop, aalloc] at ha
    repeat' split at ha
    all_goals first
      | cases ha; done
      | (cases ha; exact .more _ _)
  case box elem x => simp only [aop, abox] at ha; cases ha; exact .more _ _
  case buildSlice t len parts =>
    simp only [aop, abuildSlice] at ha
    repeat' split at ha
    all_goals first
      | cases ha; done
      | (cases ha; exact .more _ _)
  case makeSlice t l c =>
    simp only [aop, amakeSlice] at ha
    repeat' split at ha
    all_goals first
      | cases ha; done
      | (cases ha; exact .more _ _)
  case makeMap t r =>
    simp only [aop, amakeMap] at ha
    repeat' split at ha
    all_goals first
      | cases ha; done
      | (cases ha; exact .more _ _)
  case call c =>
    obtain ⟨callee, args, argTypes⟩ := c
    cases callee <;> simp only [Bool.false_eq_true] at he
    rename_i b
    simp only [aop, acall] at ha
    cases b <;> simp only [Bool.false_eq_true] at he ha
    case len =>
      split at ha
      · cases ha; exact .same _
      · exact aflat_mild ha
    all_goals exact aflat_mild ha
end
end Go.Am
