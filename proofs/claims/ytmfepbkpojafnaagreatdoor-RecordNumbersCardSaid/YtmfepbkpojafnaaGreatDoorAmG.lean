/-
  OWN WORK. 'Am', seventh text: structs and slices that are built, slices of slices, conversions, comparisons with nil.
-/
import Derived.Test.YtmfepbkpojafnaaGreatDoorAmF
import Derived.Laws.IdiomStrings
namespace Go.Am

theorem pureRun_bind {α β : Type} (P : Program) (x : Sem α) (f : α → Sem β) : pureRun P (x >>= f) = (pureRun P x).bind fun a => pureRun P (f a) := by
  show pureRun P (x.bind f) = _
  induction x with
  | pure a => rfl
  | program k ih => exact ih P
  | mark m k ih => exact ih
  | choose q k ih =>
    simp only [Sem.bind, pureRun]
    cases q.forced
    · rfl
    · exact ih 0
  | _ => rfl
theorem pureRun_pure {α : Type} (P : Program) (a : α) : pureRun P (Pure.pure a : Sem α) = some a := rfl
theorem pureRun_stuck {α : Type} (P : Program) (why : String) : pureRun P (stuck why : Sem α) = none := rfl

section
variable {P : Program} {ρ : Rho} {h : AHeap} {w : World}

/-! Parts laid into a value. -/
def PartsRel (R : Value → Value → Prop) (a b : List (Nat × Value)) : Prop := a.length = b.length ∧ ∀ (i : Nat) x y, a[i]? = some x → b[i]? = some y → x.1 = y.1 ∧ R x.2 y.2
theorem foldl_set_rel {R : Value → Value → Prop} (off : Nat) : ∀ (vs vs' : List Value) (k : Nat) (cs cs' : Array Value), LRel R vs vs' → ARel R cs cs' →
    ARel R ((vs.zipIdx k).foldl (fun cs (c, j) => cs.setIfInBounds (off + j) c) cs) ((vs'.zipIdx k).foldl (fun cs (c, j) => cs.setIfInBounds (off + j) c) cs')
  | [], vs', k, cs, cs', hv, hc => by
    obtain rfl := hv.nil_left
    exact hc
  | v :: vs, vs', k, cs, cs', hv, hc => by
    obtain ⟨v', vs'', rfl, h1, h2⟩ := hv.cons_left
    simp only [List.zipIdx_cons, List.foldl_cons]
    refine foldl_set_rel off vs vs'' (k + 1) _ _ h2 ⟨by simp [hc.1], fun i x y hx hy => ?_⟩
    rw [Array.getElem?_setIfInBounds] at hx hy
    split at hx
    · rename_i e
      rw [if_pos e] at hy
      rw [← hc.1] at hy
      split at hx
      · rename_i hlt
        rw [if_pos hlt] at hy
        cases hx; cases hy; exact h1
      · cases hx
    · rename_i e
      rw [if_neg e] at hy
      exact hc.2 i x y hx hy
theorem fill_rel (place : Nat → Option (Nat × Nat)) : ∀ (ps ps' : List (Nat × Value)) (cs cs' r : Array Value), PartsRel (VRel ρ) ps ps' → ARel (VRel ρ) cs cs' → Instr.fill place cs ps = some r →
    ∃ r', Instr.fill place cs' ps' = some r' ∧ ARel (VRel ρ) r r'
  | [], ps', cs, cs', r, hp, hc, hf => by
    have : ps' = [] := by simpa using hp.1.symm
    subst this
    simp only [Instr.fill, Option.some.injEq] at hf ⊢
    exact ⟨cs', rfl, hf ▸ hc⟩
  | (i, v) :: ps, ps', cs, cs', r, hp, hc, hf => by
    cases ps' with
    | nil => have := hp.1; simp at this
    | cons q ps' =>
      obtain ⟨i', v'⟩ := q
      obtain ⟨e1, e2⟩ := hp.2 0 (i, v) (i', v') rfl rfl
      simp only at e1 e2
      subst e1
      have hp' : PartsRel (VRel ρ) ps ps' := ⟨by simpa using hp.1, fun j x y hx hy => hp.2 (j + 1) x y (by simpa using hx) (by simpa using hy)⟩
      simp only [Instr.fill] at hf ⊢
      cases hpl : place i with
      | none => simp [hpl] at hf
      | some q =>
        obtain ⟨off, size⟩ := q
        simp only [hpl] at hf ⊢
        have hcl := e2.cells
        have hs : v'.cells.size = v.cells.size := by have := hcl.1; simpa using this.symm
        rw [hs, ← hc.1]
        split at hf
        · cases hf
        · rename_i hne
          rw [if_neg hne]
          refine fill_rel place ps ps' _ _ r hp' ?_ hf
          have e : ∀ (vs : Array Value) (x : Array Value), vs.zipIdx.foldl (fun cs (c, j) => cs.setIfInBounds (off + j) c) x = (vs.toList.zipIdx).foldl (fun cs (c, j) => cs.setIfInBounds (off + j) c) x := fun vs x => by
            rw [← Array.foldl_toList, Array.toList_zipIdx]
          rw [e, e]
          exact foldl_set_rel off v.cells.toList v'.cells.toList 0 cs cs' hcl hc

theorem abuild_ok {t : TypeId} {parts parts' : Array (Nat × Value)} {x : Value} (hp : PartsRel (VRel ρ) parts.toList parts'.toList) (ha : abuild P t parts = some x) :
    ∃ x', (∀ w, (Instr.build t parts').run P w = .ok x' w) ∧ VRel ρ x x' := by
  unfold abuild at ha
  split at ha
  · rename_i z hz
    split at ha
    · rename_i hf
      have hzc : ARel (VRel ρ) z.cells z.cells := by
        have := (VRel.flat (ρ := ρ) hf).cells
        exact ARel.of_LRel this
      have r1 := pureRun_sound P _ _ hz
      unfold Instr.build at ha
      rw [pureRun_bind, hz] at ha
      simp only [Option.bind_some] at ha
      rw [pureRun_bind] at ha
      cases hu : pureRun P (underlying t) with
      | none => simp [hu] at ha
      | some u =>
        have r2 := pureRun_sound P _ _ hu
        rw [hu] at ha
        simp only [Option.bind_some] at ha
        cases u with
        | struct fields =>
          simp only at ha
          rw [pureRun_bind] at ha
          cases hm : pureRun P (fields.mapM fun f => do pure (f.offset, ← sizeOf f.type)) with
          | none => rw [hm] at ha; simp at ha
          | some places =>
            have r3 := pureRun_sound P _ _ hm
            rw [hm] at ha
            simp only [Option.bind_some] at ha
            cases hfl : Instr.fill (places[·]?) z.cells parts.toList with
            | none => simp [hfl, pureRun_stuck] at ha
            | some cells =>
              simp only [hfl, pureRun_pure, Option.some.injEq] at ha
              subst ha
              obtain ⟨r', e1, e2⟩ := fill_rel _ _ _ _ _ _ hp hzc hfl
              refine ⟨.agg r', fun w => ?_, .fold ⟨_, rfl, e2⟩⟩
              unfold Instr.build
              rw [run_then (r1 w), run_then (r2 w)]
              simp only
              rw [run_then (r3 w)]
              simp [e1]
        | array n elem =>
          simp only at ha
          rw [pureRun_bind] at ha
          cases hm : pureRun P (sizeOf elem) with
          | none => rw [hm] at ha; simp at ha
          | some size =>
            have r3 := pureRun_sound P _ _ hm
            rw [hm] at ha
            simp only [Option.bind_some] at ha
            cases hfl : Instr.fill (fun i => some (i * size, size)) z.cells parts.toList with
            | none => simp [hfl, pureRun_stuck] at ha
            | some cells =>
              simp only [hfl, pureRun_pure, Option.some.injEq] at ha
              subst ha
              obtain ⟨r', e1, e2⟩ := fill_rel _ _ _ _ _ _ hp hzc hfl
              refine ⟨.agg r', fun w => ?_, .fold ⟨_, rfl, e2⟩⟩
              unfold Instr.build
              rw [run_then (r1 w), run_then (r2 w)]
              simp only
              rw [run_then (r3 w)]
              simp [e1]
        | _ => simp [pureRun_stuck] at ha
    · cases ha
  · cases ha

theorem zero_flat {zero : Array Value} (hz : zero.toList.all (flat 2) = true) (j : Nat) : flat 2 zero[j]! = true := by
  by_cases hlt : j < zero.size
  · have e : zero[j]! = zero[j] := by simp [hlt]
    rw [e]
    exact List.all_eq_true.1 hz _ (by simp)
  · have e : zero[j]! = default := by simp [hlt]
    rw [e]
    rfl
theorem zeros_rel {zero : Array Value} (hz : zero.toList.all (flat 2) = true) (n : Nat) : ARel (VRel ρ) ((Array.range n).map (zero[· % zero.size]!)) ((Array.range n).map (zero[· % zero.size]!)) := by
  refine ARel.refl_of fun x hx => ?_
  simp only [Array.toList_map, List.mem_map] at hx
  obtain ⟨j, _, rfl⟩ := hx
  exact VRel.flat (zero_flat hz _)

theorem abuildSlice_ok (H : HRel ρ h w) {t : TypeId} {len : Nat} {parts parts' : Array (Nat × Value)} {r : ANext} (hp : PartsRel (VRel ρ) parts.toList parts'.toList) (ha : abuildSlice P h t len parts = some r) :
    ValOkN P ρ h w r (Instr.buildSlice t len parts') := by
  unfold abuildSlice at ha
  split at ha
  · rename_i elem hu
    have r1 := pureRun_sound P _ _ hu
    split at ha
    · rename_i size hs
      have r2 := pureRun_sound P _ _ hs
      split at ha
      · rename_i hle
        have hle := Nat.le_of_ble_eq_true hle
        split at ha
        · rename_i zero hz
          have r3 := pureRun_sound P _ _ hz
          split at ha
          · rename_i hfz
            split at ha
            · rename_i cells hf
              cases ha
              obtain ⟨r', e1, e2⟩ := fill_rel _ _ _ _ _ _ hp (zeros_rel (ρ := ρ) hfz (len * size)) hf
              obtain ⟨H', A'⟩ := new_cells_exact H cells.toList r' elem (size + 1) (LRel.of_ARel e2)
              have hlt : ¬ (16777216 < len * size) := by omega
              refine ⟨.slice (some ⟨w.heap.size, 0, none⟩) len len, _, w.alloc (.cells r' elem), ?_, VRel.mk_slice (g := ⟨w.heap.size, 0, r'.size, size + 1⟩) (ρ.upd_same _ _) (Nat.le_refl _) (Nat.le_refl _) (.inl rfl), H', A'⟩
              by_cases h0 : len * size = 0
              · have hz0 : zero = #[] := by
                  have := r3 w
                  simp only [h0] at this
                  simpa using this.symm
                subst hz0
                simp [Instr.buildSlice, r1, r2, h0] at e1 ⊢
                simp [e1, newRow]
              · have hr := r3 w
                rw [if_neg h0] at hr
                cases hzv : (zeroValue elem).run P w with
                | halt x y => simp [hzv] at hr
                | ok z w2 =>
                  simp [hzv] at hr
                  obtain ⟨rfl, rfl⟩ := hr
                  simp [Instr.buildSlice, r1, r2, h0, hlt, hzv, e1, newRow]
            · cases ha
          · cases ha
        · cases ha
      · cases ha
    · cases ha
  · cases ha

/-! Slices of slices. -/
theorem pureRun_bounds {α : Type} (P : Program) (k : IntKind) (x y : Int) (c : BoundsCode) : pureRun P (boundsPanic k x y c : Sem α) = none := by
  unfold boundsPanic
  dsimp only
  split <;> rfl
theorem bound_inv {v : Value} {y u : Nat} {c : BoundsCode} (hb : pureRun P (Instr.sliceBound v y c) = some u) : ∃ k i, v = .int k i ∧ 0 ≤ i ∧ i ≤ (y : Int) ∧ u = i.toNat := by
  unfold Instr.sliceBound at hb
  rw [pureRun_bind] at hb
  cases v with
  | int k i =>
    simp only [asIntOf, pureRun_pure, Option.bind_some] at hb
    split at hb
    · rename_i h
      rw [pureRun_pure] at hb
      exact ⟨k, i, rfl, h.1, h.2, by simpa using hb.symm⟩
    · rw [pureRun_bounds] at hb; cases hb
  | pointer a => cases a <;> simp [asIntOf, stuck, unsupported, pureRun] at hb
  | _ => simp [asIntOf, stuck, pureRun] at hb
theorem bound_run {k : IntKind} {i : Int} {y : Nat} {c : BoundsCode} (h0 : 0 ≤ i) (h1 : i ≤ (y : Int)) (w : World) : (Instr.sliceBound (.int k i) y c).run P w = .ok i.toNat w := by
  simp [Instr.sliceBound, asIntOf, h0, h1]
/-- What is known of the bounds that went through, and that they go through at a greater capacity. -/
theorem bounds_inv {b : Bool} {n k l u m : Nat} {lo hi : Option Value} (hnk : n ≤ k) (hb : pureRun P (Instr.sliceBounds b n k lo hi none) = some (l, u, m)) :
    m = k ∧ l ≤ u ∧ u ≤ k ∧ (∀ v, lo = some v → ∃ q i, v = .int q i) ∧ (∀ v, hi = some v → ∃ q i, v = .int q i) ∧ ∀ k' w, k ≤ k' → (Instr.sliceBounds b n k' lo hi none).run P w = .ok (l, u, k') w := by
  unfold Instr.sliceBounds at hb
  simp only [pureRun_bind, pureRun_pure, Option.bind_some] at hb
  cases hi with
  | none =>
    simp only [pureRun_bind, pureRun_pure, Option.bind_some] at hb
    cases lo with
    | none =>
      simp at hb
      obtain ⟨rfl, rfl, rfl⟩ := hb
      exact ⟨rfl, by omega, hnk, (fun v hv => by cases hv), (fun v hv => by cases hv), fun k' w _ => by simp [Instr.sliceBounds]⟩
    | some v =>
      simp only [pureRun_bind] at hb
      cases hl : pureRun P (Instr.sliceBound v n (if (none : Option Value).isSome then .slice3C else .sliceB)) with
      | none => rw [hl] at hb; cases hb
      | some l' =>
        rw [hl] at hb
        simp only [Option.bind_some, pureRun_pure, Option.some.injEq, Prod.mk.injEq] at hb
        obtain ⟨rfl, rfl, rfl⟩ := hb
        obtain ⟨q, i, rfl, h0, h1, rfl⟩ := bound_inv hl
        refine ⟨rfl, by omega, hnk, (fun v hv => by cases hv; exact ⟨_, _, rfl⟩), (fun v hv => by cases hv), fun k' w _ => ?_⟩
        simp [Instr.sliceBounds, bound_run h0 h1]
  | some z =>
    simp only [pureRun_bind] at hb
    cases hh : pureRun P (Instr.sliceBound z k (if b then .sliceAcap else .sliceAlen)) with
    | none => rw [hh] at hb; cases hb
    | some u' =>
      rw [hh] at hb
      simp only [Option.bind_some] at hb
      obtain ⟨q, i, rfl, h0, h1, rfl⟩ := bound_inv hh
      cases lo with
      | none =>
        simp only [pureRun_pure, Option.bind_some, Option.some.injEq, Prod.mk.injEq] at hb
        obtain ⟨rfl, rfl, rfl⟩ := hb
        refine ⟨rfl, by omega, by omega, (fun v hv => by cases hv), (fun v hv => by cases hv; exact ⟨_, _, rfl⟩), fun k' w hk => ?_⟩
        have h1' : i ≤ (k' : Int) := by omega
        simp [Instr.sliceBounds, bound_run h0 h1']
      | some v =>
        simp only [pureRun_bind] at hb
        cases hl : pureRun P (Instr.sliceBound v i.toNat (if (none : Option Value).isSome then .slice3C else .sliceB)) with
        | none => rw [hl] at hb; cases hb
        | some l' =>
          rw [hl] at hb
          simp only [Option.bind_some, pureRun_pure, Option.some.injEq, Prod.mk.injEq] at hb
          obtain ⟨rfl, rfl, rfl⟩ := hb
          obtain ⟨q', i', rfl, g0, g1, rfl⟩ := bound_inv hl
          refine ⟨rfl, by omega, by omega, (fun v hv => by cases hv; exact ⟨_, _, rfl⟩), (fun v hv => by cases hv; exact ⟨_, _, rfl⟩), fun k' w hk => ?_⟩
          have h1' : i ≤ (k' : Int) := by omega
          simp [Instr.sliceBounds, bound_run h0 h1', bound_run g0 g1]

def ORel (R : Value → Value → Prop) : Option Value → Option Value → Prop
  | none, none => True
  | some x, some y => R x y
  | _, _ => False
theorem ORel.int_eq {a b : Option Value} (k : ORel (VRel ρ) a b) (hi : ∀ v, a = some v → ∃ q i, v = .int q i) : b = a := by
  cases a with
  | none => cases b with
    | none => rfl
    | some y => exact k.elim
  | some x => cases b with
    | none => exact k.elim
    | some y =>
      obtain ⟨q, i, rfl⟩ := hi _ rfl
      rw [VRel.int k]

theorem nowhere_ok (H : HRel ρ h w) {s : Sem Value} {a : Addr} {k : Nat} (hs : s.run P w = .ok (.slice (some a) 0 k) w) : ValOkN P ρ h w (nowhere h) s := by
  obtain ⟨H', A'⟩ := H.nowhere
  exact ⟨_, _, w, hs, .fold ⟨a, k, rfl, by simp [PRel, ρ.upd_same], Nat.le_refl _, Nat.zero_le _, fun g hg => by simp [ρ.upd_same] at hg⟩, H', A'⟩

theorem aslice_ok (H : HRel ρ h w) {t : TypeId} {x y : Value} {lo hi mx lo' hi' mx' : Option Value} {r : ANext} (hx : VRel ρ x y) (hlo : ORel (VRel ρ) lo lo') (hhi : ORel (VRel ρ) hi hi') (hmx : ORel (VRel ρ) mx mx')
    (ha : aslice P h t x lo hi mx = some r) : ValOkN P ρ h w r (Instr.sliceAt t y lo' hi' mx') := by
  unfold aslice at ha
  split at ha
  · cases ha
  · have hm : mx' = none := by
      cases mx' with
      | none => rfl
      | some _ => exact hmx.elim
    subst hm
    split at ha
    · rename_i n elem i o hu
      have r1 := pureRun_sound P _ _ hu
      split at ha
      · rename_i l u m s hb hs
        have r2 := pureRun_sound P _ _ hs
        obtain ⟨rfl, hlu, hun, hl1, hh1, hrun⟩ := bounds_inv (Nat.le_refl _) hb
        obtain rfl := hlo.int_eq hl1
        obtain rfl := hhi.int_eq hh1
        obtain ⟨a', rfl, hp⟩ := hx.ptr_any
        have hr := hrun m w (Nat.le_refl _)
        split at ha
        · rename_i hlt
          have hlt : l < m := by simpa [Nat.blt_eq] using hlt
          cases ha
          refine ValOk.same H (v' := .slice (some (a'.add (l * s))) (u - l) (m - l)) ?_ (.fold ⟨_, _, rfl, hp.add, by omega, Nat.le_refl _, fun _ _ => .inl rfl⟩)
          simp [Instr.sliceAt, r1, Instr.sureAddr, hr, r2, show ¬ m = l by omega]
        · split at ha
          · rename_i hlm
            have hlm : l = m := by simpa using hlm
            subst hlm
            cases ha
            refine nowhere_ok H (a := a') (k := 0) ?_
            have : u - l = 0 := by omega
            simp [Instr.sliceAt, r1, Instr.sureAddr, hr, r2, this]
          · cases ha
      · cases ha
    · rename_i elem a n k hu
      have r1 := pureRun_sound P _ _ hu
      split at ha
      · rename_i l u m s hb hs
        have r2 := pureRun_sound P _ _ hs
        split at ha
        · split at ha
          · rename_i hz
            simp only [Bool.and_eq_true, Nat.beq_eq] at hz
            obtain ⟨⟨⟨rfl, rfl⟩, rfl⟩, rfl⟩ := hz
            cases ha
            obtain rfl := hx.atom_eq rfl
            obtain ⟨rfl, hlu, hun, hl1, hh1, hrun⟩ := bounds_inv (Nat.le_refl _) hb
            obtain rfl := hlo.int_eq hl1
            obtain rfl := hhi.int_eq hh1
            have hr := hrun 0 w (Nat.le_refl _)
            refine ValOk.same H (v' := .slice none 0 0) ?_ (.atom rfl)
            simp [Instr.sliceAt, r1, Instr.slice, hr, r2]
          · cases ha
        · rename_i i o
          obtain ⟨a', k', rfl, hp, hnk, hkk, hroom⟩ := hx.slice_any
          obtain ⟨rfl, hlu, hun, hl1, hh1, hrun⟩ := bounds_inv hnk hb
          obtain rfl := hlo.int_eq hl1
          obtain rfl := hhi.int_eq hh1
          have hr := hrun k' w hkk
          split at ha
          · rename_i hc
            simp only [Bool.and_eq_true, Nat.blt_eq] at hc
            obtain ⟨hlt, hfit⟩ := hc
            cases ha
            refine ValOk.same H (v' := .slice (some (a'.add (l * s))) (u - l) (k' - l)) ?_ (.fold ⟨_, _, rfl, hp.add, by omega, by omega, fun g hg => ?_⟩)
            · simp [Instr.sliceAt, r1, Instr.slice, hr, r2, show ¬ k' = l by omega]
            · rcases hroom g hg with e | ⟨sz, e1, e2⟩
              · exact .inl (by omega)
              · obtain ⟨oo, o', f1, f2, f3⟩ := H.obj i g hg
                have hsz : sz = s := by
                  unfold rowFits at hfit
                  rw [f1] at hfit
                  cases oo with
                  | cells c e row ro =>
                    obtain ⟨c', fr, _, _, _, hrow, _⟩ := f3
                    simp at hfit
                    omega
                  | dead => exact f3.elim
                  | _ => simp at hfit
                subst hsz
                refine .inr ⟨sz, e1, ?_⟩
                have : (k' - l) * sz + l * sz = k' * sz := by rw [← Nat.add_mul]; congr 1; omega
                simp only at e2 ⊢
                omega
          · split at ha
            · rename_i hlm
              have hlm : l = m := by simpa using hlm
              subst hlm
              cases ha
              have : u - l = 0 := by omega
              by_cases e : k' = l
              · subst e
                refine nowhere_ok H (a := a') (k := k' - k') ?_
                simp [Instr.sliceAt, r1, Instr.slice, hr, r2, this]
              · refine nowhere_ok H (a := a'.add (l * s)) (k := k' - l) ?_
                simp [Instr.sliceAt, r1, Instr.slice, hr, r2, this, e]
            · cases ha
        · cases ha
      · cases ha
    · cases ha
end
end Go.Am
