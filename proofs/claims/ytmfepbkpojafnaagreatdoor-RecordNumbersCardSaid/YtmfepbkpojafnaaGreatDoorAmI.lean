/-
  OWN WORK. 'Am', ninth text: comparisons with nil, maps, strings that are ranged over, new slices.
-/
import Derived.Test.YtmfepbkpojafnaaGreatDoorAmH
namespace Go.Am
section
variable {P : Program} {ρ : Rho} {h : AHeap} {w : World}

theorem anil_ok {op : BinOp} {t : TypeId} {x y x' y' v : Value} (xo yo : Operand) (hx : VRel ρ x x') (hy : VRel ρ y y') (ha : anil P op t x y = some v) (w : World) :
    (do eqGuard op t xo yo x' y'; binOp op t x' y' : Sem Value).run P w = .ok v w ∧ flat 3 v = true := by
  obtain ⟨d, hd⟩ : ∃ d, Op.maxDepth = d + 1 := ⟨9999, rfl⟩
  unfold anil at ha
  split at ha
  · rename_i r hop
    have hr : (op = .eql ∧ r = false) ∨ (op = .neq ∧ r = true) := by
      cases op <;> simp at hop <;> simp [hop]
    split at ha
    · rename_i e a n k m j hu
      have r1 := pureRun_sound P _ _ hu
      cases ha
      obtain ⟨a', k', rfl, _⟩ := hx.slice_any
      obtain rfl := hy.atom_eq rfl
      rcases hr with ⟨rfl, rfl⟩ | ⟨rfl, rfl⟩ <;> simp [eqGuard, binOp, Op.equal, hd, Op.equalIn, r1, flat, atomB]
    · rename_i e n k a m j hu
      have r1 := pureRun_sound P _ _ hu
      cases ha
      obtain ⟨a', k', rfl, _⟩ := hy.slice_any
      obtain rfl := hx.atom_eq rfl
      rcases hr with ⟨rfl, rfl⟩ | ⟨rfl, rfl⟩ <;> simp [eqGuard, binOp, Op.equal, hd, Op.equalIn, r1, flat, atomB]
    · rename_i e a hu
      have r1 := pureRun_sound P _ _ hu
      cases ha
      obtain ⟨a', rfl, _⟩ := hx.ptr_any
      obtain rfl := hy.atom_eq rfl
      rcases hr with ⟨rfl, rfl⟩ | ⟨rfl, rfl⟩ <;> simp [eqGuard, binOp, Op.equal, hd, Op.equalIn, r1, flat, atomB]
    · rename_i e a hu
      have r1 := pureRun_sound P _ _ hu
      cases ha
      obtain ⟨a', rfl, _⟩ := hy.ptr_any
      obtain rfl := hx.atom_eq rfl
      rcases hr with ⟨rfl, rfl⟩ | ⟨rfl, rfl⟩ <;> simp [eqGuard, binOp, Op.equal, hd, Op.equalIn, r1, flat, atomB]
    · rename_i hu
      have r1 := pureRun_sound P _ _ hu
      cases ha
      obtain ⟨fn', f', c', rfl, _⟩ := hx.unfold
      obtain rfl := hy.atom_eq rfl
      rcases hr with ⟨rfl, rfl⟩ | ⟨rfl, rfl⟩ <;> simp [eqGuard, binOp, Op.equal, hd, Op.equalIn, r1, flat, atomB]
    · rename_i hu
      have r1 := pureRun_sound P _ _ hu
      cases ha
      obtain ⟨fn', f', c', rfl, _⟩ := hy.unfold
      obtain rfl := hx.atom_eq rfl
      rcases hr with ⟨rfl, rfl⟩ | ⟨rfl, rfl⟩ <;> simp [eqGuard, binOp, Op.equal, hd, Op.equalIn, r1, flat, atomB]
    · cases ha
  · cases ha

/-! Maps. -/
def EntsRel (ρ : Rho) (es es' : List MapEntry) : Prop := es'.length = es.length ∧ ∀ (i : Nat) e e', es[i]? = some e → es'[i]? = some e' → EntRel ρ e e'
theorem EntsRel.cons_left {e : MapEntry} {es es' : List MapEntry} (k : EntsRel ρ (e :: es) es') : ∃ e' es'', es' = e' :: es'' ∧ EntRel ρ e e' ∧ EntsRel ρ es es'' := by
  cases es' with
  | nil => have := k.1; simp at this
  | cons e' es'' => exact ⟨e', es'', rfl, k.2 0 e e' rfl rfl, by simpa using k.1, fun i a b ha hb => k.2 (i + 1) a b (by simpa using ha) (by simpa using hb)⟩
theorem findNow_rel (kind : TypeDesc) (key : Value) : ∀ (es es' : List MapEntry) (i : Nat) (r : Option (Nat × Value)), EntsRel ρ es es' → Instr.findNow kind key es i = some r →
    match r with
    | none => Instr.findNow kind key es' i = some none
    | some (j, v) => ∃ v', Instr.findNow kind key es' i = some (some (j, v')) ∧ VRel ρ v v' ∧ i ≤ j ∧ j - i < es.length
  | [], es', i, r, k, hf => by
    have : es' = [] := by simpa using k.1
    subst this
    simp only [Instr.findNow, Option.some.injEq] at hf
    subst hf
    rfl
  | e :: es, es', i, r, k, hf => by
    obtain ⟨e', es'', rfl, h1, h2⟩ := k.cons_left
    simp only [Instr.findNow] at hf ⊢
    rw [h1.1]
    cases hs : Instr.sameNow kind key e.key with
    | none => simp [hs] at hf
    | some b =>
      cases b with
      | true =>
        simp only [hs, Option.some.injEq] at hf
        subst hf
        exact ⟨e'.val, rfl, h1.2.2.2, Nat.le_refl _, by simp⟩
      | false =>
        simp only [hs] at hf ⊢
        have := findNow_rel kind key es es'' (i + 1) r h2 hf
        cases r with
        | none => exact this
        | some q =>
          obtain ⟨j, v⟩ := q
          obtain ⟨v', a, b, c, d⟩ := this
          exact ⟨v', a, b, by omega, by simp; omega⟩

theorem amapOf_ok (H : HRel ρ h w) {x y : Value} {es : List MapEntry} (hx : VRel ρ x y) (ha : amapOf h x = some es) :
    (y = .map none ∧ es = []) ∨ ∃ r es' clock, y = .map (some r) ∧ w.heap[r]? = some (.map es' clock) ∧ EntsRel ρ es es'.toList := by
  unfold amapOf at ha
  split at ha
  · cases ha
    exact .inl ⟨hx.atom_eq rfl, rfl⟩
  · rename_i r
    split at ha
    · rename_i es0 clock hg
      cases ha
      obtain ⟨r', rfl, hb⟩ := hx.unfold
      obtain ⟨g, hi⟩ := H.get_live hg (by simp) hb.born
      obtain rfl := hb.live hi
      obtain ⟨o, o', f1, f2, f3⟩ := H.obj _ g hi
      rw [hg] at f1
      cases f1
      obtain ⟨es', rfl, e2, e3⟩ := f3
      exact .inr ⟨_, es', clock, rfl, f2, by simpa using e2, fun i a b ha hb => e3 i a b ha (by simpa using hb)⟩
    · cases ha
  · cases ha
theorem run_getObj {r : Nat} {o : Obj} (hr : w.heap[r]? = some o) (hc : ∀ c e f, o ≠ .cells c e f) : (getObj r).run P w = .ok o w := by
  cases o <;> first | (simp [getObj, Sem.run, hr]; done) | exact absurd rfl (hc _ _ _)
theorem run_setObj {r : Nat} {o o' : Obj} (hr : w.heap[r]? = some o) (hc : ∀ c e f, o ≠ .cells c e f) : (setObj r o').run P w = .ok () (setBlock w r o') := by
  cases o <;> first | (simp [setObj, Sem.run, hr, setBlock]; done) | exact absurd rfl (hc _ _ _)

theorem alookup_ok (H : HRel ρ h w) {t : TypeId} {x y ix iy v : Value} {ok : Bool} (hx : VRel ρ x y) (hi : VRel ρ ix iy) (ha : alookup P h t x ix ok = some v) :
    ∃ v', (Instr.lookup t y iy ok).run P w = .ok v' w ∧ VRel ρ v v' := by
  unfold alookup at ha
  split at ha
  · rename_i key elem hu
    have r1 := pureRun_sound P _ _ hu
    split at ha
    · rename_i es hm hf
      obtain rfl := VRel.flat_eq hf hi
      have pair : ∀ {v v' : Value} (b : Bool), VRel ρ v v' → VRel ρ (if ok then .tuple #[v, .bool b] else v) (if ok then .tuple #[v', .bool b] else v') := fun {v v'} b k => by
        cases ok
        · exact k
        · exact .fold ⟨_, rfl, ARel.of_LRel (LRel.cons k (LRel.cons (.atom rfl) LRel.nil))⟩
      split at ha
      · rename_i uu kind hck hk
        have r2 := pureRun_sound P _ _ hck
        have r3 := pureRun_sound P _ _ hk
        have body : ∀ es' : Array MapEntry, EntsRel ρ es es'.toList → ∃ v', (do
            Instr.checkKey es'.isEmpty 10000 key iy
            let (v, b) ← match ← Instr.findKey key iy es'.toList with
              | some (_, v) => pure (v, true)
              | none => pure (← zeroValue elem, false)
            pure (if ok then .tuple #[v, .bool b] else v) : Sem Value).run P w = .ok v' w ∧ VRel ρ v v' := by
          intro es' he
          have hemp : es'.isEmpty = es.isEmpty := by
            have := he.1
            rw [← Array.isEmpty_toList]
            cases es <;> cases h' : es'.toList <;> simp_all
          rw [hemp]
          split at ha
          · rename_i j u hfn
            cases ha
            obtain ⟨v', e1, e2, _⟩ := findNow_rel kind iy es es'.toList 0 _ he hfn
            exact ⟨_, by simp [r2, Instr.findKey, r3, e1], pair true e2⟩
          · rename_i hfn
            have e1 := findNow_rel kind iy es es'.toList 0 _ he hfn
            simp only at e1
            split at ha
            · rename_i z hz
              have r4 := pureRun_sound P _ _ hz
              split at ha
              · rename_i hfz
                cases ha
                exact ⟨_, by simp [r2, Instr.findKey, r3, e1, r4], pair false (.flat hfz)⟩
              · cases ha
            · cases ha
          · cases ha
        rcases amapOf_ok H hx hm with ⟨rfl, rfl⟩ | ⟨r, es', clock, rfl, hr, he⟩
        · obtain ⟨v', e1, e2⟩ := body #[] ⟨rfl, fun i a b ha => by simp at ha⟩
          refine ⟨v', ?_, e2⟩
          rw [← e1]
          simp [Instr.lookup, r1]
          rfl
        · obtain ⟨v', e1, e2⟩ := body es' he
          refine ⟨v', ?_, e2⟩
          rw [← e1]
          simp [Instr.lookup, r1, run_getObj hr (by simp)]
          rfl
      · cases ha
    · cases ha
  · cases ha

/-- A block that is no cells is written. -/
theorem HRel.setObj (H : HRel ρ h w) {i : Nat} {g : G} (hi : ρ i = .live g) {o : AObj} {o' : Obj} (ho : ObjRel ρ g o o') (hrw : (h.set i o).rw i = h.rw i) (hrw' : h.rw i = true) :
    HRel ρ (h.set i o) (setBlock w g.b o') ∧ Adv h.n ρ h w ρ (h.set i o) (setBlock w g.b o') := by
  have hb : g.b < w.heap.size := H.lt hi
  have hrwj : ∀ j, (h.set i o).rw j = h.rw j := fun j => by
    by_cases e : j = i
    · subst e; exact hrw
    · unfold AHeap.rw; rw [AHeap.get_set, if_neg e]
  refine ⟨⟨H.bound, H.inj, fun j gj hj => ?_, fun j hj q hq => ?_⟩, Rho.le_refl _, Nat.le_refl _, by simp, rfl, rfl, rfl, fun b hb' hob => ?_, fun b _ ⟨j, gj, hj, hbj, hr⟩ => ⟨j, gj, hj, hbj, by rwa [hrwj] at hr⟩, fun _ _ h => h⟩
  · by_cases e : j = i
    · subst e
      rw [hi] at hj
      cases hj
      exact ⟨o, o', by rw [AHeap.get_set, if_pos rfl], setBlock_at hb, ho⟩
    · obtain ⟨o1, o2, f1, f2, f3⟩ := H.obj j gj hj
      have hne : gj.b ≠ g.b := fun he => e (H.inj j i gj g hj hi he)
      exact ⟨o1, o2, by rw [AHeap.get_set, if_neg e]; exact f1, by rw [setBlock_ne hne]; exact f2, f3⟩
  · rw [AHeap.get_set, if_neg (by intro e; subst e; rw [hi] at hj; cases hj)] at hq
    exact H.dead j hj q hq
  · exact setBlock_ne fun he => hob ⟨i, g, hi, he.symm, hrw'⟩

theorem amapUpdate_ok (H : HRel ρ h w) {t : TypeId} {m m' k k' v v' : Value} {h' : AHeap} (hm : VRel ρ m m') (hk : VRel ρ k k') (hv : VRel ρ v v') (ha : amapUpdate P h t m k v = some h') :
    ∃ w', (Instr.mapUpdate t m' k' v').run P w = .ok () w' ∧ HRel ρ h' w' ∧ Adv h.n ρ h w ρ h' w' := by
  unfold amapUpdate at ha
  split at ha
  · rename_i key elem hu
    have r1 := pureRun_sound P _ _ hu
    split at ha
    · rename_i r hf
      obtain rfl := VRel.flat_eq hf hk
      split at ha
      · rename_i es clock hg
        split at ha
        · rename_i uu kind hck hkd
          have r2 := pureRun_sound P _ _ hck
          have r3 := pureRun_sound P _ _ hkd
          obtain ⟨r', rfl, hb⟩ := hm.unfold
          obtain ⟨g, hi⟩ := H.get_live hg (by simp) hb.born
          obtain rfl := hb.live hi
          obtain ⟨o, o', f1, f2, f3⟩ := H.obj _ g hi
          rw [hg] at f1
          cases f1
          obtain ⟨es', rfl, e2, e3⟩ := f3
          have he : EntsRel ρ es es'.toList := ⟨by simpa using e2, fun i a b ha hb => e3 i a b ha (by simpa using hb)⟩
          have hrw : h.rw r = true := by simp [AHeap.rw, hg]
          split at ha
          · rename_i i u hfn
            obtain ⟨u', q1, _, _, q4⟩ := findNow_rel kind k' es es'.toList 0 _ he hfn
            split at ha
            · rename_i hsb
              cases ha
              have hi1 : i < es.length := by omega
              have hi2 : i < es'.size := by omega
              have g1 := List.getElem?_eq_getElem hi1
              have g2 := Array.getElem?_eq_getElem hi2
              have hkey : es'[i].key = es[i].key := (e3 i _ _ g1 g2).1
              have hsb' : Instr.sameBits 10000 (((es'[i]?).map (·.key)).getD k') k' = true := by
                rw [g2]; rw [g1] at hsb
                simpa [hkey] using hsb
              have hup : ObjRel ρ g (.map (es.modify i fun e => { e with key := k', val := v }) clock) (.map (es'.modify i fun e => { e with key := k', val := v' }) clock) := by
                refine ⟨_, rfl, by simp [e2], fun j a b hja hjb => ?_⟩
                rw [List.getElem?_modify] at hja
                rw [Array.getElem?_modify] at hjb
                by_cases ej : i = j
                · subst ej
                  rw [if_pos rfl] at hjb
                  rw [g1] at hja
                  rw [g2] at hjb
                  simp at hja hjb
                  subst hja; subst hjb
                  exact ⟨rfl, hf, (e3 i _ _ g1 g2).2.2.1, hv⟩
                · rw [if_neg ej] at hjb
                  simp only [ej, if_false] at hja
                  exact e3 j a b (by cases hx : es[j]? <;> simp_all) hjb
              obtain ⟨H', A'⟩ := H.setObj hi hup (by simp [AHeap.rw, AHeap.get_set, hg]) hrw
              refine ⟨_, ?_, H', A'⟩
              simp [Instr.mapUpdate, r1, run_getObj f2 (by simp), r2, Instr.findKey, r3, q1, Instr.keyThatStays, hsb', run_setObj f2 (by simp)]
            · cases ha
          · rename_i hfn
            cases ha
            have q1 := findNow_rel kind k' es es'.toList 0 _ he hfn
            simp only at q1
            have hup : ObjRel ρ g (.map (es ++ [{ key := k', val := v, born := clock }]) (clock + 1)) (.map (es'.push { key := k', val := v', born := clock }) (clock + 1)) := by
              refine ⟨_, rfl, by simp [e2], fun j a b hja hjb => ?_⟩
              rw [List.getElem?_append] at hja
              rw [Array.getElem?_push] at hjb
              rw [← e2] at hja
              by_cases ej : j = es'.size
              · subst ej
                simp at hja hjb
                subst hja; subst hjb
                exact ⟨rfl, hf, rfl, hv⟩
              · rw [if_neg ej] at hjb
                split at hja
                · exact e3 j a b hja hjb
                · rename_i hlt
                  have := (Array.getElem?_eq_some_iff.1 hjb).1
                  omega
            obtain ⟨H', A'⟩ := H.setObj hi hup (by simp [AHeap.rw, AHeap.get_set, hg]) hrw
            refine ⟨_, ?_, H', A'⟩
            simp [Instr.mapUpdate, r1, run_getObj f2 (by simp), r2, Instr.findKey, r3, q1, run_setObj f2 (by simp)]
          · cases ha
        · cases ha
      · cases ha
    · cases ha
  · cases ha

theorem amakeMap_ok (H : HRel ρ h w) {t : TypeId} {x y : Option Value} {r : ANext} (hx : ORel (VRel ρ) x y) (ha : amakeMap P h t x = some r) : ValOkN P ρ h w r (Instr.makeMap t y) := by
  have core : ValOkN P ρ h w (.val (.map (some h.n)) (h.push (.map [] 0))) (do pure (.map (some (← newObj (.map #[] 0))))) := by
    obtain ⟨H', A'⟩ := H.new ⟨w.heap.size, 0, 0, 0⟩ rfl (.map [] 0) (.map #[] 0) ⟨#[], rfl, rfl, fun i a b ha => by simp at ha⟩
    exact ⟨_, _, _, by simp, .fold ⟨w.heap.size, rfl, by simp [BRel, ρ.upd_same]⟩, H', A'⟩
  unfold amakeMap at ha
  split at ha
  · cases ha
    cases y with
    | some _ => exact hx.elim
    | none =>
      obtain ⟨v', ρ', w', e, k⟩ := core
      exact ⟨v', ρ', w', by rw [← e]; simp [Instr.makeMap], k⟩
  · split at ha
    · rename_i hu
      have r1 := pureRun_sound P _ _ hu
      cases ha
      cases y with
      | none => exact hx.elim
      | some y =>
        obtain rfl := VRel.int hx
        obtain ⟨v', ρ', w', e, k⟩ := core
        exact ⟨v', ρ', w', by rw [← e]; simp [Instr.makeMap, r1, asInt, asIntOf], k⟩
    · cases ha
  · cases ha

theorem arange_ok (H : HRel ρ h w) {t : TypeId} {x y : Value} {r : ANext} (hx : VRel ρ x y) (ha : arange P h t x = some r) : ValOkN P ρ h w r (Instr.range t y) := by
  unfold arange at ha
  split at ha
  · rename_i s hu
    have r1 := pureRun_sound P _ _ hu
    obtain rfl := hx.atom_eq rfl
    cases ha
    obtain ⟨H', A'⟩ := H.new ⟨w.heap.size, 0, 0, 0⟩ rfl (.iter s 0) (.stringIter s 0) ⟨rfl, rfl⟩
    exact ⟨.pointer (some ⟨w.heap.size, 0, none⟩), _, _, by simp [Instr.range, r1], VRel.mk_ptr (g := ⟨w.heap.size, 0, 0, 0⟩) (ρ.upd_same _ _), H', A'⟩
  · cases ha

theorem anext_ok (H : HRel ρ h w) {it it' : Value} {b : Bool} {ty : TypeId} {r : ANext} (hx : VRel ρ it it') (ha : anext h it b = some r) : ValOkN P ρ h w r (Instr.next it' b ty) := by
  unfold anext at ha
  split at ha
  · rename_i r0
    split at ha
    · rename_i s pos hg
      obtain ⟨g, hi, rfl⟩ := hx.ptr_live H hg (by simp)
      obtain ⟨o, o', f1, f2, f3⟩ := H.obj _ g hi
      rw [hg] at f1
      cases f1
      obtain ⟨rfl, hsh⟩ := f3
      have hrw : h.rw r0 = true := by simp [AHeap.rw, hg]
      rw [hsh]
      split at ha
      · rename_i hlt
        have hlt : pos < s.size := by simpa [Nat.blt_eq] using hlt
        cases ha
        obtain ⟨H', A'⟩ := H.setObj (o := .iter s (pos + (Utf8.decode s pos).2)) hi ⟨rfl, hsh⟩ (by simp [AHeap.rw, AHeap.get_set, hg]) hrw
        refine ⟨.tuple #[.bool true, goInt pos, .int .i32 (Utf8.decode s pos).1], ρ, _, ?_, .flat (n := 1) rfl, H', A'⟩
        simp [Instr.next, run_getObj f2 (by simp), hlt, run_setObj f2 (by simp)]
      · rename_i hlt
        have hlt : ¬ pos < s.size := by
          intro e
          have : Nat.blt pos s.size = true := by rw [Nat.blt_eq]; exact e
          rw [this] at hlt
          cases hlt
        cases ha
        refine ValOk.same H (v' := .tuple #[.bool false]) ?_ (.flat (n := 1) rfl)
        simp [Instr.next, run_getObj f2 (by simp), hlt]
    · cases ha
  · cases ha
end
end Go.Am
