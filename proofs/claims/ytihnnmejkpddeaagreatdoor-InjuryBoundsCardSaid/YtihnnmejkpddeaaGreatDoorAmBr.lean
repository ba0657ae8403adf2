/-
  OWN WORK. 'Am', a bridge: a call that comes to an end from a heap of tables alone comes to it in whatever world that holds the tables; what was there stays.
-/
import Derived.Test.YtihnnmejkpddeaaGreatDoorAm4
import Derived.Carry
import Derived.LaidLaws
import Derived.Lib.LaidTab
import Derived.ChangeSame
import Derived.OpenShut
import Derived.Deep.Slices
namespace Go.Am
def Holds (T : Tabs) (W : World) : Prop := ∀ x ∈ T, ∃ e, W.heap[x.1]? = some (.cells x.2.toArray e (0, 0))
def typesIn (W : World) (i : Nat) : TypeId := match W.heap[i]? with
 | some (.cells _ e _) => e
 | _ => 0
noncomputable def rho0 (T : Tabs) (es : Nat → TypeId) (n : Nat) : Rho := fun i => if i < n then (match (base T es n).get i with
 | some (.cells c _ _ _) => .live ⟨i, 0, c.length, 0⟩
 | _ => .dead) else .unborn
section
variable {P : Program} {T : Tabs} {W : World}
theorem rho0_live {es : Nat → TypeId} {n i : Nat} {g : G} (h : rho0 T es n i = .live g) : ∃ c, i < n ∧ (base T es n).get i = some (.cells c (es i) 0 true) ∧ (i, c) ∈ T ∧ g = ⟨i, 0, c.length, 0⟩ := by
 simp only [rho0] at h
 split at h
 ·rename_i hlt
  split at h
  ·rename_i c e row ro hg
   obtain ⟨c', hm, ho⟩ := tab_get hg
   cases ho
   cases h
   exact ⟨c, hlt, hg, hm, rfl⟩
  ·cases h
 ·cases h
theorem start0 (hT : Holds T W) (hf : tabsFlat P.globals.size T = true) :
  HRel (rho0 T (typesIn W) P.globals.size) (base T (typesIn W) P.globals.size) W ∧ Globs P (rho0 T (typesIn W) P.globals.size) ∧ ∀ b, ¬ Own (rho0 T (typesIn W) P.globals.size) (base T (typesIn W) P.globals.size) b := by
 refine ⟨⟨fun i hi => ?_, fun i j g g' hi hj e _ => ?_, fun i g hi => ?_, fun i hi o ho => ?_⟩, fun g hg => ?_, fun b ⟨i, g, hi, _, hr⟩ => ?_⟩
 ·have hi : P.globals.size ≤ i := hi
  simp only [rho0]
  rw [if_neg (by omega)]
 ·obtain ⟨c, _, _, _, rfl⟩ := rho0_live hi
  obtain ⟨c', _, _, _, rfl⟩ := rho0_live hj
  exact e
 ·obtain ⟨c, hlt, hg, hm, rfl⟩ := rho0_live hi
  obtain ⟨e, hw⟩ := hT _ hm
  have he : typesIn W i = e := by simp only [typesIn]; simp only at hw; rw [hw]
  refine ⟨_, _, hg, hw, c.toArray, (0, 0), by rw [he], by simp, by simp, rfl, fun j v hv => ⟨v, by simpa using hv, ?_⟩, fun _ => .inl rfl⟩
  have := List.all_eq_true.1 hf _ hm
  simp only [Bool.and_eq_true] at this
  exact .flat (List.all_eq_true.1 this.2 v (List.mem_of_getElem? hv))
 ·obtain ⟨c, hm, rfl⟩ := tab_get (i := i) ho
  simp only [rho0] at hi
  have := List.all_eq_true.1 hf _ hm
  simp only [Bool.and_eq_true, Nat.blt_eq] at this
  have hg : (base T (typesIn W) P.globals.size).get i = some (.cells c (typesIn W i) 0 true) := ho
  rw [if_pos this.1, hg] at hi
  cases hi
 ·simp only [rho0, if_pos hg]
  split
  ·exact .inr ⟨_, rfl, rfl, rfl⟩
  ·exact .inl rfl
 ·obtain ⟨c, _, hg, _, rfl⟩ := rho0_live hi
  simp [AHeap.rw, hg] at hr
theorem ext_live {ρ : Rho} {h : AHeap} (H : HRel ρ h W) (own : ∀ b, ¬ Own ρ h b) {b off : Nat} {c' : Array Value} {e : TypeId} {fr : Nat × Nat} (hw : W.heap[b]? = some (.cells c' e fr)) {c : List Value}
  (hc : ∀ (j : Nat) v, c[j]? = some v → c'[off + j]? = some v) (hl : off + c.length ≤ c'.size) (hfl : c.all (flat 3) = true) :
  HRel (ρ.upd h.n (.live ⟨b, off, c'.size, 0⟩)) (h.push (.cells c e 0 true)) W ∧ ∀ b', ¬ Own (ρ.upd h.n (.live ⟨b, off, c'.size, 0⟩)) (h.push (.cells c e 0 true)) b' := by
 have hu := H.bound h.n (Nat.le_refl _)
 have hle : ρ.le (ρ.upd h.n (.live ⟨b, off, c'.size, 0⟩)) := Rho.le_born hu
 have old : ∀ {j gj}, j ≠ h.n → ρ.upd h.n (.live ⟨b, off, c'.size, 0⟩) j = .live gj → ρ j = .live gj := fun hj h => by rwa [ρ.upd_ne _ hj] at h
 have norw : ∀ {j gj}, ρ.upd h.n (.live ⟨b, off, c'.size, 0⟩) j = .live gj → (h.push (.cells c e 0 true)).rw j = false := fun {j gj} hj => by
  by_cases ej : j = h.n
  ·subst ej
   simp [AHeap.rw, AHeap.get_push]
  ·cases hr : (h.push (.cells c e 0 true)).rw j with
   | false => rfl
   | true =>
    rw [rw_push_live H (old ej hj)] at hr
    exact (own gj.b ⟨j, gj, old ej hj, rfl, hr⟩).elim
 refine ⟨⟨fun i hi => ?_, fun i j gi gj hi hj he hr => ?_, fun i gi hi => ?_, fun i hi o ho => ?_⟩, fun b' ⟨i, g, hi, _, hr⟩ => by rw [norw hi] at hr; cases hr⟩
 ·simp at hi
  rw [ρ.upd_ne _ (by omega)]; exact H.bound i (by omega)
 ·rw [norw hi] at hr; cases hr
 ·by_cases ei : i = h.n
  ·subst ei
   rw [ρ.upd_same] at hi
   cases hi
   refine ⟨.cells c e 0 true, _, by rw [AHeap.get_push, if_pos rfl], hw, c', fr, rfl, hl, rfl, rfl, fun j v hv => ⟨v, hc j v hv, ?_⟩, fun e => by cases e⟩
   exact .flat (List.all_eq_true.1 hfl v (List.mem_of_getElem? hv))
  ·obtain ⟨o1, o2, f1, f2, f3⟩ := H.obj i gi (old ei hi)
   exact ⟨o1, o2, by rw [AHeap.get_push, if_neg ei]; exact f1, f2, f3.mono hle⟩
 ·by_cases ei : i = h.n
  ·subst ei; rw [ρ.upd_same] at hi; cases hi
  ·rw [ρ.upd_ne _ ei] at hi
   rw [AHeap.get_push, if_neg ei] at ho
   exact H.dead i hi o ho
theorem ext_dead {ρ : Rho} {h : AHeap} (H : HRel ρ h W) (own : ∀ b, ¬ Own ρ h b) : HRel (ρ.upd h.n .dead) (h.push .dead) W ∧ ∀ b', ¬ Own (ρ.upd h.n .dead) (h.push .dead) b' := by
 refine ⟨H.nowhere.1, fun b' ⟨i, g, hi, hb, hr⟩ => ?_⟩
 by_cases e : i = h.n
 ·subst e; rw [ρ.upd_same] at hi; cases hi
 ·rw [ρ.upd_ne _ e] at hi
  rw [rw_push_live H hi] at hr
  exact own b' ⟨i, g, hi, hb, hr⟩
theorem globs_upd {ρ : Rho} (G : Globs P ρ) {n : Nat} (hn : P.globals.size ≤ n) (x : St) : Globs P (ρ.upd n x) := fun g hg => by
 rw [ρ.upd_ne _ (by omega)]
 exact G g hg
theorem of_callA {ρ : Rho} {h : AHeap} (H : HRel ρ h W) (G : Globs P ρ) (own : ∀ b, ¬ Own ρ h b) {f : FuncId} {args args' : Array Value} {res : Value} (hA : ARel (VRel ρ) args args') (hr : flat 3 res = true)
  (hc : CallJ P f args h (fun v _ => v = res)) : Calls P f args' W (fun e w' => e = .returned res ∧ RowKit.Below W.heap.size W w') := by
 refine (callsIn_wide.1 (hc ρ args' W H G hA)).mono ?_
 rintro e w' ⟨v, v', h', ρ', rfl, rfl, hv, _, F⟩
 rw [VRel.flat_eq hr hv]
 exact ⟨rfl, F.os, F.tape, F.output, F.size, fun b hb => F.kept b hb (own b)⟩
theorem vrel_dead {ρ : Rho} {i : Nat} (hi : ρ i = .dead) (a : Addr) (k : Nat) : VRel ρ (.slice (some ⟨i, 0, none⟩) 0 k) (.slice (some a) 0 k) :=
 .fold ⟨a, k, rfl, by simp [PRel, hi], Nat.zero_le _, Nat.le_refl _, fun g hg => by simp only at hg; rw [hi] at hg; cases hg⟩
theorem vrel_live {ρ : Rho} {i b off tot row n k : Nat} (hi : ρ i = .live ⟨b, off, tot, row⟩) (hn : n ≤ k) : VRel ρ (.slice (some ⟨i, 0, none⟩) n k) (.slice (some ⟨b, off, none⟩) n k) := by
 have := VRel.mk_slice (o := 0) (n := n) (k := k) (k' := k) hi hn (Nat.le_refl _) (.inl rfl)
 simpa using this
theorem laid_at : ∀ {l : List (String × DataW Unit)} {ps : List MemPlace}, DataW.LaidVars P W l ps → ∀ x ∈ l, ∃ g t cs fuel p, P.globalNamed x.1 = some g ∧ (P.globals[g]?).map (·.type) = some t ∧ W.var? P x.1 = some cs ∧
  DataW.trod (fun _ => ()) P W 0 (fun _ => true) false fuel t cs.toList = some (x.2, p) ∧ ∀ y ∈ MemPlace.row ⟨g, 0, none⟩ cs.size, y ∈ ps
 | [], _, _, x, hx => by cases hx
 | (n, d) :: r, ps, h, x, hx => by
  obtain ⟨g, t, cs, fuel, p, q, h1, h2, h3, h4, h5, rfl⟩ := h
  rcases List.mem_cons.1 hx with rfl | hx
  ·exact ⟨g, t, cs, fuel, p, h1, h2, h3, h4, fun y hy => by simp [hy]⟩
  ·obtain ⟨g', t', cs', fuel', p', k1, k2, k3, k4, k5⟩ := laid_at h5 x hx
   exact ⟨g', t', cs', fuel', p', k1, k2, k3, k4, fun y hy => by simp [k5 y hy]⟩
theorem laid_block {l : List (String × DataW Unit)} (h : laidMet P l W) {name : String} {d : DataW Unit} (hx : (name, d) ∈ l) {g t : Nat} (hg : P.globalNamed name = some g) (ht : (P.globals[g]?).map (·.type) = some t) {c : List Value} (hne : c ≠ [])
  (hd : ∀ cs fuel p, DataW.trod (fun _ => ()) P W 0 (fun _ => true) false fuel t cs = some (d, p) → cs = c) : ∃ e, W.heap[g]? = some (.cells c.toArray e (0, 0)) := by
 obtain ⟨ps, hl, _, hb⟩ := h
 obtain ⟨g', t', cs, fuel, p, h1, h2, h3, h4, h5⟩ := laid_at hl _ hx
 obtain rfl := Option.some.inj (hg.symm.trans h1)
 obtain rfl := Option.some.inj (ht.symm.trans h2)
 obtain rfl : cs = c.toArray := by rw [← hd _ _ _ h4]
 have hpos : 0 < c.length := List.length_pos_iff.2 hne
 obtain ⟨⟨c', e, hw⟩, _⟩ := hb g 0 (h5 _ (by simp [MemPlace.row]; exact hpos))
 refine ⟨e, ?_⟩
 simp only [World.var?, hg, Option.bind_some, hw, Option.some.injEq] at h3
 rw [hw, h3]
theorem args_below {H : Type} {enc : TypeId × Value → H} {W' : World} (hl : laidOutB P = true) (B : RowKit.Below W.heap.size W W') : ∀ {ts : List TypeId} {vs : List Value} {ds : List (DataW H)} {ps : List MemPlace},
  (∀ t ∈ ts, P.readableRec t = true ∧ t < P.types.size) → DataW.TrodAll enc P W 0 (fun _ => true) true ts vs ds ps → (∀ x ∈ ps, x.block < W.heap.size) → DataW.TrodAll enc P W' 0 (fun b => decide (b < W.heap.size)) true ts vs ds ps
 | [], [], [], ps, _, h, _ => h
 | t :: ts, v :: vs, d :: ds, ps, ht, h, hp => by
  obtain ⟨p, q, h1, h2, rfl⟩ := h
  refine ⟨p, q, RowKit.Below.trod hl (ht t (by simp)).1 (ht t (by simp)).2 h1 B fun x hx => hp x (by simp [hx]), args_below hl B (fun t' ht' => ht t' (by simp [ht'])) h2 fun x hx => hp x (by simp [hx]), rfl⟩
 | [], [], _ :: _, _, _, h, _ => h.elim
 | [], _ :: _, _, _, _, h, _ => by cases h
 | _ :: _, [], _, _, _, h, _ => by cases h
 | _ :: _, _ :: _, [], _, _, h, _ => by cases h
theorem post_true {H : Type} {enc : TypeId × Value → H} {W' : World} {fn : Func} {s : ChangeSpec} {args : Array Value} {ds gs : List (DataW H)} {before : List MemPlace} {tb : TypeId}
  (hl : laidOutB P = true) (hp : ∀ t ∈ fn.params.toList, P.readableRec t = true ∧ t < P.types.size) (hr : fn.resultTypes = #[tb]) (hb : P.underlying tb = some .bool) (hv : s.vars = [])
  (hs : (s.fn H (ds ++ gs)).results = [.lit (.bool true)]) (ha : (s.fn H (ds ++ gs)).args = ds) (hvs : (s.fn H (ds ++ gs)).vars = [])
  (hW : DataW.Whole enc P fn.params.toList s.vars false W args.toList ds gs before) (B : RowKit.Below W.heap.size W W') : s.post enc P fn false true false false W args (.bool true) W' := by
 have hlt : ∀ x ∈ before, x.block < W.heap.size := fun x hx => hW.lt x hx
 have hW' := hW
 obtain ⟨p, q, hA, hV, rfl, hfz, hnd⟩ := hW'
 rw [hv] at hV
 obtain ⟨rfl, rfl⟩ := ChangeShapes.trodVars_none hV
 refine ⟨ds, [], p ++ [], [], p, [], hW, ?_, ?_, ?_, B.frame _, fun h => by cases h⟩
 ·rw [hs, hr]
  exact ⟨[], [], RowKit.shut_bool hb _, rfl, rfl⟩
 ·rw [ha]
  exact args_below hl B hp hA fun x hx => hlt x (by simp [hx])
 ·rw [hv, hvs]
  exact rfl
end
end Go.Am
