/-
  OWN WORK. 'Am', fourth text: when an abstract state stands for a world: a map from abstract blocks to blocks; values, blocks, heaps; what a step may change.
-/
import Derived.Test.YtmfepbkpojafnaaGreatDoorAmC
namespace Go.Am

/-- What an abstract block stands for: a block of the world, where its first cell lies in it, how many cells it has in all, how many cells an element has (one more; 0: no rows). -/
structure G where
  b : Nat
  sh : Nat
  tot : Nat
  row : Nat
inductive St where
  | unborn
  | live (g : G)
  | dead
abbrev Rho := Nat → St

def St.le : St → St → Prop
  | .unborn, _ => True
  | .live g, s => s = .live g ∨ s = .dead
  | .dead, s => s = .dead
theorem St.le_refl (s : St) : s.le s := by cases s <;> simp [St.le]
theorem St.le_trans {a b c : St} (h : a.le b) (k : b.le c) : a.le c := by
  cases a with
  | unborn => trivial
  | live g =>
    rcases h with rfl | rfl
    · exact k
    · exact Or.inr k
  | dead => obtain rfl := h; exact k
def Rho.le (ρ ρ' : Rho) : Prop := ∀ i, (ρ i).le (ρ' i)
theorem Rho.le_refl (ρ : Rho) : ρ.le ρ := fun _ => St.le_refl _
theorem Rho.le_trans {a b c : Rho} (h : Rho.le a b) (k : Rho.le b c) : Rho.le a c := fun i => St.le_trans (h i) (k i)
theorem Rho.le_live {ρ ρ' : Rho} (h : ρ.le ρ') {i : Nat} {g : G} (hi : ρ' i = .live g) (hu : ρ i ≠ .unborn) : ρ i = .live g := by
  have := h i
  cases hs : ρ i with
  | unborn => exact absurd hs hu
  | live g' =>
    rw [hs, hi] at this
    rcases this with e | e
    · exact e.symm ▸ rfl
    · cases e
  | dead => rw [hs, hi] at this; cases this

def ARel (R : Value → Value → Prop) (a b : Array Value) : Prop := a.size = b.size ∧ ∀ (i : Nat) x y, a[i]? = some x → b[i]? = some y → R x y
def PRel (ρ : Rho) (a c : Addr) : Prop :=
  match ρ a.block with
  | .unborn => False
  | .dead => True
  | .live g => a.spot = none ∧ c = ⟨g.b, a.off + g.sh, none⟩
def BRel (ρ : Rho) (r r' : Nat) : Prop :=
  match ρ r with
  | .unborn => False
  | .dead => True
  | .live g => r' = g.b
def FnRel (ρ : Rho) : Fn → Fn → Prop
  | .yield l, f => ∃ l', f = .yield l' ∧ BRel ρ l l'
  | f, f' => f' = f

theorem ARel.mono {R R' : Value → Value → Prop} (h : ∀ v c, R v c → R' v c) {a b : Array Value} (k : ARel R a b) : ARel R' a b :=
  ⟨k.1, fun i x y hx hy => h _ _ (k.2 i x y hx hy)⟩
theorem PRel.mono {ρ ρ' : Rho} (h : ρ.le ρ') {a c : Addr} (k : PRel ρ a c) : PRel ρ' a c := by
  unfold PRel at *
  have hb := h a.block
  cases hs : ρ a.block with
  | unborn => rw [hs] at k; exact k.elim
  | dead => rw [hs] at hb; rw [show ρ' a.block = .dead from hb]; trivial
  | live g =>
    rw [hs] at hb k
    rcases hb with e | e <;> rw [e]
    · exact k
    · trivial
theorem BRel.mono {ρ ρ' : Rho} (h : ρ.le ρ') {a c : Nat} (k : BRel ρ a c) : BRel ρ' a c := by
  unfold BRel at *
  have hb := h a
  cases hs : ρ a with
  | unborn => rw [hs] at k; exact k.elim
  | dead => rw [hs] at hb; rw [show ρ' a = .dead from hb]; trivial
  | live g =>
    rw [hs] at hb k
    rcases hb with e | e <;> rw [e]
    · exact k
    · trivial
theorem FnRel.mono {ρ ρ' : Rho} (h : ρ.le ρ') {f f' : Fn} (k : FnRel ρ f f') : FnRel ρ' f f' := by
  cases f <;> simp only [FnRel] at *
  case yield l => exact k.imp fun _ ⟨a, b⟩ => ⟨a, b.mono h⟩
  all_goals exact k
theorem PRel.born {ρ : Rho} {a c : Addr} (k : PRel ρ a c) : ρ a.block ≠ .unborn := fun e => by simp [PRel, e] at k
theorem BRel.born {ρ : Rho} {a c : Nat} (k : BRel ρ a c) : ρ a ≠ .unborn := fun e => by simp [BRel, e] at k
theorem PRel.live {ρ : Rho} {a c : Addr} {g : G} (k : PRel ρ a c) (h : ρ a.block = .live g) : a.spot = none ∧ c = ⟨g.b, a.off + g.sh, none⟩ := by
  simpa [PRel, h] using k
theorem BRel.live {ρ : Rho} {a c : Nat} {g : G} (k : BRel ρ a c) (h : ρ a = .live g) : c = g.b := by
  simpa [BRel, h] using k

/-- One step of the relation on values. -/
def VStep (ρ : Rho) (R : Value → Value → Prop) : Value → Value → Prop
  | .pointer (some a), c => ∃ a', c = .pointer (some a') ∧ PRel ρ a a'
  | .slice (some a) n k, c => ∃ a' k', c = .slice (some a') n k' ∧ PRel ρ a a' ∧ n ≤ k ∧ k ≤ k' ∧
      ∀ g, ρ a.block = .live g → k' = k ∨ ∃ sz, g.row = sz + 1 ∧ a.off + g.sh + k' * sz ≤ g.tot
  | .map (some r), c => ∃ r', c = .map (some r') ∧ BRel ρ r r'
  | .chan (some _), _ => False
  | .func fn first cap, c => ∃ fn' first' cap', c = .func fn' first' cap' ∧ FnRel ρ fn fn' ∧ ARel R first first' ∧ ARel R cap cap'
  | .agg cs, c => ∃ cs', c = .agg cs' ∧ ARel R cs cs'
  | .tuple vs, c => ∃ vs', c = .tuple vs' ∧ ARel R vs vs'
  | .iface t v, c => ∃ v', c = .iface t v' ∧ R v v'
  | v, c => c = v
theorem VStep.mono {ρ : Rho} {R R' : Value → Value → Prop} (h : ∀ v c, R v c → R' v c) {v c : Value} (k : VStep ρ R v c) : VStep ρ R' v c := by
  cases v with
  | pointer a => cases a <;> exact k
  | slice a n c => cases a <;> exact k
  | map r => cases r <;> exact k
  | chan r => cases r <;> exact k
  | func fn first cap => obtain ⟨fn', f', c', e, h1, h2, h3⟩ := k; exact ⟨fn', f', c', e, h1, h2.mono h, h3.mono h⟩
  | agg cs => obtain ⟨cs', e, h1⟩ := k; exact ⟨cs', e, h1.mono h⟩
  | tuple cs => obtain ⟨cs', e, h1⟩ := k; exact ⟨cs', e, h1.mono h⟩
  | iface t v => obtain ⟨v', e, h1⟩ := k; exact ⟨v', e, h _ _ h1⟩
  | _ => exact k
theorem VStep.mono_rho {ρ ρ' : Rho} (h : ρ.le ρ') {R : Value → Value → Prop} {v c : Value} (k : VStep ρ R v c) : VStep ρ' R v c := by
  cases v with
  | pointer a =>
    cases a with
    | none => exact k
    | some a => obtain ⟨a', e, h1⟩ := k; exact ⟨a', e, h1.mono h⟩
  | slice a n c =>
    cases a with
    | none => exact k
    | some a =>
      obtain ⟨a', k', e, h1, h2, h3, h4⟩ := k
      exact ⟨a', k', e, h1.mono h, h2, h3, fun g hg => h4 g (Rho.le_live h hg h1.born)⟩
  | map r =>
    cases r with
    | none => exact k
    | some a => obtain ⟨a', e, h1⟩ := k; exact ⟨a', e, h1.mono h⟩
  | chan r => cases r <;> exact k
  | func fn first cap => obtain ⟨fn', f', c', e, h1, h2, h3⟩ := k; exact ⟨fn', f', c', e, h1.mono h, h2, h3⟩
  | agg cs => exact k
  | tuple cs => exact k
  | iface t v => exact k
  | _ => exact k

/-- A value of the abstract run stands for a value: the least relation that its steps give. -/
def VRel (ρ : Rho) (v c : Value) : Prop := ∀ R : Value → Value → Prop, (∀ v c, VStep ρ R v c → R v c) → R v c
theorem VRel.fold {ρ : Rho} {v c : Value} (h : VStep ρ (VRel ρ) v c) : VRel ρ v c :=
  fun R hR => hR _ _ (h.mono fun _ _ k => k R hR)
theorem VRel.unfold {ρ : Rho} {v c : Value} (h : VRel ρ v c) : VStep ρ (VRel ρ) v c :=
  h (VStep ρ (VRel ρ)) fun _ _ k => k.mono fun _ _ h => VRel.fold h
theorem VRel.mono {ρ ρ' : Rho} (h : ρ.le ρ') {v c : Value} (k : VRel ρ v c) : VRel ρ' v c :=
  k (VRel ρ') fun _ _ h' => VRel.fold (h'.mono_rho h)
theorem VRel.atom {ρ : Rho} {v : Value} (h : atomB v = true) : VRel ρ v v := by
  refine VRel.fold ?_
  cases v <;> first
    | rfl
    | (rename_i a _ _; cases a <;> first | rfl | (simp [atomB] at h))
    | (rename_i a; cases a <;> first | rfl | (simp [atomB] at h))
    | (simp [atomB] at h)
theorem VRel.atom_eq {ρ : Rho} {v c : Value} (h : atomB v = true) (k : VRel ρ v c) : c = v := by
  have := k.unfold
  cases v <;> first
    | exact this
    | (rename_i a _ _; cases a <;> first | exact this | (simp [atomB] at h))
    | (rename_i a; cases a <;> first | exact this | (simp [atomB] at h))
    | (simp [atomB] at h)

theorem toList_of_ARel_eq {a b : Array Value} {R : Value → Value → Prop} (k : ARel R a b) (h : ∀ x ∈ a.toList, ∀ y, R x y → y = x) : b = a := by
  apply Array.ext_getElem?
  intro i
  cases ha : a[i]? with
  | none =>
    have : a.size ≤ i := by simpa using ha
    simp [← k.1, this]
  | some x =>
    have hi : i < b.size := by rw [← k.1]; exact (Array.getElem?_eq_some_iff.1 ha).1
    have hb : b[i]? = some b[i] := Array.getElem?_eq_getElem hi
    rw [hb, h x (by rw [← Array.getElem?_toList] at ha; exact List.mem_of_getElem? ha) _ (k.2 i x _ ha hb)]

theorem VRel.flat_eq {ρ : Rho} : ∀ {n : Nat} {v c : Value}, flat n v = true → VRel ρ v c → c = v := by
  intro n
  induction n with
  | zero => intro v c h k; exact k.atom_eq h
  | succ n ih =>
    intro v c h k
    cases v with
    | agg cs =>
      obtain ⟨cs', rfl, h1⟩ := k.unfold
      simp only [flat, List.all_eq_true] at h
      rw [toList_of_ARel_eq h1 fun x hx y hy => ih (h x hx) hy]
    | tuple cs =>
      obtain ⟨cs', rfl, h1⟩ := k.unfold
      simp only [flat, List.all_eq_true] at h
      rw [toList_of_ARel_eq h1 fun x hx y hy => ih (h x hx) hy]
    | iface t v =>
      obtain ⟨v', rfl, h1⟩ := k.unfold
      rw [ih (by simpa [flat] using h) h1]
    | _ => exact k.atom_eq (by simpa [flat] using h)
theorem ARel.refl_of {R : Value → Value → Prop} {a : Array Value} (h : ∀ x ∈ a.toList, R x x) : ARel R a a := by
  refine ⟨rfl, fun i x y hx hy => ?_⟩
  rw [hx] at hy
  cases hy
  exact h x (by rw [← Array.getElem?_toList] at hx; exact List.mem_of_getElem? hx)
theorem VRel.flat {ρ : Rho} : ∀ {n : Nat} {v : Value}, flat n v = true → VRel ρ v v := by
  intro n
  induction n with
  | zero => intro v h; exact .atom h
  | succ n ih =>
    intro v h
    cases v with
    | agg cs =>
      simp only [Am.flat, List.all_eq_true] at h
      exact .fold ⟨cs, rfl, ARel.refl_of fun x hx => ih (h x hx)⟩
    | tuple cs =>
      simp only [Am.flat, List.all_eq_true] at h
      exact .fold ⟨cs, rfl, ARel.refl_of fun x hx => ih (h x hx)⟩
    | iface t v => exact .fold ⟨v, rfl, ih (by simpa [Am.flat] using h)⟩
    | _ => exact .atom (by simpa [Am.flat] using h)
theorem VRel.undef {ρ : Rho} : VRel ρ undef undef := VRel.flat (n := 1) rfl
theorem VRel.bool {ρ : Rho} {b : Bool} {c : Value} (h : VRel ρ (.bool b) c) : c = .bool b := h.atom_eq rfl
theorem VRel.int {ρ : Rho} {k : IntKind} {b : Int} {c : Value} (h : VRel ρ (.int k b) c) : c = .int k b := h.atom_eq rfl

/-! Blocks, heaps, activations. -/

def CellsRel (ρ : Rho) (c : List Value) (c' : Array Value) (sh : Nat) : Prop := ∀ j v, c[j]? = some v → ∃ v', c'[sh + j]? = some v' ∧ VRel ρ v v'
def EntRel (ρ : Rho) (e e' : MapEntry) : Prop := e'.key = e.key ∧ flat 2 e.key = true ∧ e'.born = e.born ∧ VRel ρ e.val e'.val
structure TmpsRel (ρ : Rho) (a : AAct) (tmps : Array Value) : Prop where
  size : a.n = tmps.size
  tmp : ∀ t, VRel ρ (a.tmp t) (tmps.getD t Go.undef)
def ObjRel (ρ : Rho) (g : G) : AObj → Obj → Prop
  | .cells c e row _, o => ∃ c' fr, o = .cells c' e fr ∧ g.sh + c.length ≤ c'.size ∧ c'.size = g.tot ∧ g.row = row ∧ CellsRel ρ c c' g.sh ∧ (fr.1 = fr.2 ∨ g.tot ≤ fr.1)
  | .map es k, o => ∃ es', o = .map es' k ∧ es'.size = es.length ∧ ∀ (i : Nat) e e', es[i]? = some e → es'[i]? = some e' → EntRel ρ e e'
  | .iter s p, o => o = .stringIter s p ∧ g.sh = 0
  | .loop st pend a ps assign body d, o => ∃ l, o = .loop l ∧ l.state = st ∧ l.pending = pend ∧ TmpsRel ρ a l.tmps ∧ l.params = ps ∧ l.assign = assign ∧ l.body = body ∧ BRel ρ d l.defers
  | .defd, o => o = .deferred (some [])
  | .dead, _ => False
structure HRel (ρ : Rho) (h : AHeap) (w : World) : Prop where
  bound : ∀ i, h.n ≤ i → ρ i = .unborn
  inj : ∀ i j g g', ρ i = .live g → ρ j = .live g' → g.b = g'.b → i = j
  obj : ∀ i g, ρ i = .live g → ∃ o o', h.get i = some o ∧ w.heap[g.b]? = some o' ∧ ObjRel ρ g o o'
  dead : ∀ i, ρ i = .dead → ∀ o, h.get i = some o → o = .dead
theorem HRel.get_live {ρ : Rho} {h : AHeap} {w : World} (H : HRel ρ h w) {i : Nat} {o : AObj} (hg : h.get i = some o) (hd : o ≠ .dead) (hu : ρ i ≠ .unborn) : ∃ g, ρ i = .live g := by
  cases hs : ρ i with
  | unborn => exact absurd hs hu
  | live g => exact ⟨g, rfl⟩
  | dead => exact absurd (H.dead i hs o hg) hd
theorem HRel.lt {ρ : Rho} {h : AHeap} {w : World} (H : HRel ρ h w) {i : Nat} {g : G} (hi : ρ i = .live g) : g.b < w.heap.size := by
  obtain ⟨o, o', _, h2, _⟩ := H.obj i g hi
  exact (Array.getElem?_eq_some_iff.1 h2).1

theorem CellsRel.mono {ρ ρ' : Rho} (h : ρ.le ρ') {c : List Value} {c' : Array Value} {sh : Nat} (k : CellsRel ρ c c' sh) : CellsRel ρ' c c' sh :=
  fun j v hv => (k j v hv).imp fun _ ⟨a, b⟩ => ⟨a, b.mono h⟩
theorem TmpsRel.mono {ρ ρ' : Rho} (h : ρ.le ρ') {a : AAct} {t : Array Value} (k : TmpsRel ρ a t) : TmpsRel ρ' a t :=
  ⟨k.size, fun i => (k.tmp i).mono h⟩
theorem ObjRel.mono {ρ ρ' : Rho} (h : ρ.le ρ') {g : G} {o : AObj} {o' : Obj} (k : ObjRel ρ g o o') : ObjRel ρ' g o o' := by
  cases o with
  | cells c e row ro => obtain ⟨c', fr, e1, e2, e3, e4, e5, e6⟩ := k; exact ⟨c', fr, e1, e2, e3, e4, e5.mono h, e6⟩
  | map es k' => obtain ⟨es', e1, e2, e3⟩ := k; exact ⟨es', e1, e2, fun i e e' a b => let ⟨x, y, z, v⟩ := e3 i e e' a b; ⟨x, y, z, v.mono h⟩⟩
  | iter s p => exact k
  | loop st pend a ps assign body d => obtain ⟨l, e1, e2, e3, e4, e5, e6, e7, e8⟩ := k; exact ⟨l, e1, e2, e3, e4.mono h, e5, e6, e7, e8.mono h⟩
  | defd => exact k
  | dead => exact k

/-- A block of the world that the abstract run may write. -/
def Own (ρ : Rho) (h : AHeap) (b : Nat) : Prop := ∃ i g, ρ i = .live g ∧ g.b = b ∧ h.rw i = true

/-- What becomes of a state: nothing that the run does not own has changed; blocks below k that are not yet born stay so. -/
structure Adv (k : Nat) (ρ : Rho) (h : AHeap) (w : World) (ρ' : Rho) (h' : AHeap) (w' : World) : Prop where
  le : ρ.le ρ'
  n : h.n ≤ h'.n
  size : w.heap.size ≤ w'.heap.size
  os : w'.os = w.os
  tape : w'.tape = w.tape
  output : w'.output = w.output
  kept : ∀ b, b < w.heap.size → ¬ Own ρ h b → w'.heap[b]? = w.heap[b]?
  own : ∀ b, b < w.heap.size → Own ρ' h' b → Own ρ h b
  stay : ∀ i, i < k → ρ i = .unborn → ρ' i = .unborn
theorem Adv.refl (k : Nat) (ρ : Rho) (h : AHeap) (w : World) : Adv k ρ h w ρ h w :=
  ⟨Rho.le_refl _, Nat.le_refl _, Nat.le_refl _, rfl, rfl, rfl, fun _ _ _ => rfl, fun _ _ h => h, fun _ _ h => h⟩
theorem Adv.trans {k : Nat} {ρ ρ₁ ρ₂ : Rho} {h h₁ h₂ : AHeap} {w w₁ w₂ : World} (x : Adv k ρ h w ρ₁ h₁ w₁) (y : Adv k ρ₁ h₁ w₁ ρ₂ h₂ w₂) : Adv k ρ h w ρ₂ h₂ w₂ where
  le := Rho.le_trans x.le y.le
  n := Nat.le_trans x.n y.n
  size := Nat.le_trans x.size y.size
  os := y.os.trans x.os
  tape := y.tape.trans x.tape
  output := y.output.trans x.output
  kept b hb ho := (y.kept b (Nat.lt_of_lt_of_le hb x.size) fun o => ho (x.own b hb o)).trans (x.kept b hb ho)
  own b hb o := x.own b hb (y.own b (Nat.lt_of_lt_of_le hb x.size) o)
  stay i hi hu := y.stay i hi (x.stay i hi hu)
theorem Adv.less {k k' : Nat} {ρ ρ' : Rho} {h h' : AHeap} {w w' : World} (x : Adv k ρ h w ρ' h' w') (hk : k' ≤ k) : Adv k' ρ h w ρ' h' w' :=
  { x with stay := fun i hi hu => x.stay i (Nat.lt_of_lt_of_le hi hk) hu }
theorem Adv.drew (k : Nat) (ρ : Rho) (h : AHeap) (w : World) (n : Nat) : Adv k ρ h w ρ h { w with drawn := n } :=
  ⟨Rho.le_refl _, Nat.le_refl _, Nat.le_refl _, rfl, rfl, rfl, fun _ _ _ => rfl, fun _ _ h => h, fun _ _ h => h⟩
theorem HRel.drew {ρ : Rho} {h : AHeap} {w : World} (H : HRel ρ h w) (n : Nat) : HRel ρ h { w with drawn := n } :=
  ⟨H.bound, H.inj, H.obj, H.dead⟩
end Go.Am
