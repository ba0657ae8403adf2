/-
  OWN WORK. 'Am': functions that read one slice, with results of any form: something plain, or what names one new block; calls by what is asked of them.
-/
import Derived.Test.YtclohbagdmelbaaGreatDoorAm8
namespace Go.Am
/-- What a call gives: something plain, or a value that names a new block, with its elements. -/
inductive Out where
  | plain (v : Value)
  | fresh (mk : Nat → Value) (xs : List Value) (el : TypeId)
  | wide (mk : Nat → Value) (xs : List Value) (el : TypeId) (row : Nat)
noncomputable section
def Out.val (b : Nat) : Out → Value
  | .plain v => v
  | .fresh mk _ _ => mk b
  | .wide mk _ _ _ => mk b
def Out.heap (h : AHeap) : Out → AHeap
  | .plain _ => h
  | .fresh _ xs el => h.push (.cells xs el 2 false)
  | .wide _ xs el row => h.push (.cells xs el row false)
/-- A value that names one block. -/
structure Names (mk : Nat → Value) : Prop where
  ren : ∀ r m, Ren (fun j => if j = m then some r else none) (mk r) (mk m)
  born : ∀ r ρ c, VRel ρ (mk r) c → ρ r ≠ .unborn
def Out.Ok : Out → Prop
  | .plain v => flat 3 v = true
  | .fresh mk xs _ => Names mk ∧ xs.all (flat 3) = true
  | .wide mk xs _ _ => Names mk ∧ xs.all (flat 3) = true
/-- What is asked of a run: the value, and the elements of the new block. -/
def Out.Got : Out → Value → AHeap → Prop
  | .plain u, v, _ => v = u
  | .fresh mk xs el, v, h' => ∃ r, v = mk r ∧ h'.get r = some (.cells xs el 2 false)
  | .wide mk xs el row, v, h' => ∃ r, v = mk r ∧ h'.get r = some (.cells xs el row false)
def Out.kont (o : Out) (h : AHeap) (k : Value → AHeap → Prop) : Prop := match o with
  | .plain v => k v h
  | .fresh mk xs el => k (mk h.n) (h.push (.cells xs el 2 false))
  | .wide mk xs el row => k (mk h.n) (h.push (.cells xs el row false))
theorem Out.kont_iff (o : Out) (h : AHeap) (k : Value → AHeap → Prop) : o.kont h k = k (o.val h.n) (o.heap h) := by cases o <;> rfl
def slM (n : Nat) : Nat → Value := fun b => .slice (some ⟨b, 0, none⟩) n n
def tupM (pre : List Value) (n : Nat) (post : List Value) : Nat → Value := fun b => .tuple ⟨pre ++ .slice (some ⟨b, 0, none⟩) n n :: post⟩
theorem names_sl (n : Nat) : Names (slM n) where
  ren := fun r m => .slice (by simp)
  born := fun r ρ c hv => by
    obtain ⟨a', k', _, hp, _⟩ := VRel.slice_any hv
    exact hp.born
theorem names_tup {pre post : List Value} {n : Nat} (h1 : pre.all (flat 3) = true) (h2 : post.all (flat 3) = true) : Names (tupM pre n post) where
  ren := fun r m => .tuple (l := pre ++ .slice (some ⟨r, 0, none⟩) n n :: post) (l₂ := pre ++ .slice (some ⟨m, 0, none⟩) n n :: post) (by simp) fun i a b ha hb => by
    rw [List.getElem?_append] at ha hb
    split at ha
    · rename_i hi
      rw [if_pos hi] at hb
      rw [ha] at hb
      cases hb
      exact .flat (List.all_eq_true.1 h1 _ (List.mem_of_getElem? ha))
    · rename_i hi
      rw [if_neg hi] at hb
      cases hj : i - pre.length with
      | zero =>
        rw [hj] at ha hb
        cases ha; cases hb
        exact .slice (by simp)
      | succ j =>
        rw [hj] at ha hb
        have ha : post[j]? = some a := ha
        have hb : post[j]? = some b := hb
        rw [ha] at hb
        cases hb
        exact .flat (List.all_eq_true.1 h2 _ (List.mem_of_getElem? ha))
  born := fun r ρ c hv => by
    obtain ⟨vs, rfl, e1, e2⟩ := hv.unfold
    have hlt : pre.length < vs.size := by rw [← e1]; simp
    refine Mentions.born (.inl ⟨0, n, n, rfl⟩) (e2 pre.length (.slice (some ⟨r, 0, none⟩) n n) vs[pre.length] ?_ (Array.getElem?_eq_getElem hlt))
    simp
/-- The calls of a function of a slice (and of plain values behind it). -/
def genO {α : Type} (d : Value → Option α) (B : Nat) (offs : Bool) (X : List α → List Value → Option Out) : Array Value → AHeap → Option (Value × AHeap) := fun args h => match args.toList with
  | .slice none 0 0 :: r => match r.all plainB, X [] r with
    | true, some o => some (o.val h.n, o.heap h)
    | _, _ => none
  | .slice (some _) 0 _ :: r => match r.all plainB, X [] r with
    | true, some o => some (o.val h.n, o.heap h)
    | _, _ => none
  | .slice (some ⟨i, off, none⟩) (m + 1) k :: r => match h.get i with
    | some (.cells c _ row _) => match decs d c with
      | some l => match Nat.ble (off + (m + 1)) l.length && Nat.ble (m + 1) B && Nat.ble (m + 1) k && (Nat.beq off 0 || offs) && (Nat.beq row 0 || Nat.beq row 2) && r.all plainB, X ((l.drop off).take (m + 1)) r with
        | true, some o => some (o.val h.n, o.heap h)
        | _, _ => none
      | none => none
    | _ => none
  | _ => none
/-- What is asked of such a call, where what it gives is asked for by Y; a slice of a block that is dead, or no block, is empty. -/
def asksG {α : Type} (f : FuncId) (e : α → Value) (B : Nat) (Y : List α → List Value → (Out → Prop) → Prop) (A : Asks) : Asks := fun f' args h k => match Nat.beq f f' with
  | true => match args.toList with
    | .slice none n xk :: r => match r.all plainB with
      | true => n = 0 ∧ xk = 0 ∧ Y [] r fun o => o.kont h k
      | false => False
    | .slice (some ⟨i, 0, none⟩) n xk :: r => match h.get i, r.all plainB with
      | some (.cells c _ row _), true => ∃ l : List α, c = l.map e ∧ (Nat.beq row 0 || Nat.beq row 2) = true ∧ 0 < n ∧ n ≤ l.length ∧ n ≤ B ∧ n ≤ xk ∧ Y (l.take n) r fun o => o.kont h k
      | some .dead, true => n = 0 ∧ Y [] r fun o => o.kont h k
      | none, true => n = 0 ∧ Y [] r fun o => o.kont h k
      | _, _ => False
    | _ => False
  | false => A f' args h k
theorem asksG_ok {α : Type} {f : FuncId} {d : Value → Option α} {e : α → Value} (hd : ∀ x, d (e x) = some x) {B : Nat} {offs : Bool} {X : List α → List Value → Option Out} {Y : List α → List Value → (Out → Prop) → Prop} (hY : ∀ l r K, Y l r K → ∃ o, X l r = some o ∧ K o) {A : Asks} {orc : Orc} (hA : AsksOk orc A) : AsksOk (orElse f (genO d B offs X) orc) (asksG f e B Y A) := by
  intro f' args h k hk
  unfold asksG at hk
  split at hk
  · rename_i hf
    split at hk
    · rename_i n xk r hargs
      split at hk
      · rename_i hr
        obtain ⟨rfl, rfl, hk⟩ := hk
        obtain ⟨o, hX, hq⟩ := hY _ _ _ hk
        rw [o.kont_iff] at hq
        refine ⟨_, _, ?_, hq⟩
        have hS : genO d B offs X args h = some (o.val h.n, o.heap h) := by
          unfold genO
          rw [hargs]
          simp only [hr, hX]
        simp only [orElse, hf, hS]
      · exact hk.elim
    · rename_i i n xk r hargs
      have empty : n = 0 → r.all plainB = true → (Y [] r fun o => o.kont h k) → ∃ v h', orElse f (genO d B offs X) orc f' args h = some (v, h') ∧ k v h' := by
        rintro rfl hr hk
        obtain ⟨o, hX, hq⟩ := hY _ _ _ hk
        rw [o.kont_iff] at hq
        refine ⟨_, _, ?_, hq⟩
        have hS : genO d B offs X args h = some (o.val h.n, o.heap h) := by
          unfold genO
          rw [hargs]
          simp only [hr, hX]
        simp only [orElse, hf, hS]
      split at hk
      · rename_i c _ row _ hg hr
        obtain ⟨l, rfl, hw, h0, h1, h2, h3, hk⟩ := hk
        obtain ⟨o, hX, hq⟩ := hY _ _ _ hk
        rw [o.kont_iff] at hq
        obtain ⟨m, rfl⟩ : ∃ m, n = m + 1 := ⟨n - 1, by omega⟩
        refine ⟨_, _, ?_, hq⟩
        have hS : genO d B offs X args h = some (o.val h.n, o.heap h) := by
          unfold genO
          rw [hargs]
          have e1 : Nat.ble (0 + (m + 1)) l.length = true := by rw [Nat.ble_eq, Nat.zero_add]; exact h1
          have e2 : Nat.ble (m + 1) B = true := by rw [Nat.ble_eq]; exact h2
          have e3 : Nat.ble (m + 1) xk = true := by rw [Nat.ble_eq]; exact h3
          simp only [hg, decs_map hd, e1, e2, e3, hw, hr, Bool.and_self, List.drop_zero, hX, show Nat.beq 0 0 = true from rfl, Bool.true_or]
        simp only [orElse, hf, hS]
      · rename_i hg hr
        exact empty hk.1 hr hk.2
      · rename_i hg hr
        exact empty hk.1 hr hk.2
      · exact hk.elim
    · exact hk.elim
  · rename_i hf
    obtain ⟨v, h', e, q⟩ := hA f' args h k hk
    exact ⟨v, h', by simp only [orElse, hf, e], q⟩
/-- As asksG, for a slice from any index on. -/
def asksGo {α : Type} (f : FuncId) (e : α → Value) (B : Nat) (Y : List α → List Value → (Out → Prop) → Prop) (A : Asks) : Asks := fun f' args h k => match Nat.beq f f' with
  | true => match args.toList with
    | .slice (some ⟨i, off, none⟩) n xk :: r => match h.get i, r.all plainB with
      | some (.cells c _ row _), true => ∃ l : List α, c = l.map e ∧ (Nat.beq row 0 || Nat.beq row 2) = true ∧ 0 < n ∧ off + n ≤ l.length ∧ n ≤ B ∧ n ≤ xk ∧ Y ((l.drop off).take n) r fun o => o.kont h k
      | _, _ => False
    | _ => False
  | false => A f' args h k
theorem asksGo_ok {α : Type} {f : FuncId} {d : Value → Option α} {e : α → Value} (hd : ∀ x, d (e x) = some x) {B : Nat} {X : List α → List Value → Option Out} {Y : List α → List Value → (Out → Prop) → Prop} (hY : ∀ l r K, Y l r K → ∃ o, X l r = some o ∧ K o) {A : Asks} {orc : Orc} (hA : AsksOk orc A) : AsksOk (orElse f (genO d B true X) orc) (asksGo f e B Y A) := by
  intro f' args h k hk
  unfold asksGo at hk
  split at hk
  · rename_i hf
    split at hk
    · rename_i i off n xk r hargs
      split at hk
      · rename_i c _ row _ hg hr
        obtain ⟨l, rfl, hw, h0, h1, h2, h3, hk⟩ := hk
        obtain ⟨o, hX, hq⟩ := hY _ _ _ hk
        rw [o.kont_iff] at hq
        obtain ⟨m, rfl⟩ : ∃ m, n = m + 1 := ⟨n - 1, by omega⟩
        refine ⟨_, _, ?_, hq⟩
        have hS : genO d B true X args h = some (o.val h.n, o.heap h) := by
          unfold genO
          rw [hargs]
          have e1 : Nat.ble (off + (m + 1)) l.length = true := by rw [Nat.ble_eq]; exact h1
          have e2 : Nat.ble (m + 1) B = true := by rw [Nat.ble_eq]; exact h2
          have e3 : Nat.ble (m + 1) xk = true := by rw [Nat.ble_eq]; exact h3
          simp only [hg, decs_map hd, e1, e2, e3, hw, hr, Bool.and_self, hX, Bool.or_true]
        simp only [orElse, hf, hS]
      · exact hk.elim
    · exact hk.elim
  · rename_i hf
    obtain ⟨v, h', e, q⟩ := hA f' args h k hk
    exact ⟨v, h', by simp only [orElse, hf, e], q⟩
def skipA (f : FuncId) (A : Asks) : Asks := fun f' args h k => match Nat.beq f f' with
  | true => False
  | false => A f' args h k
theorem skipA_ok {f : FuncId} {S : Array Value → AHeap → Option (Value × AHeap)} {orc : Orc} {A : Asks} (hA : AsksOk orc A) : AsksOk (orElse f S orc) (skipA f A) := by
  intro f' args h k hk
  unfold skipA at hk
  split at hk
  · exact hk.elim
  · rename_i hf
    obtain ⟨v, h', e, q⟩ := hA f' args h k hk
    exact ⟨v, h', by simp only [orElse, hf, e], q⟩
end
section
variable {P : Program}
theorem Out.call {f : FuncId} {args args₂ : Array Value} {h h₂ : AHeap} {pre : Pre} {o : Out} (ho : o.Ok) (s : Small P args args₂ h h₂ pre) (hc : CallJ P f args₂ h₂ o.Got) :
    ∀ ρ args' w, HRel ρ h w → Globs P ρ → ARel (VRel ρ) args args' → CallsIn (fence none) 0 P f args' w (CPost ρ h w (o.val h.n) (o.heap h)) := by
  cases o with
  | plain v => exact CallJ.plain ho s hc
  | fresh mk xs el => exact CallJ.fresh ho.2 mk ho.1.ren ho.1.born s hc
  | wide mk xs el row => exact CallJ.fresh ho.2 mk ho.1.ren ho.1.born s hc
noncomputable abbrev rdPo (P : Program) (off n k : Nat) : Value := .slice (some ⟨P.globals.size, off, none⟩) n k
theorem small_nil {args : Array Value} {h : AHeap} {r : List Value} (hargs : args.toList = .slice none 0 0 :: r) (hr : r.all plainB = true) : ∃ pre, Small P args args h (emp P) pre := by
  refine ⟨_, Small.canonE (P := P) (B := []) (ids := []) (args₂ := args) rfl (by simp) (fun j b i hb => by simp at hb) ⟨rfl, fun i x y hx hy => ?_⟩ (fun i hi => by simp at hi)⟩
  rw [hx] at hy
  cases hy
  rw [← Array.getElem?_toList, hargs] at hx
  cases i with
  | zero => cases hx; exact .inl (.flat rfl)
  | succ i => exact .inl (plain_ren (List.all_eq_true.1 hr x (List.mem_of_getElem? hx)))
theorem small_emp {args : Array Value} {h : AHeap} {r : List Value} {a : Addr} {k : Nat} (hP : 0 < P.globals.size) (hargs : args.toList = .slice (some a) 0 k :: r) (hr : r.all plainB = true) : ∃ pre, Small P args (.slice (some ⟨0, 0, none⟩) 0 k :: r).toArray h (emp P) pre := by
  refine ⟨_, Small.canonE (P := P) (B := []) (ids := []) (args₂ := (.slice (some ⟨0, 0, none⟩) 0 k :: r).toArray) rfl (by simp) (fun j b i hb => by simp at hb) ⟨?_, fun i x y hx hy => ?_⟩ (fun i hi => by simp at hi)⟩
  · rw [← Array.length_toList, hargs]; simp
  · rw [← Array.getElem?_toList, hargs] at hx
    cases i with
    | zero => cases hx; simp at hy; subst hy; exact .inr (.inl ⟨_, 0, k, rfl, rfl, by simp [preOf], hP⟩)
    | succ i =>
      have hy : r[i]? = some y := by simpa using hy
      have hx : r[i]? = some x := hx
      rw [hx] at hy
      cases hy
      exact .inl (plain_ren (List.all_eq_true.1 hr x (List.mem_of_getElem? hx)))
theorem small_full {α : Type} {e : α → Value} (hfl : ∀ x, flat 3 (e x) = true) {args : Array Value} {h : AHeap} {r : List Value} {i off n k el row : Nat} {ro : Bool} {l : List α} (hargs : args.toList = .slice (some ⟨i, off, none⟩) n k :: r) (hr : r.all plainB = true) (hg : h.get i = some (.cells (l.map e) el row ro)) :
    ∃ pre, Small P args (rdPo P off n k :: r).toArray h (rdH P (l.map e) el row) pre := by
  refine ⟨_, Small.canonE (P := P) (B := [(l.map e, el, row)]) (ids := [i]) (args₂ := (rdPo P off n k :: r).toArray) rfl (by simp) (fun j b i' hb hi => ?_) ⟨?_, fun j x y hx hy => ?_⟩ (fun i' hi => ?_)⟩
  · match j, hb, hi with
    | 0, hb, hi =>
      cases hb; cases hi
      refine ⟨⟨ro, hg⟩, ?_⟩
      rw [List.all_eq_true]
      intro x hx
      obtain ⟨y, _, rfl⟩ := List.mem_map.1 hx
      exact hfl y
  · rw [← Array.length_toList, hargs]; simp
  · rw [← Array.getElem?_toList, hargs] at hx
    cases j with
    | zero => cases hx; simp at hy; subst hy; exact .inl (.slice (by simp [preOf]))
    | succ j =>
      have hy : r[j]? = some y := by simpa using hy
      have hx : r[j]? = some x := hx
      rw [hx] at hy
      cases hy
      exact .inl (plain_ren (List.all_eq_true.1 hr x (List.mem_of_getElem? hx)))
  · obtain rfl : i' = i := by simpa using hi
    exact ⟨_, by rw [hargs]; exact .head _, .inl ⟨off, n, k, rfl⟩⟩
theorem genO_ok {α : Type} {f : FuncId} {d : Value → Option α} {e : α → Value} (hd : ∀ v x, d v = some x → v = e x) (hfl : ∀ x, flat 3 (e x) = true) (hP : 0 < P.globals.size) {B : Nat} {offs : Bool} {X : List α → List Value → Option Out} {orc : Orc} (ho : OrcOk P orc)
    (hok : ∀ l r o, X l r = some o → o.Ok)
    (hnil : ∀ r o, X [] r = some o → CallJ P f (.slice none 0 0 :: r).toArray (emp P) o.Got)
    (hemp : ∀ r k o, X [] r = some o → CallJ P f (.slice (some ⟨0, 0, none⟩) 0 k :: r).toArray (emp P) o.Got)
    (hfull : ∀ (l : List α) off n r el row k o, (offs = false → off = 0) → row = 0 ∨ row = 2 → 0 < n → off + n ≤ l.length → n ≤ B → n ≤ k → X ((l.drop off).take n) r = some o → CallJ P f (rdPo P off n k :: r).toArray (rdH P (l.map e) el row) o.Got) : OrcOk P (orElse f (genO d B offs X) orc) := by
  refine orElse_ok ho fun args h v h' hk => ?_
  unfold genO at hk
  split at hk
  · rename_i r hargs
    split at hk
    · rename_i o hr hX
      cases hk
      obtain ⟨pre, s⟩ := small_nil (P := P) (h := h) hargs hr
      refine Out.call (hok _ _ _ hX) s ?_
      rw [show args = (.slice none 0 0 :: r).toArray by rw [← hargs]]
      exact hnil r o hX
    · cases hk
  · rename_i a k r hargs
    split at hk
    · rename_i o hr hX
      cases hk
      obtain ⟨pre, s⟩ := small_emp (P := P) (h := h) hP hargs hr
      exact Out.call (hok _ _ _ hX) s (hemp r k o hX)
    · cases hk
  · rename_i i off m k r hargs
    split at hk
    · rename_i c el row ro hg
      split at hk
      · rename_i l hl
        split at hk
        · rename_i o hc hX
          simp only [Bool.and_eq_true, Nat.ble_eq, Bool.or_eq_true] at hc
          obtain ⟨⟨⟨⟨⟨h1, h2⟩, h3⟩, h4⟩, hw⟩, hr⟩ := hc
          cases hk
          obtain rfl := decs_some hd hl
          obtain ⟨pre, s⟩ := small_full (P := P) hfl hargs hr hg
          exact Out.call (hok _ _ _ hX) s (hfull l off (m + 1) r el row k o (fun e => by rcases h4 with h4 | h4; exact Nat.eq_of_beq_eq_true h4; rw [e] at h4; cases h4) (hw.imp Nat.eq_of_beq_eq_true Nat.eq_of_beq_eq_true) (by omega) h1 h2 h3 hX)
        · cases hk
      · cases hk
    · cases hk
  · cases hk
end
end Go.Am
