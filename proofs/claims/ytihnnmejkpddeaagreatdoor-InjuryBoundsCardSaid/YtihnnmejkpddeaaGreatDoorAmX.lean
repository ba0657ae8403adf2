/-
  OWN WORK. 'Am': functions that read one slice, or copy one; smaller views; loops of appends.
-/
import Derived.Test.YtihnnmejkpddeaaGreatDoorAm5
/-! (OWN WORK. 'Am': functions that only read one slice, and return something plain: known calls, and what is asked of them where the slice is not known.) -/
namespace Go.Am
noncomputable section
def decs {α : Type} (d : Value → Option α) : List Value → Option (List α)
 | [] => some []
 | v :: r => match d v with
  | some x => (decs d r).map (x :: ·)
  | none => none
def plainB (v : Value) : Bool := match v with
 | .func (.func _) a b => a.isEmpty && b.isEmpty
 | v => flat 3 v
def sliceO {α : Type} (d : Value → Option α) (B : Nat) (T : List Value → Bool) (R : List α → List Value → Value) : Array Value → AHeap → Option (Value × AHeap) := fun args h => match args.toList with
 | .slice none 0 0 :: r => match r.all plainB && T r with
  | true => some (R [] r, h)
  | false => none
 | .slice (some _) 0 _ :: r => match r.all plainB && T r with
  | true => some (R [] r, h)
  | false => none
 | .slice (some ⟨i, 0, none⟩) (m + 1) k :: r => match h.get i with
  | some (.cells c _ _ _) => match decs d c with
   | some l => match Nat.ble (m + 1) l.length && Nat.ble (m + 1) B && Nat.ble (m + 1) k && (r.all plainB && T r) with
    | true => some (R (l.take (m + 1)) r, h)
    | false => none
   | none => none
  | _ => none
 | _ => none
def asksO {α : Type} (f : FuncId) (e : α → Value) (B : Nat) (T : List Value → Bool) (R : List α → List Value → Value) (A : Asks) : Asks := fun f' args h k => match Nat.beq f f' with
 | true => match args.toList with
  | .slice (some ⟨i, 0, none⟩) n xk :: r => match h.get i, r.all plainB && T r with
   | some (.cells c _ _ _), true => ∃ l : List α, c = l.map e ∧ 0 < n ∧ n ≤ l.length ∧ n ≤ B ∧ n ≤ xk ∧ k (R (l.take n) r) h
   | _, _ => False
  | _ => False
 | false => A f' args h k
theorem AsksOk.mono {orc orc' : Orc} {A : Asks} (hA : AsksOk orc A) (h : ∀ f args h r, orc f args h = some r → orc' f args h = some r) : AsksOk orc' A := fun f args hp k hk =>
 let ⟨v, h', e, q⟩ := hA f args hp k hk; ⟨v, h', h _ _ _ _ e, q⟩
end
section
variable {P : Program}
noncomputable abbrev rdH (P : Program) (c : List Value) (e row : Nat) : AHeap := canon P [(c, e, row)]
noncomputable abbrev rdP (P : Program) (n k : Nat) : Value := .slice (some ⟨P.globals.size, 0, none⟩) n k
noncomputable def cloneO {α : Type} (d : Value → Option α) (e : α → Value) (el : TypeId) : Array Value → AHeap → Option (Value × AHeap) := fun args h => match args.toList with
 | [.slice (some ⟨i, 0, none⟩) (m + 1) _] => match h.get i with
  | some (.cells c _ _ _) => match decs d c with
   | some l => match Nat.ble (m + 1) l.length && Nat.ble (m + 1) 1000000 with
    | true => some (.slice (some ⟨h.n, 0, none⟩) (m + 1) (m + 1), h.push (.cells ((l.take (m + 1)).map e) el 2 false))
    | false => none
   | none => none
  | _ => none
 | _ => none
noncomputable def asksC {α : Type} (f : FuncId) (e : α → Value) (el : TypeId) (A : Asks) : Asks := fun f' args h k => match Nat.beq f f' with
 | true => match args.toList with
  | [.slice (some ⟨i, 0, none⟩) n _] => match h.get i with
   | some (.cells c _ _ _) => ∃ l : List α, c = l.map e ∧ 0 < n ∧ n ≤ l.length ∧ n ≤ 1000000 ∧ k (.slice (some ⟨h.n, 0, none⟩) n n) (h.push (.cells ((l.take n).map e) el 2 false))
   | _ => False
  | _ => False
 | false => A f' args h k
end
end Go.Am
/-! (OWN WORK. 'Am': a state seen with just the blocks that its temporaries name; calls on plain arguments that are known under a condition.) -/
namespace Go.Am
section
variable {P : Program} {h : AHeap} {k : Post}
theorem zip_at {ts : List Nat} {vs vs₂ : List Value} {f : Value → Option Value} (he : amapM f vs = some vs₂) {x : Nat × Value} (hx : x ∈ ts.zip vs₂) : ∃ v, (x.1, v) ∈ ts.zip vs ∧ f v = some x.2 := by
 obtain ⟨h1, h2⟩ := amapM_spec he
 obtain ⟨i, hi⟩ := List.getElem?_of_mem hx
 rw [List.getElem?_zip_eq_some] at hi
 have hlt : i < vs.length := by rw [h1]; exact (List.getElem?_eq_some_iff.1 hi.2).1
 refine ⟨vs[i], ?_, h2 i _ _ (List.getElem?_eq_getElem hlt) hi.2⟩
 refine List.mem_of_getElem? (i := i) ?_
 rw [List.getElem?_zip_eq_some]
 exact ⟨hi.1, List.getElem?_eq_getElem hlt⟩
theorem stOf_zip {n : Nat} {ts : List Nat} {vs : List Value} {g : Nat → Value} (hts : ts.Nodup) (hlt : ∀ t ∈ ts, t < n) {x : Nat × Value} (hx : x ∈ ts.zip vs) : (stOf n (ts.zip vs) g).tmp x.1 = x.2 := by
 have ht : x.1 ∈ ts := (List.of_mem_zip (show (x.1, x.2) ∈ ts.zip vs from hx)).1
 have e : (stOf n (ts.zip vs) g).tmp x.1 = ov (ts.zip vs) g x.1 := by simp only [stOf, AAct.tmp, get_lit, if_pos (hlt _ ht), Option.getD_some]
 rw [e]
 clear e ht hlt
 induction ts generalizing vs with
 | nil => simp at hx
 | cons t ts ih =>
  cases vs with
  | nil => simp at hx
  | cons v vs =>
   have hn := List.nodup_cons.1 hts
   show (Bool.rec (ov (ts.zip vs) g x.1) v (Nat.beq t x.1) : Value) = x.2
   rcases List.mem_cons.1 hx with rfl | hx
   ·simp
   ·have hm : x.1 ∈ ts := (List.of_mem_zip (show (x.1, x.2) ∈ ts.zip vs from hx)).1
    have : Nat.beq t x.1 = false := by
     cases hb : Nat.beq t x.1 with
     | false => rfl
     | true => exact absurd (Nat.eq_of_beq_eq_true hb ▸ hm) hn.1
    rw [this]
    exact ih hn.2 hx
theorem J.reheap {es : Nat → TypeId} {n : Nat} {ts : List Nat} {vs vs₂ : List Value} {g : Nat → Value} {c : Code} {B : List Blk} {ids : List Nat} (hP : 0 < P.globals.size) (hts : ts.Nodup) (hlt : ∀ t ∈ ts, t < n)
  (hl : ids.length = B.length) (hn : ids.Nodup) (hge : ∀ i ∈ ids, P.globals.size ≤ i) (hB : ∀ (j : Nat) b i, B[j]? = some b → ids[j]? = some i → h.get i = some (.cells b.1 b.2.1 b.2.2.1 b.2.2.2) ∧ b.1.all (flat 3) = true)
  (hv : amapM (renV P.globals.size ids) vs = some vs₂) (hm : ∀ i ∈ ids, ∃ x ∈ ts.zip vs, i ∈ named x.2) (hj : ∀ g, J P c (stOf n (ts.zip vs₂) g) (canonT [] es P.globals.size B) k) : J P c (stOf n (ts.zip vs) g) h k := by
 have V : View P h (canonT [] (typesOf h) P.globals.size B) (preT P.globals.size [] ids) := view_canonT (T := []) rfl rfl hl hn hge hB
 have ce : canonT [] (typesOf h) P.globals.size B = canonT [] es P.globals.size B := by
  unfold canonT
  rfl
 rw [ce] at V
 refine J.from_view V (ts.zip vs₂) (D := 0) (by rw [canonT_n (T := []) rfl]; omega) ?_ rfl ?_ ?_ hj
 ·simp only [preT]
  rw [if_neg (by omega)]
  rfl
 ·intro x hx
  obtain ⟨v, h1, h2⟩ := zip_at hv hx
  rw [stOf_zip hts hlt h1]
  exact renV_spec (T := []) h2
 ·intro j i e
  simp only [preT] at e
  split at e
  ·obtain ⟨x, hx, hi⟩ := hm i (List.mem_of_getElem? e)
   exact .inr ⟨x.1, by rw [stOf_zip hts hlt hx]; exact named_spec hi⟩
  ·simp at e
end
noncomputable section
def condO (S : List Value → Option (Bool × Value)) : Array Value → AHeap → Option (Value × AHeap) := fun args h => match S args.toList with
 | some (true, v) => some (v, h)
 | _ => none
def asksF (f : FuncId) (S : List Value → Option (Bool × Value)) (A : Asks) : Asks := fun f' args h k => match Nat.beq f f' with
 | true => match S args.toList with
  | some (b, v) => b = true ∧ k v h
  | none => False
 | false => A f' args h k
theorem asksF_ok {f : FuncId} {S : List Value → Option (Bool × Value)} {A : Asks} {orc : Orc} (hA : AsksOk orc A) : AsksOk (orElse f (condO S) orc) (asksF f S A) := by
 intro f' args h k hk
 unfold asksF at hk
 split at hk
 ·rename_i hf
  split at hk
  ·rename_i b v hS
   obtain ⟨rfl, hk⟩ := hk
   exact ⟨v, h, by simp only [orElse, hf, condO, hS], hk⟩
  ·exact hk.elim
 ·rename_i hf
  obtain ⟨v, h', e, q⟩ := hA f' args h k hk
  exact ⟨v, h', by simp only [orElse, hf, e], q⟩
end
theorem condO_ok {P : Program} {f : FuncId} {S : List Value → Option (Bool × Value)} (hS : ∀ l v, S l = some (true, v) → l.all (flat 3) = true ∧ flat 3 v = true ∧ CallJ P f l.toArray (emp P) (fun u _ => u = v)) {orc : Orc} (ho : OrcOk P orc) : OrcOk P (orElse f (condO S) orc) := by
 refine orElse_ok ho fun args h v h' hk => ?_
 unfold condO at hk
 split at hk
 ·rename_i u hu
  cases hk
  obtain ⟨h1, h2, h3⟩ := hS _ _ hu
  exact plain_flat h1 h2 h3
 ·cases hk
noncomputable section
def mapO {α : Type} (d : Value → Option α) (B : Nat) (len : Nat → Nat) (T : List Value → Bool) (X : List α → Option (List Value)) (el : TypeId) : Array Value → AHeap → Option (Value × AHeap) := fun args h => match args.toList with
 | .slice (some ⟨i, 0, none⟩) (m + 1) _ :: r => match h.get i with
  | some (.cells c _ _ _) => match decs d c with
   | some l => match Nat.ble (m + 1) l.length && Nat.ble (m + 1) B && (r.all plainB && T r), X (l.take (m + 1)) with
    | true, some xs => some (.slice (some ⟨h.n, 0, none⟩) (len (m + 1)) (len (m + 1)), h.push (.cells xs el 2 false))
    | _, _ => none
   | none => none
  | _ => none
 | _ => none
def asksM {α : Type} (f : FuncId) (e : α → Value) (B : Nat) (len : Nat → Nat) (T : List Value → Bool) (ok : List α → Prop) (xs : List α → List Value) (el : TypeId) (A : Asks) : Asks := fun f' args h k => match Nat.beq f f' with
 | true => match args.toList with
  | .slice (some ⟨i, 0, none⟩) n _ :: r => match h.get i, r.all plainB && T r with
   | some (.cells c _ _ _), true => ∃ l : List α, c = l.map e ∧ 0 < n ∧ n ≤ l.length ∧ n ≤ B ∧ ok (l.take n) ∧ k (.slice (some ⟨h.n, 0, none⟩) (len n) (len n)) (h.push (.cells (xs (l.take n)) el 2 false))
   | _, _ => False
  | _ => False
 | false => A f' args h k
end
end Go.Am
/-! (OWN WORK. 'Am': functions that read one slice, under a condition that speaks of its elements.) -/
namespace Go.Am
noncomputable section
def sliceK {α : Type} (d : Value → Option α) (B : Nat) (C : List α → List Value → Bool) (R : List α → List Value → Value) : Array Value → AHeap → Option (Value × AHeap) := fun args h => match args.toList with
 | .slice none 0 0 :: r => match r.all plainB && C [] r with
  | true => some (R [] r, h)
  | false => none
 | .slice (some _) 0 _ :: r => match r.all plainB && C [] r with
  | true => some (R [] r, h)
  | false => none
 | .slice (some ⟨i, 0, none⟩) (m + 1) k :: r => match h.get i with
  | some (.cells c _ _ _) => match decs d c with
   | some l => match Nat.ble (m + 1) l.length && Nat.ble (m + 1) B && (r.all plainB && C (l.take (m + 1)) r) with
    | true => some (R (l.take (m + 1)) r, h)
    | false => none
   | none => none
  | _ => none
 | _ => none
def asksK {α : Type} (f : FuncId) (e : α → Value) (B : Nat) (C : List α → List Value → Bool) (R : List α → List Value → Value) (A : Asks) : Asks := fun f' args h k => match Nat.beq f f' with
 | true => match args.toList with
  | .slice (some ⟨i, 0, none⟩) n xk :: r => match h.get i, r.all plainB with
   | some (.cells c _ _ _), true => ∃ l : List α, c = l.map e ∧ 0 < n ∧ n ≤ l.length ∧ n ≤ B ∧ C (l.take n) r = true ∧ k (R (l.take n) r) h
   | _, _ => False
  | _ => False
 | false => A f' args h k
end
section
variable {P : Program}
end
end Go.Am
/-! (OWN WORK. 'Am': functions that read one slice, with results of any form: something plain, or what names one new block; calls by what is asked of them.) -/
namespace Go.Am
inductive Out where
 | plain (v : Value)
 | fresh (mk : Nat → Value) (xs : List Value) (el : TypeId)
 | wide (mk : Nat → Value) (xs : List Value) (el : TypeId) (row : Nat)
noncomputable section
def Out.val (b : Nat) : Out → Value
 | .plain v => v
 | .fresh mk _ _ => mk b
 | .wide mk _ _ _ => mk b
def Out.heap (h : AHeap) : Out → AHeap
 | .plain _ => h
 | .fresh _ xs el => h.push (.cells xs el 2 false)
 | .wide _ xs el row => h.push (.cells xs el row false)
structure Names (mk : Nat → Value) : Prop where
 ren : ∀ r m, Ren (fun j => if j = m then some r else none) (mk r) (mk m)
 born : ∀ r ρ c, VRel ρ (mk r) c → ρ r ≠ .unborn
def Out.Ok : Out → Prop
 | .plain v => flat 3 v = true
 | .fresh mk xs _ => Names mk ∧ xs.all (flat 3) = true
 | .wide mk xs _ _ => Names mk ∧ xs.all (flat 3) = true
def Out.Got : Out → Value → AHeap → Prop
 | .plain u, v, _ => v = u
 | .fresh mk xs el, v, h' => ∃ r, v = mk r ∧ h'.get r = some (.cells xs el 2 false)
 | .wide mk xs el row, v, h' => ∃ r, v = mk r ∧ h'.get r = some (.cells xs el row false)
def Out.kont (o : Out) (h : AHeap) (k : Value → AHeap → Prop) : Prop := match o with
 | .plain v => k v h
 | .fresh mk xs el => k (mk h.n) (h.push (.cells xs el 2 false))
 | .wide mk xs el row => k (mk h.n) (h.push (.cells xs el row false))
theorem Out.kont_iff (o : Out) (h : AHeap) (k : Value → AHeap → Prop) : o.kont h k = k (o.val h.n) (o.heap h) := by cases o <;> rfl
def slM (n : Nat) : Nat → Value := fun b => .slice (some ⟨b, 0, none⟩) n n
def tupM (pre : List Value) (n : Nat) (post : List Value) : Nat → Value := fun b => .tuple ⟨pre ++ .slice (some ⟨b, 0, none⟩) n n :: post⟩
theorem names_sl (n : Nat) : Names (slM n) where
 ren := fun r m => .slice (by simp)
 born := fun r ρ c hv => by
  obtain ⟨a', k', _, hp, _⟩ := VRel.slice_any hv
  exact hp.born
def genO {α : Type} (d : Value → Option α) (B : Nat) (offs : Bool) (X : List α → List Value → Option Out) : Array Value → AHeap → Option (Value × AHeap) := fun args h => match args.toList with
 | .slice none 0 0 :: r => match r.all plainB, X [] r with
  | true, some o => some (o.val h.n, o.heap h)
  | _, _ => none
 | .slice (some _) 0 _ :: r => match r.all plainB, X [] r with
  | true, some o => some (o.val h.n, o.heap h)
  | _, _ => none
 | .slice (some ⟨i, off, none⟩) (m + 1) k :: r => match h.get i with
  | some (.cells c _ row _) => match decs d c with
   | some l => match Nat.ble (off + (m + 1)) l.length && Nat.ble (m + 1) B && Nat.ble (m + 1) k && (Nat.beq off 0 || offs) && (Nat.beq row 0 || Nat.beq row 2) && r.all plainB, X ((l.drop off).take (m + 1)) r with
    | true, some o => some (o.val h.n, o.heap h)
    | _, _ => none
   | none => none
  | _ => none
 | _ => none
def asksG {α : Type} (f : FuncId) (e : α → Value) (B : Nat) (Y : List α → List Value → (Out → Prop) → Prop) (A : Asks) : Asks := fun f' args h k => match Nat.beq f f' with
 | true => match args.toList with
  | .slice none n xk :: r => match r.all plainB with
   | true => n = 0 ∧ xk = 0 ∧ Y [] r fun o => o.kont h k
   | false => False
  | .slice (some ⟨i, 0, none⟩) n xk :: r => match h.get i, r.all plainB with
   | some (.cells c _ row _), true => ∃ l : List α, c = l.map e ∧ (Nat.beq row 0 || Nat.beq row 2) = true ∧ 0 < n ∧ n ≤ l.length ∧ n ≤ B ∧ n ≤ xk ∧ Y (l.take n) r fun o => o.kont h k
   | some .dead, true => n = 0 ∧ Y [] r fun o => o.kont h k
   | none, true => n = 0 ∧ Y [] r fun o => o.kont h k
   | _, _ => False
  | _ => False
 | false => A f' args h k
def asksGo {α : Type} (f : FuncId) (e : α → Value) (B : Nat) (Y : List α → List Value → (Out → Prop) → Prop) (A : Asks) : Asks := fun f' args h k => match Nat.beq f f' with
 | true => match args.toList with
  | .slice (some ⟨i, off, none⟩) n xk :: r => match h.get i, r.all plainB with
   | some (.cells c _ row _), true => ∃ l : List α, c = l.map e ∧ (Nat.beq row 0 || Nat.beq row 2) = true ∧ 0 < n ∧ off + n ≤ l.length ∧ n ≤ B ∧ n ≤ xk ∧ Y ((l.drop off).take n) r fun o => o.kont h k
   | _, _ => False
  | _ => False
 | false => A f' args h k
def skipA (f : FuncId) (A : Asks) : Asks := fun f' args h k => match Nat.beq f f' with
 | true => False
 | false => A f' args h k
theorem skipA_ok {f : FuncId} {S : Array Value → AHeap → Option (Value × AHeap)} {orc : Orc} {A : Asks} (hA : AsksOk orc A) : AsksOk (orElse f S orc) (skipA f A) := by
 intro f' args h k hk
 unfold skipA at hk
 split at hk
 ·exact hk.elim
 ·rename_i hf
  obtain ⟨v, h', e, q⟩ := hA f' args h k hk
  exact ⟨v, h', by simp only [orElse, hf, e], q⟩
end
section
variable {P : Program}
theorem Out.call {f : FuncId} {args args₂ : Array Value} {h h₂ : AHeap} {pre : Pre} {o : Out} (ho : o.Ok) (s : Small P args args₂ h h₂ pre) (hc : CallJ P f args₂ h₂ o.Got) :
  ∀ ρ args' w, HRel ρ h w → Globs P ρ → ARel (VRel ρ) args args' → CallsIn (fence none) 0 P f args' w (CPost ρ h w (o.val h.n) (o.heap h)) := by
 cases o with
 | plain v => exact CallJ.plain ho s hc
 | fresh mk xs el => exact CallJ.fresh ho.2 mk ho.1.ren ho.1.born s hc
 | wide mk xs el row => exact CallJ.fresh ho.2 mk ho.1.ren ho.1.born s hc
noncomputable abbrev rdPo (P : Program) (off n k : Nat) : Value := .slice (some ⟨P.globals.size, off, none⟩) n k
end
end Go.Am
/-! (OWN WORK. 'Am': loops that append to a slice which is empty at first.) -/
namespace Go.Am
section
variable {P : Program}
noncomputable abbrev gH1 (P : Program) (src : List Value) (e row : Nat) : AHeap := canonT [] (fun _ => 0) P.globals.size [(src, e, row, true)]
noncomputable abbrev gH2 (P : Program) (src : List Value) (e row : Nat) (c : List Value) (el : Nat) : AHeap := canonT [] (fun _ => 0) P.globals.size [(src, e, row, true), (c, el, 2, false)]
def Grown (P : Program) (src : List Value) (e row el : Nat) (V : Nat → Value → List Value) (xs : Nat → List Value) (j : Nat) (vs : List Value) (h : AHeap) : Prop :=
 h.get P.globals.size = some (.cells src e row true) ∧
  ((xs j = [] ∧ vs = V j (.slice none 0 0)) ∨ ∃ b, (b = P.globals.size + 1 ∨ b = P.globals.size + 2 ∨ b = P.globals.size + 3) ∧ xs j ≠ [] ∧ vs = V j (.slice (some ⟨b, 0, none⟩) (xs j).length (xs j).length) ∧ h.get b = some (.cells (xs j) el 2 false))
def GrownC (P : Program) (C : List Blk) (el : Nat) (V : Nat → Value → List Value) (xs : Nat → List Value) (j : Nat) (vs : List Value) (h : AHeap) : Prop :=
 (∀ (q : Nat) b, C[q]? = some b → h.get (P.globals.size + q) = some (.cells b.1 b.2.1 b.2.2.1 b.2.2.2)) ∧
  ((xs j = [] ∧ vs = V j (.slice none 0 0)) ∨ ∃ b d, b = P.globals.size + C.length + d ∧ d ≤ 3 ∧ xs j ≠ [] ∧ vs = V j (.slice (some ⟨b, 0, none⟩) (xs j).length (xs j).length) ∧ h.get b = some (.cells (xs j) el 2 false))
noncomputable abbrev gC (P : Program) (C : List Blk) : AHeap := canonT [] (fun _ => 0) P.globals.size C
noncomputable abbrev gD (P : Program) (C : List Blk) (c : List Value) (el : Nat) : AHeap := canonT [] (fun _ => 0) P.globals.size (C ++ [(c, el, 2, false)])
theorem gC_get {C : List Blk} {q : Nat} {b : Blk} (hb : C[q]? = some b) : (gC P C).get (P.globals.size + q) = some (.cells b.1 b.2.1 b.2.2.1 b.2.2.2) := by
 rw [canonT_get (T := []) rfl, if_pos (by omega), show P.globals.size + q - P.globals.size = q by omega, hb]; rfl
theorem gD_get {C : List Blk} {q : Nat} {b : Blk} {c : List Value} {el : Nat} (hb : C[q]? = some b) : (gD P C c el).get (P.globals.size + q) = some (.cells b.1 b.2.1 b.2.2.1 b.2.2.2) :=
 gC_get (by rw [List.getElem?_append_left (List.getElem?_eq_some_iff.1 hb).1]; exact hb)
theorem growC_rule {n : Nat} {ts : List Nat} {body : Code} {C : List Blk} {el : Nat} (hP : 0 < P.globals.size) (hts : ts.Nodup) (hlt : ∀ t ∈ ts, t < n) (hsf : ∀ b ∈ C, b.1.all (flat 3) = true)
  (V : Nat → Value → List Value) (xs : Nat → List Value) (m : Nat) (Out : Exit → List Value → AHeap → Prop) (hxf : ∀ j, (xs j).all (flat 3) = true)
  (hr0 : ∀ j, amapM (renV P.globals.size ((List.range C.length).map (P.globals.size + ·))) (V j (.slice none 0 0)) = some (V j (.slice none 0 0)))
  (hr : ∀ j q d, d ≤ 3 → amapM (renV P.globals.size ((List.range C.length).map (P.globals.size + ·) ++ [P.globals.size + C.length + d])) (V j (.slice (some ⟨P.globals.size + C.length + d, 0, none⟩) q q)) = some (V j (.slice (some ⟨P.globals.size + C.length, 0, none⟩) q q)))
  (hn0 : ∀ j s (q : Nat), q < C.length → ∃ x ∈ ts.zip (V j s), P.globals.size + q ∈ named x.2) (hn1 : ∀ j b q, ∃ x ∈ ts.zip (V j (.slice (some ⟨b, 0, none⟩) q q)), b ∈ named x.2)
  (stepN : ∀ j, j < m → xs j = [] → ∀ g, J P body (stOf n (ts.zip (V j (.slice none 0 0))) g) (gC P C) (told n ts fun ex vs h => match ex with
   | .normal => GrownC P C el V xs (j + 1) vs h
   | ex => Out ex vs h))
  (stepS : ∀ j, j < m → xs j ≠ [] → ∀ g, J P body (stOf n (ts.zip (V j (.slice (some ⟨P.globals.size + C.length, 0, none⟩) (xs j).length (xs j).length))) g) (gD P C (xs j) el) (told n ts fun ex vs h => match ex with
   | .normal => GrownC P C el V xs (j + 1) vs h
   | ex => Out ex vs h))
  (endN : xs m = [] → ∀ g, J P body (stOf n (ts.zip (V m (.slice none 0 0))) g) (gC P C) (told n ts fun ex vs h => match ex with
   | .normal => False
   | ex => Out ex vs h))
  (endS : xs m ≠ [] → ∀ g, J P body (stOf n (ts.zip (V m (.slice (some ⟨P.globals.size + C.length, 0, none⟩) (xs m).length (xs m).length))) g) (gD P C (xs m) el) (told n ts fun ex vs h => match ex with
   | .normal => False
   | ex => Out ex vs h)) :
  ∀ a h, GrownC P C el V xs 0 (ts.map a.tmp) h → a.n = n → a.marks = [] → J P (.loop body) a h (told n ts Out) := by
 intro a h hi ha hm
 have at0 : ∀ (q i : Nat), ((List.range C.length).map (P.globals.size + ·))[q]? = some i → i = P.globals.size + q := fun q i hi => by
  rw [List.getElem?_map] at hi
  obtain ⟨x, hx, rfl⟩ := Option.map_eq_some_iff.1 hi
  rw [List.getElem?_range (by simpa using (List.getElem?_eq_some_iff.1 hx).1)] at hx
  cases hx; rfl
 have mem0 : ∀ i, i ∈ (List.range C.length).map (P.globals.size + ·) → ∃ q, q < C.length ∧ i = P.globals.size + q := fun i hi => by
  obtain ⟨q, hq, rfl⟩ := List.mem_map.1 hi
  exact ⟨q, by simpa using hq, rfl⟩
 have nod : ((List.range C.length).map (P.globals.size + ·)).Nodup := List.Pairwise.map _ (fun a b h e => h (by omega)) List.nodup_range
 refine loop_rule (fun q vs h => ∃ j, j ≤ m ∧ q = m - j ∧ GrownC P C el V xs j vs h) Out ?_ m _ h a ⟨0, Nat.zero_le _, rfl, hi⟩ ha hm rfl
 rintro q vs h g ⟨j, hj, rfl, hs, ⟨hx, rfl⟩ | ⟨b, d, rfl, hd3, hx, rfl, hd⟩⟩
 ·refine J.reheap (es := fun _ => 0) (vs₂ := V j (.slice none 0 0)) (B := C) (ids := (List.range C.length).map (P.globals.size + ·)) hP hts hlt (by simp) nod (fun i hi => by obtain ⟨q, _, rfl⟩ := mem0 i hi; omega) ?_ (hr0 j) ?_ fun g' => ?_
  ·intro q b' i hb hi
   obtain rfl := at0 q i hi
   exact ⟨hs q b' hb, hsf b' (List.mem_of_getElem? hb)⟩
  ·intro i hi
   obtain ⟨q, hq, rfl⟩ := mem0 i hi
   exact hn0 j _ q hq
  ·by_cases hjm : j < m
   ·refine (stepN j hjm hx g').mono fun ex a' h' q => ?_
    obtain ⟨q1, q2, q3⟩ := told_facts q
    simp only [told, q1, q2]
    cases ex with
    | normal => exact (by simpa using ⟨m - (j + 1), by omega, j + 1, by omega, rfl, q3⟩)
    | _ => simpa using q3
   ·obtain rfl : j = m := by omega
    refine (endN hx g').mono fun ex a' h' q => ?_
    obtain ⟨q1, q2, q3⟩ := told_facts q
    simp only [told, q1, q2]
    cases ex with
    | normal => exact q3.elim
    | _ => simpa using q3
 ·refine J.reheap (es := fun _ => 0) (vs₂ := V j (.slice (some ⟨P.globals.size + C.length, 0, none⟩) (xs j).length (xs j).length)) (B := C ++ [(xs j, el, 2, false)]) (ids := (List.range C.length).map (P.globals.size + ·) ++ [P.globals.size + C.length + d]) hP hts hlt (by simp) ?_ (fun i hi => by
   rcases List.mem_append.1 hi with hi | hi
   ·obtain ⟨q, _, rfl⟩ := mem0 i hi; omega
   ·have := List.mem_singleton.1 hi; omega) ?_ (hr j _ d hd3) ?_ fun g' => ?_
  ·rw [List.nodup_append]
   refine ⟨nod, by simp, fun x hx y hy e => ?_⟩
   obtain ⟨q, hq, rfl⟩ := mem0 x hx
   have := List.mem_singleton.1 hy
   omega
  ·intro q b' i hb hi
   by_cases hq : q < C.length
   ·rw [List.getElem?_append_left hq] at hb
    rw [List.getElem?_append_left (by simpa using hq)] at hi
    obtain rfl := at0 q i hi
    exact ⟨hs q b' hb, hsf b' (List.mem_of_getElem? hb)⟩
   ·rw [List.getElem?_append_right (by omega)] at hb
    rw [List.getElem?_append_right (by simpa using Nat.le_of_not_lt hq)] at hi
    simp only [List.length_map, List.length_range] at hi
    match hqq : q - C.length, hb, hi with
    | 0, hb, hi => cases hb; cases hi; exact ⟨hd, hxf j⟩
  ·intro i hi
   rcases List.mem_append.1 hi with hi | hi
   ·obtain ⟨q, hq, rfl⟩ := mem0 i hi
    exact hn0 j _ q hq
   ·obtain rfl := List.mem_singleton.1 hi
    exact hn1 j _ _
  ·by_cases hjm : j < m
   ·refine (stepS j hjm hx g').mono fun ex a' h' q => ?_
    obtain ⟨q1, q2, q3⟩ := told_facts q
    simp only [told, q1, q2]
    cases ex with
    | normal => exact (by simpa using ⟨m - (j + 1), by omega, j + 1, by omega, rfl, q3⟩)
    | _ => simpa using q3
   ·obtain rfl : j = m := by omega
    refine (endS hx g').mono fun ex a' h' q => ?_
    obtain ⟨q1, q2, q3⟩ := told_facts q
    simp only [told, q1, q2]
    cases ex with
    | normal => exact q3.elim
    | _ => simpa using q3
theorem AHeap.get_push_ne {h : AHeap} {o : AObj} {j : Nat} (hn : Nat.beq j h.n = false) : (h.push o).get j = h.get j := by
 rw [AHeap.get_push, if_neg (fun e => by rw [e] at hn; simp at hn)]
theorem AHeap.get_push_eq {h : AHeap} {o : AObj} {j : Nat} (hn : Nat.beq j h.n = true) : (h.push o).get j = some o := by
 rw [AHeap.get_push, if_pos (Nat.eq_of_beq_eq_true hn)]
theorem AHeap.get_set_neB {h : AHeap} {o : AObj} {i j : Nat} (hn : Nat.beq j i = false) : (h.set i o).get j = h.get j := by
 rw [AHeap.get_set, if_neg (fun e => by rw [e] at hn; simp at hn)]
noncomputable def asksE {α : Type} (f : FuncId) (Y : List α → List Value → (Out → Prop) → Prop) (A : Asks) : Asks := fun f' args h k => match Nat.beq f f' with
 | true => match args.toList with
  | .slice none n xk :: r => match r.all plainB with
   | true => n = 0 ∧ xk = 0 ∧ Y [] r fun o => o.kont h k
   | false => False
  | .slice (some _) n _ :: r => match r.all plainB with
   | true => n = 0 ∧ Y [] r fun o => o.kont h k
   | false => False
  | _ => False
 | false => A f' args h k
end
end Go.Am
/-! (OWN WORK. 'Am': as growC_rule of Am10, for elements of several cells.) -/
namespace Go.Am
section
variable {P : Program}
def GrownW (P : Program) (C : List Blk) (el rw : Nat) (V : Nat → Value → List Value) (ln : Nat → Nat) (xs : Nat → List Value) (j : Nat) (vs : List Value) (h : AHeap) : Prop :=
 (∀ (q : Nat) b, C[q]? = some b → h.get (P.globals.size + q) = some (.cells b.1 b.2.1 b.2.2.1 b.2.2.2)) ∧
  ((xs j = [] ∧ vs = V j (.slice none 0 0)) ∨ ∃ b d, b = P.globals.size + C.length + d ∧ d ≤ 3 ∧ xs j ≠ [] ∧ vs = V j (.slice (some ⟨b, 0, none⟩) (ln j) (ln j)) ∧ h.get b = some (.cells (xs j) el rw false))
noncomputable abbrev gW (P : Program) (C : List Blk) (c : List Value) (el rw : Nat) : AHeap := canonT [] (fun _ => 0) P.globals.size (C ++ [(c, el, rw, false)])
theorem growW_rule {n : Nat} {ts : List Nat} {body : Code} {C : List Blk} {el rw : Nat} (hP : 0 < P.globals.size) (hts : ts.Nodup) (hlt : ∀ t ∈ ts, t < n) (hsf : ∀ b ∈ C, b.1.all (flat 3) = true)
  (V : Nat → Value → List Value) (ln : Nat → Nat) (xs : Nat → List Value) (m : Nat) (Out : Exit → List Value → AHeap → Prop) (hxf : ∀ j, (xs j).all (flat 3) = true)
  (hr0 : ∀ j, amapM (renV P.globals.size ((List.range C.length).map (P.globals.size + ·))) (V j (.slice none 0 0)) = some (V j (.slice none 0 0)))
  (hr : ∀ j q d, d ≤ 3 → amapM (renV P.globals.size ((List.range C.length).map (P.globals.size + ·) ++ [P.globals.size + C.length + d])) (V j (.slice (some ⟨P.globals.size + C.length + d, 0, none⟩) q q)) = some (V j (.slice (some ⟨P.globals.size + C.length, 0, none⟩) q q)))
  (hn0 : ∀ j s (q : Nat), q < C.length → ∃ x ∈ ts.zip (V j s), P.globals.size + q ∈ named x.2) (hn1 : ∀ j b q, ∃ x ∈ ts.zip (V j (.slice (some ⟨b, 0, none⟩) q q)), b ∈ named x.2)
  (stepN : ∀ j, j < m → xs j = [] → ∀ g, J P body (stOf n (ts.zip (V j (.slice none 0 0))) g) (gC P C) (told n ts fun ex vs h => match ex with
   | .normal => GrownW P C el rw V ln xs (j + 1) vs h
   | ex => Out ex vs h))
  (stepS : ∀ j, j < m → xs j ≠ [] → ∀ g, J P body (stOf n (ts.zip (V j (.slice (some ⟨P.globals.size + C.length, 0, none⟩) (ln j) (ln j)))) g) (gW P C (xs j) el rw) (told n ts fun ex vs h => match ex with
   | .normal => GrownW P C el rw V ln xs (j + 1) vs h
   | ex => Out ex vs h))
  (endN : xs m = [] → ∀ g, J P body (stOf n (ts.zip (V m (.slice none 0 0))) g) (gC P C) (told n ts fun ex vs h => match ex with
   | .normal => False
   | ex => Out ex vs h))
  (endS : xs m ≠ [] → ∀ g, J P body (stOf n (ts.zip (V m (.slice (some ⟨P.globals.size + C.length, 0, none⟩) (ln m) (ln m)))) g) (gW P C (xs m) el rw) (told n ts fun ex vs h => match ex with
   | .normal => False
   | ex => Out ex vs h)) :
  ∀ a h, GrownW P C el rw V ln xs 0 (ts.map a.tmp) h → a.n = n → a.marks = [] → J P (.loop body) a h (told n ts Out) := by
 intro a h hi ha hm
 have at0 : ∀ (q i : Nat), ((List.range C.length).map (P.globals.size + ·))[q]? = some i → i = P.globals.size + q := fun q i hi => by
  rw [List.getElem?_map] at hi
  obtain ⟨x, hx, rfl⟩ := Option.map_eq_some_iff.1 hi
  rw [List.getElem?_range (by simpa using (List.getElem?_eq_some_iff.1 hx).1)] at hx
  cases hx; rfl
 have mem0 : ∀ i, i ∈ (List.range C.length).map (P.globals.size + ·) → ∃ q, q < C.length ∧ i = P.globals.size + q := fun i hi => by
  obtain ⟨q, hq, rfl⟩ := List.mem_map.1 hi
  exact ⟨q, by simpa using hq, rfl⟩
 have nod : ((List.range C.length).map (P.globals.size + ·)).Nodup := List.Pairwise.map _ (fun a b h e => h (by omega)) List.nodup_range
 refine loop_rule (fun q vs h => ∃ j, j ≤ m ∧ q = m - j ∧ GrownW P C el rw V ln xs j vs h) Out ?_ m _ h a ⟨0, Nat.zero_le _, rfl, hi⟩ ha hm rfl
 rintro q vs h g ⟨j, hj, rfl, hs, ⟨hx, rfl⟩ | ⟨b, d, rfl, hd3, hx, rfl, hd⟩⟩
 ·refine J.reheap (es := fun _ => 0) (vs₂ := V j (.slice none 0 0)) (B := C) (ids := (List.range C.length).map (P.globals.size + ·)) hP hts hlt (by simp) nod (fun i hi => by obtain ⟨q, _, rfl⟩ := mem0 i hi; omega) ?_ (hr0 j) ?_ fun g' => ?_
  ·intro q b' i hb hi
   obtain rfl := at0 q i hi
   exact ⟨hs q b' hb, hsf b' (List.mem_of_getElem? hb)⟩
  ·intro i hi
   obtain ⟨q, hq, rfl⟩ := mem0 i hi
   exact hn0 j _ q hq
  ·by_cases hjm : j < m
   ·refine (stepN j hjm hx g').mono fun ex a' h' q => ?_
    obtain ⟨q1, q2, q3⟩ := told_facts q
    simp only [told, q1, q2]
    cases ex with
    | normal => exact (by simpa using ⟨m - (j + 1), by omega, j + 1, by omega, rfl, q3⟩)
    | _ => simpa using q3
   ·obtain rfl : j = m := by omega
    refine (endN hx g').mono fun ex a' h' q => ?_
    obtain ⟨q1, q2, q3⟩ := told_facts q
    simp only [told, q1, q2]
    cases ex with
    | normal => exact q3.elim
    | _ => simpa using q3
 ·refine J.reheap (es := fun _ => 0) (vs₂ := V j (.slice (some ⟨P.globals.size + C.length, 0, none⟩) (ln j) (ln j))) (B := C ++ [(xs j, el, rw, false)]) (ids := (List.range C.length).map (P.globals.size + ·) ++ [P.globals.size + C.length + d]) hP hts hlt (by simp) ?_ (fun i hi => by
   rcases List.mem_append.1 hi with hi | hi
   ·obtain ⟨q, _, rfl⟩ := mem0 i hi; omega
   ·have := List.mem_singleton.1 hi; omega) ?_ (hr j _ d hd3) ?_ fun g' => ?_
  ·rw [List.nodup_append]
   refine ⟨nod, by simp, fun x hx y hy e => ?_⟩
   obtain ⟨q, hq, rfl⟩ := mem0 x hx
   have := List.mem_singleton.1 hy
   omega
  ·intro q b' i hb hi
   by_cases hq : q < C.length
   ·rw [List.getElem?_append_left hq] at hb
    rw [List.getElem?_append_left (by simpa using hq)] at hi
    obtain rfl := at0 q i hi
    exact ⟨hs q b' hb, hsf b' (List.mem_of_getElem? hb)⟩
   ·rw [List.getElem?_append_right (by omega)] at hb
    rw [List.getElem?_append_right (by simpa using Nat.le_of_not_lt hq)] at hi
    simp only [List.length_map, List.length_range] at hi
    match hqq : q - C.length, hb, hi with
    | 0, hb, hi => cases hb; cases hi; exact ⟨hd, hxf j⟩
  ·intro i hi
   rcases List.mem_append.1 hi with hi | hi
   ·obtain ⟨q, hq, rfl⟩ := mem0 i hi
    exact hn0 j _ q hq
   ·obtain rfl := List.mem_singleton.1 hi
    exact hn1 j _ _
  ·by_cases hjm : j < m
   ·refine (stepS j hjm hx g').mono fun ex a' h' q => ?_
    obtain ⟨q1, q2, q3⟩ := told_facts q
    simp only [told, q1, q2]
    cases ex with
    | normal => exact (by simpa using ⟨m - (j + 1), by omega, j + 1, by omega, rfl, q3⟩)
    | _ => simpa using q3
   ·obtain rfl : j = m := by omega
    refine (endS hx g').mono fun ex a' h' q => ?_
    obtain ⟨q1, q2, q3⟩ := told_facts q
    simp only [told, q1, q2]
    cases ex with
    | normal => exact q3.elim
    | _ => simpa using q3
end
end Go.Am
/-! (OWN WORK. 'Am': loops over blocks that stay where they are, whatever they hold after each round.) -/
namespace Go.Am
section
variable {P : Program}
def Laid (C : List Blk) (at_ : Nat → Nat) (h : AHeap) : Prop := ∀ (q : Nat) b, C[q]? = some b → h.get (at_ q) = some (.cells b.1 b.2.1 b.2.2.1 b.2.2.2)
theorem Laid.two {x y : Blk} {at_ : Nat → Nat} {h : AHeap} (h0 : h.get (at_ 0) = some (.cells x.1 x.2.1 x.2.2.1 x.2.2.2)) (h1 : h.get (at_ 1) = some (.cells y.1 y.2.1 y.2.2.1 y.2.2.2)) : Laid [x, y] at_ h := fun q b hb => by
 match q, hb with
 | 0, hb => cases hb; exact h0
 | 1, hb => cases hb; exact h1
theorem Laid.one {x : Blk} {at_ : Nat → Nat} {h : AHeap} (h0 : h.get (at_ 0) = some (.cells x.1 x.2.1 x.2.2.1 x.2.2.2)) : Laid [x] at_ h := fun q b hb => by
 match q, hb with
 | 0, hb => cases hb; exact h0
theorem Laid.three {x y z : Blk} {at_ : Nat → Nat} {h : AHeap} (h0 : h.get (at_ 0) = some (.cells x.1 x.2.1 x.2.2.1 x.2.2.2)) (h1 : h.get (at_ 1) = some (.cells y.1 y.2.1 y.2.2.1 y.2.2.2)) (h2 : h.get (at_ 2) = some (.cells z.1 z.2.1 z.2.2.1 z.2.2.2)) : Laid [x, y, z] at_ h := fun q b hb => by
 match q, hb with
 | 0, hb => cases hb; exact h0
 | 1, hb => cases hb; exact h1
 | 2, hb => cases hb; exact h2
theorem fold_rule {n : Nat} {ts : List Nat} {body : Code} (L : Nat) (C : Nat → List Blk) (hP : 0 < P.globals.size) (hts : ts.Nodup) (hlt : ∀ t ∈ ts, t < n)
  (hC : ∀ j, (C j).length = L) (hsf : ∀ j, ∀ b ∈ C j, b.1.all (flat 3) = true)
  (V : (Nat → Nat) → Nat → List Value) (I : Nat → Prop) (m : Nat) (hI : I 0) (Out : Exit → List Value → AHeap → Prop) (at₀ : Nat → Nat) (hnd : ((List.range L).map at₀).Nodup) (hge : ∀ q, q < L → P.globals.size ≤ at₀ q)
  (hr₀ : ∀ j, amapM (renV P.globals.size ((List.range L).map at₀)) (V at₀ j) = some (V (P.globals.size + ·) j))
  (hr : ∀ j, amapM (renV P.globals.size ((List.range L).map (P.globals.size + ·))) (V (P.globals.size + ·) j) = some (V (P.globals.size + ·) j))
  (hn : ∀ at_ j q, q < L → ∃ x ∈ ts.zip (V at_ j), at_ q ∈ named x.2)
  (step : ∀ j, j < m → I j → ∀ g, J P body (stOf n (ts.zip (V (P.globals.size + ·) j)) g) (canonT [] (fun _ => 0) P.globals.size (C j)) (told n ts fun ex vs h => match ex with
   | .normal => I (j + 1) ∧ vs = V (P.globals.size + ·) (j + 1) ∧ Laid (C (j + 1)) (P.globals.size + ·) h
   | ex => Out ex vs h))
  (last : I m → ∀ g, J P body (stOf n (ts.zip (V (P.globals.size + ·) m)) g) (canonT [] (fun _ => 0) P.globals.size (C m)) (told n ts fun ex vs h => match ex with
   | .normal => False
   | ex => Out ex vs h)) :
  ∀ a h, Laid (C 0) at₀ h → a.n = n → a.marks = [] → ts.map a.tmp = V at₀ 0 → J P (.loop body) a h (told n ts Out) := by
 intro a h hi ha hm hv
 have round : ∀ (at_ : Nat → Nat) (j : Nat) (h : AHeap) (g : Nat → Value) (Q : Post), ((List.range L).map at_).Nodup → (∀ q, q < L → P.globals.size ≤ at_ q) → amapM (renV P.globals.size ((List.range L).map at_)) (V at_ j) = some (V (P.globals.size + ·) j) → Laid (C j) at_ h →
   (∀ g, J P body (stOf n (ts.zip (V (P.globals.size + ·) j)) g) (canonT [] (fun _ => 0) P.globals.size (C j)) Q) → J P body (stOf n (ts.zip (V at_ j)) g) h Q := by
  intro at_ j h g Q hnd hge hr hl hq
  have at0 : ∀ (q i : Nat), ((List.range L).map at_)[q]? = some i → q < L ∧ i = at_ q := fun q i hi => by
   rw [List.getElem?_map] at hi
   obtain ⟨x, hx, rfl⟩ := Option.map_eq_some_iff.1 hi
   have hq : q < L := by simpa using (List.getElem?_eq_some_iff.1 hx).1
   rw [List.getElem?_range hq] at hx
   cases hx; exact ⟨hq, rfl⟩
  have mem0 : ∀ i, i ∈ (List.range L).map at_ → ∃ q, q < L ∧ i = at_ q := fun i hi => by
   obtain ⟨q, hq, rfl⟩ := List.mem_map.1 hi
   exact ⟨q, by simpa using hq, rfl⟩
  refine J.reheap (es := fun _ => 0) (vs₂ := V (P.globals.size + ·) j) (B := C j) (ids := (List.range L).map at_) hP hts hlt (by simp [hC j]) hnd (fun i hi => by obtain ⟨q, hq, rfl⟩ := mem0 i hi; exact hge q hq) ?_ hr ?_ hq
  ·intro q b i hb hi
   obtain ⟨_, rfl⟩ := at0 q i hi
   exact ⟨hl q b hb, hsf j b (List.mem_of_getElem? hb)⟩
  ·intro i hi
   obtain ⟨q, hq, rfl⟩ := mem0 i hi
   exact hn at_ j q hq
 refine loop_rule (fun q vs h => ∃ at_ j, ((at_ = at₀) ∨ at_ = (P.globals.size + ·)) ∧ j ≤ m ∧ q = m - j ∧ I j ∧ vs = V at_ j ∧ Laid (C j) at_ h) Out ?_ m _ h a ⟨at₀, 0, .inl rfl, Nat.zero_le _, rfl, hI, hv, hi⟩ ha hm rfl
 rintro q vs h g ⟨at_, j, hat, hj, rfl, hIj, rfl, hl⟩
 have hh : ((List.range L).map at_).Nodup ∧ (∀ q, q < L → P.globals.size ≤ at_ q) ∧ amapM (renV P.globals.size ((List.range L).map at_)) (V at_ j) = some (V (P.globals.size + ·) j) := by
  rcases hat with rfl | rfl
  ·exact ⟨hnd, hge, hr₀ j⟩
  ·exact ⟨List.Pairwise.map _ (fun a b h e => h (by omega)) List.nodup_range, fun q _ => by show P.globals.size ≤ P.globals.size + q; omega, hr j⟩
 obtain ⟨k1, k2, k3⟩ := hh
 by_cases hjm : j < m
 ·refine round at_ j h g _ k1 k2 k3 hl fun g' => (step j hjm hIj g').mono fun ex a' h' q => ?_
  obtain ⟨q1, q2, q3⟩ := told_facts q
  simp only [told, q1, q2, Nat.beq_refl]
  cases ex with
  | normal => exact (⟨m - (j + 1), by omega, (P.globals.size + ·), j + 1, .inr rfl, by omega, rfl, q3.1, q3.2.1, q3.2.2⟩)
  | _ => simpa using q3
 ·obtain rfl : j = m := by omega
  refine round at_ j h g _ k1 k2 k3 hl fun g' => (last hIj g').mono fun ex a' h' q => ?_
  obtain ⟨q1, q2, q3⟩ := told_facts q
  simp only [told, q1, q2]
  cases ex with
  | normal => exact q3.elim
  | _ => simpa using q3
end
end Go.Am
