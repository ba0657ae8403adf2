/-
  OWN WORK. 'Am': functions of any arguments; calls carried out in place; lists told by functions.
-/
import Derived.Test.YtihnnmejkpddeaaGreatDoorAmX
/-! (OWN WORK. 'Am': functions of something plain and one slice that is read.) -/
namespace Go.Am
noncomputable section
def genL {α : Type} (d : Value → Option α) (B : Nat) (X : List α → Value → Option Out) : Array Value → AHeap → Option (Value × AHeap) := fun args h => match args.toList with
 | [p, .slice none 0 0] => match plainB p, X [] p with
  | true, some o => some (o.val h.n, o.heap h)
  | _, _ => none
 | [p, .slice (some _) 0 _] => match plainB p, X [] p with
  | true, some o => some (o.val h.n, o.heap h)
  | _, _ => none
 | [p, .slice (some ⟨i, 0, none⟩) (m + 1) k] => match h.get i with
  | some (.cells c _ _ _) => match decs d c with
   | some l => match Nat.ble (m + 1) l.length && Nat.ble (m + 1) B && Nat.ble (m + 1) k && plainB p, X (l.take (m + 1)) p with
    | true, some o => some (o.val h.n, o.heap h)
    | _, _ => none
   | none => none
  | _ => none
 | _ => none
def asksL {α : Type} (f : FuncId) (e : α → Value) (B : Nat) (Y : List α → Value → (Out → Prop) → Prop) (A : Asks) : Asks := fun f' args h k => match Nat.beq f f' with
 | true => match args.toList with
  | [p, .slice none n xk] => match plainB p with
   | true => n = 0 ∧ xk = 0 ∧ Y [] p fun o => o.kont h k
   | false => False
  | [p, .slice (some ⟨i, 0, none⟩) n xk] => match h.get i, plainB p with
   | some (.cells c _ _ _), true => ∃ l : List α, c = l.map e ∧ 0 < n ∧ n ≤ l.length ∧ n ≤ B ∧ n ≤ xk ∧ Y (l.take n) p fun o => o.kont h k
   | some .dead, true => n = 0 ∧ Y [] p fun o => o.kont h k
   | none, true => n = 0 ∧ Y [] p fun o => o.kont h k
   | _, _ => False
  | _ => False
 | false => A f' args h k
end
section
variable {P : Program}
end
end Go.Am
/-! (OWN WORK. 'Am': calls that take over a block of their caller's, and give one in its place.) -/
namespace Go.Am
section
variable {P : Program} {h h₂ : AHeap} {pre : Pre}
structure SmallW (P : Program) (args args₂ : Array Value) (h h₂ : AHeap) (pre : Pre) (i₀ : Nat) : Prop where
 view : View P h h₂ pre
 rens : args.size = args₂.size ∧ ∀ (i : Nat) x y, args[i]? = some x → args₂[i]? = some y → Ren pre x y ∨ Empt h₂ pre x y
 born : ∀ j i, pre j = some i → i < P.globals.size ∨ ∃ v ∈ args.toList, Mentions v i
 ro : ∀ j i, pre j = some i → i ≠ i₀ → h₂.rw j = false
 wr : h.rw i₀ = true
 there : ∃ j, pre j = some i₀
theorem SmallW.start {args args₂ : Array Value} {i₀ : Nat} (s : SmallW P args args₂ h h₂ pre i₀) {ρ : Rho} {w : World} {args' : Array Value} (H : HRel ρ h w) (G : Globs P ρ) (hA : ARel (VRel ρ) args args') :
  HRel (viewRho ρ h₂.n pre) h₂ w ∧ Globs P (viewRho ρ h₂.n pre) ∧ ARel (VRel (viewRho ρ h₂.n pre)) args₂ args' ∧ ∃ g₀, ρ i₀ = .live g₀ ∧ ∀ b, Own (viewRho ρ h₂.n pre) h₂ b → g₀.b = b := by
 have hnd : ∀ j i, pre j = some i → ρ i ≠ .dead := fun j i hji hd => by
  obtain ⟨o, o₂, h1, _, h3⟩ := s.view.obj j i hji
  have := H.dead i hd o h1
  subst this
  cases o₂ <;> exact h3.elim
 have A : Alive ρ pre := s.view.alive H fun j i hji hu => by
  rcases s.born j i hji with hg | ⟨v, hv, hm⟩
  ·rcases G i hg with e | ⟨q, e, _⟩
   ·exact hnd j i hji e
   ·rw [e] at hu; cases hu
  ·obtain ⟨n, hn⟩ := List.getElem?_of_mem hv
   have hn : args[n]? = some v := by rw [← Array.getElem?_toList]; exact hn
   have hlt : n < args'.size := by rw [← hA.1]; exact (Array.getElem?_eq_some_iff.1 hn).1
   exact hm.born (hA.2 n v args'[n] hn (Array.getElem?_eq_getElem hlt)) hu
 obtain ⟨j₀, hj₀⟩ := s.there
 obtain ⟨g₀, hg₀⟩ := A j₀ i₀ hj₀
 refine ⟨s.view.hrel H A, s.view.globs' G, ⟨s.rens.1 ▸ hA.1, fun i x y hx hy => ?_⟩, g₀, hg₀, fun b ⟨j, g, hj, hb, hr⟩ => ?_⟩
 ·have hi : i < args.size := by rw [s.rens.1]; exact (Array.getElem?_eq_some_iff.1 hx).1
  have hv := hA.2 i args[i] y (Array.getElem?_eq_getElem hi) hy
  rcases s.rens.2 i args[i] x (Array.getElem?_eq_getElem hi) hx with r | r
  ·exact r.vrel s.view hv
  ·exact r.vrel s.view hv
 ·obtain ⟨i, hp, hl⟩ := viewRho_live hj
  by_cases e : i = i₀
  ·subst e
   rw [hg₀] at hl
   cases hl
   exact hb
  ·rw [s.ro j i hp e] at hr
   cases hr
theorem viewW {ids : List Nat} {B : List Blk} (es : Nat → TypeId) (hl : ids.length = B.length) (hn : ids.Nodup) (hge : ∀ i ∈ ids, P.globals.size ≤ i)
  (hB : ∀ (j : Nat) b i, B[j]? = some b → ids[j]? = some i → (∃ ro, h.get i = some (.cells b.1 b.2.1 b.2.2.1 ro) ∧ (ro = true → b.2.2.2 = true)) ∧ b.1.all (flat 3) = true) :
  View P h (canonT [] es P.globals.size B) (preT P.globals.size [] ids) := by
 have hT : tabsFlat P.globals.size [] = true := rfl
 have pn : ∀ j i, preT P.globals.size [] ids j = some i → P.globals.size ≤ j ∧ ids[j - P.globals.size]? = some i := fun j i e => by
  simp only [preT] at e
  split at e
  ·rename_i h1; exact ⟨h1, e⟩
  ·simp at e
 refine ⟨fun j i e => ?_, fun j j' i e e' => ?_, fun j i e => ?_, fun j e hj o ho => ?_, fun g hg => ?_⟩
 ·obtain ⟨h1, h2⟩ := pn j i e
  have := (List.getElem?_eq_some_iff.1 h2).1
  rw [canonT_n hT]
  omega
 ·obtain ⟨h1, h2⟩ := pn j i e
  obtain ⟨h3, h4⟩ := pn j' i e'
  have h5 := (List.getElem?_eq_some_iff.1 h2).1
  have := (List.getElem?_inj h5 hn).1 (h2.trans h4.symm)
  omega
 ·obtain ⟨h1, h2⟩ := pn j i e
  have h3 := (List.getElem?_eq_some_iff.1 h2).1
  have hb' : B[j - P.globals.size]? = some B[j - P.globals.size] := List.getElem?_eq_getElem (by omega)
  obtain ⟨⟨ro, k1, k2⟩, k3⟩ := hB _ _ i hb' h2
  exact ⟨_, .cells B[j - P.globals.size].1 B[j - P.globals.size].2.1 B[j - P.globals.size].2.2.1 B[j - P.globals.size].2.2.2, k1, by rw [canonT_get hT, if_pos h1, hb']; rfl, rfl, rfl, rfl, flat_ren k3, k2⟩
 ·rw [canonT_get hT] at ho
  rw [canonT_n hT] at hj
  split at ho
  ·rename_i h1
   simp only [preT, if_pos h1, List.getElem?_eq_none_iff] at e
   omega
  ·rw [show base [] es P.globals.size = emp P from rfl] at ho
   cases ho
 ·refine ⟨by rw [canonT_n hT]; omega, .inl ?_⟩
  simp only [preT]
  rw [if_neg (by omega)]
  rfl
theorem SmallW.canonT {args args₂ : Array Value} {B : List Blk} {ids : List Nat} {i₀ : Nat} (es : Nat → TypeId) (hl : ids.length = B.length) (hn : ids.Nodup) (hge : ∀ i ∈ ids, P.globals.size ≤ i)
  (hB : ∀ (j : Nat) b i, B[j]? = some b → ids[j]? = some i → (∃ ro, h.get i = some (.cells b.1 b.2.1 b.2.2.1 ro) ∧ (ro = true → b.2.2.2 = true)) ∧ b.1.all (flat 3) = true ∧ (i ≠ i₀ → b.2.2.2 = true))
  (hr : args.size = args₂.size ∧ ∀ (i : Nat) x y, args[i]? = some x → args₂[i]? = some y → Ren (preT P.globals.size [] ids) x y)
  (hb : ∀ i ∈ ids, ∃ v ∈ args.toList, Mentions v i) (hw : h.rw i₀ = true) (h0 : i₀ ∈ ids) : SmallW P args args₂ h (Go.Am.canonT [] es P.globals.size B) (preT P.globals.size [] ids) i₀ where
 view := viewW es hl hn hge fun j b i h1 h2 => ⟨(hB j b i h1 h2).1, (hB j b i h1 h2).2.1⟩
 rens := ⟨hr.1, fun i x y hx hy => .inl (hr.2 i x y hx hy)⟩
 born := fun j i e => by
  simp only [preT] at e
  split at e
  ·exact .inr (hb i (List.mem_of_getElem? e))
  ·simp at e
 ro := fun j i e hne => by
  simp only [preT] at e
  split at e
  ·rename_i h1
   have h3 := (List.getElem?_eq_some_iff.1 e).1
   have hb' : B[j - P.globals.size]? = some B[j - P.globals.size] := List.getElem?_eq_getElem (by omega)
   simp only [AHeap.rw, canonT_get (T := []) rfl, if_pos h1, hb', Option.map_some, (hB _ _ i hb' e).2.2 hne]
   rfl
  ·simp at e
 wr := hw
 there := by
  obtain ⟨j, hj⟩ := List.getElem?_of_mem h0
  refine ⟨P.globals.size + j, ?_⟩
  simp only [preT]
  rw [if_pos (by omega), show P.globals.size + j - P.globals.size = j by omega]
  exact hj
end
end Go.Am
/-! (OWN WORK. 'Am': calls that are carried out in place on values that are not known; their loops as often as they go.) -/
namespace Go.Am
noncomputable section
section
variable (P : Program) (orc : Orc) (sy : Sy) (pc : Asks)
def runRegionE (ex : Ex) (ops : Array Oper) (draw : Bool) (a : AAct) (h : AHeap) (k : AAct → AHeap → Prop) : Prop :=
 match constsOk P ops, draw with
 | false, _ => False
 | true, false => runOpsC P ex sy pc ops ops.toList a h k
 | true, true => match orderly ops with
  | true => runDrawC P ex sy pc ops (befs ops.toList []) (ops.size + 1) (Array.replicate ops.size false) [] a h k
  | false => False
def stepE (ex : Ex) (ih : Code → AAct → AHeap → Post → Prop) (c : Code) (a : AAct) (h : AHeap) (k : Post) : Prop :=
 match c with
 | .skip => k .normal a h
 | .region _ ops draw => runRegionE P sy pc ex ops draw a h fun a' h' => k .normal a' h'
 | .seq x y => ih x a h fun e a' h' => match e with
  | .normal => ih y a' h' k
  | e => k e a' h'
 | .cond x y z => match a.eval x with
  | .bool true => ih y a h k
  | .bool false => ih z a h k
  | _ => False
 | .block id b => ih b a h fun e a' h' => match e with
  | .exit j => match Nat.beq j id with
   | true => k .normal a' h'
   | false => k (.exit j) a' h'
  | e => k e a' h'
 | .loop b => ih b a h fun e a' h' => match e with
  | .normal => ih (.loop b) a' h' k
  | e => k e a' h'
 | .exit id => k (.exit id) a h
 | .ret => k .ret a h
 | .label _ => k .normal a h
 | .scope b => ih b a h fun e a' h' => match e with
  | .goto _ => False
  | e => k e a' h'
 | _ => False
def execE (n : Nat) : Code → AAct → AHeap → Post → Prop := Nat.rec (motive := fun _ => Code → AAct → AHeap → Post → Prop) (fun _ _ _ _ => False) (fun n ih => stepE P sy pc (exec P orc n) ih) n
def callE (n : Nat) (f : FuncId) (args : Array Value) (h : AHeap) (K : Value → AHeap → Prop) : Prop :=
 match P.funcs[f]? with
 | some fn => match fn.body with
  | some c => match Nat.ble args.size fn.ntmps with
   | true => execE P orc sy pc n c (enterAct fn.ntmps args.toList) h (fin P fn K)
   | false => False
  | none => False
 | none => False
end
def inlO (P : Program) (f : FuncId) (n : Nat) (orc : Orc) : Orc := orElse f (fun args h => acallRun P (exec P orc n) f args h) orc
def asksI (P : Program) (f : FuncId) (n : Nat) (orc : Orc) (sy : Sy) (pc A : Asks) : Asks := fun f' args h k => match Nat.beq f f' with
 | true => callE P orc sy pc n f args h k
 | false => A f' args h k
end
section
variable {P : Program} {orc : Orc} {sy : Sy} {pc : Asks}
end
end Go.Am
/-! (OWN WORK. 'Am': a call that is carried out in place, loops and all, as a call.) -/
namespace Go.Am
noncomputable def liftO (f : FuncId) (A B : Orc) : Orc := orElse f (A f) B
noncomputable def liftA (f : FuncId) (A B : Asks) : Asks := fun f' args h k => match Nat.beq f f' with
 | true => A f' args h k
 | false => B f' args h k
theorem liftO_ok {P : Program} {f : FuncId} {A B : Orc} (hA : OrcOk P A) (hB : OrcOk P B) : OrcOk P (liftO f A B) :=
 orElse_ok hB fun args h v h' hk => hA f args h v h' hk
theorem liftA_ok {f : FuncId} {A B : Orc} {a b : Asks} (hA : AsksOk A a) (hB : AsksOk B b) : AsksOk (liftO f A B) (liftA f a b) := by
 intro f' args h k hk
 unfold liftA at hk
 split at hk
 ·rename_i hf
  obtain ⟨v, h', e, q⟩ := hA f' args h k hk
  obtain rfl : f = f' := Nat.eq_of_beq_eq_true hf
  exact ⟨v, h', by simp only [liftO, orElse, hf, e], q⟩
 ·rename_i hf
  obtain ⟨v, h', e, q⟩ := hB f' args h k hk
  exact ⟨v, h', by simp only [liftO, orElse, hf, e], q⟩
noncomputable def asksP (f : FuncId) (Y : List Value → (Value → Prop) → Prop) (A : Asks) : Asks := fun f' args h k => match Nat.beq f f' with
 | true => Y args.toList fun v => k v h
 | false => A f' args h k
end Go.Am
/-! (OWN WORK. 'Am': functions of any arguments whose blocks hold plain cells: the blocks that the arguments name, under new numbers; what they return becomes known.) -/
namespace Go.Am
noncomputable section
def namedS : Value → List Nat
 | .slice _ 0 _ => []
 | .slice (some ⟨i, _, none⟩) _ _ => [i]
 | _ => []
def namedA (v : Value) : List Nat := match v with
 | .agg cs => cs.toList.flatMap namedS
 | .slice _ 0 _ => []
 | v => named v
def idsA (vs : List Value) : List Nat := addIds [] (vs.flatMap namedA)
def renE (n : Nat) (ids : List Nat) (v : Value) : Option Value := match v with
 | .slice (some _) 0 k => some (.slice (some ⟨0, 0, none⟩) 0 k)
 | v => renV n ids v
def renA (n : Nat) (ids : List Nat) (v : Value) : Option Value := match v with
 | .agg cs => match flat 3 (.agg cs) with
  | true => some (.agg cs)
  | false => match amapM (renE n ids) cs.toList with
   | some l => some (.agg l.toArray)
   | none => none
 | .slice (some _) 0 k => some (.slice (some ⟨0, 0, none⟩) 0 k)
 | v => renV n ids v
abbrev Cells := List Value × TypeId × Nat
def blkB (h : AHeap) (i : Nat) : Option Cells := match h.get i with
 | some (.cells c e row _) => some (c, e, row)
 | _ => none
def viewA (n : Nat) (vs : List Value) (h : AHeap) : Option (List Value × List Cells) :=
 match (idsA vs).all (Nat.ble n), amapM (renA n (idsA vs)) vs, amapM (blkB h) (idsA vs) with
 | true, some us, some B => some (us, B)
 | _, _, _ => none
def flatB (B : List Cells) : Bool := B.all fun b => b.1.all (flat 3)
def flatP (B : List Cells) : Prop := List.rec (motive := fun _ => Prop) True (fun b _ ih => b.1.all (flat 3) = true ∧ ih) B
theorem flatP_iff : ∀ {B : List Cells}, flatP B → flatB B = true
 | [], _ => rfl
 | b :: B, h => by
  show (b.1.all (flat 3) && flatB B) = true
  rw [show b.1.all (flat 3) = true from h.1, flatP_iff (B := B) h.2]; rfl
def anyO (n : Nat) (X : List Value → List Cells → Option Out) : Array Value → AHeap → Option (Value × AHeap) := fun args h => match viewA n args.toList h with
 | some (vs, B) => match flatB B, X vs B with
  | true, some o => some (o.val h.n, o.heap h)
  | _, _ => none
 | none => none
def asksV (n : Nat) (f : FuncId) (Y : List Value → List Cells → (Out → Prop) → Prop) (A : Asks) : Asks := fun f' args h k => match Nat.beq f f' with
 | true => match viewA n args.toList h with
  | some (vs, B) => flatP B ∧ Y vs B fun o => o.kont h k
  | none => False
 | false => A f' args h k
theorem asksV_ok {n : Nat} {f : FuncId} {X : List Value → List Cells → Option Out} {Y : List Value → List Cells → (Out → Prop) → Prop} (hY : ∀ vs B K, Y vs B K → ∃ o, X vs B = some o ∧ K o) {A : Asks} {orc : Orc} (hA : AsksOk orc A) : AsksOk (orElse f (anyO n X) orc) (asksV n f Y A) := by
 intro f' args h k hk
 unfold asksV at hk
 split at hk
 ·rename_i hf
  split at hk
  ·rename_i vs B hv
   obtain ⟨hB, hk⟩ := hk
   obtain ⟨o, hX, hq⟩ := hY _ _ _ hk
   rw [o.kont_iff] at hq
   refine ⟨_, _, ?_, hq⟩
   have : anyO n X args h = some (o.val h.n, o.heap h) := by
    unfold anyO
    rw [hv]
    simp only [flatP_iff hB, hX]
   simp only [orElse, hf, this]
  ·exact hk.elim
 ·rename_i hf
  obtain ⟨v, h', e, q⟩ := hA f' args h k hk
  exact ⟨v, h', by simp only [orElse, hf, e], q⟩
theorem pre_same (n : Nat) (ids : List Nat) : preT n [] ids = preOf n ids := by
 funext j
 unfold preT preOf
 by_cases h : n ≤ j
 ·rw [if_pos h, if_pos h]
 ·rw [if_neg h, if_neg h]; rfl
theorem namedS_spec {v : Value} {i : Nat} (hi : i ∈ namedS v) : ∃ o n k, v = .slice (some ⟨i, o, none⟩) n k := by
 unfold namedS at hi
 split at hi
 ·cases hi
 ·simp only [List.mem_singleton] at hi; subst hi; exact ⟨_, _, _, rfl⟩
 ·cases hi
theorem namedA_spec {v : Value} {i : Nat} (hi : i ∈ namedA v) : Mentions v i := by
 unfold namedA at hi
 split at hi
 ·rename_i cs
  obtain ⟨c, hc, hi⟩ := List.mem_flatMap.1 hi
  obtain ⟨o, n, k, rfl⟩ := namedS_spec hi
  exact .inr (.inr (.inl ⟨cs, o, n, k, rfl, hc⟩))
 ·cases hi
 ·exact named_spec hi
theorem renE_spec {h₂ : AHeap} {pre : Pre} {n : Nat} {ids : List Nat} {v u : Value} (e : renE n ids v = some u) (hp : pre = preT n [] ids) (h0 : 0 < h₂.n) (hd : pre 0 = none) : Ren pre v u ∨ EmptS h₂ pre v u := by
 unfold renE at e
 split at e
 ·rename_i a k
  cases e
  exact .inr ⟨a, 0, k, rfl, rfl, hd, h0⟩
 ·rw [hp]; exact .inl (renV_spec e)
theorem renA_spec {P : Program} {B : List Cells} {ids : List Nat} {v u : Value} (hP : 0 < P.globals.size) (e : renA P.globals.size ids v = some u) : Ren (preOf P.globals.size ids) v u ∨ Empt (canon P B) (preOf P.globals.size ids) v u := by
 rw [← pre_same]
 unfold renA at e
 split at e
 ·rename_i cs
  split at e
  ·rename_i hf; cases e; exact .inl (.flat hf)
  ·split at e
   ·rename_i l hl
    cases e
    obtain ⟨h1, h2⟩ := amapM_spec hl
    have : Value.agg cs = .agg cs.toList.toArray := by rw [Array.toArray_toList]
    rw [this]
    exact .inr (.inr ⟨_, _, rfl, rfl, h1, fun i x y hx hy => renE_spec (h2 i x y hx hy) rfl (by rw [canon_n]; omega) (by simp only [preT]; rw [if_neg (by omega)]; rfl)⟩)
   ·cases e
 ·rename_i a k
  cases e
  refine .inr (.inl ⟨a, 0, k, rfl, rfl, ?_, by rw [canon_n]; omega⟩)
  simp only [preT]
  rw [if_neg (by omega)]; rfl
 ·exact .inl (renV_spec e)
theorem anyO_ok {P : Program} {f : FuncId} {X : List Value → List Cells → Option Out} {orc : Orc} (hP : 0 < P.globals.size) (ho : OrcOk P orc)
  (hX : ∀ vs B o, X vs B = some o → flatB B = true → o.Ok ∧ CallJ P f vs.toArray (canon P B) o.Got) : OrcOk P (orElse f (anyO P.globals.size X) orc) := by
 refine orElse_ok ho fun args h v h' hk => ?_
 unfold anyO at hk
 split at hk
 ·rename_i vs B hv
  split at hk
  ·rename_i o hB ho'
   cases hk
   obtain ⟨h1, h2⟩ := hX vs B o ho' hB
   unfold viewA at hv
   split at hv
   ·rename_i us B' hge hr hb
    cases hv
    obtain ⟨r1, r2⟩ := amapM_spec hr
    obtain ⟨b1, b2⟩ := amapM_spec hb
    obtain ⟨i1, i2⟩ := addIds_spec (args.toList.flatMap namedA) [] (by simp)
    have s : Small P args vs.toArray h (canon P B) (preOf P.globals.size (idsA args.toList)) := by
     refine Small.canonE b1 i1 (fun j b i hbj hij => ?_) ⟨?_, fun i x y hx hy => ?_⟩ (fun i hi => ?_)
     ·have hq := b2 j i b hij hbj
      unfold blkB at hq
      split at hq
      ·rename_i c e row ro hg
       cases hq
       refine ⟨⟨ro, hg⟩, ?_⟩
       exact List.all_eq_true.1 hB _ (List.mem_of_getElem? hbj)
      ·cases hq
     ·rw [← Array.length_toList, r1]; simp
     ·exact renA_spec hP (r2 i x y (by rw [Array.getElem?_toList]; exact hx) (by simpa using hy))
     ·rcases i2 i hi with hi | hi
      ·cases hi
      ·obtain ⟨v, hv', hi⟩ := List.mem_flatMap.1 hi
       exact ⟨v, hv', namedA_spec hi⟩
    exact Out.call h1 s h2
   ·cases hv
  ·cases hk
 ·cases hk
end
end Go.Am
/-! (OWN WORK. 'Am': functions of plain arguments that read the tables.) -/
namespace Go.Am
noncomputable section
variable {P : Program}
noncomputable def tabSpec (T : Tabs) (S : List Value → Option Value) : Array Value → AHeap → Option (Value × AHeap) := fun args h => match hasTabs T h with
 | true => (S args.toList).map (·, h)
 | false => none
theorem tabSpec_ok {T : Tabs} (hT : tabsFlat P.globals.size T = true) {f : FuncId} {S : List Value → Option Value} (hS : ∀ l v, S l = some v → l.all (flat 3) = true ∧ flat 3 v = true ∧ ∀ es, CallJ P f l.toArray (base T es P.globals.size) (fun u _ => u = v)) {orc : Orc} (ho : OrcOk P orc) : OrcOk P (orElse f (tabSpec T S) orc) := by
 refine orElse_ok ho fun args h v h' hk => ?_
 unfold tabSpec at hk
 split at hk
 ·rename_i htab
  obtain ⟨u, hu, e⟩ := Option.map_eq_some_iff.1 hk
  cases e
  obtain ⟨h1, h2, h3⟩ := hS _ _ hu
  have V := view_canonT (P := P) (B := []) (ids := []) hT htab rfl (by simp) (by simp) (fun j b i hb => by simp at hb)
  refine CallJ.plain h2 ⟨V, ⟨rfl, fun i x y hx hy => ?_⟩, fun j i e => ?_, fun j e => ?_⟩ (h3 (typesOf h))
  ·rw [hx] at hy
   cases hy
   exact .inl (.flat (List.all_eq_true.1 h1 x (List.mem_of_getElem? (by rw [Array.getElem?_toList]; exact hx))))
  ·simp only [preT] at e
   split at e
   ·simp at e
   ·split at e
    ·cases e; left; omega
    ·cases e
  ·obtain ⟨i, hi⟩ := Option.isSome_iff_exists.1 e
   simp only [preT] at hi
   split at hi
   ·simp at hi
   ·split at hi
    ·rename_i ht
     cases hi
     obtain ⟨c, hm⟩ := tab_any.1 ht
     obtain ⟨o, ho'⟩ := tab_some (es := typesOf h) hm
     obtain ⟨c', _, rfl⟩ := tab_get ho'
     have : (canonT T (typesOf h) P.globals.size []).get j = _ := ho'
     simp [AHeap.rw, this]
    ·cases hi
 ·cases hk
noncomputable def asksT (T : Tabs) (f : FuncId) (Y : List Value → (Value → Prop) → Prop) (A : Asks) : Asks := fun f' args h k => match Nat.beq f f' with
 | true => match hasTabs T h with
  | true => Y args.toList fun v => k v h
  | false => False
 | false => A f' args h k
end
end Go.Am
/-! (OWN WORK. 'Am': functions of a slice whose elements are told by a list (each of some cells), and of plain values behind it, as known calls.) -/
namespace Go.Am
noncomputable section
structure Tell (α : Type) where
 cells : List α → List Value
 dec : List Value → Option (List α)
 dec_cells : ∀ l, dec (cells l) = some l
 dec_some : ∀ {c l}, dec c = some l → c = cells l
 flat : ∀ l, (cells l).all (flat 3) = true
variable {α : Type}
def goodN (n m : Nat) : Bool := Nat.blt 0 n && (Nat.beq m n && Nat.ble n 65536)
def lstX (N : Nat) (T : Tell α) (X : List α → List Value → Option Out) (vs : List Value) (B : List Cells) : Option Out := match B with
 | [] => match vs with
  | .slice none 0 0 :: r => X [] r
  | .slice (some ⟨0, 0, none⟩) 0 _ :: r => X [] r
  | _ => none
 | [(c, _, _)] => match vs with
  | .slice (some ⟨i, 0, none⟩) n _ :: r => match Nat.beq i N && r.all plainB, T.dec c with
   | true, some l => match goodN n l.length with
    | true => X l r
    | false => none
   | _, _ => none
  | _ => none
 | _ => none
def lstY (N : Nat) (T : Tell α) (Y : List α → List Value → (Out → Prop) → Prop) (vs : List Value) (B : List Cells) (K : Out → Prop) : Prop := match B with
 | [] => match vs with
  | .slice none 0 0 :: r => Y [] r K
  | .slice (some ⟨0, 0, none⟩) 0 _ :: r => Y [] r K
  | _ => False
 | [(c, _, _)] => match vs with
  | .slice (some ⟨i, 0, none⟩) n _ :: r => (Nat.beq i N && r.all plainB) = true ∧ ∃ l, c = T.cells l ∧ (0 < n ∧ l.length = n ∧ n ≤ 65536) ∧ Y l r K
  | _ => False
 | _ => False
def lstO (N : Nat) (T : Tell α) (X : List α → List Value → Option Out) : Array Value → AHeap → Option (Value × AHeap) := anyO N (lstX N T X)
def asksT' (N : Nat) (f : FuncId) (T : Tell α) (Y : List α → List Value → (Out → Prop) → Prop) (A : Asks) : Asks := asksV N f (lstY N T Y) A
open Classical in
def ifX (C : List α → List Value → Prop) (out : List α → List Value → Out) : List α → List Value → Option Out := fun l r => if C l r then some (out l r) else none
def ifY (C : List α → List Value → Prop) (out : List α → List Value → Out) : List α → List Value → (Out → Prop) → Prop := fun l r K => C l r ∧ K (out l r)
def lstI (N : Nat) (T : Tell α) (C : List α → List Value → Prop) (out : List α → List Value → Out) : Array Value → AHeap → Option (Value × AHeap) := lstO N T (ifX C out)
def asksI' (N : Nat) (f : FuncId) (T : Tell α) (C : List α → List Value → Prop) (out : List α → List Value → Out) (A : Asks) : Asks := asksT' N f T (ifY C out) A
end
end Go.Am
