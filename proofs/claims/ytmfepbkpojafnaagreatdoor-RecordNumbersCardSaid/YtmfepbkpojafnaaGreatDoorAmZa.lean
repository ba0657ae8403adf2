/-
  OWN WORK. 'Am', twenty-seventh text: calls carried out on values that are not known; calls on plain arguments become known.
-/
import Derived.Test.YtmfepbkpojafnaaGreatDoorAmZ
namespace Go.Am
noncomputable section

def look (l : List (Nat × Nat)) (d : Nat) : Nat := match l with
  | [] => 0
  | (x, k) :: r => match Nat.beq x d with
    | true => k
    | false => look r d
/-- Which operations are carried out otherwise: by where they put what they give; a store by its address (and 10000). -/
def syOf (l : List (Nat × Nat)) : Sy := fun o => match o.dst with
  | some d => look l d
  | none => match o.op with
    | .store _ (.tmp x) _ => look l (x + 10000)
    | _ => 0
/-- How a call ends. -/
def fin (P : Program) (fn : Func) (K : Value → AHeap → Prop) : Post := fun e a h =>
  match e with
  | .normal => match a.marks with
    | [] => match aresult P fn a h with
      | some v => K v h
      | none => False
    | _ => False
  | .ret => match a.marks with
    | [] => match aresult P fn a h with
      | some v => K v h
      | none => False
    | _ => False
  | _ => False
def callC (P : Program) (ex : Ex) (sy : Sy) (pc : Asks) (L : Loops P) (n : Nat) (f : FuncId) (args : Array Value) (h : AHeap) (K : Value → AHeap → Prop) : Prop :=
  match P.funcs[f]? with
  | some fn => match fn.body with
    | some c => match Nat.ble args.size fn.ntmps with
      | true => execC P ex sy pc L n c (enterAct fn.ntmps args.toList) h (fin P fn K)
      | false => False
    | none => False
  | none => False
/-- No block but variables of which nothing is known. -/
def emp (P : Program) : AHeap := { n := P.globals.size, t := .nil }
def noAsks : Asks := fun _ _ _ _ => False
theorem noAsks_ok (orc : Orc) : AsksOk orc noAsks := fun _ _ _ _ h => h.elim
def noLoops (P : Program) : Loops P := { body := fun _ => .skip, spec := fun _ _ _ _ => False, ok := fun _ _ _ _ h => h.elim }
end

section
variable {P : Program} {K : Value → AHeap → Prop} {h : AHeap}
theorem fin_end {fn : Func} {e : Exit} {a' : AAct} {h' : AHeap} (hk : fin P fn K e a' h') : (e = .normal ∨ e = .ret) ∧ a'.marks = [] ∧ ∃ v, aresult P fn a' h' = some v ∧ K v h' := by
  unfold fin at hk
  split at hk
  · split at hk
    · rename_i hm
      split at hk
      · rename_i v hv
        exact ⟨.inl rfl, hm, v, hv, hk⟩
      · exact hk.elim
    · exact hk.elim
  · split at hk
    · rename_i hm
      split at hk
      · rename_i v hv
        exact ⟨.inr rfl, hm, v, hv, hk⟩
      · exact hk.elim
    · exact hk.elim
  · exact hk.elim
theorem callC_ok {orc : Orc} (hm : P.follows .mixedOrders = true) (ho : OrcOk P orc) {m : Nat} {sy : Sy} {pc : Asks} (hpc : AsksOk orc pc) {L : Loops P} {n : Nat} {f : FuncId} {args : Array Value} (hk : callC P (exec P orc m) sy pc L n f args h K) : CallJ P f args h K := by
  unfold callC at hk
  split at hk
  · rename_i fn hfn
    split at hk
    · rename_i c hc
      split at hk
      · rename_i hs
        exact CallJ.of_body hfn hc (by simpa [Nat.ble_eq] using hs) ((execC_ok hm ho hpc L hk).mono fun _ _ _ q => fin_end q)
      · exact hk.elim
    · exact hk.elim
  · exact hk.elim
theorem Small.emp {args : Array Value} (ha : args.toList.all (flat 3) = true) : Small P args args h (emp P) (fun _ => none) where
  view := ⟨fun j i e => by simp at e, fun _ _ i e => by simp at e, fun _ _ e => by simp at e, fun j _ _ o ho => by simp [Am.emp, AHeap.get, Tr.get_nil] at ho, fun g hg => ⟨hg, .inl rfl⟩⟩
  rens := ⟨rfl, fun i x y hx hy => by
    rw [hx] at hy
    cases hy
    exact .flat (List.all_eq_true.1 ha x (List.mem_of_getElem? (by rw [Array.getElem?_toList]; exact hx)))⟩
  born := fun _ _ e => by simp at e
  ro := fun _ e => by simp at e
/-- A call with plain arguments whose result is plain. -/
theorem plain_flat {f : FuncId} {args : Array Value} {res : Value} (ha : args.toList.all (flat 3) = true) (hr : flat 3 res = true) (hc : CallJ P f args (emp P) (fun v _ => v = res)) :
    ∀ ρ args' w, HRel ρ h w → Globs P ρ → ARel (VRel ρ) args args' → CallsIn (fence none) 0 P f args' w (CPost ρ h w res h) :=
  CallJ.plain hr (Small.emp ha) hc
/-- The calls of a function on plain arguments. -/
noncomputable def flatSpec (S : List Value → Option Value) : Array Value → AHeap → Option (Value × AHeap) := fun args h => (S args.toList).map (·, h)
theorem flatSpec_ok {f : FuncId} {S : List Value → Option Value} (hS : ∀ l v, S l = some v → l.all (flat 3) = true ∧ flat 3 v = true ∧ CallJ P f l.toArray (emp P) (fun u _ => u = v)) {orc : Orc} (ho : OrcOk P orc) : OrcOk P (orElse f (flatSpec S) orc) := by
  refine orElse_ok ho fun args h v h' hk => ?_
  obtain ⟨u, hu, e⟩ := Option.map_eq_some_iff.1 hk
  cases e
  obtain ⟨h1, h2, h3⟩ := hS _ _ hu
  exact plain_flat h1 h2 h3
end
end Go.Am
