/-
  OWN WORK. 'Am', thirteenth text: activations; calls and rounds; one operation of a region.
-/
import Derived.Test.YtmfepbkpojafnaaGreatDoorAmL
namespace Go.Am

/-- Nothing is asked of the machines on the way; in which round the frame is. -/
def fence (rd : Option Nat) : Fence := { Fence.wide with round := rd }
theorem fence_fn (rd : Option Nat) (f : FuncId) : (fence rd).fn f := trivial
theorem fence_room (rd : Option Nat) (n : Nat) : (fence rd).room n := fun d hd => by simp [fence, Fence.wide] at hd
theorem fence_depth (rd : Option Nat) (n : Nat) : (fence rd).depth.isSome = true → 1 ≤ n := fun h => by simp [fence, Fence.wide] at h

def MarksRel (ρ : Rho) (ms : List Nat) (ds : List Deferred) : Prop :=
  ds.length = ms.length ∧ ∀ (i : Nat) m d, ms[i]? = some m → ds[i]? = some d → ∃ r, d = { target := .collected r, args := #[] } ∧ BRel ρ m r
theorem MarksRel.mono {ρ ρ' : Rho} (h : ρ.le ρ') {ms : List Nat} {ds : List Deferred} (k : MarksRel ρ ms ds) : MarksRel ρ' ms ds :=
  ⟨k.1, fun i m d hm hd => let ⟨r, e, hb⟩ := k.2 i m d hm hd; ⟨r, e, hb.mono h⟩⟩
def RdRel (ρ : Rho) : Option Nat → Option Nat → Prop
  | none, none => True
  | some l, some l' => BRel ρ l l'
  | _, _ => False
theorem RdRel.mono {ρ ρ' : Rho} (h : ρ.le ρ') {a b : Option Nat} (k : RdRel ρ a b) : RdRel ρ' a b := by
  cases a <;> cases b <;> simp only [RdRel] at *
  exact k.mono h

theorem undef_getD (a : Array Value) (t : Nat) (ht : a.size ≤ t) : a.getD t Go.undef = Go.undef := by
  rw [Array.getD_eq_getD_getElem?, Array.getElem?_eq_none ht]
  rfl
theorem TmpsRel.put {ρ ρ' : Rho} (hle : ρ.le ρ') {a : AAct} {act : Act} (k : TmpsRel ρ a act.tmps) {dst : Option Tmp} {v v' : Value} (hd : ∀ d, dst = some d → d < a.n) (hv : VRel ρ' v v') : TmpsRel ρ' (a.put dst v) (act.put dst v').tmps := by
  cases dst with
  | none => exact k.mono hle
  | some d =>
    refine ⟨by simp [Act.put, k.size], fun t => ?_⟩
    rw [AAct.tmp_put]
    simp only [Act.put, Array.getD_eq_getD_getElem?]
    rw [Array.getElem?_setIfInBounds]
    have hlt : d < act.tmps.size := by rw [← k.size]; exact hd d rfl
    by_cases e : t = d
    · subst e
      rw [if_pos rfl, if_pos rfl, if_pos hlt]
      exact hv
    · rw [if_neg e, if_neg (Ne.symm e)]
      have := (k.tmp t).mono hle
      rwa [Array.getD_eq_getD_getElem?] at this
/-- Package-level variables have their own numbers, or nothing is known of them. -/
def Globs (P : Program) (ρ : Rho) : Prop := ∀ g, g < P.globals.size → ρ g = .dead ∨ ∃ q, ρ g = .live q ∧ q.b = g ∧ q.sh = 0
theorem Globs.mono {P : Program} {ρ ρ' : Rho} (h : ρ.le ρ') (k : Globs P ρ) : Globs P ρ' := fun g hg => by
  have hs := h g
  rcases k g hg with e | ⟨q, e, h1, h2⟩
  · rw [e] at hs; exact .inl hs
  · rw [e] at hs
    rcases hs with e' | e'
    · exact .inr ⟨q, e', h1, h2⟩
    · exact .inl e'
theorem eval_rel {P : Program} {ρ : Rho} {a : AAct} {act : Act} (G : Globs P ρ) (k : TmpsRel ρ a act.tmps) {o : Oper} (hc : constsFlat P o = true) : ∀ x ∈ o.op.operands, VRel ρ (a.eval x) (act.eval x) := by
  intro x hx
  have hcx := List.all_eq_true.1 hc x (by simpa using hx)
  cases x with
  | tmp t => exact k.tmp t
  | const v => exact .flat (n := 3) hcx
  | global g =>
    have hg : g < P.globals.size := by simpa [Nat.blt_eq] using hcx
    refine .fold ⟨⟨g, 0, none⟩, rfl, ?_⟩
    unfold PRel
    rcases G g hg with e | ⟨q, e, h1, h2⟩
    · simp [e]
    · simp [e, h1, h2]
  | func f => exact .fold ⟨.func f, #[], #[], rfl, rfl, ARel.refl_of fun x hx => by simp at hx, ARel.refl_of fun x hx => by simp at hx⟩
theorem VRel.bool_back {ρ : Rho} {v : Value} {b : Bool} (k : VRel ρ v (.bool b)) : v = .bool b := by
  have h := k.unfold
  cases v with
  | bool c => exact (show (Value.bool b) = .bool c from h).symm
  | pointer a => cases a <;> simp [VStep] at h
  | slice a n c => cases a <;> simp [VStep] at h
  | map a => cases a <;> simp [VStep] at h
  | chan a => cases a <;> simp [VStep] at h
  | _ => simp [VStep] at h
theorem wanted_rel {ρ : Rho} {a : AAct} {act : Act} (k : TmpsRel ρ a act.tmps) (ops : Array Oper) (o : Oper) : Region.wanted o (yielded ops act.tmps) = Region.wanted o (ayielded ops a) := by
  unfold Region.wanted
  cases o.guard with
  | none => rfl
  | some gw =>
    obtain ⟨j, want⟩ := gw
    have : yielded ops act.tmps j = ayielded ops a j := by
      unfold yielded ayielded
      cases (ops[j]?).bind (·.dst) with
      | none => rfl
      | some t =>
        have hk := k.tmp t
        rw [Array.getD_eq_getD_getElem?] at hk
        simp only [Option.bind_some]
        by_cases hlt : t < act.tmps.size
        · have e : act.tmps[t]? = some act.tmps[t] := Array.getElem?_eq_getElem hlt
          rw [e] at hk ⊢
          simp only [Option.getD_some] at hk
          have hb : Nat.blt t a.n = true := by rw [Nat.blt_eq, k.size]; exact hlt
          rw [hb]
          cases hc : act.tmps[t] with
          | bool b => rw [hc] at hk; rw [hk.bool_back]
          | _ =>
            cases ha : a.tmp t with
            | bool b => rw [ha] at hk; rw [hk.bool] at hc; cases hc
            | _ => rfl
        · rw [Array.getElem?_eq_none (Nat.le_of_not_lt hlt)]
          have hb : Nat.blt t a.n = false := by
            cases hq : Nat.blt t a.n with
            | false => rfl
            | true => rw [Nat.blt_eq, k.size] at hq; exact absurd hq hlt
          rw [hb]
    show (yielded ops act.tmps j == some want) = (ayielded ops a j == some want)
    rw [this]

structure SRel (P : Program) (ρ : Rho) (a : AAct) (h : AHeap) (act : Act) (w : World) : Prop where
  heap : HRel ρ h w
  tmps : TmpsRel ρ a act.tmps
  marks : MarksRel ρ a.marks act.defers
  globs : Globs P ρ
end Go.Am
