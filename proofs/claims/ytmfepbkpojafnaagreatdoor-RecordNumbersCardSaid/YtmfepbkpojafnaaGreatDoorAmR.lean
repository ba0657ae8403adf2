/-
  OWN WORK. 'Am', eighteenth text: regions that draw their order: what comes before what; what an operation looks at.
-/
import Derived.Test.YtmfepbkpojafnaaGreatDoorAmQ
namespace Go.Am
section
variable {P : Program} {ρ : Rho} {h : AHeap} {w : World}

/-- All that an operation looks at is related. -/
def Looks (ρ : Rho) (ops : Array Oper) (o : Oper) (a : AAct) (act : Act) : Prop := a.n = act.tmps.size ∧ ∀ t ∈ o.looksAt ops, VRel ρ (a.tmp t) (act.tmps.getD t Go.undef)
theorem Looks.eval (G : Globs P ρ) {ops : Array Oper} {o : Oper} {a : AAct} {act : Act} (k : Looks ρ ops o a act) (hc : constsFlat P o = true) : ∀ x ∈ o.op.operands, VRel ρ (a.eval x) (act.eval x) := by
  intro x hx
  have hcx := List.all_eq_true.1 hc x (by simpa using hx)
  cases x with
  | tmp t => exact k.2 t (List.mem_append_left _ (List.mem_filterMap.2 ⟨.tmp t, by simpa using hx, rfl⟩))
  | const v => exact .flat (n := 3) hcx
  | global g =>
    have hg : g < P.globals.size := by simpa [Nat.blt_eq] using hcx
    refine .fold ⟨⟨g, 0, none⟩, rfl, ?_⟩
    unfold PRel
    rcases G g hg with e | ⟨q, e, h1, h2⟩
    · simp [e]
    · simp [e, h1, h2]
  | func f => exact .fold ⟨.func f, #[], #[], rfl, rfl, ARel.refl_of fun x hx => by simp at hx, ARel.refl_of fun x hx => by simp at hx⟩
theorem Looks.wanted {ops : Array Oper} {o : Oper} {a : AAct} {act : Act} (k : Looks ρ ops o a act) : Region.wanted o (yielded ops act.tmps) = Region.wanted o (ayielded ops a) := by
  unfold Region.wanted
  cases hg : o.guard with
  | none => rfl
  | some gw =>
    obtain ⟨j, want⟩ := gw
    have : yielded ops act.tmps j = ayielded ops a j := by
      unfold yielded ayielded
      cases hd : (ops[j]?).bind (·.dst) with
      | none => rfl
      | some t =>
        have hk := k.2 t (List.mem_append_right _ (by rw [hg]; simp [hd]))
        rw [Array.getD_eq_getD_getElem?] at hk
        simp only [Option.bind_some]
        by_cases hlt : t < act.tmps.size
        · have e : act.tmps[t]? = some act.tmps[t] := Array.getElem?_eq_getElem hlt
          rw [e] at hk ⊢
          simp only [Option.getD_some] at hk
          have hb : Nat.blt t a.n = true := by rw [Nat.blt_eq, k.1]; exact hlt
          rw [hb]
          cases hc : act.tmps[t] with
          | bool b => rw [hc] at hk; rw [hk.bool_back]
          | _ =>
            cases ha : a.tmp t with
            | bool b => rw [ha] at hk; rw [hk.bool] at hc; cases hc
            | _ => rfl
        · rw [Array.getElem?_eq_none (Nat.le_of_not_lt hlt)]
          have hb : Nat.blt t a.n = false := by
            cases hq : Nat.blt t a.n with
            | false => rfl
            | true => rw [Nat.blt_eq, k.1] at hq; exact absurd hq hlt
          rw [hb]
    show (yielded ops act.tmps j == some want) = (ayielded ops a j == some want)
    rw [this]

theorem opBy_looks {ex : Ex} (E : ExOk P ex) (H : HRel ρ h w) (G : Globs P ρ) {ops : Array Oper} {o : Oper} {a : AAct} {act : Act} (L : Looks ρ ops o a act) (hcf : constsFlat P o = true) {v : Value} {h' : AHeap} (ho : opBy P ex ops o a h = some (v, h')) (rd : Option Nat)
    {next : Act → World → Prop} {Q : Exit → Act → World → Prop} (k : ∀ v' ρ' w', VRel ρ' v v' → HRel ρ' h' w' → Adv h.n ρ h w ρ' h' w' → next (act.put o.dst v') w') :
    if Region.wanted o (yielded ops act.tmps) then o.wpIn (fence rd) 0 P act w next Q else (∀ f, o.about P w act.eval = some f → (fence rd).fn f) ∧ next (act.put o.dst Go.undef) w := by
  unfold opBy at ho
  split at ho
  · rw [L.wanted]
    split at ho
    · rename_i hw
      rw [if_pos hw]
      split at ho
      · rename_i x hx
        exact doneBy_ok E H G (L.eval G hcf) hx ho rd k
      · cases ho
    · rename_i hw
      rw [if_neg (by rw [hw]; simp)]
      cases ho
      exact ⟨fun _ _ => trivial, k _ ρ w .undef H (Adv.refl _ _ _ _)⟩
  · cases ho

/-! What comes before what. -/
def Bef (bs : List Nat) (j i : Nat) : Prop := (bs.getD j 0).testBit i = true

def befRow (acc : List Nat) (o : Oper) : Nat := (o.after.toList.filter (Region.binds .any)).foldl (fun s e => s ||| (2 ^ e.on ||| acc.getD e.on 0)) 0
theorem befs_cons (o : Oper) (r : List Oper) (acc : List Nat) : befs (o :: r) acc = befs r (acc ++ [befRow acc o]) := rfl
theorem befRow_bit (acc : List Nat) (o : Oper) (i : Nat) : (befRow acc o).testBit i = true ↔ ∃ e ∈ o.after, Region.binds .any e = true ∧ (i = e.on ∨ (acc.getD e.on 0).testBit i = true) := by
  have key : ∀ (l : List Edge) (s : Nat), (l.foldl (fun s e => s ||| (2 ^ e.on ||| acc.getD e.on 0)) s).testBit i = true ↔ s.testBit i = true ∨ ∃ e ∈ l, i = e.on ∨ (acc.getD e.on 0).testBit i = true := by
    intro l
    induction l with
    | nil => intro s; simp
    | cons e l ih =>
      intro s
      rw [List.foldl_cons, ih]
      simp only [Nat.testBit_or, Nat.testBit_two_pow, Bool.or_eq_true, decide_eq_true_eq, List.mem_cons, exists_eq_or_imp]
      constructor
      · rintro ((h | h | h) | h)
        · exact .inl h
        · exact .inr (.inl (.inl h.symm))
        · exact .inr (.inl (.inr h))
        · exact .inr (.inr h)
      · rintro (h | (h | h) | h)
        · exact .inl (.inl h)
        · exact .inl (.inr (.inl h.symm))
        · exact .inl (.inr (.inr h))
        · exact .inr h
  unfold befRow
  rw [key]
  simp only [Nat.zero_testBit, Bool.false_eq_true, false_or, List.mem_filter, Array.mem_toList_iff]
  constructor
  · rintro ⟨e, ⟨h1, h2⟩, h3⟩; exact ⟨e, h1, h2, h3⟩
  · rintro ⟨e, h1, h2, h3⟩; exact ⟨e, ⟨h1, h2⟩, h3⟩
theorem befs_prefix : ∀ (l : List Oper) (acc : List Nat) (j : Nat), j < acc.length → (befs l acc).getD j 0 = acc.getD j 0
  | [], acc, j, h => rfl
  | o :: l, acc, j, h => by
    rw [befs_cons, befs_prefix l _ j (by simp; omega), List.getD_eq_getElem?_getD, List.getElem?_append_left h, ← List.getD_eq_getElem?_getD]
theorem befs_at : ∀ (l : List Oper) (acc : List Nat) (k : Nat) (o : Oper), l[k]? = some o → ∃ acc', acc'.length = acc.length + k ∧ (∀ i, i < acc.length + k → acc'.getD i 0 = (befs l acc).getD i 0) ∧ (befs l acc).getD (acc.length + k) 0 = befRow acc' o
  | [], acc, k, o, h => by simp at h
  | x :: l, acc, 0, o, h => by
    simp at h
    subst h
    refine ⟨acc, rfl, fun i hi => ?_, ?_⟩
    · exact (befs_prefix (x :: l) acc i (by omega)).symm
    · rw [befs_cons, Nat.add_zero, befs_prefix l _ acc.length (by simp)]
      simp [List.getD_eq_getElem?_getD]
  | x :: l, acc, k + 1, o, h => by
    obtain ⟨acc', h1, h2, h3⟩ := befs_at l (acc ++ [befRow acc x]) k o (by simpa using h)
    rw [befs_cons]
    simp only [List.length_append, List.length_singleton] at h1 h2 h3
    exact ⟨acc', by omega, fun i hi => h2 i (by omega), by rw [← h3]; congr 1; omega⟩

structure Orderly (ops : Array Oper) (bs : List Nat) : Prop where
  back : ∀ j o, ops[j]? = some o → ∀ e ∈ o.after, Region.binds .any e = true → e.on < j
  bef : ∀ j o, ops[j]? = some o → ∀ i, Bef bs j i ↔ ∃ e ∈ o.after, Region.binds .any e = true ∧ (i = e.on ∨ Bef bs e.on i)
  apart : ∀ i j x y, i ≠ j → ops[i]? = some x → ops[j]? = some y → Bef bs j i ∨ Bef bs i j ∨ (Apart ops x y = true ∧ Apart ops y x = true)
theorem Apart_comm (ops : Array Oper) (x y : Oper) : Apart ops x y = Apart ops y x := by unfold Apart; exact Bool.and_comm _ _
theorem orderly_ok {ops : Array Oper} (h : orderly ops = true) : Orderly ops (befs ops.toList []) := by
  unfold orderly at h
  simp only [List.all_eq_true] at h
  have H : ∀ j y, ops[j]? = some y → _ := fun j y hj => h (y, j) (List.mk_mem_zipIdx_iff_getElem?.2 (by rw [Array.getElem?_toList]; exact hj))
  simp only [Bool.and_eq_true] at H
  have hback : ∀ j o, ops[j]? = some o → ∀ e ∈ o.after, Region.binds .any e = true → e.on < j := fun j o hj e he hb => by
    have := List.all_eq_true.1 (H j o hj).1.1.1 e (by simpa using he)
    simpa [hb, Nat.blt_eq] using this
  refine ⟨hback, fun j o hj i => ?_, fun i j x y ne hi hj => ?_⟩
  · obtain ⟨acc', h1, h2, h3⟩ := befs_at ops.toList [] j o (by rw [Array.getElem?_toList]; exact hj)
    simp only [List.length_nil, Nat.zero_add] at h1 h2 h3
    unfold Bef
    rw [h3, befRow_bit]
    constructor
    · rintro ⟨e, he, hb, hi⟩
      exact ⟨e, he, hb, by rw [← h2 e.on (hback j o hj e he hb)]; exact hi⟩
    · rintro ⟨e, he, hb, hi⟩
      exact ⟨e, he, hb, by rw [h2 e.on (hback j o hj e he hb)]; exact hi⟩
  · have key : ∀ i j x y, i < j → ops[i]? = some x → ops[j]? = some y → Bef (befs ops.toList []) j i ∨ Apart ops x y = true := fun i j x y hlt hi hj => by
      have := List.all_eq_true.1 (H j y hj).2 (x, i) (List.mk_mem_zipIdx_iff_getElem?.2 (by
        rw [List.getElem?_take, if_pos hlt, Array.getElem?_toList]; exact hi))
      simpa [Bef] using this
    rcases Nat.lt_or_gt_of_ne ne with hlt | hlt
    · rcases key i j x y hlt hi hj with k | k
      · exact .inl k
      · exact .inr (.inr ⟨k, by rw [Apart_comm]; exact k⟩)
    · rcases key j i y x hlt hj hi with k | k
      · exact .inr (.inl k)
      · exact .inr (.inr ⟨by rw [Apart_comm]; exact k, k⟩)
theorem Apart_spec {ops : Array Oper} {x y : Oper} (h : Apart ops x y = true) {d : Tmp} (hx : x.dst = some d) : d ∉ y.looksAt ops ∧ y.dst ≠ some d := by
  unfold Apart at h
  rw [Bool.and_eq_true] at h
  obtain ⟨h1, h2, _⟩ := Oper.apart_spec h.1
  exact ⟨h1 d hx, h2 d hx⟩
end
end Go.Am
