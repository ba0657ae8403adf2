/-
  OWN WORK. 'Am', twenty-eighth text: loops.
-/
import Derived.Test.YtmfepbkpojafnaaGreatDoorAmZa
namespace Go.Am
noncomputable section

/-- The temporaries that are told, and others. -/
def ov (l : List (Nat × Value)) (g : Nat → Value) (t : Nat) : Value := List.rec (g t) (fun x _ ih => Bool.rec ih x.2 (Nat.beq x.1 t)) l
/-- A state of which these temporaries are told. -/
def stOf (n : Nat) (l : List (Nat × Value)) (g : Nat → Value) : AAct := { n, t := lit n (ov l g), marks := [] }
/-- What is asked at the beginning of a loop. -/
def entry (a : AAct) (n : Nat) (l : List (Nat × Value)) (rest : Prop) : Prop :=
  match Nat.beq a.n n with
  | true => match a.marks with
    | [] => List.rec rest (fun x _ ih => a.tmp x.1 = x.2 ∧ ih) l
    | _ => False
  | false => False
/-- What some temporaries hold behind some code. -/
def told (n : Nat) (ts : List Nat) (Q : Exit → List Value → AHeap → Prop) : Post := fun e a h =>
  match Nat.beq a.n n with
  | true => match a.marks with
    | [] => Q e (ts.map a.tmp) h
    | _ => False
  | false => False
def findLoop (i : Nat) : Code → Option Code
  | .seq x y => match findLoop i x with
    | some c => some c
    | none => findLoop i y
  | .cond _ y z => match findLoop i y with
    | some c => some c
    | none => findLoop i z
  | .block j b => match Nat.beq i j, b with
    | true, .loop c => some c
    | _, b => findLoop i b
  | .loop b => findLoop i b
  | _ => none
def findRegion (i : Nat) : Code → Option Code
  | .seq x y => match findRegion i x with
    | some c => some c
    | none => findRegion i y
  | .cond _ y z => match findRegion i y with
    | some c => some c
    | none => findRegion i z
  | .block _ b => findRegion i b
  | .loop b => findRegion i b
  | .region j ops draw => match Nat.beq i j with
    | true => some (.region j ops draw)
    | false => none
  | _ => none
def regionOf (P : Program) (f i : Nat) : Code := match P.funcs[f]? with
  | some fn => match fn.body with
    | some c => match findRegion i c with
      | some b => b
      | none => .skip
    | none => .skip
  | none => .skip
def loopOf (P : Program) (f i : Nat) : Code := match P.funcs[f]? with
  | some fn => match fn.body with
    | some c => match findLoop i c with
      | some b => b
      | none => .skip
    | none => .skip
  | none => .skip
end

section
variable {P : Program} {a : AAct} {h : AHeap} {k : Post}
theorem ov_nil (g : Nat → Value) (t : Nat) : ov [] g t = g t := rfl
theorem ov_cons (x : Nat × Value) (l : List (Nat × Value)) (g : Nat → Value) (t : Nat) : ov (x :: l) g t = if x.1 = t then x.2 else ov l g t := by
  show @Bool.rec (fun _ => Value) (ov l g t) x.2 (Nat.beq x.1 t) = _
  rw [Tr.beq_eq]
  by_cases e : x.1 = t <;> simp [e]
theorem ov_self : ∀ {l : List (Nat × Value)} {g : Nat → Value}, (∀ x ∈ l, g x.1 = x.2) → ∀ t, ov l g t = g t
  | [], _, _, _ => rfl
  | x :: l, g, hx, t => by
    rw [ov_cons]
    split
    · rename_i e; rw [← hx x (by simp), e]
    · exact ov_self (fun y hy => hx y (by simp [hy])) t
theorem ov_funext {l : List (Nat × Value)} {g : Nat → Value} (hx : ∀ x ∈ l, g x.1 = x.2) : ov l g = g := funext fun t => ov_self hx t
theorem entry_facts {n : Nat} {l : List (Nat × Value)} {rest : Prop} (he : entry a n l rest) : a.n = n ∧ a.marks = [] ∧ (∀ x ∈ l, a.tmp x.1 = x.2) ∧ rest := by
  unfold entry at he
  split at he
  · rename_i hn
    split at he
    · rename_i hm
      refine ⟨by simpa using hn, hm, ?_⟩
      have all : ∀ l : List (Nat × Value), @List.rec (Nat × Value) (fun _ => Prop) rest (fun x _ ih => a.tmp x.1 = x.2 ∧ ih) l → (∀ x ∈ l, a.tmp x.1 = x.2) ∧ rest := by
        intro l
        induction l with
        | nil => exact fun he => ⟨fun x hx => (by cases hx), he⟩
        | cons x l ih =>
          intro he
          obtain ⟨h3, h4⟩ := ih he.2
          exact ⟨fun y hy => by
            rcases List.mem_cons.1 hy with rfl | hy
            · exact he.1
            · exact h3 y hy, h4⟩
      exact all l he
    · exact he.elim
  · exact he.elim
theorem told_facts {n : Nat} {ts : List Nat} {Q : Exit → List Value → AHeap → Prop} {e : Exit} (ht : told n ts Q e a h) : a.n = n ∧ a.marks = [] ∧ Q e (ts.map a.tmp) h := by
  unfold told at ht
  split at ht
  · rename_i hn
    split at ht
    · rename_i hm
      exact ⟨by simpa using hn, hm, ht⟩
    · exact ht.elim
  · exact ht.elim
/-- The state behind some code, spelt out. -/
theorem J.post_lit {c : Code} (hj : J P c a h (fun e a' h' => a'.marks = [] ∧ k e { n := a'.n, t := Go.Am.lit a'.n a'.tmp, marks := [] } h')) : J P c a h k := by
  intro ρ act w S
  refine (hj ρ act w S).mono ?_
  rintro e act' w' ⟨a', h', ρ', ⟨hm, hk⟩, S', F⟩
  refine ⟨_, h', ρ', hk, S'.ext rfl hm.symm (fun t ht => ?_) fun t ht => ?_, F⟩
  · simp only [AAct.tmp, get_lit, if_pos ht, Option.getD_some]
  · simp only [AAct.tmp, get_lit, if_neg (Nat.not_lt.2 ht)]
    rfl
/-- Code begun where some temporaries are told. -/
theorem J.of_facts {c : Code} {n : Nat} {l : List (Nat × Value)} (hn : a.n = n) (hm : a.marks = []) (hl : ∀ x ∈ l, a.tmp x.1 = x.2) (hj : ∀ g, J P c (stOf n l g) h k) : J P c a h k := by
  subst hn
  exact J.lit (ov l a.tmp) (fun t _ => (ov_self hl t).symm) rfl hm (hj a.tmp)
theorem fwrap_nat {m : Nat} (hm : m < 9223372036854775808) : fwrap .i64 (Int.ofNat m) = Int.ofNat m := by
  show @Bool.rec (fun _ => Int) _ _ (Nat.blt m 9223372036854775808) = _
  rw [show Nat.blt m 9223372036854775808 = true by rw [Nat.blt_eq]; exact hm]
theorem ieq_dec (a b : Int) : ieq a b = decide (a = b) := by
  rw [ieq_eq]
  by_cases h : a = b
  · subst h; simp
  · simp [h]
theorem zip_facts : ∀ {ts : List Nat} {vs : List Value}, ts.map a.tmp = vs → ∀ x ∈ ts.zip vs, a.tmp x.1 = x.2
  | [], _, _, x, hx => by simp at hx
  | t :: ts, [], e, x, hx => by simp at hx
  | t :: ts, v :: vs, e, x, hx => by
    simp only [List.map_cons, List.cons.injEq] at e
    simp only [List.zip_cons_cons, List.mem_cons] at hx
    rcases hx with rfl | hx
    · exact e.1
    · exact zip_facts e.2 x hx
/-- A loop whose states are told by some temporaries. -/
theorem loop_rule {n : Nat} {ts : List Nat} {body : Code} (Inv : Nat → List Value → AHeap → Prop) (Out : Exit → List Value → AHeap → Prop)
    (step : ∀ m vs h g, Inv m vs h → J P body (stOf n (ts.zip vs) g) h (told n ts fun e vs' h' => match e with
      | .normal => ∃ m', m' < m ∧ Inv m' vs' h'
      | e => Out e vs' h')) :
    ∀ m vs h a, Inv m vs h → a.n = n → a.marks = [] → ts.map a.tmp = vs → J P (.loop body) a h (told n ts Out) := by
  intro m
  induction m using Nat.strongRecOn with
  | ind m ih =>
    intro vs h a hi hn hm hv
    subst hn
    refine J.loop (J.lit (ov (ts.zip vs) a.tmp) (fun t _ => (ov_self (zip_facts hv) t).symm) rfl hm ((step m vs h a.tmp hi).mono fun e a' h' q => ?_))
    obtain ⟨q1, q2, q3⟩ := told_facts q
    cases e with
    | normal =>
      obtain ⟨m', hlt, hi'⟩ := q3
      exact ih m' hlt _ h' a' hi' q1 q2 rfl
    | _ =>
      simp only [onNormal, told, q1, q2]
      simpa using q3
/-- What is asked at the beginning of a loop is enough for what comes behind it. -/
theorem J.of_told {n : Nat} {ts : List Nat} {c : Code} {Out : Exit → List Value → AHeap → Prop} (hj : J P c a h (told n ts Out)) (hk : ∀ e vs h' g, Out e vs h' → k e (stOf n (ts.zip vs) g) h') : J P c a h k := by
  refine J.post_lit (hj.mono fun e a' h' q => ?_)
  obtain ⟨q1, q2, q3⟩ := told_facts q
  refine ⟨q2, ?_⟩
  have := hk e _ h' a'.tmp q3
  unfold stOf at this
  rw [ov_funext (zip_facts rfl)] at this
  rw [q1]
  exact this
end
end Go.Am
