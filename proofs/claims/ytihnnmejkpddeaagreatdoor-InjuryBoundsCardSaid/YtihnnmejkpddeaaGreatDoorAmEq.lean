/-
  OWN WORK. 'Am': equality of structs whose parts are not known.
-/
import Derived.Test.YtihnnmejkpddeaaGreatDoorAm4
import Derived.Laws.StructEq
namespace Go.Am
noncomputable section
def sameKE : FloatKind → FloatKind → Bool
 | .f32, .f32 | .f64, .f64 => true
 | _, _ => false
def partE (P : Program) (t : TypeId) (cs : Array Value) (off : Nat) : Option Value := pureRun P (part t cs off)
def eqE (P : Program) (d : Nat) : TypeId → Value → Value → Option Bool :=
 Nat.rec (motive := fun _ => TypeId → Value → Value → Option Bool) (fun _ _ _ => none)
  (fun _ ih t x y => match pureRun P (underlying t), x, y with
   | some .bool, .bool a, .bool b => some (a == b)
   | some (.int _), .int k a, .int k' b => match Nat.beq (kN k) (kN k') with
    | true => some (ieq a b)
    | false => none
   | some .string, .string a, .string b => some (a == b)
   | some (.struct fs), .agg xs, .agg ys => match P.stoodInHeld t with
    | true => none
    | false => List.rec (motive := fun _ => Option Bool) (some true) (fun f _ r => match f.name == "_" with
     | true => none
     | false => match partE P f.type xs f.offset, partE P f.type ys f.offset with
      | some u, some v => match ih f.type u v, r with
       | some b, some c => some (b && c)
       | _, _ => none
      | _, _ => none) fs.toList
   | some (.array n e), .agg xs, .agg ys => match pureRun P (sizeOf e) with
    | none => none
    | some s => List.rec (motive := fun _ => Option Bool) (some true) (fun i _ r => match partE P e xs (i * s), partE P e ys (i * s) with
     | some u, some v => match ih e u v, r with
      | some b, some c => some (b && c)
      | _, _ => none
     | _, _ => none) (List.range n)
   | some (.float _), .float k a, .float k' b => match sameKE k k' with
    | true => some (Op.floatEq k a b)
    | false => none
   | _, _, _ => none) d
def eqFs (P : Program) (d : Nat) (xs ys : Array Value) (fs : List Field) : Option Bool :=
 List.rec (motive := fun _ => Option Bool) (some true) (fun f _ r => match f.name == "_" with
  | true => none
  | false => match partE P f.type xs f.offset, partE P f.type ys f.offset with
   | some u, some v => match eqE P d f.type u v, r with
    | some b, some c => some (b && c)
    | _, _ => none
   | _, _ => none) fs
def eqIs (P : Program) (d : Nat) (e : TypeId) (s : Nat) (xs ys : Array Value) (is : List Nat) : Option Bool :=
 List.rec (motive := fun _ => Option Bool) (some true) (fun i _ r => match partE P e xs (i * s), partE P e ys (i * s) with
  | some u, some v => match eqE P d e u v, r with
   | some b, some c => some (b && c)
   | _, _ => none
  | _, _ => none) is
def eqIt (d : Nat) (e : TypeId) (s : Nat) (xs ys : Array Value) : List Nat → Sem Bool
 | [] => pure true
 | i :: is => do
  let r ← Op.equalIn d e (← part e xs (i * s)) (← part e ys (i * s))
  if (!r) = true then pure false else eqIt d e s xs ys is
end
section
variable {P : Program}
theorem pure_equalArray (d : Nat) (t e : TypeId) (n s : Nat) (xs ys : Array Value) (hu : pureRun P (underlying t) = some (.array n e)) (hs : pureRun P (sizeOf e) = some s) :
  pureRun P (Op.equalIn (d + 1) t (.agg xs) (.agg ys)) = pureRun P (eqIt d e s xs ys (List.range n)) := by
 rw [Op.equalIn, pureRun_bind, hu, Option.bind_some]
 simp only
 rw [pureRun_bind, hs, Option.bind_some]
 simp only [Std.Legacy.Range.forIn_eq_forIn_range', Std.Legacy.Range.size, Nat.sub_zero, Nat.add_one_sub_one, Nat.div_one, List.range_eq_range']
 generalize List.range' 0 n = is
 induction is with
 | nil => simp [eqIt]
 | cons j is ih =>
  simp only [List.forIn_cons, eqIt, pureRun_bind] at ih ⊢
  cases pureRun P (part e xs (j * s)) with
  | none => rfl
  | some u =>
   simp only [Option.bind_some]
   cases pureRun P (part e ys (j * s)) with
   | none => rfl
   | some v =>
    simp only [Option.bind_some]
    cases pureRun P (Op.equalIn d e u v) with
    | none => rfl
    | some b =>
     cases b
     ·rfl
     ·simp only [Option.bind_some, Bool.not_true, Bool.false_eq_true, if_false]
      exact ih
theorem pure_forFields (d : Nat) (xs ys : Array Value) : ∀ (fs : List Field),
  pureRun P (do
   for f in fs do
    if f.name ≠ "_" then
     if !(← Op.equalIn d f.type (← part f.type xs f.offset) (← part f.type ys f.offset)) then return false
   pure true) = pureRun P (Op.eqFields d xs ys fs)
 | [] => by simp [Op.eqFields]
 | f :: fs => by
  have ih := pure_forFields d xs ys fs
  simp only [List.forIn_cons, Op.eqFields] at ih ⊢
  by_cases hn : f.name ≠ "_"
  ·simp only [if_pos hn, pureRun_bind] at ih ⊢
   cases pureRun P (part f.type xs f.offset) with
   | none => rfl
   | some u =>
    simp only [Option.bind_some]
    cases pureRun P (part f.type ys f.offset) with
    | none => rfl
    | some v =>
     simp only [Option.bind_some]
     cases pureRun P (Op.equalIn d f.type u v) with
     | none => rfl
     | some b =>
      cases b
      ·rfl
      ·simp only [Option.bind_some, Bool.not_true, Bool.false_eq_true, if_false]
       exact ih
  ·simp only [if_neg hn, pureRun_bind] at ih ⊢
   exact ih
theorem pure_program : pureRun P program = some P := rfl
theorem pure_equalStruct (d : Nat) (t : TypeId) (xs ys : Array Value) {fs : Array Field} (ht : pureRun P (underlying t) = some (.struct fs)) (hp : P.stoodInHeld t = false) :
  pureRun P (Op.equalIn (d + 1) t (.agg xs) (.agg ys)) = pureRun P (Op.eqFields d xs ys fs.toList) := by
 rw [← pure_forFields]
 rw [Op.equalIn, pureRun_bind, ht, Option.bind_some]
 simp only
 rw [pureRun_bind, pure_program, Option.bind_some, hp]
 simp only [Bool.false_eq_true, if_false]
 rw [← Array.forIn_toList]
theorem kN_inj {a b : IntKind} (h : Nat.beq (kN a) (kN b) = true) : a = b := by
 cases a <;> cases b <;> first | rfl | (exact absurd h (by decide))
theorem eqE_succ (d : Nat) (t : TypeId) (x y : Value) : eqE P (d + 1) t x y = match pureRun P (underlying t), x, y with
   | some .bool, .bool a, .bool b => some (a == b)
   | some (.int _), .int k a, .int k' b => match Nat.beq (kN k) (kN k') with
    | true => some (ieq a b)
    | false => none
   | some .string, .string a, .string b => some (a == b)
   | some (.struct fs), .agg xs, .agg ys => match P.stoodInHeld t with
    | true => none
    | false => eqFs P d xs ys fs.toList
   | some (.array n e), .agg xs, .agg ys => match pureRun P (sizeOf e) with
    | none => none
    | some s => eqIs P d e s xs ys (List.range n)
   | some (.float _), .float k a, .float k' b => match sameKE k k' with
    | true => some (Op.floatEq k a b)
    | false => none
   | _, _, _ => none := rfl
theorem eqFs_cons (d : Nat) (xs ys : Array Value) (f : Field) (l : List Field) : eqFs P d xs ys (f :: l) = match f.name == "_" with
  | true => none
  | false => match partE P f.type xs f.offset, partE P f.type ys f.offset with
   | some u, some v => match eqE P d f.type u v, eqFs P d xs ys l with
    | some b, some c => some (b && c)
    | _, _ => none
   | _, _ => none := rfl
theorem eqFs_ok {d n : Nat} (ih : ∀ (t : TypeId) (x y : Value) (b : Bool), eqE P d t x y = some b → pureRun P (Op.equalIn (d + n) t x y) = some b) (xs ys : Array Value) : ∀ (l : List Field) (b : Bool), eqFs P d xs ys l = some b → pureRun P (Op.eqFields (d + n) xs ys l) = some b
 | [], b, h => by cases h; rfl
 | f :: l, b, h => by
  rw [eqFs_cons] at h
  split at h
  ·cases h
  ·rename_i hn
   have hn : f.name ≠ "_" := by simpa using hn
   split at h
   ·rename_i u v hu hv
    split at h
    ·rename_i b1 c1 hb hc
     cases h
     have e1 := ih f.type u v b1 hb
     have e2 := eqFs_ok ih xs ys l c1 hc
     unfold partE at hu hv
     simp only [Op.eqFields, if_pos hn, pureRun_bind, hu, hv, e1, Option.bind_some]
     cases b1
     ·rfl
     ·simpa using e2
    ·cases h
   ·cases h
theorem eqIs_cons (d : Nat) (e : TypeId) (s : Nat) (xs ys : Array Value) (i : Nat) (l : List Nat) : eqIs P d e s xs ys (i :: l) = match partE P e xs (i * s), partE P e ys (i * s) with
   | some u, some v => match eqE P d e u v, eqIs P d e s xs ys l with
    | some b, some c => some (b && c)
    | _, _ => none
   | _, _ => none := rfl
theorem eqIs_ok {d n : Nat} (ih : ∀ (t : TypeId) (x y : Value) (b : Bool), eqE P d t x y = some b → pureRun P (Op.equalIn (d + n) t x y) = some b) (e : TypeId) (s : Nat) (xs ys : Array Value) : ∀ (l : List Nat) (b : Bool), eqIs P d e s xs ys l = some b → pureRun P (eqIt (d + n) e s xs ys l) = some b
 | [], b, h => by cases h; rfl
 | i :: l, b, h => by
  rw [eqIs_cons] at h
  split at h
  ·rename_i u v hu hv
   split at h
   ·rename_i b1 c1 hb hc
    cases h
    have e1 := ih e u v b1 hb
    have e2 := eqIs_ok ih e s xs ys l c1 hc
    unfold partE at hu hv
    simp only [eqIt, pureRun_bind, hu, hv, e1, Option.bind_some]
    cases b1
    ·rfl
    ·simpa using e2
   ·cases h
  ·cases h
theorem sameKE_eq {a b : FloatKind} (h : sameKE a b = true) : a = b := by cases a <;> cases b <;> first | rfl | cases h
theorem eqE_ok : ∀ (d n : Nat) (t : TypeId) (x y : Value) (b : Bool), eqE P d t x y = some b → pureRun P (Op.equalIn (d + n) t x y) = some b
 | 0, _, _, _, _, _, h => by cases h
 | d + 1, n, t, x, y, b, h => by
  rw [eqE_succ] at h
  rw [show d + 1 + n = (d + n) + 1 by omega]
  split at h
  ·rename_i hu
   cases h
   simp only [Op.equalIn, pureRun_bind, hu, Option.bind_some]
   rfl
  ·rename_i hu
   split at h
   ·rename_i hk
    obtain rfl := kN_inj hk
    cases h
    simp only [Op.equalIn, pureRun_bind, hu, Option.bind_some, if_true, ieq_eq]
    rfl
   ·cases h
  ·rename_i hu
   cases h
   simp only [Op.equalIn, pureRun_bind, hu, Option.bind_some]
   rfl
  ·rename_i fs xs ys hu
   split at h
   ·cases h
   ·rename_i hs
    rw [pure_equalStruct _ _ _ _ hu hs]
    exact eqFs_ok (fun t x y b => eqE_ok d n t x y b) xs ys _ b h
  ·rename_i m e xs ys hu
   split at h
   ·cases h
   ·rename_i s hs
    rw [pure_equalArray _ _ _ _ _ _ _ hu hs]
    exact eqIs_ok (fun t x y b => eqE_ok d n t x y b) e s xs ys _ b h
  ·rename_i hu
   split at h
   ·rename_i hk
    obtain rfl := sameKE_eq hk
    cases h
    simp only [Op.equalIn, pureRun_bind, hu, Option.bind_some, if_true]
    rfl
   ·cases h
  ·cases h
end
end Go.Am
