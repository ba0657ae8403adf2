/-
  OWN WORK. 'Am', a deterministic abstract machine for the model: tries, abstract heaps, what each operation does; what a value stands for; reading, writing.
-/
import Derived.RangeFuncLeaves
import Derived.RangeFuncCalls
import Derived.OrdersIn
import Derived.Laws.Sem
import Derived.Laws.Cells
import Derived.Laws.World
import Derived.Laws.IdiomStrings
namespace Go.Am
noncomputable section
inductive Tr (α : Type) where
 | nil
 | node (v : Option α) (l r : Tr α)
namespace Tr
variable {α : Type}
def get (t : Tr α) : Nat → Option α :=
 Tr.rec (motive := fun _ => Nat → Option α) (fun _ => none)
  (fun v _ _ gl gr i => Bool.rec (Bool.rec (gr (i / 2 - 1)) (gl (i / 2)) (Nat.beq (i % 2) 1)) v (Nat.beq i 0)) t
def fresh (v : α) (n : Nat) : Nat → Tr α :=
 Nat.rec (motive := fun _ => Nat → Tr α) (fun _ => .nil)
  (fun _ ih i => Bool.rec (Bool.rec (.node none .nil (ih (i / 2 - 1))) (.node none (ih (i / 2)) .nil) (Nat.beq (i % 2) 1)) (.node (some v) .nil .nil) (Nat.beq i 0)) n
def set (t : Tr α) (i : Nat) (v : α) : Tr α :=
 Tr.rec (motive := fun _ => Nat → Tr α) (fun i => fresh v (i + 1) i)
  (fun u l r sl sr i => Bool.rec (Bool.rec (.node u l (sr (i / 2 - 1))) (.node u (sl (i / 2)) r) (Nat.beq (i % 2) 1)) (.node (some v) l r) (Nat.beq i 0)) t i
theorem beq_eq (i j : Nat) : Nat.beq i j = decide (i = j) := by
 cases h : Nat.beq i j
 ·have : i ≠ j := fun e => by subst e; simp at h
  simp [this]
 ·have : i = j := Nat.eq_of_beq_eq_true h
  simp [this]
theorem get_nil (i : Nat) : (Tr.nil : Tr α).get i = none := rfl
theorem get_node (v : Option α) (l r : Tr α) (i : Nat) : (Tr.node v l r).get i = if i = 0 then v else if i % 2 = 1 then l.get (i / 2) else r.get (i / 2 - 1) := by
 show @Bool.rec (fun _ => Option α) (@Bool.rec (fun _ => Option α) (r.get (i / 2 - 1)) (l.get (i / 2)) (Nat.beq (i % 2) 1)) v (Nat.beq i 0) = _
 simp only [beq_eq]
 by_cases h0 : i = 0
 ·simp [h0]
 ·by_cases h1 : i % 2 = 1 <;> simp [h0, h1]
theorem fresh_succ (v : α) (n i : Nat) : fresh v (n + 1) i = if i = 0 then .node (some v) .nil .nil else if i % 2 = 1 then .node none (fresh v n (i / 2)) .nil else .node none .nil (fresh v n (i / 2 - 1)) := by
 show @Bool.rec (fun _ => Tr α) (@Bool.rec (fun _ => Tr α) (.node none .nil (fresh v n (i / 2 - 1))) (.node none (fresh v n (i / 2)) .nil) (Nat.beq (i % 2) 1)) (.node (some v) .nil .nil) (Nat.beq i 0) = _
 simp only [beq_eq]
 by_cases h0 : i = 0
 ·simp [h0]
 ·by_cases h1 : i % 2 = 1 <;> simp [h0, h1]
theorem set_nil (i : Nat) (v : α) : (Tr.nil : Tr α).set i v = fresh v (i + 1) i := rfl
theorem set_node (u : Option α) (l r : Tr α) (i : Nat) (v : α) : (Tr.node u l r).set i v = if i = 0 then .node (some v) l r else if i % 2 = 1 then .node u (l.set (i / 2) v) r else .node u l (r.set (i / 2 - 1) v) := by
 show @Bool.rec (fun _ => Tr α) (@Bool.rec (fun _ => Tr α) (.node u l (r.set (i / 2 - 1) v)) (.node u (l.set (i / 2) v) r) (Nat.beq (i % 2) 1)) (.node (some v) l r) (Nat.beq i 0) = _
 simp only [beq_eq]
 by_cases h0 : i = 0
 ·simp [h0]
 ·by_cases h1 : i % 2 = 1 <;> simp [h0, h1]
theorem get_fresh (v : α) : ∀ (n i : Nat), i < n → ∀ j, (fresh v n i).get j = if j = i then some v else none := by
 intro n
 induction n with
 | zero => intro i h; omega
 | succ n ih =>
  intro i h j
  rw [fresh_succ]
  by_cases h0 : i = 0
  ·subst h0
   rw [if_pos rfl, get_node]
   by_cases hj : j = 0
   ·simp [hj]
   ·simp [hj, get_nil]
  ·rw [if_neg h0]
   by_cases h1 : i % 2 = 1
   ·rw [if_pos h1, get_node]
    by_cases hj : j = 0
    ·subst hj; rw [if_pos rfl, if_neg (by omega)]
    ·rw [if_neg hj]
     by_cases hj1 : j % 2 = 1
     ·rw [if_pos hj1, ih (i / 2) (by omega) (j / 2)]
      by_cases e : j = i
      ·subst e; simp
      ·rw [if_neg e, if_neg (by omega)]
     ·rw [if_neg hj1, get_nil, if_neg (by intro e; subst e; exact hj1 h1)]
   ·rw [if_neg h1, get_node]
    by_cases hj : j = 0
    ·subst hj; rw [if_pos rfl, if_neg (by omega)]
    ·rw [if_neg hj]
     by_cases hj1 : j % 2 = 1
     ·rw [if_pos hj1, get_nil, if_neg (by intro e; subst e; exact h1 hj1)]
     ·rw [if_neg hj1, ih (i / 2 - 1) (by omega) (j / 2 - 1)]
      by_cases e : j = i
      ·subst e; simp
      ·rw [if_neg e, if_neg (by omega)]
theorem get_set (t : Tr α) (i : Nat) (v : α) (j : Nat) : (t.set i v).get j = if j = i then some v else t.get j := by
 induction t generalizing i j with
 | nil => rw [set_nil, get_fresh v (i + 1) i (by omega) j, get_nil]
 | node u l r ihl ihr =>
  rw [set_node]
  by_cases h0 : i = 0
  ·subst h0
   rw [if_pos rfl, get_node, get_node]
   by_cases hj : j = 0
   ·simp [hj]
   ·simp [hj]
  ·rw [if_neg h0]
   by_cases h1 : i % 2 = 1
   ·rw [if_pos h1, get_node, get_node]
    by_cases hj : j = 0
    ·subst hj; rw [if_pos rfl, if_neg (by omega), if_pos rfl]
    ·rw [if_neg hj, if_neg hj]
     by_cases hj1 : j % 2 = 1
     ·rw [if_pos hj1, if_pos hj1, ihl (i / 2) (j / 2)]
      by_cases e : j = i
      ·subst e; simp
      ·rw [if_neg e, if_neg (by omega)]
     ·rw [if_neg hj1, if_neg hj1, if_neg (by intro e; subst e; exact hj1 h1)]
   ·rw [if_neg h1, get_node, get_node]
    by_cases hj : j = 0
    ·subst hj; rw [if_pos rfl, if_neg (by omega), if_pos rfl]
    ·rw [if_neg hj, if_neg hj]
     by_cases hj1 : j % 2 = 1
     ·rw [if_pos hj1, if_pos hj1, if_neg (by intro e; subst e; exact h1 hj1)]
     ·rw [if_neg hj1, if_neg hj1, ihr (i / 2 - 1) (j / 2 - 1)]
      by_cases e : j = i
      ·subst e; simp
      ·rw [if_neg e, if_neg (by omega)]
end Tr
structure AAct where
 n : Nat
 t : Tr Value
 marks : List Nat
inductive AObj where
 | cells (c : List Value) (elem : TypeId) (row : Nat) (ro : Bool)
 | map (es : List MapEntry) (clock : Nat)
 | iter (s : ByteArray) (pos : Nat)
 | loop (state : LoopState) (pending : Option Code) (a : AAct) (params : Array Tmp) (assign body : Code) (defers : Nat)
 | defd
 | dead
structure AHeap where
 n : Nat
 t : Tr AObj
namespace AHeap
def get (h : AHeap) (i : Nat) : Option AObj := h.t.get i
def push (h : AHeap) (o : AObj) : AHeap := { n := h.n + 1, t := h.t.set h.n o }
def set (h : AHeap) (i : Nat) (o : AObj) : AHeap := { n := h.n, t := h.t.set i o }
@[simp] theorem push_n (h : AHeap) (o : AObj) : (h.push o).n = h.n + 1 := rfl
@[simp] theorem set_n (h : AHeap) (i : Nat) (o : AObj) : (h.set i o).n = h.n := rfl
theorem get_push (h : AHeap) (o : AObj) (j : Nat) : (h.push o).get j = if j = h.n then some o else h.get j := Tr.get_set _ _ _ _
theorem get_set (h : AHeap) (i : Nat) (o : AObj) (j : Nat) : (h.set i o).get j = if j = i then some o else h.get j := Tr.get_set _ _ _ _
def rw (h : AHeap) (i : Nat) : Bool :=
 match h.get i with
 | some (.cells _ _ _ ro) => !ro
 | _ => true
end AHeap
namespace AAct
def tmp (a : AAct) (i : Nat) : Value := (a.t.get i).getD undef
def eval (a : AAct) : Operand → Value
 | .tmp t => a.tmp t
 | .const v => v
 | .global g => .pointer (some ⟨g, 0, none⟩)
 | .func f => .func (.func f) #[] #[]
def put (a : AAct) (dst : Option Tmp) (v : Value) : AAct :=
 match dst with
 | some d => { a with t := a.t.set d v }
 | none => a
theorem tmp_put (a : AAct) (d : Nat) (v : Value) (j : Nat) : (a.put (some d) v).tmp j = if j = d then v else a.tmp j := by
 simp only [put, tmp, Tr.get_set]
 split <;> simp
@[simp] theorem put_n (a : AAct) (d : Option Tmp) (v : Value) : (a.put d v).n = a.n := by cases d <;> rfl
@[simp] theorem put_marks (a : AAct) (d : Option Tmp) (v : Value) : (a.put d v).marks = a.marks := by cases d <;> rfl
end AAct
end
end Go.Am
namespace Go.Am
noncomputable section
def atomB : Value → Bool
 | .bool _ | .int _ _ | .float _ _ | .complex _ _ _ | .string _ | .nilFunc | .nilIface => true
 | .pointer none | .slice none _ _ | .map none | .chan none => true
 | .func (.func _) a b => a.isEmpty && b.isEmpty
 | _ => false
def flat : Nat → Value → Bool
 | 0, v => atomB v
 | n + 1, v =>
  match v with
  | .agg cs => cs.toList.all (flat n)
  | .tuple vs => vs.toList.all (flat n)
  | .iface _ x => flat n x
  | v => atomB v
def pureRun {α : Type} (P : Program) : Sem α → Option α
 | .pure a => some a
 | .program k => pureRun P (k P)
 | .mark _ k => pureRun P k
 | .choose q k => match q.forced with
  | true => pureRun P (k 0)
  | false => none
 | _ => none
def kN : IntKind → Nat
 | .i8 => 0 | .i16 => 1 | .i32 => 2 | .i64 => 3 | .u8 => 4 | .u16 => 5 | .u32 => 6 | .u64 => 7
def inI64 (n : Int) : Bool := Int.rec (motive := fun _ => Bool) (fun m => Nat.blt m 9223372036854775808) (fun m => Nat.blt m 9223372036854775808) n
def fwrap (k : IntKind) (n : Int) : Int :=
 match k with
 | .i64 => Bool.rec (motive := fun _ => Int) (IntKind.wrap .i64 n) n (inI64 n)
 | .u8 => Int.rec (motive := fun _ => Int) (fun m => Int.ofNat (m % 256)) (fun m => IntKind.wrap .u8 (Int.negSucc m)) n
 | k => k.wrap n
def ilt (a b : Int) : Bool :=
 match a, b with
 | .ofNat m, .ofNat n => Nat.blt m n
 | .ofNat _, .negSucc _ => false
 | .negSucc _, .ofNat _ => true
 | .negSucc m, .negSucc n => Nat.blt n m
def ieq (a b : Int) : Bool :=
 match a, b with
 | .ofNat m, .ofNat n => Nat.beq m n
 | .negSucc m, .negSucc n => Nat.beq m n
 | _, _ => false
def fbin (op : BinOp) (k k' : IntKind) (a b : Int) : Option Value :=
 match Nat.beq (kN k) (kN k') with
 | true =>
  match op with
  | .add => some (.int k (fwrap k (a + b)))
  | .sub => some (.int k (fwrap k (a - b)))
  | .mul => some (.int k (fwrap k (a * b)))
  | .lss => some (.bool (ilt a b))
  | .leq => some (.bool (!ilt b a))
  | .gtr => some (.bool (ilt b a))
  | .geq => some (.bool (!ilt a b))
  | .eql => some (.bool (ieq a b))
  | .neq => some (.bool (!ieq a b))
  | _ => none
 | false => none
inductive ANext where
 | val (v : Value) (h : AHeap)
 | enter (f : FuncId) (args : Array Value)
 | round (l : Nat) (args : Array Value)
def splice (c : List Value) (o : Nat) (xs : List Value) : List Value := c.take o ++ (xs ++ c.drop (o + xs.length))
section
variable (P : Program)
def aload (h : AHeap) (t : TypeId) (v : Value) : Option Value :=
 match v with
 | .pointer (some ⟨i, o, none⟩) =>
  match h.get i with
  | some (.cells c _ _ _) =>
   match pureRun P (isAgg t) with
   | some true =>
    match pureRun P (sizeOf t) with
    | some s => match Nat.ble (o + s) c.length with
     | true => some (.agg ((c.drop o).take s).toArray)
     | false => none
    | none => none
   | some false => c[o]?
   | none => none
  | _ => none
 | _ => none
def wcells (h : AHeap) (i o : Nat) (xs : List Value) : Option AHeap :=
 match h.get i with
 | some (.cells c e row ro) =>
  match !ro && Nat.ble (o + xs.length) c.length && xs.all Value.oneCell' with
  | true => some (h.set i (.cells (splice c o xs) e row ro))
  | false => none
 | _ => none
def astore (h : AHeap) (t : TypeId) (v x : Value) : Option AHeap :=
 match v with
 | .pointer (some ⟨i, o, none⟩) =>
  match pureRun P (sizeOf t) with
  | some s => match Nat.beq x.cells.size s with
   | true => wcells h i o x.cells.toList
   | false => none
  | none => none
 | _ => none
def rcells (h : AHeap) (a : Option Addr) (k : Nat) : Option (List Value) :=
 match k with
 | 0 => some []
 | k + 1 => match a with
  | some ⟨i, o, none⟩ =>
   match h.get i with
   | some (.cells c _ _ _) => match Nat.ble (o + (k + 1)) c.length with
    | true => some ((c.drop o).take (k + 1))
    | false => none
   | _ => none
  | _ => none
def newCells (h : AHeap) (c : List Value) (e : TypeId) (row : Nat) : AHeap := h.push (.cells c e row false)
def aalloc (h : AHeap) (elem : TypeId) : Option ANext :=
 match pureRun P (zeroValue elem) with
 | some z => match flat 3 z with
  | true => some (.val (.pointer (some ⟨h.n, 0, none⟩)) (newCells h z.cells.toList elem 0))
  | false => none
 | none => none
def abox (h : AHeap) (elem : TypeId) (x : Value) : Option ANext :=
 some (.val (.pointer (some ⟨h.n, 0, none⟩)) (newCells h x.cells.toList elem 0))
def abuild (t : TypeId) (parts : Array (Nat × Value)) : Option Value :=
 match pureRun P (zeroValue t) with
 | some z => match flat 3 z with
  | true => pureRun P (Instr.build t parts)
  | false => none
 | none => none
def abuildSlice (h : AHeap) (t : TypeId) (len : Nat) (parts : Array (Nat × Value)) : Option ANext :=
 match pureRun P (underlying t) with
 | some (.slice elem) =>
  match pureRun P (sizeOf elem) with
  | some size =>
   match Nat.ble (len * size) 65536 with
   | true =>
    match pureRun P (if len * size = 0 then pure #[] else do pure (← zeroValue elem).cells) with
    | some zero =>
     match zero.toList.all (flat 2) with
     | true =>
      match Instr.fill (fun i => some (i * size, size)) ((Array.range (len * size)).map (zero[· % zero.size]!)) parts.toList with
      | some cells => some (.val (.slice (some ⟨h.n, 0, none⟩) len len) (newCells h cells.toList elem (size + 1)))
      | none => none
     | false => none
    | none => none
   | false => none
  | none => none
 | _ => none
def afield (t : TypeId) (v : Value) (f : Nat) : Option Value :=
 match v with
 | .pointer (some ⟨i, o, none⟩) =>
  match pureRun P (underlying t) with
  | some (.struct fields) =>
   match fields[f]? with
   | some fd => match pureRun P (sizeOf fd.type) with
    | some (_ + 1) => some (.pointer (some ⟨i, o + fd.offset, none⟩))
    | _ => none
   | none => none
  | _ => none
 | _ => none
def ahasIndex (k : Int) (len : Nat) : Bool :=
 match k with
 | .ofNat m => Nat.blt m len
 | .negSucc _ => false
def aindex (t : TypeId) (x ix : Value) : Option Value :=
 match ix with
 | .int _ k =>
  match pureRun P (underlying t), x with
  | some (.array len elem), .pointer (some ⟨i, o, none⟩) =>
   match ahasIndex k len, pureRun P (sizeOf elem) with
   | true, some s => some (.pointer (some ⟨i, o + k.toNat * s, none⟩))
   | _, _ => none
  | some (.slice elem), .slice (some ⟨i, o, none⟩) len _ =>
   match ahasIndex k len, pureRun P (sizeOf elem) with
   | true, some s => some (.pointer (some ⟨i, o + k.toNat * s, none⟩))
   | _, _ => none
  | _, _ => none
 | _ => none
def nowhere (h : AHeap) : ANext := .val (.slice (some ⟨h.n, 0, none⟩) 0 0) (h.push .dead)
def rowFits (h : AHeap) (i s : Nat) : Bool :=
 match h.get i with
 | some (.cells _ _ row _) => Nat.beq row 0 || Nat.beq row (s + 1)
 | some .dead => true
 | _ => false
def aslice (h : AHeap) (t : TypeId) (x : Value) (lo hi mx : Option Value) : Option ANext :=
 match mx with
 | some z =>
  match pureRun P (underlying t), x with
  | some (.slice elem), .slice (some ⟨i, o, none⟩) n k =>
   match pureRun P (Instr.sliceBounds true n k lo hi (some z)), pureRun P (sizeOf elem) with
   | some (l, u, m), some s => match Nat.blt l m with
    | true => some (.val (.slice (some ⟨i, o + l * s, none⟩) (u - l) (m - l)) h)
    | false => none
   | _, _ => none
  | _, _ => none
 | none =>
  match pureRun P (underlying t), x with
  | some (.array n elem), .pointer (some ⟨i, o, none⟩) =>
   match pureRun P (Instr.sliceBounds false n n lo hi none), pureRun P (sizeOf elem) with
   | some (l, u, m), some s => match Nat.blt l m with
    | true => some (.val (.slice (some ⟨i, o + l * s, none⟩) (u - l) (m - l)) h)
    | false => match Nat.beq l m with
     | true => some (nowhere h)
     | false => none
   | _, _ => none
  | some (.slice elem), .slice a n k =>
   match pureRun P (Instr.sliceBounds true n k lo hi none), pureRun P (sizeOf elem) with
   | some (l, u, m), some s =>
    match a with
    | none => match Nat.beq l 0 && Nat.beq u 0 && Nat.beq k 0 && Nat.beq n 0 with
     | true => some (.val (.slice none 0 0) h)
     | false => none
    | some ⟨i, o, none⟩ => match Nat.blt l m && (Nat.beq l 0 || rowFits h i s) with
     | true => some (.val (.slice (some ⟨i, o + l * s, none⟩) (u - l) (m - l)) h)
     | false => match Nat.beq l m with
      | true => some (nowhere h)
      | false => none
    | _ => none
   | _, _ => none
  | _, _ => none
def aarrayAt (h : AHeap) (arr : TypeId) (x : Value) : Option ANext :=
 match pureRun P (underlying arr), x with
 | some (.array n _), .slice (some a) len _ => match Nat.ble n len with
  | true => some (.val (.pointer (some a)) h)
  | false => none
 | _, _ => none
def aextract (t : Value) (i : Nat) : Option Value :=
 match t with
 | .tuple vs => vs[i]?
 | _ => none
def bytesOf (s : ByteArray) : List Value := s.data.toList.map fun b => .int .u8 b.toNat
def stringOf : List Value → Option (List UInt8)
 | [] => some []
 | .int .u8 n :: r => (stringOf r).map (UInt8.ofNat n.toNat :: ·)
 | _ :: _ => none
def aconvert (h : AHeap) (src dst : TypeId) (x : Value) : Option ANext :=
 match pureRun P (underlying src), pureRun P (underlying dst), x with
 | some _, some (.int k), .int _ n => some (.val (.int k (fwrap k n)) h)
 | some .string, some (.slice e), .string s =>
  match pureRun P (underlying e), pureRun P (sizeOf e) with
  | some (.int .u8), some 1 => some (.val (.slice (some ⟨h.n, 0, none⟩) s.size s.size) (newCells h (bytesOf s) e 2))
  | _, _ => none
 | some (.slice _), some (.slice e), .slice (some ⟨i, o, none⟩) n k =>
  match src == dst, pureRun P (underlying e), h.get i with
  | true, some (.int .u8), some (.cells _ _ _ false) => some (.val (.slice (some ⟨i, o, none⟩) n k) h)
  | _, _, _ => none
 | some (.slice e), some .string, .slice (some a) n _ =>
  match pureRun P (underlying e) with
  | some (.int .u8) => match rcells h (some a) n with
   | some cs => (stringOf cs).map fun b => .val (.string ⟨b.toArray⟩) h
   | none => none
  | _ => none
 | _, _, x => match flat 3 x with
  | true => (pureRun P (convert src dst x)).bind fun v => match flat 3 v with
   | true => some (.val v h)
   | false => none
  | false => none
def anil (op : BinOp) (xType : TypeId) (x y : Value) : Option Value :=
 match (match op with | .eql => some false | .neq => some true | _ => none) with
 | some r =>
  match pureRun P (underlying xType), x, y with
  | some (.slice _), .slice (some _) _ _, .slice none _ _ => some (.bool r)
  | some (.slice _), .slice none _ _, .slice (some _) _ _ => some (.bool r)
  | some (.pointer _), .pointer (some _), .pointer none => some (.bool r)
  | some (.pointer _), .pointer none, .pointer (some _) => some (.bool r)
  | some (.func _ _ _), .func _ _ _, .nilFunc => some (.bool r)
  | some (.func _ _ _), .nilFunc, .func _ _ _ => some (.bool r)
  | _, _, _ => none
 | none => none
def amakeMap (h : AHeap) (t : TypeId) (r : Option Value) : Option ANext :=
 match r with
 | none => some (.val (.map (some h.n)) (h.push (.map [] 0)))
 | some (.int _ _) => match pureRun P (underlying t) with
  | some (.map _ _) => some (.val (.map (some h.n)) (h.push (.map [] 0)))
  | _ => none
 | _ => none
def amapOf (h : AHeap) (x : Value) : Option (List MapEntry) :=
 match x with
 | .map none => some []
 | .map (some r) => match h.get r with
  | some (.map es _) => some es
  | _ => none
 | _ => none
def alookup (h : AHeap) (xType : TypeId) (x ix : Value) (commaOk : Bool) : Option Value :=
 match pureRun P (underlying xType) with
 | some (.map key elem) =>
  match amapOf h x, flat 2 ix with
  | some es, true =>
   match pureRun P (Instr.checkKey es.isEmpty 10000 key ix), pureRun P (underlying key) with
   | some _, some kind =>
    match Instr.findNow kind ix es 0 with
    | some (some (_, v)) => some (if commaOk then .tuple #[v, .bool true] else v)
    | some none => match pureRun P (zeroValue elem) with
     | some z => match flat 3 z with
      | true => some (if commaOk then .tuple #[z, .bool false] else z)
      | false => none
     | none => none
    | none => none
   | _, _ => none
  | _, _ => none
 | _ => none
def amapUpdate (h : AHeap) (t : TypeId) (m k v : Value) : Option AHeap :=
 match pureRun P (underlying t) with
 | some (.map key _) =>
  match m, flat 2 k with
  | .map (some r), true =>
   match h.get r with
   | some (.map es clock) =>
    match pureRun P (Instr.checkKey false 10000 key k), pureRun P (underlying key) with
    | some _, some kind =>
     match Instr.findNow kind k es 0 with
     | some (some (i, _)) =>
      match Instr.sameBits 10000 (((es[i]?).map (·.key)).getD k) k with
      | true => some (h.set r (.map (es.modify i fun e => { e with key := k, val := v }) clock))
      | false => none
     | some none => some (h.set r (.map (es ++ [{ key := k, val := v, born := clock }]) (clock + 1)))
     | none => none
    | _, _ => none
   | _ => none
  | _, _ => none
 | _ => none
def arange (h : AHeap) (xType : TypeId) (x : Value) : Option ANext :=
 match pureRun P (underlying xType), x with
 | some .string, .string s => some (.val (.pointer (some ⟨h.n, 0, none⟩)) (h.push (.iter s 0)))
 | _, _ => none
def anext (h : AHeap) (it : Value) (isString : Bool) : Option ANext :=
 match it, isString with
 | .pointer (some ⟨r, 0, none⟩), true =>
  match h.get r with
  | some (.iter s pos) =>
   match Nat.blt pos s.size with
   | true => some (.val (.tuple #[.bool true, goInt pos, .int .i32 (Utf8.decode s pos).1]) (h.set r (.iter s (pos + (Utf8.decode s pos).2))))
   | false => some (.val (.tuple #[.bool false]) h)
  | _ => none
 | _, _ => none
def amakeSlice (h : AHeap) (t : TypeId) (len cap : Value) : Option ANext :=
 match pureRun P (underlying t), len, cap with
 | some (.slice elem), .int .i64 (.ofNat l), .int .i64 (.ofNat c) =>
  match pureRun P (typeInfo elem), pureRun P (sizeOf elem) with
  | some info, some s =>
   match Nat.ble l c && Nat.ble c 1048576 && Nat.ble (info.bytes * c) 281474976710656 with
   | true =>
    match pureRun P (if c * s = 0 then pure #[] else do pure (← zeroValue elem).cells) with
    | some zero =>
     match zero.toList.all (flat 2) with
     | true => some (.val (.slice (some ⟨h.n, 0, none⟩) l c) (newCells h ((Array.range (c * s)).map (zero[· % zero.size]!)).toList elem (s + 1)))
     | false => none
    | none => none
   | false => none
  | _, _ => none
 | _, _, _ => none
def anews (h : AHeap) (elem : TypeId) (size : Nat) (xType : Option TypeId) (x : Value) : Option (Nat × List Value) :=
 match (match xType with | some t => (pureRun P (underlying t)).map (· matches .int _) | none => some false) with
 | some true =>
  match x with
  | .int .i64 (.ofNat l) =>
   match pureRun P (typeInfo elem) with
   | some info =>
    match Nat.ble l 1048576 && Nat.ble (info.bytes * l) 281474976710656 with
    | true =>
     match pureRun P (if l * size = 0 then pure #[] else do pure (Builtin.zeroCells (← zeroValue elem).cells l)) with
     | some zs => match zs.toList.all (flat 2) && Nat.beq zs.size (l * size) with
      | true => some (l, zs.toList)
      | false => none
     | none => none
    | false => none
   | none => none
  | _ => none
 | some false =>
  match x with
  | .slice a n _ => (rcells h a (n * size)).map (n, ·)
  | .string s => match Nat.beq size 1 with
   | true => some (s.size, bytesOf s)
   | false => none
  | _ => none
 | none => none
def aappend (h : AHeap) (argTypes : Array TypeId) (args : Array Value) : Option ANext :=
 match (argTypes[0]? : Option TypeId), (args[0]? : Option Value), (args[1]? : Option Value) with
 | some sType, some (.slice base sLen sCap), some x =>
  match pureRun P (underlying sType) with
  | some (.slice elem) =>
   match pureRun P (sizeOf elem), pureRun P (typeInfo elem) with
   | some size, some info =>
    match anews P h elem size argTypes[1]? x with
    | some (0, _) => match Nat.ble sLen sCap with
     | true => some (.val (.slice base sLen sCap) h)
     | false => none
    | some (m + 1, news) =>
     match Nat.ble (sLen + (m + 1)) sCap with
     | true =>
      match base with
      | some ⟨i, o, none⟩ => (wcells h i (o + sLen * size) news).map fun h' => .val (.slice base (sLen + (m + 1)) sCap) h'
      | _ => none
     | false =>
      match Nat.blt 0 info.bytes && Nat.ble ((2 * (sLen + (m + 1)) + 256) * info.bytes) 281474976710656, pureRun P (zeroValue elem), rcells h base (sLen * size) with
      | true, some z, some old =>
       match Nat.beq z.cells.size size with
       | false => none
       | true =>
       let fresh (h' : AHeap) : Option ANext := some (.val (.slice (some ⟨h'.n, 0, none⟩) (sLen + (m + 1)) (sLen + (m + 1))) (newCells h' (old ++ news) elem (size + 1)))
       match base with
       | none => fresh h
       | some ⟨i, _, none⟩ =>
        match h.get i with
        | some (.cells _ e row ro) =>
         match Nat.beq row 0, Nat.beq row (size + 1) && Nat.beq e elem && !ro && news.all Value.oneCell' with
         | true, _ => fresh h
         | false, true => fresh (h.set i .dead)
         | false, false => none
        | _ => none
       | _ => none
      | _, _, _ => none
    | none => none
   | _, _ => none
  | _ => none
 | _, _, _ => none
def acopy (h : AHeap) (argTypes : Array TypeId) (args : Array Value) : Option ANext :=
 match (argTypes[0]? : Option TypeId), (args[0]? : Option Value), (args[1]? : Option Value) with
 | some dType, some (.slice base dLen _), some src =>
  match pureRun P (underlying dType) with
  | some (.slice elem) =>
   match pureRun P (sizeOf elem) with
   | some size =>
    match (match src with
           | .slice a n _ => (rcells h a (Nat.min n dLen * size)).map (Nat.min n dLen, ·)
           | .string s => match Nat.beq size 1 with
            | true => some (Nat.min s.size dLen, (bytesOf s).take (Nat.min s.size dLen))
            | false => none
           | _ => none) with
    | some (n, []) => some (.val (goInt n) h)
    | some (n, cs) =>
     match base with
     | some ⟨i, o, none⟩ => (wcells h i o cs).map fun h' => .val (goInt n) h'
     | _ => none
    | none => none
   | none => none
  | _ => none
 | _, _, _ => none
def aclear (h : AHeap) (argTypes : Array TypeId) (args : Array Value) : Option ANext :=
 match (argTypes[0]? : Option TypeId), (args[0]? : Option Value) with
 | some t, some x =>
  match pureRun P (underlying t), x with
  | some (.slice _), .slice _ 0 _ => some (.val (.tuple #[]) h)
  | some (.slice elem), .slice (some ⟨i, o, none⟩) (n + 1) _ =>
   match pureRun P (zeroValue elem) with
   | some z => match (Builtin.zeroCells z.cells (n + 1)).toList.all (flat 2) with
    | true => (wcells h i o (Builtin.zeroCells z.cells (n + 1)).toList).map fun h' => .val (.tuple #[]) h'
    | false => none
   | none => none
  | _, _ => none
 | _, _ => none
def alen (h : AHeap) (argTypes : Array TypeId) (args : Array Value) : Option Value :=
 match (argTypes[0]? : Option TypeId), (args[0]? : Option Value) with
 | some t, some (.slice (some _) n _) => match pureRun P (underlying t) with
  | some (.slice _) => some (goInt n)
  | _ => none
 | some t, some (.map (some r)) => match pureRun P (underlying t), h.get r with
  | some (.map _ _), some (.map es _) => some (goInt es.length)
  | _, _ => none
 | some t, some (.pointer (some _)) => match pureRun P (underlying t) with
  | some (.pointer arr) => match pureRun P (underlying arr) with
   | some (.array n _) => some (goInt n)
   | _ => none
  | _ => none
 | some t, some (.agg _) => match pureRun P (underlying t) with
  | some (.array n _) => some (goInt n)
  | _ => none
 | _, _ => none
def acallFunc (h : AHeap) (f : FuncId) (args : Array Value) : Option ANext :=
 match P.funcs[f]? with
 | some fn =>
  match fn.name == "runtime.NumGoroutine" with
  | true => none
  | false =>
   match fn.body with
   | some _ => some (.enter f args)
   | none =>
    match args.toList.all (flat 3) with
    | true =>
     match pureRun P (callFunc f args) with
     | some (.value v) => match flat 3 v with
      | true => some (.val v h)
      | false => none
     | _ => none
    | false => none
 | none => none
def aflat (o : Oper) (ev : Operand → Value) (h : AHeap) : Option ANext :=
 match o.op.operands.toList.all fun x => flat 3 (ev x) with
 | true =>
  match pureRun P (execOp ev o) with
  | some (.value v) => match flat 3 v with
   | true => some (.val v h)
   | false => none
  | _ => none
 | false => none
def acall (o : Oper) (c : Call) (ev : Operand → Value) (h : AHeap) : Option ANext :=
 match c.callee with
 | .value f =>
  match ev f with
  | .func (.func g) first captured => acallFunc P h g (first ++ c.args.map ev ++ captured)
  | .func (.yield l) first _ => some (.round l (first ++ c.args.map ev))
  | _ => none
 | .builtin b =>
  match b with
  | .append => aappend P h c.argTypes (c.args.map ev)
  | .copy => acopy P h c.argTypes (c.args.map ev)
  | .clear => aclear P h c.argTypes (c.args.map ev)
  | .len => match alen P h c.argTypes (c.args.map ev) with
   | some v => some (.val v h)
   | none => aflat P o ev h
  | _ => aflat P o ev h
 | _ => none
def valOf (v : Option Value) (h : AHeap) : Option ANext := v.map (.val · h)
def skipOf (h : Option AHeap) : Option ANext := h.map (.val undef ·)
def constsFlat (o : Oper) : Bool := o.op.operands.toList.all fun
 | .const v => flat 3 v
 | .global g => Nat.blt g P.globals.size
 | _ => true
def aop (o : Oper) (ev : Operand → Value) (h : AHeap) : Option ANext :=
 match o.op with
 | .move x | .assign x => some (.val (ev x) h)
 | .pick c a b => match ev c with
  | .bool t => some (.val (if t then ev a else ev b) h)
  | _ => none
 | .alloc elem => aalloc P h elem
 | .box elem x => abox h elem (ev x)
 | .build t parts => valOf (abuild P t (parts.map fun (i, x) => (i, ev x))) h
 | .buildSlice t len parts => abuildSlice P h t len (parts.map fun (i, x) => (i, ev x))
 | .load t a => valOf (aload P h t (ev a)) h
 | .store t a x => skipOf (astore P h t (ev a) (ev x))
 | .nilCheck x => match ev x with
  | .pointer (some a) => some (.val (.pointer (some a)) h)
  | .func (.func f) first captured => some (.val (.func (.func f) first captured) h)
  | .func (.yield f) first captured => some (.val (.func (.yield f) first captured) h)
  | _ => none
 | .binOp op t x y _ => match ev x, ev y with
  | .int k a, .int k' b => match fbin op k k' a b with
   | some v => some (.val v h)
   | none => aflat P o ev h
  | vx, vy => match anil P op t vx vy with
   | some v => some (.val v h)
   | none => aflat P o ev h
 | .sliceToArrayPointer arr x => aarrayAt P h arr (ev x)
 | .convert src dst x => aconvert P h src dst (ev x)
 | .makeFunc fn first captured => match fn with
  | .func f => some (.val (.func (.func f) (first.map ev) (captured.map ev)) h)
  | _ => none
 | .makeMap t r => amakeMap P h t (r.map ev)
 | .makeSlice t l c => amakeSlice P h t (ev l) (ev c)
 | .slice t x lo hi mx => match pureRun P (underlying t) with
  | some .string => aflat P o ev h
  | _ => aslice P h t (ev x) (lo.map ev) (hi.map ev) (mx.map ev)
 | .fieldAddr s x f => valOf (afield P s (ev x) f) h
 | .field t x f => valOf (pureRun P (Instr.field t (ev x) f)) h
 | .indexAddr t x ix => valOf (aindex P t (ev x) (ev ix)) h
 | .lookup t x ix ok => valOf (alookup P h t (ev x) (ev ix) ok) h
 | .mapUpdate t m k x => skipOf (amapUpdate P h t (ev m) (ev k) (ev x))
 | .insert t m k x => skipOf (amapUpdate P h t (ev m) (ev k) (ev x))
 | .range t x => arange P h t (ev x)
 | .next it isString => anext h (ev it) isString
 | .extract t i => valOf (aextract (ev t) i) h
 | .call c => acall P o c ev h
 | .unOp .. => aflat P o ev h
 | .index t x ix => match ev x with
  | .agg _ => valOf (pureRun P (Instr.index t (ev x) (ev ix))) h
  | _ => aflat P o ev h
 | _ => none
end
end
end Go.Am
namespace Go.Am
noncomputable section
abbrev Res := Exit × AAct × AHeap
structure Ex where
 run : Option Nat → Code → AAct → AHeap → Option Res
 orc : FuncId → Array Value → AHeap → Option (Value × AHeap)
instance : CoeFun Ex (fun _ => Option Nat → Code → AAct → AHeap → Option Res) := ⟨Ex.run⟩
def enterAct (n : Nat) (args : List Value) : AAct :=
 { n := n, t := (args.foldl (fun (s : Nat × Tr Value) v => (s.1 + 1, s.2.set s.1 v)) (0, Tr.nil)).2, marks := [] }
def amapM {α β : Type} (f : α → Option β) : List α → Option (List β)
 | [] => some []
 | x :: r => match f x with
  | some y => (amapM f r).map (y :: ·)
  | none => none
def aresult (P : Program) (fn : Func) (a : AAct) (h : AHeap) : Option Value :=
 match amapM (fun
   | ResultVar.tmp t => some (a.tmp t)
   | ResultVar.cell x t => aload P h t (a.tmp x)) fn.results.toList with
 | some [v] => some v
 | some vs => some (.tuple vs.toArray)
 | none => none
def shutMarks (h : AHeap) : List Nat → Option AHeap
 | [] => some h
 | r :: rest => match h.get r with
  | some .defd => shutMarks (h.set r .dead) rest
  | _ => none
def acallRun (P : Program) (ex : Ex) (f : FuncId) (args : Array Value) (h : AHeap) : Option (Value × AHeap) :=
 match P.funcs[f]? with
 | some fn =>
  match fn.body, Nat.ble args.size fn.ntmps with
  | some c, true =>
   match ex none c (enterAct fn.ntmps args.toList) h with
   | some (.normal, a, h') | some (.ret, a, h') =>
    match shutMarks h' a.marks with
    | some h'' => (aresult P fn a h'').map fun v => (v, h'')
    | none => none
   | _ => none
  | _, _ => none
 | none => none
def acallBy (P : Program) (ex : Ex) (f : FuncId) (args : Array Value) (h : AHeap) : Option (Value × AHeap) :=
 match ex.orc f args h with
 | some r => some r
 | none => acallRun P ex f args h
def setTmps (t : Tr Value) : List Tmp → List Value → Tr Value
 | i :: is, v :: vs => setTmps (t.set i v) is vs
 | _, _ => t
def aroundBy (ex : Ex) (l : Nat) (args : Array Value) (h : AHeap) : Option (Value × AHeap) :=
 match h.get l with
 | some (.loop _ _ a ps assign body _) =>
  match Nat.beq args.size ps.size && ps.toList.all (Nat.blt · a.n) with
  | true =>
   match ex (some l) assign { n := a.n, t := setTmps a.t ps.toList args.toList, marks := [] } h with
   | some (.normal, a₁, h₁) =>
    match h₁.get l with
    | some (.loop .ready pend a' ps' assign' body' d') =>
     match ex (some l) body a₁ (h₁.set l (.loop .busy pend a' ps' assign' body' d')) with
     | some (e, _, h₂) =>
      match h₂.get l with
      | some (.loop _ _ a'' ps'' assign'' body'' d'') =>
       match (match e with
              | .normal => some none
              | .ret => some (some Code.ret)
              | .exit id => some (some (Code.exit id))
              | _ => none) with
       | some jump =>
        some (.bool jump.isNone, h₂.set l (.loop (if jump.isNone then .ready else .done) jump a'' ps'' assign'' body'' d''))
       | none => none
      | _ => none
     | none => none
    | _ => none
   | _ => none
  | false => none
 | _ => none
def doneBy (P : Program) (ex : Ex) (x : ANext) (h : AHeap) : Option (Value × AHeap) :=
 match x with
 | .val v h' => some (v, h')
 | .enter f args => acallBy P ex f args h
 | .round l args => aroundBy ex l args h
def ayielded (ops : Array Oper) (a : AAct) (j : Nat) : Option Bool :=
 match ((ops[j]?).bind (·.dst)) with
 | some t => match Nat.blt t a.n, a.tmp t with
  | true, .bool b => some b
  | _, _ => none
 | none => none
def dstOk (o : Oper) (a : AAct) : Bool :=
 match o.dst with
 | some d => Nat.blt d a.n
 | none => true
def opBy (P : Program) (ex : Ex) (ops : Array Oper) (o : Oper) (a : AAct) (h : AHeap) : Option (Value × AHeap) :=
 match dstOk o a with
 | true =>
  match Region.wanted o (ayielded ops a) with
  | true => match aop P o a.eval h with
   | some x => doneBy P ex x h
   | none => none
  | false => some (undef, h)
 | false => none
def runOps (P : Program) (ex : Ex) (ops : Array Oper) (l : List Oper) : AAct → AHeap → Option (AAct × AHeap) :=
 List.rec (motive := fun _ => AAct → AHeap → Option (AAct × AHeap)) (fun a h => some (a, h))
  (fun o _ ih a h => match opBy P ex ops o a h with
   | some (v, h') => ih (a.put o.dst v) h'
   | none => none) l
theorem runOps_nil (P : Program) (ex : Ex) (ops : Array Oper) (a : AAct) (h : AHeap) : runOps P ex ops [] a h = some (a, h) := rfl
theorem runOps_cons (P : Program) (ex : Ex) (ops : Array Oper) (o : Oper) (l : List Oper) (a : AAct) (h : AHeap) :
  runOps P ex ops (o :: l) a h = match opBy P ex ops o a h with
   | some (v, h') => runOps P ex ops l (a.put o.dst v) h'
   | none => none := rfl
def eager (o : Oper) : Bool :=
 match o.op with
 | .move _ | .assign _ | .pick .. | .build .. | .load .. | .nilCheck _ | .binOp .. | .unOp .. | .convert .. | .slice .. | .fieldAddr .. | .indexAddr .. | .index .. | .field .. | .extract .. | .makeFunc .. | .lookup .. => true
 | .alloc _ | .box .. | .buildSlice .. | .makeSlice .. | .makeMap .. => true
 | .call { callee := .builtin b, .. } => match b with
  | .len | .cap | .max | .min | .real | .imag | .complex => true
  | _ => false
 | _ => false
def maker (o : Oper) (obj : AObj) : Bool :=
 match o.op with
 | .alloc _ | .box .. | .buildSlice .. | .makeSlice .. | .makeMap .. => true
 | .slice .. => match obj with
  | .dead => true
  | _ => false
 | _ => false
def befs : List Oper → List Nat → List Nat
 | [], acc => acc
 | o :: r, acc => befs r (acc ++ [(o.after.toList.filter (Region.binds .any)).foldl (fun s e => s ||| (2 ^ e.on ||| acc.getD e.on 0)) 0])
def Apart (ops : Array Oper) (x y : Oper) : Bool := x.apart ops y && y.apart ops x
def orderly (ops : Array Oper) : Bool :=
 let b := befs ops.toList []
 ops.toList.zipIdx.all fun (y, j) =>
  y.after.toList.all (fun e => !Region.binds .any e || Nat.blt e.on j) &&
  (match y.guard with
   | some (g, _) => Nat.blt g j && y.after.toList.any (fun e => Region.binds .any e && Nat.beq e.on g)
   | none => true) &&
  (match y.op with | .select .. => false | _ => true) &&
  (ops.toList.take j).zipIdx.all fun (x, i) => (b.getD j 0).testBit i || Apart ops x y
structure Pend where
 i : Nat
 o : Oper
 a : AAct
 v : Value
 new : Option (Nat × AObj)
def beqA : Value → Value → Bool
 | .bool a, .bool b => a == b
 | .int k a, .int j b => k == j && a == b
 | .float k a, .float j b => k == j && a == b
 | .complex k a c, .complex j b d => k == j && a == b && c == d
 | .string a, .string b => a.data.toList == b.data.toList
 | .nilFunc, .nilFunc | .nilIface, .nilIface => true
 | .pointer a, .pointer b => a == b
 | .slice a n k, .slice b m j => a == b && n == m && k == j
 | .map a, .map b => a == b
 | .chan a, .chan b => a == b
 | _, _ => false
def beqV : Value → Value → Bool
 | .iface t a, .iface s b => t == s && beqA a b
 | .func (.func f) ⟨[]⟩ ⟨[]⟩, .func (.func g) ⟨[]⟩ ⟨[]⟩ => f == g
 | a, b => beqA a b
def beqVs : List Value → List Value → Bool
 | [], [] => true
 | x :: r, y :: s => beqV x y && beqVs r s
 | _, _ => false
def beqD : Value → Value → Bool
 | .agg a, .agg b => beqVs a.toList b.toList
 | .tuple a, .tuple b => beqVs a.toList b.toList
 | .func (.func f) a b, .func (.func g) c d => f == g && beqVs a.toList c.toList && beqVs b.toList d.toList
 | a, b => beqV a b
def beqDs : List Value → List Value → Bool
 | [], [] => true
 | x :: r, y :: s => beqD x y && beqDs r s
 | _, _ => false
def beqO : AObj → AObj → Bool
 | .cells c e r o, .cells d f s p => beqVs c d && e == f && r == s && o == p
 | .map [] a, .map [] b => a == b
 | .dead, .dead => true
 | _, _ => false
def still (P : Program) (ops : Array Oper) (p : Pend) (h : AHeap) : Bool :=
 match Region.wanted p.o (ayielded ops p.a) with
 | false => true
 | true =>
  match p.new with
  | some (id, obj) => match h.get id with
   | some o => beqO o obj
   | none => false
  | none => match aop P p.o p.a.eval h with
   | some (.val v h') => beqD v p.v && Nat.beq h'.n h.n
   | _ => false
def pickNext (ops : Array Oper) (ready : List Nat) : Option (Option Nat) :=
 match ready.find? fun i => ((ops[i]?).map eager).getD false with
 | some i => some (some i)
 | none => match ready with
  | [] => some none
  | [i] => some (some i)
  | _ => none
def runDraw (P : Program) (ex : Ex) (ops : Array Oper) (bs : List Nat) : Nat → Array Bool → List Pend → AAct → AHeap → Option (AAct × AHeap)
 | 0, _, _, _, _ => none
 | n + 1, listed, W, a, h =>
  match pickNext ops (Region.ready .any ops listed) with
  | none => none
  | some none => some (a, h)
  | some (some i) =>
   match ops[i]? with
   | none => none
   | some o =>
    match opBy P ex ops o a h with
    | none => none
    | some (v, h') =>
     match eager o with
     | true =>
      match Nat.beq h'.n h.n with
      | true => runDraw P ex ops bs n (listed.setIfInBounds i true) ({ i, o, a, v, new := none } :: W) (a.put o.dst v) h'
      | false => match Nat.beq h'.n (h.n + 1), h'.get h.n with
       | true, some obj => match maker o obj && W.all (still P ops · h') with
        | true => runDraw P ex ops bs n (listed.setIfInBounds i true) ({ i, o, a, v, new := some (h.n, obj) } :: W) (a.put o.dst v) h'
        | false => none
       | _, _ => none
     | false =>
      let W' := W.filter fun p => !(bs.getD i 0).testBit p.i
      match W'.all (still P ops · h') with
      | true => runDraw P ex ops bs n (listed.setIfInBounds i true) W' (a.put o.dst v) h'
      | false => none
def constsOk (P : Program) (ops : Array Oper) : Bool := ops.toList.all (constsFlat P)
def runRegion (P : Program) (ex : Ex) (ops : Array Oper) (draw : Bool) (a : AAct) (h : AHeap) : Option (AAct × AHeap) :=
 match constsOk P ops, draw with
 | false, _ => none
 | true, false => runOps P ex ops ops.toList a h
 | true, true => match orderly ops with
  | true => runDraw P ex ops (befs ops.toList []) (ops.size + 1) (Array.replicate ops.size false) [] a h
  | false => none
def fval (a : AAct) : Operand → Value
 | .const _ => .nilFunc
 | x => a.eval x
def rangeIn (rd : Option Nat) (h : AHeap) : Option (Nat × List Nat × AHeap) :=
 match rd with
 | none => some (h.n, [h.n], h.push .defd)
 | some l => match h.get l with
  | some (.loop _ _ _ _ _ _ d) => some (d, [], h)
  | _ => none
def rangeBy (P : Program) (ex : Ex) (rd : Option Nat) (f : Operand) (ps : Array Tmp) (assign body : Code) (a : AAct) (h : AHeap) : Option Res :=
 match rangeIn rd h with
 | some (d, mark, h₁) =>
  match fval a f with
  | .func (.func g) first captured =>
   match P.funcs[g]? with
   | some fn =>
    match fn.name == "runtime.NumGoroutine" || fn.body.isNone with
    | true => none
    | false =>
     match acallBy P ex g (first ++ #[.func (.yield h₁.n) #[] #[]] ++ captured) (h₁.push (.loop .ready none a ps assign body d)) with
     | some (_, h₂) =>
      match h₂.get h₁.n with
      | some (.loop .busy _ _ _ _ _ _) => none
      | some (.loop _ pending a' ps' assign' body' d') =>
       let h₃ := h₂.set h₁.n (.loop .exhausted pending a' ps' assign' body' d')
       let a₃ : AAct := { n := a.n, t := a.t, marks := mark ++ a.marks }
       match pending with
       | none => some (.normal, a₃, h₃)
       | some c => ex rd c a₃ h₃
      | _ => none
     | none => none
   | none => none
  | _ => none
 | none => none
def execStep (P : Program) (ex : Ex) (rd : Option Nat) (c : Code) (a : AAct) (h : AHeap) : Option Res :=
 match c with
 | .skip => some (.normal, a, h)
 | .region _ ops draw => (runRegion P ex ops draw a h).map fun (a', h') => (.normal, a', h')
 | .seq x y => match ex rd x a h with
  | some (.normal, a', h') => ex rd y a' h'
  | r => r
 | .cond x y z => match a.eval x with
  | .bool true => ex rd y a h
  | .bool false => ex rd z a h
  | _ => none
 | .block id b => match ex rd b a h with
  | some (.exit j, a', h') => match Nat.beq j id with
   | true => some (.normal, a', h')
   | false => some (.exit j, a', h')
  | r => r
 | .loop b => match ex rd b a h with
  | some (.normal, a', h') => ex rd (.loop b) a' h'
  | r => r
 | .rangeFunc f ps assign body => rangeBy P ex rd f ps assign body a h
 | .exit id => some (.exit id, a, h)
 | .ret => some (.ret, a, h)
 | .label _ => some (.normal, a, h)
 | .scope b => match ex rd b a h with
  | some (.goto _, _, _) => none
  | r => r
 | _ => none
abbrev Orc := FuncId → Array Value → AHeap → Option (Value × AHeap)
def exec (P : Program) (orc : Orc) (n : Nat) : Ex := Nat.rec (motive := fun _ => Ex) ⟨fun _ _ _ _ => none, orc⟩ (fun _ ih => ⟨execStep P ih, orc⟩) n
theorem exec_succ (P : Program) (orc : Orc) (n : Nat) (rd : Option Nat) (c : Code) (a : AAct) (h : AHeap) : exec P orc (n + 1) rd c a h = execStep P (exec P orc n) rd c a h := rfl
def call (P : Program) (orc : Orc) (n : Nat) (f : FuncId) (args : Array Value) (h : AHeap) : Option (Value × AHeap) := acallBy P (exec P orc n) f args h
end
end Go.Am
namespace Go.Am
structure G where
 b : Nat
 sh : Nat
 tot : Nat
 row : Nat
inductive St where
 | unborn
 | live (g : G)
 | dead
abbrev Rho := Nat → St
def St.le : St → St → Prop
 | .unborn, _ => True
 | .live g, s => s = .live g ∨ s = .dead
 | .dead, s => s = .dead
theorem St.le_refl (s : St) : s.le s := by cases s <;> simp [St.le]
theorem St.le_trans {a b c : St} (h : a.le b) (k : b.le c) : a.le c := by
 cases a with
 | unborn => trivial
 | live g =>
  rcases h with rfl | rfl
  ·exact k
  ·exact Or.inr k
 | dead => obtain rfl := h; exact k
def Rho.le (ρ ρ' : Rho) : Prop := ∀ i, (ρ i).le (ρ' i)
theorem Rho.le_refl (ρ : Rho) : ρ.le ρ := fun _ => St.le_refl _
theorem Rho.le_trans {a b c : Rho} (h : Rho.le a b) (k : Rho.le b c) : Rho.le a c := fun i => St.le_trans (h i) (k i)
theorem Rho.le_live {ρ ρ' : Rho} (h : ρ.le ρ') {i : Nat} {g : G} (hi : ρ' i = .live g) (hu : ρ i ≠ .unborn) : ρ i = .live g := by
 have := h i
 cases hs : ρ i with
 | unborn => exact absurd hs hu
 | live g' =>
  rw [hs, hi] at this
  rcases this with e | e
  ·exact e.symm ▸ rfl
  ·cases e
 | dead => rw [hs, hi] at this; cases this
def ARel (R : Value → Value → Prop) (a b : Array Value) : Prop := a.size = b.size ∧ ∀ (i : Nat) x y, a[i]? = some x → b[i]? = some y → R x y
def PRel (ρ : Rho) (a c : Addr) : Prop :=
 match ρ a.block with
 | .unborn => False
 | .dead => True
 | .live g => a.spot = none ∧ c = ⟨g.b, a.off + g.sh, none⟩
def BRel (ρ : Rho) (r r' : Nat) : Prop :=
 match ρ r with
 | .unborn => False
 | .dead => True
 | .live g => r' = g.b
def FnRel (ρ : Rho) : Fn → Fn → Prop
 | .yield l, f => ∃ l', f = .yield l' ∧ BRel ρ l l'
 | f, f' => f' = f
theorem ARel.mono {R R' : Value → Value → Prop} (h : ∀ v c, R v c → R' v c) {a b : Array Value} (k : ARel R a b) : ARel R' a b :=
 ⟨k.1, fun i x y hx hy => h _ _ (k.2 i x y hx hy)⟩
theorem PRel.mono {ρ ρ' : Rho} (h : ρ.le ρ') {a c : Addr} (k : PRel ρ a c) : PRel ρ' a c := by
 unfold PRel at *
 have hb := h a.block
 cases hs : ρ a.block with
 | unborn => rw [hs] at k; exact k.elim
 | dead => rw [hs] at hb; rw [show ρ' a.block = .dead from hb]; trivial
 | live g =>
  rw [hs] at hb k
  rcases hb with e | e <;> rw [e]
  ·exact k
  ·trivial
theorem BRel.mono {ρ ρ' : Rho} (h : ρ.le ρ') {a c : Nat} (k : BRel ρ a c) : BRel ρ' a c := by
 unfold BRel at *
 have hb := h a
 cases hs : ρ a with
 | unborn => rw [hs] at k; exact k.elim
 | dead => rw [hs] at hb; rw [show ρ' a = .dead from hb]; trivial
 | live g =>
  rw [hs] at hb k
  rcases hb with e | e <;> rw [e]
  ·exact k
  ·trivial
theorem FnRel.mono {ρ ρ' : Rho} (h : ρ.le ρ') {f f' : Fn} (k : FnRel ρ f f') : FnRel ρ' f f' := by
 cases f <;> simp only [FnRel] at *
 case yield l => exact k.imp fun _ ⟨a, b⟩ => ⟨a, b.mono h⟩
 all_goals exact k
theorem PRel.born {ρ : Rho} {a c : Addr} (k : PRel ρ a c) : ρ a.block ≠ .unborn := fun e => by simp [PRel, e] at k
theorem BRel.born {ρ : Rho} {a c : Nat} (k : BRel ρ a c) : ρ a ≠ .unborn := fun e => by simp [BRel, e] at k
theorem PRel.live {ρ : Rho} {a c : Addr} {g : G} (k : PRel ρ a c) (h : ρ a.block = .live g) : a.spot = none ∧ c = ⟨g.b, a.off + g.sh, none⟩ := by
 simpa [PRel, h] using k
theorem BRel.live {ρ : Rho} {a c : Nat} {g : G} (k : BRel ρ a c) (h : ρ a = .live g) : c = g.b := by
 simpa [BRel, h] using k
def VStep (ρ : Rho) (R : Value → Value → Prop) : Value → Value → Prop
 | .pointer (some a), c => ∃ a', c = .pointer (some a') ∧ PRel ρ a a'
 | .slice (some a) n k, c => ∃ a' k', c = .slice (some a') n k' ∧ PRel ρ a a' ∧ n ≤ k ∧ k ≤ k' ∧
   ∀ g, ρ a.block = .live g → k' = k ∨ ∃ sz, g.row = sz + 1 ∧ a.off + g.sh + k' * sz ≤ g.tot
 | .map (some r), c => ∃ r', c = .map (some r') ∧ BRel ρ r r'
 | .chan (some _), _ => False
 | .func fn first cap, c => ∃ fn' first' cap', c = .func fn' first' cap' ∧ FnRel ρ fn fn' ∧ ARel R first first' ∧ ARel R cap cap'
 | .agg cs, c => ∃ cs', c = .agg cs' ∧ ARel R cs cs'
 | .tuple vs, c => ∃ vs', c = .tuple vs' ∧ ARel R vs vs'
 | .iface t v, c => ∃ v', c = .iface t v' ∧ R v v'
 | v, c => c = v
theorem VStep.mono {ρ : Rho} {R R' : Value → Value → Prop} (h : ∀ v c, R v c → R' v c) {v c : Value} (k : VStep ρ R v c) : VStep ρ R' v c := by
 cases v with
 | pointer a => cases a <;> exact k
 | slice a n c => cases a <;> exact k
 | map r => cases r <;> exact k
 | chan r => cases r <;> exact k
 | func fn first cap => obtain ⟨fn', f', c', e, h1, h2, h3⟩ := k; exact ⟨fn', f', c', e, h1, h2.mono h, h3.mono h⟩
 | agg cs => obtain ⟨cs', e, h1⟩ := k; exact ⟨cs', e, h1.mono h⟩
 | tuple cs => obtain ⟨cs', e, h1⟩ := k; exact ⟨cs', e, h1.mono h⟩
 | iface t v => obtain ⟨v', e, h1⟩ := k; exact ⟨v', e, h _ _ h1⟩
 | _ => exact k
theorem VStep.mono_rho {ρ ρ' : Rho} (h : ρ.le ρ') {R : Value → Value → Prop} {v c : Value} (k : VStep ρ R v c) : VStep ρ' R v c := by
 cases v with
 | pointer a =>
  cases a with
  | none => exact k
  | some a => obtain ⟨a', e, h1⟩ := k; exact ⟨a', e, h1.mono h⟩
 | slice a n c =>
  cases a with
  | none => exact k
  | some a =>
   obtain ⟨a', k', e, h1, h2, h3, h4⟩ := k
   exact ⟨a', k', e, h1.mono h, h2, h3, fun g hg => h4 g (Rho.le_live h hg h1.born)⟩
 | map r =>
  cases r with
  | none => exact k
  | some a => obtain ⟨a', e, h1⟩ := k; exact ⟨a', e, h1.mono h⟩
 | chan r => cases r <;> exact k
 | func fn first cap => obtain ⟨fn', f', c', e, h1, h2, h3⟩ := k; exact ⟨fn', f', c', e, h1.mono h, h2, h3⟩
 | agg cs => exact k
 | tuple cs => exact k
 | iface t v => exact k
 | _ => exact k
def VRel (ρ : Rho) (v c : Value) : Prop := ∀ R : Value → Value → Prop, (∀ v c, VStep ρ R v c → R v c) → R v c
theorem VRel.fold {ρ : Rho} {v c : Value} (h : VStep ρ (VRel ρ) v c) : VRel ρ v c :=
 fun R hR => hR _ _ (h.mono fun _ _ k => k R hR)
theorem VRel.unfold {ρ : Rho} {v c : Value} (h : VRel ρ v c) : VStep ρ (VRel ρ) v c :=
 h (VStep ρ (VRel ρ)) fun _ _ k => k.mono fun _ _ h => VRel.fold h
theorem VRel.mono {ρ ρ' : Rho} (h : ρ.le ρ') {v c : Value} (k : VRel ρ v c) : VRel ρ' v c :=
 k (VRel ρ') fun _ _ h' => VRel.fold (h'.mono_rho h)
theorem atomB_fn {fn : Fn} {a b : Array Value} (h : atomB (.func fn a b) = true) : ∃ f, fn = .func f ∧ a = #[] ∧ b = #[] := by
 cases fn with
 | func f =>
  simp only [atomB, Bool.and_eq_true, Array.isEmpty_iff] at h
  exact ⟨f, rfl, h.1, h.2⟩
 | _ => simp [atomB] at h
theorem VRel.atom {ρ : Rho} {v : Value} (h : atomB v = true) : VRel ρ v v := by
 refine VRel.fold ?_
 cases v <;> first
  | (obtain ⟨f, rfl, rfl, rfl⟩ := atomB_fn h; exact ⟨_, _, _, rfl, rfl, ⟨rfl, fun i x y hx _ => by simp at hx⟩, ⟨rfl, fun i x y hx _ => by simp at hx⟩⟩)
  | rfl
  | (rename_i a _ _; cases a <;> first | rfl | (simp [atomB] at h))
  | (rename_i a; cases a <;> first | rfl | (simp [atomB] at h))
  | (simp [atomB] at h)
theorem VRel.atom_eq {ρ : Rho} {v c : Value} (h : atomB v = true) (k : VRel ρ v c) : c = v := by
 have := k.unfold
 cases v <;> first
  | (obtain ⟨f, rfl, rfl, rfl⟩ := atomB_fn h
     obtain ⟨fn', a', b', rfl, h1, h2, h3⟩ := this
     cases fn' <;> first | (simp [FnRel] at h1; done) | skip
     obtain rfl : a' = #[] := Array.eq_empty_of_size_eq_zero (by rw [← h2.1]; rfl)
     obtain rfl : b' = #[] := Array.eq_empty_of_size_eq_zero (by rw [← h3.1]; rfl)
     simp only [FnRel] at h1
     rw [h1])
  | exact this
  | (rename_i a _ _; cases a <;> first | exact this | (simp [atomB] at h))
  | (rename_i a; cases a <;> first | exact this | (simp [atomB] at h))
  | (simp [atomB] at h)
theorem toList_of_ARel_eq {a b : Array Value} {R : Value → Value → Prop} (k : ARel R a b) (h : ∀ x ∈ a.toList, ∀ y, R x y → y = x) : b = a := by
 apply Array.ext_getElem?
 intro i
 cases ha : a[i]? with
 | none =>
  have : a.size ≤ i := by simpa using ha
  simp [← k.1, this]
 | some x =>
  have hi : i < b.size := by rw [← k.1]; exact (Array.getElem?_eq_some_iff.1 ha).1
  have hb : b[i]? = some b[i] := Array.getElem?_eq_getElem hi
  rw [hb, h x (by rw [← Array.getElem?_toList] at ha; exact List.mem_of_getElem? ha) _ (k.2 i x _ ha hb)]
theorem VRel.flat_eq {ρ : Rho} : ∀ {n : Nat} {v c : Value}, flat n v = true → VRel ρ v c → c = v := by
 intro n
 induction n with
 | zero => intro v c h k; exact k.atom_eq h
 | succ n ih =>
  intro v c h k
  cases v with
  | agg cs =>
   obtain ⟨cs', rfl, h1⟩ := k.unfold
   simp only [flat, List.all_eq_true] at h
   rw [toList_of_ARel_eq h1 fun x hx y hy => ih (h x hx) hy]
  | tuple cs =>
   obtain ⟨cs', rfl, h1⟩ := k.unfold
   simp only [flat, List.all_eq_true] at h
   rw [toList_of_ARel_eq h1 fun x hx y hy => ih (h x hx) hy]
  | iface t v =>
   obtain ⟨v', rfl, h1⟩ := k.unfold
   rw [ih (by simpa [flat] using h) h1]
  | _ => exact k.atom_eq (by simpa [flat] using h)
theorem ARel.refl_of {R : Value → Value → Prop} {a : Array Value} (h : ∀ x ∈ a.toList, R x x) : ARel R a a := by
 refine ⟨rfl, fun i x y hx hy => ?_⟩
 rw [hx] at hy
 cases hy
 exact h x (by rw [← Array.getElem?_toList] at hx; exact List.mem_of_getElem? hx)
theorem VRel.flat {ρ : Rho} : ∀ {n : Nat} {v : Value}, flat n v = true → VRel ρ v v := by
 intro n
 induction n with
 | zero => intro v h; exact .atom h
 | succ n ih =>
  intro v h
  cases v with
  | agg cs =>
   simp only [Am.flat, List.all_eq_true] at h
   exact .fold ⟨cs, rfl, ARel.refl_of fun x hx => ih (h x hx)⟩
  | tuple cs =>
   simp only [Am.flat, List.all_eq_true] at h
   exact .fold ⟨cs, rfl, ARel.refl_of fun x hx => ih (h x hx)⟩
  | iface t v => exact .fold ⟨v, rfl, ih (by simpa [Am.flat] using h)⟩
  | _ => exact .atom (by simpa [Am.flat] using h)
theorem VRel.undef {ρ : Rho} : VRel ρ undef undef := VRel.flat (n := 1) rfl
theorem VRel.bool {ρ : Rho} {b : Bool} {c : Value} (h : VRel ρ (.bool b) c) : c = .bool b := h.atom_eq rfl
theorem VRel.int {ρ : Rho} {k : IntKind} {b : Int} {c : Value} (h : VRel ρ (.int k b) c) : c = .int k b := h.atom_eq rfl
def CellsRel (ρ : Rho) (c : List Value) (c' : Array Value) (sh : Nat) : Prop := ∀ j v, c[j]? = some v → ∃ v', c'[sh + j]? = some v' ∧ VRel ρ v v'
def EntRel (ρ : Rho) (e e' : MapEntry) : Prop := e'.key = e.key ∧ flat 2 e.key = true ∧ e'.born = e.born ∧ VRel ρ e.val e'.val
structure TmpsRel (ρ : Rho) (a : AAct) (tmps : Array Value) : Prop where
 size : a.n = tmps.size
 tmp : ∀ t, VRel ρ (a.tmp t) (tmps.getD t Go.undef)
def ObjRel (ρ : Rho) (g : G) : AObj → Obj → Prop
 | .cells c e row ro, o => ∃ c' fr, o = .cells c' e fr ∧ g.sh + c.length ≤ c'.size ∧ c'.size = g.tot ∧ g.row = row ∧ CellsRel ρ c c' g.sh ∧ (ro = false → fr.1 = fr.2 ∨ g.tot ≤ fr.1)
 | .map es k, o => ∃ es', o = .map es' k ∧ es'.size = es.length ∧ ∀ (i : Nat) e e', es[i]? = some e → es'[i]? = some e' → EntRel ρ e e'
 | .iter s p, o => o = .stringIter s p ∧ g.sh = 0
 | .loop st pend a ps assign body d, o => ∃ l, o = .loop l ∧ l.state = st ∧ l.pending = pend ∧ TmpsRel ρ a l.tmps ∧ l.params = ps ∧ l.assign = assign ∧ l.body = body ∧ BRel ρ d l.defers
 | .defd, o => o = .deferred (some [])
 | .dead, _ => False
structure HRel (ρ : Rho) (h : AHeap) (w : World) : Prop where
 bound : ∀ i, h.n ≤ i → ρ i = .unborn
 inj : ∀ i j g g', ρ i = .live g → ρ j = .live g' → g.b = g'.b → h.rw i = true → i = j
 obj : ∀ i g, ρ i = .live g → ∃ o o', h.get i = some o ∧ w.heap[g.b]? = some o' ∧ ObjRel ρ g o o'
 dead : ∀ i, ρ i = .dead → ∀ o, h.get i = some o → o = .dead
theorem HRel.get_live {ρ : Rho} {h : AHeap} {w : World} (H : HRel ρ h w) {i : Nat} {o : AObj} (hg : h.get i = some o) (hd : o ≠ .dead) (hu : ρ i ≠ .unborn) : ∃ g, ρ i = .live g := by
 cases hs : ρ i with
 | unborn => exact absurd hs hu
 | live g => exact ⟨g, rfl⟩
 | dead => exact absurd (H.dead i hs o hg) hd
theorem HRel.lt {ρ : Rho} {h : AHeap} {w : World} (H : HRel ρ h w) {i : Nat} {g : G} (hi : ρ i = .live g) : g.b < w.heap.size := by
 obtain ⟨o, o', _, h2, _⟩ := H.obj i g hi
 exact (Array.getElem?_eq_some_iff.1 h2).1
theorem CellsRel.mono {ρ ρ' : Rho} (h : ρ.le ρ') {c : List Value} {c' : Array Value} {sh : Nat} (k : CellsRel ρ c c' sh) : CellsRel ρ' c c' sh :=
 fun j v hv => (k j v hv).imp fun _ ⟨a, b⟩ => ⟨a, b.mono h⟩
theorem TmpsRel.mono {ρ ρ' : Rho} (h : ρ.le ρ') {a : AAct} {t : Array Value} (k : TmpsRel ρ a t) : TmpsRel ρ' a t :=
 ⟨k.size, fun i => (k.tmp i).mono h⟩
theorem ObjRel.mono {ρ ρ' : Rho} (h : ρ.le ρ') {g : G} {o : AObj} {o' : Obj} (k : ObjRel ρ g o o') : ObjRel ρ' g o o' := by
 cases o with
 | cells c e row ro => obtain ⟨c', fr, e1, e2, e3, e4, e5, e6⟩ := k; exact ⟨c', fr, e1, e2, e3, e4, e5.mono h, e6⟩
 | map es k' => obtain ⟨es', e1, e2, e3⟩ := k; exact ⟨es', e1, e2, fun i e e' a b => let ⟨x, y, z, v⟩ := e3 i e e' a b; ⟨x, y, z, v.mono h⟩⟩
 | iter s p => exact k
 | loop st pend a ps assign body d => obtain ⟨l, e1, e2, e3, e4, e5, e6, e7, e8⟩ := k; exact ⟨l, e1, e2, e3, e4.mono h, e5, e6, e7, e8.mono h⟩
 | defd => exact k
 | dead => exact k
def Own (ρ : Rho) (h : AHeap) (b : Nat) : Prop := ∃ i g, ρ i = .live g ∧ g.b = b ∧ h.rw i = true
structure Adv (k : Nat) (ρ : Rho) (h : AHeap) (w : World) (ρ' : Rho) (h' : AHeap) (w' : World) : Prop where
 le : ρ.le ρ'
 n : h.n ≤ h'.n
 size : w.heap.size ≤ w'.heap.size
 os : w'.os = w.os
 tape : w'.tape = w.tape
 output : w'.output = w.output
 kept : ∀ b, b < w.heap.size → ¬ Own ρ h b → w'.heap[b]? = w.heap[b]?
 own : ∀ b, b < w.heap.size → Own ρ' h' b → Own ρ h b
 stay : ∀ i, i < k → ρ i = .unborn → ρ' i = .unborn
theorem Adv.refl (k : Nat) (ρ : Rho) (h : AHeap) (w : World) : Adv k ρ h w ρ h w :=
 ⟨Rho.le_refl _, Nat.le_refl _, Nat.le_refl _, rfl, rfl, rfl, fun _ _ _ => rfl, fun _ _ h => h, fun _ _ h => h⟩
theorem Adv.trans {k : Nat} {ρ ρ₁ ρ₂ : Rho} {h h₁ h₂ : AHeap} {w w₁ w₂ : World} (x : Adv k ρ h w ρ₁ h₁ w₁) (y : Adv k ρ₁ h₁ w₁ ρ₂ h₂ w₂) : Adv k ρ h w ρ₂ h₂ w₂ where
 le := Rho.le_trans x.le y.le
 n := Nat.le_trans x.n y.n
 size := Nat.le_trans x.size y.size
 os := y.os.trans x.os
 tape := y.tape.trans x.tape
 output := y.output.trans x.output
 kept b hb ho := (y.kept b (Nat.lt_of_lt_of_le hb x.size) fun o => ho (x.own b hb o)).trans (x.kept b hb ho)
 own b hb o := x.own b hb (y.own b (Nat.lt_of_lt_of_le hb x.size) o)
 stay i hi hu := y.stay i hi (x.stay i hi hu)
theorem Adv.less {k k' : Nat} {ρ ρ' : Rho} {h h' : AHeap} {w w' : World} (x : Adv k ρ h w ρ' h' w') (hk : k' ≤ k) : Adv k' ρ h w ρ' h' w' :=
 { x with stay := fun i hi hu => x.stay i (Nat.lt_of_lt_of_le hi hk) hu }
theorem Adv.drew (k : Nat) (ρ : Rho) (h : AHeap) (w : World) (n : Nat) : Adv k ρ h w ρ h { w with drawn := n } :=
 ⟨Rho.le_refl _, Nat.le_refl _, Nat.le_refl _, rfl, rfl, rfl, fun _ _ _ => rfl, fun _ _ h => h, fun _ _ h => h⟩
theorem HRel.drew {ρ : Rho} {h : AHeap} {w : World} (H : HRel ρ h w) (n : Nat) : HRel ρ h { w with drawn := n } :=
 ⟨H.bound, H.inj, H.obj, H.dead⟩
end Go.Am
namespace Go.Am
def Rho.upd (ρ : Rho) (i : Nat) (s : St) : Rho := fun j => if j = i then s else ρ j
theorem Rho.upd_same (ρ : Rho) (i : Nat) (s : St) : ρ.upd i s i = s := by simp [Rho.upd]
theorem Rho.upd_ne (ρ : Rho) {i j : Nat} (s : St) (h : j ≠ i) : ρ.upd i s j = ρ j := by simp [Rho.upd, h]
theorem Rho.le_born {ρ : Rho} {i : Nat} {s : St} (h : ρ i = .unborn) : ρ.le (ρ.upd i s) := by
 intro j
 by_cases e : j = i
 ·subst e; rw [h]; trivial
 ·rw [ρ.upd_ne s e]; exact St.le_refl _
theorem Rho.le_dead {ρ : Rho} {i : Nat} : ρ.le (ρ.upd i .dead) := by
 intro j
 by_cases e : j = i
 ·subst e; rw [ρ.upd_same]; cases ρ j <;> simp [St.le]
 ·rw [ρ.upd_ne _ e]; exact St.le_refl _
theorem pureRun_sound {α : Type} (P : Program) (s : Sem α) : ∀ (a : α), pureRun P s = some a → ∀ w, s.run P w = .ok a w := by
 induction s with
 | pure a => intro b h w; simp only [pureRun, Option.some.injEq] at h; subst h; rfl
 | program k ih => intro b h w; exact ih P b h w
 | mark m k ih => intro b h w; exact ih b h w
 | choose q k ih =>
  intro b h w
  simp only [pureRun] at h
  cases hq : q.forced with
  | false => simp [hq] at h
  | true => simp only [hq] at h; simp only [Sem.run, hq, if_true]; exact ih 0 b h w
 | _ => intro b h w; simp [pureRun] at h
theorem run_then {α β : Type} {P : Program} {x : Sem α} {f : α → Sem β} {w w' : World} {a : α} (h : x.run P w = .ok a w') : (x >>= f).run P w = (f a).run P w' := by
 rw [Sem.run_bind, h]; rfl
def setBlock (w : World) (b : Nat) (o : Obj) : World := { w with heap := w.heap.setIfInBounds b o }
theorem setBlock_same {w : World} {b : Nat} {o : Obj} (h : w.heap[b]? = some o) : setBlock w b o = w := by
 have : w.heap.setIfInBounds b o = w.heap := by
  apply Array.ext_getElem?
  intro j
  rw [Array.getElem?_setIfInBounds]
  split
  ·rename_i e; subst e
   obtain ⟨hlt, hv⟩ := Array.getElem?_eq_some_iff.1 h
   simp [hlt, hv]
  ·rfl
 simp [setBlock, this]
theorem setBlock_twice (w : World) (b : Nat) (o o' : Obj) : setBlock (setBlock w b o) b o' = setBlock w b o' := by
 simp [setBlock, Array.setIfInBounds_setIfInBounds]
theorem setBlock_at {w : World} {b : Nat} {o : Obj} (h : b < w.heap.size) : (setBlock w b o).heap[b]? = some o := by
 simp [setBlock, h]
theorem setBlock_ne {w : World} {b j : Nat} {o : Obj} (h : j ≠ b) : (setBlock w b o).heap[j]? = w.heap[j]? := by
 simp only [setBlock, Array.getElem?_setIfInBounds]
 rw [if_neg (Ne.symm h)]
@[simp] theorem setBlock_size (w : World) (b : Nat) (o : Obj) : (setBlock w b o).heap.size = w.heap.size := by simp [setBlock]
theorem setCell_block {w : World} {b k : Nat} {c : Array Value} {e : TypeId} {fr : Nat × Nat} {v : Value} (h : w.heap[b]? = some (.cells c e fr)) :
  w.setCell ⟨b, k, none⟩ v = setBlock w b (.cells (c.setIfInBounds k v) e fr) := by
 have : w.heap.modify b (fun
   | .cells c elem frozen => .cells (c.setIfInBounds k v) elem frozen
   | o => o) = w.heap.setIfInBounds b (.cells (c.setIfInBounds k v) e fr) := by
  apply Array.ext_getElem?
  intro j
  rw [Array.getElem?_setIfInBounds, Array.getElem?_modify]
  by_cases e : b = j
  ·subst e
   obtain ⟨hlt, hv⟩ := Array.getElem?_eq_some_iff.1 h
   simp [hlt, hv]
  ·simp [e]
 simp only [World.setCell, setBlock]
 exact congrArg (fun x => ({ w with heap := x } : World)) this
theorem cell_block {w : World} {b k : Nat} {c : Array Value} {e : TypeId} {fr : Nat × Nat} (h : w.heap[b]? = some (.cells c e fr)) : w.cell? ⟨b, k, none⟩ = c[k]? := by
 simp [World.cell?, h]
theorem frozen_block {w : World} {b k : Nat} {c : Array Value} {e : TypeId} {fr : Nat × Nat} (h : w.heap[b]? = some (.cells c e fr)) : w.frozen? ⟨b, k, none⟩ = (decide (fr.1 ≤ k) && decide (k < fr.2)) := by
 obtain ⟨lo, hi⟩ := fr
 simp [World.frozen?, h]
theorem add_none (b k i : Nat) : (⟨b, k, none⟩ : Addr).add i = ⟨b, k + i, none⟩ := by
 unfold Addr.add
 split
 ·rename_i h; subst h; rfl
 ·rfl
def putCells (c : Array Value) (k : Nat) : List Value → Array Value
 | [] => c
 | y :: ys => putCells (c.setIfInBounds k y) (k + 1) ys
theorem putCells_size : ∀ (ys : List Value) (c : Array Value) (k : Nat), (putCells c k ys).size = c.size
 | [], _, _ => rfl
 | y :: ys, c, k => by simp [putCells, putCells_size ys]
theorem putCells_get : ∀ (ys : List Value) (c : Array Value) (k j : Nat), k + ys.length ≤ c.size →
  (putCells c k ys)[j]? = if k ≤ j ∧ j < k + ys.length then ys[j - k]? else c[j]?
 | [], c, k, j, _ => by simp only [putCells, List.length_nil]; rw [if_neg (by omega)]
 | y :: ys, c, k, j, h => by
  simp only [List.length_cons] at h
  rw [putCells, putCells_get ys _ (k + 1) j (by simp; omega)]
  simp only [List.length_cons]
  by_cases e : j = k
  ·subst e
   rw [if_neg (by omega), if_pos (by omega)]
   simp only [Nat.sub_self, List.getElem?_cons_zero]
   rw [Array.getElem?_setIfInBounds]
   simp; omega
  ·by_cases e1 : k + 1 ≤ j ∧ j < k + 1 + ys.length
   ·rw [if_pos e1, if_pos (by omega), show j - k = (j - (k + 1)) + 1 by omega, List.getElem?_cons_succ]
   ·rw [if_neg e1, if_neg (by omega), Array.getElem?_setIfInBounds, if_neg (Ne.symm e)]
theorem run_storeCells (P : Program) {b k : Nat} {e : TypeId} {fr : Nat × Nat} : ∀ (ys : List Value) (i : Nat) (w : World) (c : Array Value),
  w.heap[b]? = some (.cells c e fr) → k + i + ys.length ≤ c.size → (∀ y ∈ ys, y.oneCell' = true) → (∀ j, k + i ≤ j → j < k + i + ys.length → ¬ (fr.1 ≤ j ∧ j < fr.2)) →
  (storeCells ⟨b, k, none⟩ ys i).run P w = .ok () (setBlock w b (.cells (putCells c (k + i) ys) e fr))
 | [], i, w, c, hb, _, _, _ => by
  simp only [storeCells, putCells, setBlock_same hb]; rfl
 | y :: ys, i, w, c, hb, hk, h1, hf => by
  simp only [List.length_cons] at hk hf
  have hlt : k + i < c.size := by omega
  have hc : w.cell? ⟨b, k + i, none⟩ = some c[k + i] := by rw [cell_block hb]; simp [hlt]
  have hz : w.frozen? ⟨b, k + i, none⟩ = false := by
   rw [frozen_block hb]
   have := hf (k + i) (by omega) (by omega)
   cases hx : (decide (fr.1 ≤ k + i) && decide (k + i < fr.2)) with
   | false => rfl
   | true => simp only [Bool.and_eq_true, decide_eq_true_eq] at hx; exact absurd hx this
  simp only [storeCells]
  rw [add_none]
  have hrun : (store ⟨b, k + i, none⟩ y).run P w = .ok () (setBlock w b (.cells (c.setIfInBounds (k + i) y) e fr)) := by
   rw [run_store P w _ _ _ (h1 y (by simp)), hc]
   simp only [hz]
   rw [← setCell_block hb]
   rfl
  rw [run_then hrun]
  have hb' : b < w.heap.size := (Array.getElem?_eq_some_iff.1 hb).1
  rw [run_storeCells P ys (i + 1) _ (c.setIfInBounds (k + i) y) (setBlock_at hb') (by simp; omega) (fun z hz => h1 z (by simp [hz])) (fun j a b => hf j (by omega) (by omega)), setBlock_twice]
  rfl
def LRel (R : Value → Value → Prop) (a b : List Value) : Prop := a.length = b.length ∧ ∀ (i : Nat) x y, a[i]? = some x → b[i]? = some y → R x y
theorem LRel.of_ARel {R : Value → Value → Prop} {a b : Array Value} (h : ARel R a b) : LRel R a.toList b.toList :=
 ⟨by simpa using h.1, fun i x y hx hy => h.2 i x y (by simpa using hx) (by simpa using hy)⟩
theorem ARel.of_LRel {R : Value → Value → Prop} {a b : List Value} (h : LRel R a b) : ARel R a.toArray b.toArray :=
 ⟨by simpa using h.1, fun i x y hx hy => h.2 i x y (by simpa using hx) (by simpa using hy)⟩
theorem LRel.nil {R : Value → Value → Prop} : LRel R [] [] := ⟨rfl, fun i x y hx => by simp at hx⟩
theorem LRel.cons {R : Value → Value → Prop} {x y : Value} {a b : List Value} (h : R x y) (k : LRel R a b) : LRel R (x :: a) (y :: b) := by
 refine ⟨by simp [k.1], fun i u v hu hv => ?_⟩
 cases i with
 | zero => simp at hu hv; subst hu; subst hv; exact h
 | succ i => exact k.2 i u v (by simpa using hu) (by simpa using hv)
theorem LRel.nil_left {R : Value → Value → Prop} {b : List Value} (h : LRel R [] b) : b = [] := by simpa using h.1.symm
theorem LRel.cons_left {R : Value → Value → Prop} {x : Value} {a b : List Value} (h : LRel R (x :: a) b) : ∃ y b', b = y :: b' ∧ R x y ∧ LRel R a b' := by
 obtain ⟨h1, h2⟩ := h
 cases b with
 | nil => simp at h1
 | cons y b' => exact ⟨y, b', rfl, h2 0 x y rfl rfl, by simpa using h1, fun i u v hu hv => h2 (i + 1) u v (by simpa using hu) (by simpa using hv)⟩
theorem LRel.mono {R R' : Value → Value → Prop} (h : ∀ v c, R v c → R' v c) {a b : List Value} (k : LRel R a b) : LRel R' a b :=
 ⟨k.1, fun i x y hx hy => h _ _ (k.2 i x y hx hy)⟩
theorem LRel.append {R : Value → Value → Prop} {a b c d : List Value} (h : LRel R a b) (k : LRel R c d) : LRel R (a ++ c) (b ++ d) := by
 refine ⟨by simp [h.1, k.1], fun i x y hx hy => ?_⟩
 rw [List.getElem?_append] at hx hy
 rw [← h.1] at hy
 split at hx
 ·rename_i hlt; rw [if_pos hlt] at hy; exact h.2 i x y hx hy
 ·rename_i hlt; rw [if_neg hlt] at hy; exact k.2 _ x y hx hy
theorem LRel.take {R : Value → Value → Prop} {a b : List Value} (h : LRel R a b) (n : Nat) : LRel R (a.take n) (b.take n) := by
 refine ⟨by simp [h.1], fun i x y hx hy => ?_⟩
 rw [List.getElem?_take] at hx hy
 split at hx
 ·rename_i hlt; rw [if_pos hlt] at hy; exact h.2 i x y hx hy
 ·cases hx
theorem LRel.drop {R : Value → Value → Prop} {a b : List Value} (h : LRel R a b) (n : Nat) : LRel R (a.drop n) (b.drop n) := by
 refine ⟨by simp [h.1], fun i x y hx hy => ?_⟩
 rw [List.getElem?_drop] at hx hy
 exact h.2 _ x y hx hy
theorem LRel.refl_of {R : Value → Value → Prop} {a : List Value} (h : ∀ x ∈ a, R x x) : LRel R a a :=
 ⟨rfl, fun i x y hx hy => by rw [hx] at hy; cases hy; exact h x (List.mem_of_getElem? hx)⟩
theorem LRel.flat {ρ : Rho} {n : Nat} {a : List Value} (h : a.all (Am.flat n) = true) : LRel (VRel ρ) a a :=
 LRel.refl_of fun x hx => VRel.flat (List.all_eq_true.1 h x hx)
theorem LRel.flat_eq {ρ : Rho} {n : Nat} {a b : List Value} (h : a.all (Am.flat n) = true) (k : LRel (VRel ρ) a b) : b = a := by
 induction a generalizing b with
 | nil => exact k.nil_left
 | cons x a ih =>
  obtain ⟨y, b', rfl, h1, h2⟩ := k.cons_left
  simp only [List.all_cons, Bool.and_eq_true] at h
  rw [VRel.flat_eq h.1 h1, ih h.2 h2]
theorem VRel.oneCell {ρ : Rho} {x y : Value} (h : VRel ρ x y) : y.oneCell' = x.oneCell' := by
 have k := h.unfold
 cases x with
 | pointer a => cases a with
  | none => rw [show y = _ from k]
  | some a => obtain ⟨_, rfl, _⟩ := k; rfl
 | slice a n c => cases a with
  | none => rw [show y = _ from k]
  | some a => obtain ⟨_, _, rfl, _⟩ := k; rfl
 | map a => cases a with
  | none => rw [show y = _ from k]
  | some a => obtain ⟨_, rfl, _⟩ := k; rfl
 | chan a => cases a with
  | none => rw [show y = _ from k]
  | some a => exact k.elim
 | func fn first cap => obtain ⟨_, _, _, rfl, _⟩ := k; rfl
 | agg cs => obtain ⟨_, rfl, _⟩ := k; rfl
 | tuple cs => obtain ⟨_, rfl, _⟩ := k; rfl
 | iface t v => obtain ⟨_, rfl, _⟩ := k; rfl
 | _ => rw [show y = _ from k]
theorem LRel.oneCell {ρ : Rho} {a b : List Value} (k : LRel (VRel ρ) a b) (h : a.all Value.oneCell' = true) : ∀ y ∈ b, y.oneCell' = true := by
 intro y hy
 obtain ⟨i, hi⟩ := List.mem_iff_getElem?.1 hy
 have hlt : i < a.length := by rw [k.1]; exact (List.getElem?_eq_some_iff.1 hi).1
 have hx : a[i]? = some a[i] := List.getElem?_eq_getElem hlt
 rw [(k.2 i _ _ hx hi).oneCell]
 exact List.all_eq_true.1 h _ (List.mem_of_getElem? hx)
theorem VRel.cells {ρ : Rho} {x y : Value} (h : VRel ρ x y) : LRel (VRel ρ) x.cells.toList y.cells.toList := by
 have h0 := h
 have k := h.unfold
 cases x with
 | agg cs => obtain ⟨cs', rfl, h1⟩ := k; exact LRel.of_ARel h1
 | pointer a => cases a with
  | none => rw [show y = _ from k] at h0 ⊢; exact LRel.cons h0 LRel.nil
  | some a => obtain ⟨_, rfl, _⟩ := k; exact LRel.cons h0 LRel.nil
 | slice a n c => cases a with
  | none => rw [show y = _ from k] at h0 ⊢; exact LRel.cons h0 LRel.nil
  | some a => obtain ⟨_, _, rfl, _⟩ := k; exact LRel.cons h0 LRel.nil
 | map a => cases a with
  | none => rw [show y = _ from k] at h0 ⊢; exact LRel.cons h0 LRel.nil
  | some a => obtain ⟨_, rfl, _⟩ := k; exact LRel.cons h0 LRel.nil
 | chan a => cases a with
  | none => rw [show y = _ from k] at h0 ⊢; exact LRel.cons h0 LRel.nil
  | some a => exact k.elim
 | func fn first cap => obtain ⟨_, _, _, rfl, _⟩ := k; exact LRel.cons h0 LRel.nil
 | tuple cs => obtain ⟨_, rfl, _⟩ := k; exact LRel.cons h0 LRel.nil
 | iface t v => obtain ⟨_, rfl, _⟩ := k; exact LRel.cons h0 LRel.nil
 | _ => rw [show y = _ from k] at h0 ⊢; exact LRel.cons h0 LRel.nil
theorem HRel.cells {ρ : Rho} {h : AHeap} {w : World} (H : HRel ρ h w) {i : Nat} {g : G} (hi : ρ i = .live g) {c : List Value} {e : TypeId} {row : Nat} {ro : Bool} (hg : h.get i = some (.cells c e row ro)) :
  ∃ c' fr, w.heap[g.b]? = some (.cells c' e fr) ∧ g.sh + c.length ≤ c'.size ∧ c'.size = g.tot ∧ g.row = row ∧ CellsRel ρ c c' g.sh ∧ (ro = false → fr.1 = fr.2 ∨ g.tot ≤ fr.1) := by
 obtain ⟨o, o', h1, h2, h3⟩ := H.obj i g hi
 rw [hg] at h1
 cases h1
 obtain ⟨c', fr, rfl, r⟩ := h3
 exact ⟨c', fr, h2, r⟩
theorem HRel.cell {ρ : Rho} {h : AHeap} {w : World} (H : HRel ρ h w) {i : Nat} {g : G} (hi : ρ i = .live g) {c : List Value} {e : TypeId} {row : Nat} {ro : Bool} (hg : h.get i = some (.cells c e row ro))
  {o : Nat} {v : Value} (hv : c[o]? = some v) : ∃ v', w.cell? ⟨g.b, o + g.sh, none⟩ = some v' ∧ VRel ρ v v' := by
 obtain ⟨c', fr, h1, _, _, _, h5, _⟩ := H.cells hi hg
 obtain ⟨v', e1, e2⟩ := h5 o v hv
 exact ⟨v', by rw [cell_block h1, Nat.add_comm]; exact e1, e2⟩
theorem HRel.read {ρ : Rho} {h : AHeap} {w : World} (H : HRel ρ h w) (P : Program) {i : Nat} {g : G} (hi : ρ i = .live g) {c : List Value} {e : TypeId} {row : Nat} {ro : Bool} (hg : h.get i = some (.cells c e row ro))
  {o n : Nat} (hn : o + n ≤ c.length) : ∃ ys, LRel (VRel ρ) ((c.drop o).take n) ys ∧ (loadCells ⟨g.b, o + g.sh, none⟩ n).run P w = .ok ys.toArray w := by
 obtain ⟨c', fr, h1, h2, _, _, h5, _⟩ := H.cells hi hg
 have hl : ((c'.toList.drop (g.sh + o)).take n).length = n := by simp; omega
 refine ⟨(c'.toList.drop (g.sh + o)).take n, ⟨by simp; omega, fun j x y hx hy => ?_⟩, ?_⟩
 ·rw [List.getElem?_take] at hx hy
  split at hx
  ·rename_i hlt
   rw [if_pos hlt, List.getElem?_drop] at hy
   rw [List.getElem?_drop] at hx
   obtain ⟨v', e1, e2⟩ := h5 _ _ hx
   rw [Array.getElem?_toList, Nat.add_assoc, e1] at hy
   cases hy
   exact e2
  ·cases hx
 ·have := run_loadCells_list (P := P) w ⟨g.b, o + g.sh, none⟩ ((c'.toList.drop (g.sh + o)).take n) (fun j v hv => by
   rw [add_none, cell_block h1]
   rw [List.getElem?_take] at hv
   split at hv
   ·rw [List.getElem?_drop, Array.getElem?_toList] at hv
    rw [show o + g.sh + j = g.sh + o + j by omega]
    exact hv
   ·cases hv)
  rw [hl] at this
  exact this
theorem splice_get (c : List Value) (o : Nat) (xs : List Value) (h : o + xs.length ≤ c.length) (j : Nat) :
  (splice c o xs)[j]? = if o ≤ j ∧ j < o + xs.length then xs[j - o]? else c[j]? := by
 unfold splice
 have hl : (c.take o).length = o := by simp; omega
 rw [List.getElem?_append, hl]
 by_cases h1 : j < o
 ·rw [if_pos h1, if_neg (by omega), List.getElem?_take, if_pos h1]
 ·rw [if_neg h1, List.getElem?_append]
  by_cases h2 : j - o < xs.length
  ·rw [if_pos h2, if_pos (by omega)]
  ·rw [if_neg h2, if_neg (by omega), List.getElem?_drop]
   congr 1
   omega
theorem splice_length (c : List Value) (o : Nat) (xs : List Value) (h : o + xs.length ≤ c.length) : (splice c o xs).length = c.length := by
 unfold splice; simp; omega
theorem rw_set_cells {h : AHeap} {i : Nat} {c c' : List Value} {e : TypeId} {row : Nat} {ro : Bool} (hg : h.get i = some (.cells c e row ro)) (j : Nat) :
  (h.set i (.cells c' e row ro)).rw j = h.rw j := by
 unfold AHeap.rw
 rw [AHeap.get_set]
 by_cases e : j = i
 ·subst e; simp [hg]
 ·simp [e]
theorem HRel.write {ρ : Rho} {h : AHeap} {w : World} (H : HRel ρ h w) (P : Program) {i : Nat} {g : G} (hi : ρ i = .live g) {c : List Value} {e' : TypeId} {row : Nat} (hg : h.get i = some (.cells c e' row false))
  {o : Nat} {xs ys : List Value} (hn : o + xs.length ≤ c.length) (h1 : xs.all Value.oneCell' = true) (hxy : LRel (VRel ρ) xs ys) :
  ∃ w', (storeCells ⟨g.b, o + g.sh, none⟩ ys).run P w = .ok () w' ∧ HRel ρ (h.set i (.cells (splice c o xs) e' row false)) w' ∧
   Adv h.n ρ h w ρ (h.set i (.cells (splice c o xs) e' row false)) w' := by
 obtain ⟨c', fr, e1, e2, e3, e4, e5, e6⟩ := H.cells hi hg
 have e6 := e6 rfl
 have hb : g.b < w.heap.size := H.lt hi
 have hlen := hxy.1
 have hput := putCells_get ys c' (o + g.sh)
 refine ⟨_, run_storeCells P ys 0 w c' e1 (by omega) (hxy.oneCell h1) (fun j _ hj => by omega), ?_, ?_⟩
 ·refine ⟨H.bound, fun a b p q hp hq hpq hr => H.inj a b p q hp hq hpq (by rwa [rw_set_cells hg] at hr), fun j gj hj => ?_, fun j hj o hjo => ?_⟩
  rotate_left
  ·rw [AHeap.get_set, if_neg (by intro e; subst e; rw [hi] at hj; cases hj)] at hjo
   exact H.dead j hj o hjo
  by_cases e : j = i
  ·subst e
   rw [hi] at hj
   cases hj
   refine ⟨.cells (splice c o xs) e' row false, _, by rw [AHeap.get_set, if_pos rfl], setBlock_at hb, _, _, rfl, ?_, ?_, e4, ?_, fun _ => e6⟩
   ·rw [splice_length c o xs hn, putCells_size]; exact e2
   ·rw [putCells_size]; exact e3
   ·intro k v hv
    rw [splice_get c o xs hn] at hv
    rw [Nat.add_zero, hput (g.sh + k) (by omega)]
    by_cases hk : o ≤ k ∧ k < o + xs.length
    ·rw [if_pos hk] at hv
     rw [if_pos (by omega), show g.sh + k - (o + g.sh) = k - o by omega]
     have hlt : k - o < ys.length := by omega
     exact ⟨ys[k - o], List.getElem?_eq_getElem hlt, hxy.2 _ _ _ hv (List.getElem?_eq_getElem hlt)⟩
    ·rw [if_neg hk] at hv
     rw [if_neg (by omega)]
     exact e5 k v hv
  ·obtain ⟨o1, o2, f1, f2, f3⟩ := H.obj j gj hj
   have hne : gj.b ≠ g.b := fun he => e (H.inj i j g gj hi hj he.symm (by simp [AHeap.rw, hg])).symm
   exact ⟨o1, o2, by rw [AHeap.get_set, if_neg e]; exact f1, by rw [setBlock_ne hne]; exact f2, f3⟩
 ·refine ⟨Rho.le_refl _, Nat.le_refl _, by simp, rfl, rfl, rfl, fun b hb' ho => ?_, fun b _ ⟨j, gj, hj, hbj, hrw⟩ => ⟨j, gj, hj, hbj, by rw [rw_set_cells hg] at hrw; exact hrw⟩, fun _ _ h => h⟩
  refine setBlock_ne fun he => ho ⟨i, g, hi, he.symm, ?_⟩
  simp [AHeap.rw, hg]
theorem rw_push_live {ρ : Rho} {h : AHeap} {w : World} (H : HRel ρ h w) {i : Nat} {g : G} (hi : ρ i = .live g) (o : AObj) : (h.push o).rw i = h.rw i := by
 have : i ≠ h.n := fun e => by
  have := H.bound i (by omega)
  rw [hi] at this
  cases this
 unfold AHeap.rw
 rw [AHeap.get_push, if_neg this]
theorem HRel.push {ρ : Rho} {h : AHeap} {w : World} (H : HRel ρ h w) (o : AObj) : HRel ρ (h.push o) w := by
 refine ⟨fun i hi => H.bound i (by simp at hi; omega), fun a b p q hp hq hpq hr => H.inj a b p q hp hq hpq (by rwa [rw_push_live H hp] at hr), fun i g hi => ?_, fun i hi o' ho => ?_⟩
 rotate_left
 ·rw [AHeap.get_push, if_neg] at ho
  ·exact H.dead i hi o' ho
  ·intro e
   have := H.bound i (by omega)
   rw [hi] at this
   cases this
 obtain ⟨o1, o2, f1, f2, f3⟩ := H.obj i g hi
 refine ⟨o1, o2, ?_, f2, f3⟩
 rw [AHeap.get_push, if_neg]
 ·exact f1
 ·intro e
  have := H.bound i (by omega)
  rw [hi] at this
  cases this
theorem rw_push {h : AHeap} {o : AObj} {i : Nat} (hi : i ≠ h.n) : (h.push o).rw i = h.rw i := by
 unfold AHeap.rw
 rw [AHeap.get_push, if_neg hi]
theorem Adv.push {ρ : Rho} {h : AHeap} {w : World} (H : HRel ρ h w) (o : AObj) : Adv h.n ρ h w ρ (h.push o) w :=
 ⟨Rho.le_refl _, by simp, Nat.le_refl _, rfl, rfl, rfl, fun _ _ _ => rfl, fun b _ ⟨i, g, hi, hb, hr⟩ => ⟨i, g, hi, hb, by
  rwa [rw_push] at hr
  intro e
  have := H.bound i (by omega)
  rw [hi] at this
  cases this⟩, fun _ _ h => h⟩
theorem HRel.birth {ρ : Rho} {h : AHeap} {w : World} (H : HRel ρ h w) {id : Nat} (hid : ρ id = .unborn) (hlt : id < h.n) {g : G} (hb : g.b = w.heap.size) {o : AObj} {o' : Obj} (hg : h.get id = some o)
  (ho : ObjRel (ρ.upd id (.live g)) g o o') : HRel (ρ.upd id (.live g)) h (w.alloc o') := by
 have hle : ρ.le (ρ.upd id (.live g)) := Rho.le_born hid
 have old : ∀ {j gj}, j ≠ id → ρ.upd id (.live g) j = .live gj → ρ j = .live gj := fun hj h => by rwa [ρ.upd_ne _ hj] at h
 refine ⟨fun i hi => ?_, fun i j gi gj hi hj he hr => ?_, fun i gi hi => ?_, fun i hi o ho => ?_⟩
 rotate_left 3
 ·by_cases ei : i = id
  ·subst ei; rw [ρ.upd_same] at hi; cases hi
  ·rw [ρ.upd_ne _ ei] at hi; exact H.dead i hi o ho
 ·rw [ρ.upd_ne _ (by omega)]; exact H.bound i hi
 ·by_cases ei : i = id
  ·by_cases ej : j = id
   ·rw [ei, ej]
   ·subst ei
    rw [ρ.upd_same] at hi
    cases hi
    have := H.lt (old ej hj)
    omega
  ·by_cases ej : j = id
   ·subst ej
    rw [ρ.upd_same] at hj
    cases hj
    have := H.lt (old ei hi)
    omega
   ·exact H.inj i j gi gj (old ei hi) (old ej hj) he hr
 ·by_cases ei : i = id
  ·subst ei
   rw [ρ.upd_same] at hi
   cases hi
   exact ⟨o, o', hg, by show (w.heap.push o')[g.b]? = _; rw [Array.getElem?_push, if_pos hb], ho⟩
  ·obtain ⟨o1, o2, f1, f2, f3⟩ := H.obj i gi (old ei hi)
   have := H.lt (old ei hi)
   refine ⟨o1, o2, f1, ?_, f3.mono hle⟩
   show (w.heap.push o')[gi.b]? = _
   rw [Array.getElem?_push, if_neg (by omega)]
   exact f2
theorem Adv.birth {ρ : Rho} {h : AHeap} {w : World} {id k : Nat} (hid : ρ id = .unborn) (hk : k ≤ id) {g : G} (hb : g.b = w.heap.size) (o' : Obj) : Adv k ρ h w (ρ.upd id (.live g)) h (w.alloc o') := by
 refine ⟨Rho.le_born hid, Nat.le_refl _, by simp, rfl, rfl, rfl, fun b hb' _ => ?_, fun b hb' ⟨i, gi, hi, hbi, hr⟩ => ?_, fun i hi hu => ?_⟩
 ·show (w.heap.push o')[b]? = _
  rw [Array.getElem?_push, if_neg (by omega)]
 ·by_cases ei : i = id
  ·subst ei
   rw [ρ.upd_same] at hi
   cases hi
   omega
  ·rw [ρ.upd_ne _ ei] at hi
   exact ⟨i, gi, hi, hbi, hr⟩
 ·rw [ρ.upd_ne _ (by omega)]; exact hu
theorem HRel.new {ρ : Rho} {h : AHeap} {w : World} (H : HRel ρ h w) (g : G) (hb : g.b = w.heap.size) (o : AObj) (o' : Obj) (ho : ObjRel (ρ.upd h.n (.live g)) g o o') :
  HRel (ρ.upd h.n (.live g)) (h.push o) (w.alloc o') ∧ Adv h.n ρ h w (ρ.upd h.n (.live g)) (h.push o) (w.alloc o') := by
 have hu := H.bound h.n (Nat.le_refl _)
 exact ⟨(H.push o).birth hu (by simp) hb (by rw [AHeap.get_push, if_pos rfl]) ho, (Adv.push H o).trans (Adv.birth hu (Nat.le_refl _) hb o')⟩
theorem HRel.nowhere {ρ : Rho} {h : AHeap} {w : World} (H : HRel ρ h w) : HRel (ρ.upd h.n .dead) (h.push .dead) w ∧ Adv h.n ρ h w (ρ.upd h.n .dead) (h.push .dead) w := by
 have hu := H.bound h.n (Nat.le_refl _)
 have P := H.push .dead
 have old : ∀ {j gj}, ρ.upd h.n .dead j = .live gj → ρ j = .live gj := fun {j gj} h' => by
  by_cases e : j = h.n
  ·subst e; rw [ρ.upd_same] at h'; cases h'
  ·rwa [ρ.upd_ne _ e] at h'
 have hle : ρ.le (ρ.upd h.n .dead) := Rho.le_dead
 refine ⟨⟨fun i hi => ?_, fun i j gi gj hi hj he hr => P.inj i j gi gj (old hi) (old hj) he hr, fun i g hi => ?_, fun i hi o ho => ?_⟩, hle, by simp, Nat.le_refl _, rfl, rfl, rfl, fun _ _ _ => rfl, fun b _ ⟨i, g, hi, hb, hr⟩ => ?_, fun i hi hu => ?_⟩
 ·rw [ρ.upd_ne _ (by simp at hi; omega)]; exact P.bound i hi
 ·obtain ⟨o1, o2, f1, f2, f3⟩ := P.obj i g (old hi)
  exact ⟨o1, o2, f1, f2, f3.mono hle⟩
 ·by_cases e : i = h.n
  ·subst e
   rw [AHeap.get_push, if_pos rfl] at ho
   cases ho
   rfl
  ·rw [ρ.upd_ne _ e] at hi; exact P.dead i hi o ho
 ·refine ⟨i, g, old hi, hb, ?_⟩
  rwa [rw_push] at hr
  intro e
  have := old hi
  rw [e, hu] at this
  cases this
 ·rw [ρ.upd_ne _ (by omega)]; exact hu
end Go.Am
namespace Go.Am
section
variable {P : Program} {ρ : Rho} {h : AHeap} {w : World}
theorem VRel.ptr_any {a : Addr} {c : Value} (k : VRel ρ (.pointer (some a)) c) : ∃ a', c = .pointer (some a') ∧ PRel ρ a a' := k.unfold
theorem VRel.mk_ptr {i o : Nat} {g : G} (hi : ρ i = .live g) : VRel ρ (.pointer (some ⟨i, o, none⟩)) (.pointer (some ⟨g.b, o + g.sh, none⟩)) :=
 .fold ⟨_, rfl, by simp [PRel, hi]⟩
theorem VRel.ptr_live (H : HRel ρ h w) {i o : Nat} {c : Value} (k : VRel ρ (.pointer (some ⟨i, o, none⟩)) c) {x : AObj} (hg : h.get i = some x) (hd : x ≠ .dead) :
  ∃ g, ρ i = .live g ∧ c = .pointer (some ⟨g.b, o + g.sh, none⟩) := by
 obtain ⟨a', rfl, hp⟩ := k.ptr_any
 obtain ⟨g, hi⟩ := H.get_live hg hd hp.born
 obtain ⟨_, rfl⟩ := hp.live hi
 exact ⟨g, hi, rfl⟩
theorem VRel.slice_any {a : Addr} {n k : Nat} {c : Value} (x : VRel ρ (.slice (some a) n k) c) : ∃ a' k', c = .slice (some a') n k' ∧ PRel ρ a a' ∧ n ≤ k ∧ k ≤ k' ∧
  ∀ g, ρ a.block = .live g → k' = k ∨ ∃ sz, g.row = sz + 1 ∧ a.off + g.sh + k' * sz ≤ g.tot := x.unfold
theorem VRel.slice_live (H : HRel ρ h w) {i o n k : Nat} {c : Value} (y : VRel ρ (.slice (some ⟨i, o, none⟩) n k) c) {x : AObj} (hg : h.get i = some x) (hd : x ≠ .dead) :
  ∃ g k', ρ i = .live g ∧ c = .slice (some ⟨g.b, o + g.sh, none⟩) n k' ∧ n ≤ k ∧ k ≤ k' ∧ (k' = k ∨ ∃ sz, g.row = sz + 1 ∧ o + g.sh + k' * sz ≤ g.tot) := by
 obtain ⟨a', k', rfl, hp, h1, h2, h3⟩ := y.slice_any
 obtain ⟨g, hi⟩ := H.get_live hg hd hp.born
 obtain ⟨_, rfl⟩ := hp.live hi
 exact ⟨g, k', hi, rfl, h1, h2, h3 g hi⟩
theorem VRel.mk_slice {i o n k k' : Nat} {g : G} (hi : ρ i = .live g) (h1 : n ≤ k) (h2 : k ≤ k') (h3 : k' = k ∨ ∃ sz, g.row = sz + 1 ∧ o + g.sh + k' * sz ≤ g.tot) :
  VRel ρ (.slice (some ⟨i, o, none⟩) n k) (.slice (some ⟨g.b, o + g.sh, none⟩) n k') :=
 .fold ⟨_, _, rfl, by simp [PRel, hi], h1, h2, fun g' hg => by rw [hi] at hg; cases hg; exact h3⟩
theorem aload_ok (H : HRel ρ h w) {t : TypeId} {v c x : Value} (hv : VRel ρ v c) (ha : aload P h t v = some x) :
  ∃ x', (Instr.loadAt t c).run P w = .ok x' w ∧ VRel ρ x x' := by
 unfold aload at ha
 split at ha
 ·rename_i i o
  split at ha
  ·rename_i cs e row ro hg
   obtain ⟨g, hi, rfl⟩ := hv.ptr_live H hg (by simp)
   split at ha
   ·rename_i hagg
    have r1 := pureRun_sound P _ _ hagg
    split at ha
    ·rename_i s hs
     have r2 := pureRun_sound P _ _ hs
     split at ha
     ·rename_i hle
      cases ha
      obtain ⟨ys, hy, hrun⟩ := H.read P hi hg (Nat.le_of_ble_eq_true hle)
      exact ⟨.agg ys.toArray, by simp [Instr.loadAt, Instr.sureAddr, loadVar, r1, r2, hrun], .fold ⟨_, rfl, ARel.of_LRel hy⟩⟩
     ·cases ha
    ·cases ha
   ·rename_i hagg
    have r1 := pureRun_sound P _ _ hagg
    obtain ⟨v', e1, e2⟩ := H.cell hi hg ha
    exact ⟨v', by simp [Instr.loadAt, Instr.sureAddr, loadVar, r1, e1], e2⟩
   ·cases ha
  ·cases ha
 ·cases ha
theorem wcells_ok (H : HRel ρ h w) {i o : Nat} {xs ys : List Value} {h' : AHeap} {g : G} (hi : ρ i = .live g) (hxy : LRel (VRel ρ) xs ys) (ha : wcells h i o xs = some h') :
  ∃ w', (storeCells ⟨g.b, o + g.sh, none⟩ ys).run P w = .ok () w' ∧ HRel ρ h' w' ∧ Adv h.n ρ h w ρ h' w' := by
 unfold wcells at ha
 split at ha
 ·rename_i c e row ro hg
  split at ha
  ·rename_i hc
   simp only [Bool.and_eq_true, Bool.not_eq_true'] at hc
   obtain ⟨⟨hro, hle⟩, hone⟩ := hc
   subst hro
   cases ha
   exact H.write P hi hg (Nat.le_of_ble_eq_true hle) hone hxy
  ·cases ha
 ·cases ha
theorem astore_ok (H : HRel ρ h w) {t : TypeId} {v x c y : Value} {h' : AHeap} (hv : VRel ρ v c) (hx : VRel ρ x y) (ha : astore P h t v x = some h') :
  ∃ w', (Instr.storeAt t c y).run P w = .ok () w' ∧ HRel ρ h' w' ∧ Adv h.n ρ h w ρ h' w' := by
 unfold astore at ha
 split at ha
 ·rename_i i o
  split at ha
  ·rename_i s hs
   have r2 := pureRun_sound P _ _ hs
   split at ha
   ·rename_i hsz
    have hsz := Nat.eq_of_beq_eq_true hsz
    have hg : ∃ z, h.get i = some z ∧ z ≠ .dead := by
     unfold wcells at ha
     split at ha
     ·rename_i hg; exact ⟨_, hg, by simp⟩
     ·cases ha
    obtain ⟨z, hg, hz⟩ := hg
    obtain ⟨g, hi, rfl⟩ := hv.ptr_live H hg hz
    obtain ⟨w', hrun, r⟩ := wcells_ok (P := P) H hi hx.cells ha
    refine ⟨w', ?_, r⟩
    have hl := hx.cells.1
    simp only [Array.length_toList] at hl
    have hne : ¬ y.cells.size ≠ s := by omega
    simp [Instr.storeAt, Instr.sureAddr, storeVar, r2, hne, hrun]
   ·cases ha
  ·cases ha
 ·cases ha
def ValOk (P : Program) (ρ : Rho) (h : AHeap) (w : World) (v : Value) (h' : AHeap) (s : Sem Value) : Prop :=
 ∃ v' ρ' w', s.run P w = .ok v' w' ∧ VRel ρ' v v' ∧ HRel ρ' h' w' ∧ Adv h.n ρ h w ρ' h' w'
def OpOk (P : Program) (ρ : Rho) (h : AHeap) (w : World) (r : ANext) (s : Sem Next) : Prop :=
 match r with
 | .val v h' => ∃ nx v' ρ' w', s.run P w = .ok nx w' ∧ (nx = .value v' ∨ nx = .skip ∧ v' = Go.undef) ∧ VRel ρ' v v' ∧ HRel ρ' h' w' ∧ Adv h.n ρ h w ρ' h' w'
 | .enter f args => ∃ args', s.run P w = .ok (.enter f args') w ∧ ARel (VRel ρ) args args'
 | .round l args => ∃ l' args', s.run P w = (Instr.yield l' args').run P w ∧ BRel ρ l l' ∧ ARel (VRel ρ) args args'
def ValOkN (P : Program) (ρ : Rho) (h : AHeap) (w : World) (r : ANext) (s : Sem Value) : Prop :=
 match r with
 | .val v h' => ValOk P ρ h w v h' s
 | _ => False
theorem ValOkN.op {r : ANext} {s : Sem Value} (k : ValOkN P ρ h w r s) : OpOk P ρ h w r (do pure (.value (← s))) := by
 cases r with
 | val v h' =>
  obtain ⟨v', ρ', w', e, r⟩ := k
  exact ⟨.value v', v', ρ', w', by simp [e], .inl rfl, r⟩
 | _ => exact k.elim
theorem ValOk.same (H : HRel ρ h w) {v v' : Value} {s : Sem Value} (e : s.run P w = .ok v' w) (hv : VRel ρ v v') : ValOk P ρ h w v h s :=
 ⟨v', ρ, w, e, hv, H, Adv.refl _ _ _ _⟩
theorem new_cells (H : HRel ρ h w) (c : List Value) (c' : Array Value) (elem : TypeId) (row : Nat) (hc : ∀ ρ', ρ.le ρ' → LRel (VRel ρ') c (c'.toList.take c.length)) :
  HRel (ρ.upd h.n (.live ⟨w.heap.size, 0, c'.size, row⟩)) (h.push (.cells c elem row false)) (w.alloc (.cells c' elem)) ∧
  Adv h.n ρ h w (ρ.upd h.n (.live ⟨w.heap.size, 0, c'.size, row⟩)) (h.push (.cells c elem row false)) (w.alloc (.cells c' elem)) := by
 have hl := hc _ (Rho.le_born (s := .live ⟨w.heap.size, 0, c'.size, row⟩) (H.bound h.n (Nat.le_refl _)))
 refine H.new ⟨w.heap.size, 0, c'.size, row⟩ rfl _ _ ⟨c', (0, 0), rfl, ?_, rfl, rfl, fun j v hv => ?_, fun _ => .inl rfl⟩
 ·have := hl.1
  simp at this
  simp; omega
 ·have hj : j < c.length := (List.getElem?_eq_some_iff.1 hv).1
  have hj' : j < (c'.toList.take c.length).length := by rw [← hl.1]; exact hj
  have e2 := List.getElem?_eq_getElem hj'
  refine ⟨_, ?_, hl.2 j v _ hv e2⟩
  rw [List.getElem?_take, if_pos hj, Array.getElem?_toList] at e2
  simp [e2]
theorem new_cells_exact (H : HRel ρ h w) (c : List Value) (c' : Array Value) (elem : TypeId) (row : Nat) (hc : LRel (VRel ρ) c c'.toList) :
  HRel (ρ.upd h.n (.live ⟨w.heap.size, 0, c'.size, row⟩)) (h.push (.cells c elem row false)) (w.alloc (.cells c' elem)) ∧
  Adv h.n ρ h w (ρ.upd h.n (.live ⟨w.heap.size, 0, c'.size, row⟩)) (h.push (.cells c elem row false)) (w.alloc (.cells c' elem)) := by
 have e : c'.toList.take c.length = c'.toList := by rw [hc.1]; exact List.take_length
 exact new_cells H c c' elem row (fun ρ' hle => by rw [e]; exact hc.mono fun _ _ k => k.mono hle)
theorem aalloc_ok (H : HRel ρ h w) {elem : TypeId} {old : Value} {r : ANext} (ha : aalloc P h elem = some r) : ValOkN P ρ h w r (Instr.alloc elem true old) := by
 unfold aalloc at ha
 split at ha
 ·rename_i z hz
  split at ha
  ·rename_i hf
   cases ha
   have r1 := pureRun_sound P _ _ hz
   have hc : LRel (VRel ρ) z.cells.toList z.cells.toList := (VRel.flat hf).cells
   obtain ⟨H', A'⟩ := new_cells_exact H z.cells.toList z.cells elem 0 hc
   refine ⟨.pointer (some ⟨w.heap.size, 0, none⟩), _, w.alloc (.cells z.cells elem), ?_, VRel.mk_ptr (g := ⟨w.heap.size, 0, z.cells.size, 0⟩) (ρ.upd_same _ _), H', A'⟩
   cases old <;> simp [Instr.alloc, r1, newVar, newRow]
  ·cases ha
 ·cases ha
theorem abox_ok (H : HRel ρ h w) {elem : TypeId} {x y : Value} {r : ANext} (hx : VRel ρ x y) (ha : abox h elem x = some r) : ValOkN P ρ h w r (Instr.box elem y) := by
 unfold abox at ha
 cases ha
 obtain ⟨H', A'⟩ := new_cells_exact H x.cells.toList y.cells elem 0 hx.cells
 exact ⟨.pointer (some ⟨w.heap.size, 0, none⟩), _, w.alloc (.cells y.cells elem), by simp [Instr.box, newVar, newRow], VRel.mk_ptr (g := ⟨w.heap.size, 0, y.cells.size, 0⟩) (ρ.upd_same _ _), H', A'⟩
theorem afield_ok {t : TypeId} {v c x : Value} {f : Nat} (hv : VRel ρ v c) (ha : afield P t v f = some x) :
  ∃ x', (∀ w, (Instr.fieldAt t c f).run P w = .ok x' w) ∧ VRel ρ x x' := by
 unfold afield at ha
 split at ha
 ·rename_i i o
  split at ha
  ·rename_i fields hu
   have r1 := pureRun_sound P _ _ hu
   split at ha
   ·rename_i fd hf
    split at ha
    ·rename_i s hs
     have r2 := pureRun_sound P _ _ hs
     cases ha
     obtain ⟨a', rfl, hp⟩ := hv.ptr_any
     refine ⟨.pointer (some (a'.add fd.offset)), fun w => by simp [Instr.fieldAt, r1, hf, Instr.sureAddr, fieldPlace, r2], .fold ⟨_, rfl, ?_⟩⟩
     unfold PRel at hp ⊢
     cases hs : ρ i with
     | unborn => simp [hs] at hp
     | dead => simp
     | live g =>
      simp only [hs] at hp ⊢
      obtain ⟨_, rfl⟩ := hp
      rw [add_none]
      exact ⟨trivial, by congr 1; omega⟩
    ·cases ha
   ·cases ha
  ·cases ha
 ·cases ha
theorem hasIndex {k : Int} {len : Nat} (h : ahasIndex k len = true) : 0 ≤ k ∧ k < len := by
 cases k with
 | ofNat m => simp only [ahasIndex, Nat.blt_eq] at h; exact ⟨by simp, by simp; omega⟩
 | negSucc m => simp [ahasIndex] at h
theorem PRel.add {i o k : Nat} {a' : Addr} (hp : PRel ρ ⟨i, o, none⟩ a') : PRel ρ ⟨i, o + k, none⟩ (a'.add k) := by
 unfold PRel at hp ⊢
 cases hs : ρ i with
 | unborn => simp [hs] at hp
 | dead => simp
 | live g =>
  simp only [hs] at hp ⊢
  obtain ⟨_, rfl⟩ := hp
  rw [add_none]
  exact ⟨trivial, by congr 1; omega⟩
theorem aindex_ok {t : TypeId} {v c ix iy x : Value} (hv : VRel ρ v c) (hix : VRel ρ ix iy) (ha : aindex P t v ix = some x) :
  ∃ x', (∀ w, (Instr.indexAt t c iy).run P w = .ok x' w) ∧ VRel ρ x x' := by
 unfold aindex at ha
 split at ha
 ·rename_i kk k
  obtain rfl := hix.int
  split at ha
  ·rename_i len elem i o hu
   have r1 := pureRun_sound P _ _ hu
   split at ha
   ·rename_i s hb hs
    have r2 := pureRun_sound P _ _ hs
    cases ha
    obtain ⟨a', rfl, hp⟩ := hv.ptr_any
    obtain ⟨h1, h2⟩ := hasIndex hb
    refine ⟨.pointer (some (a'.add (k.toNat * s))), fun w => ?_, .fold ⟨_, rfl, hp.add⟩⟩
    simp [Instr.indexAt, asIntOf, r1, Instr.sureAddr, h1, h2, r2]
   ·cases ha
  ·rename_i elem i o len cap hu
   have r1 := pureRun_sound P _ _ hu
   split at ha
   ·rename_i s hb hs
    have r2 := pureRun_sound P _ _ hs
    cases ha
    obtain ⟨a', k', rfl, hp, _⟩ := hv.slice_any
    obtain ⟨h1, h2⟩ := hasIndex hb
    refine ⟨.pointer (some (a'.add (k.toNat * s))), fun w => ?_, .fold ⟨_, rfl, hp.add⟩⟩
    simp [Instr.indexAt, asIntOf, r1, h1, h2, r2]
   ·cases ha
  ·cases ha
 ·cases ha
theorem aextract_ok {t c x : Value} {i : Nat} (hv : VRel ρ t c) (ha : aextract t i = some x) : ∃ x', (∀ w, (Instr.extract c i).run P w = .ok x' w) ∧ VRel ρ x x' := by
 unfold aextract at ha
 split at ha
 ·rename_i vs
  obtain ⟨vs', rfl, h1, h2⟩ := hv.unfold
  have hi : i < vs'.size := by rw [← h1]; exact (Array.getElem?_eq_some_iff.1 ha).1
  have e := Array.getElem?_eq_getElem hi
  exact ⟨vs'[i], fun w => by simp [Instr.extract, hi], h2 i _ _ ha e⟩
 ·cases ha
end
end Go.Am
namespace Go.Am
theorem pureRun_bind {α β : Type} (P : Program) (x : Sem α) (f : α → Sem β) : pureRun P (x >>= f) = (pureRun P x).bind fun a => pureRun P (f a) := by
 show pureRun P (x.bind f) = _
 induction x with
 | pure a => rfl
 | program k ih => exact ih P
 | mark m k ih => exact ih
 | choose q k ih =>
  simp only [Sem.bind, pureRun]
  cases q.forced
  ·rfl
  ·exact ih 0
 | _ => rfl
theorem pureRun_pure {α : Type} (P : Program) (a : α) : pureRun P (Pure.pure a : Sem α) = some a := rfl
theorem pureRun_stuck {α : Type} (P : Program) (why : String) : pureRun P (stuck why : Sem α) = none := rfl
section
variable {P : Program} {ρ : Rho} {h : AHeap} {w : World}
def PartsRel (R : Value → Value → Prop) (a b : List (Nat × Value)) : Prop := a.length = b.length ∧ ∀ (i : Nat) x y, a[i]? = some x → b[i]? = some y → x.1 = y.1 ∧ R x.2 y.2
theorem foldl_set_rel {R : Value → Value → Prop} (off : Nat) : ∀ (vs vs' : List Value) (k : Nat) (cs cs' : Array Value), LRel R vs vs' → ARel R cs cs' →
  ARel R ((vs.zipIdx k).foldl (fun cs (c, j) => cs.setIfInBounds (off + j) c) cs) ((vs'.zipIdx k).foldl (fun cs (c, j) => cs.setIfInBounds (off + j) c) cs')
 | [], vs', k, cs, cs', hv, hc => by
  obtain rfl := hv.nil_left
  exact hc
 | v :: vs, vs', k, cs, cs', hv, hc => by
  obtain ⟨v', vs'', rfl, h1, h2⟩ := hv.cons_left
  simp only [List.zipIdx_cons, List.foldl_cons]
  refine foldl_set_rel off vs vs'' (k + 1) _ _ h2 ⟨by simp [hc.1], fun i x y hx hy => ?_⟩
  rw [Array.getElem?_setIfInBounds] at hx hy
  split at hx
  ·rename_i e
   rw [if_pos e] at hy
   rw [← hc.1] at hy
   split at hx
   ·rename_i hlt
    rw [if_pos hlt] at hy
    cases hx; cases hy; exact h1
   ·cases hx
  ·rename_i e
   rw [if_neg e] at hy
   exact hc.2 i x y hx hy
theorem fill_rel (place : Nat → Option (Nat × Nat)) : ∀ (ps ps' : List (Nat × Value)) (cs cs' r : Array Value), PartsRel (VRel ρ) ps ps' → ARel (VRel ρ) cs cs' → Instr.fill place cs ps = some r →
  ∃ r', Instr.fill place cs' ps' = some r' ∧ ARel (VRel ρ) r r'
 | [], ps', cs, cs', r, hp, hc, hf => by
  have : ps' = [] := by simpa using hp.1.symm
  subst this
  simp only [Instr.fill, Option.some.injEq] at hf ⊢
  exact ⟨cs', rfl, hf ▸ hc⟩
 | (i, v) :: ps, ps', cs, cs', r, hp, hc, hf => by
  cases ps' with
  | nil => have := hp.1; simp at this
  | cons q ps' =>
   obtain ⟨i', v'⟩ := q
   obtain ⟨e1, e2⟩ := hp.2 0 (i, v) (i', v') rfl rfl
   simp only at e1 e2
   subst e1
   have hp' : PartsRel (VRel ρ) ps ps' := ⟨by simpa using hp.1, fun j x y hx hy => hp.2 (j + 1) x y (by simpa using hx) (by simpa using hy)⟩
   simp only [Instr.fill] at hf ⊢
   cases hpl : place i with
   | none => simp [hpl] at hf
   | some q =>
    obtain ⟨off, size⟩ := q
    simp only [hpl] at hf ⊢
    have hcl := e2.cells
    have hs : v'.cells.size = v.cells.size := by have := hcl.1; simpa using this.symm
    rw [hs, ← hc.1]
    split at hf
    ·cases hf
    ·rename_i hne
     rw [if_neg hne]
     refine fill_rel place ps ps' _ _ r hp' ?_ hf
     have e : ∀ (vs : Array Value) (x : Array Value), vs.zipIdx.foldl (fun cs (c, j) => cs.setIfInBounds (off + j) c) x = (vs.toList.zipIdx).foldl (fun cs (c, j) => cs.setIfInBounds (off + j) c) x := fun vs x => by
      rw [← Array.foldl_toList, Array.toList_zipIdx]
     rw [e, e]
     exact foldl_set_rel off v.cells.toList v'.cells.toList 0 cs cs' hcl hc
theorem abuild_ok {t : TypeId} {parts parts' : Array (Nat × Value)} {x : Value} (hp : PartsRel (VRel ρ) parts.toList parts'.toList) (ha : abuild P t parts = some x) :
  ∃ x', (∀ w, (Instr.build t parts').run P w = .ok x' w) ∧ VRel ρ x x' := by
 unfold abuild at ha
 split at ha
 ·rename_i z hz
  split at ha
  ·rename_i hf
   have hzc : ARel (VRel ρ) z.cells z.cells := by
    have := (VRel.flat (ρ := ρ) hf).cells
    exact ARel.of_LRel this
   have r1 := pureRun_sound P _ _ hz
   unfold Instr.build at ha
   rw [pureRun_bind, hz] at ha
   simp only [Option.bind_some] at ha
   rw [pureRun_bind] at ha
   cases hu : pureRun P (underlying t) with
   | none => simp [hu] at ha
   | some u =>
    have r2 := pureRun_sound P _ _ hu
    rw [hu] at ha
    simp only [Option.bind_some] at ha
    cases u with
    | struct fields =>
     simp only at ha
     rw [pureRun_bind] at ha
     cases hm : pureRun P (fields.mapM fun f => do pure (f.offset, ← sizeOf f.type)) with
     | none => rw [hm] at ha; simp at ha
     | some places =>
      have r3 := pureRun_sound P _ _ hm
      rw [hm] at ha
      simp only [Option.bind_some] at ha
      cases hfl : Instr.fill (places[·]?) z.cells parts.toList with
      | none => simp [hfl, pureRun_stuck] at ha
      | some cells =>
       simp only [hfl, pureRun_pure, Option.some.injEq] at ha
       subst ha
       obtain ⟨r', e1, e2⟩ := fill_rel _ _ _ _ _ _ hp hzc hfl
       refine ⟨.agg r', fun w => ?_, .fold ⟨_, rfl, e2⟩⟩
       unfold Instr.build
       rw [run_then (r1 w), run_then (r2 w)]
       simp only
       rw [run_then (r3 w)]
       simp [e1]
    | array n elem =>
     simp only at ha
     rw [pureRun_bind] at ha
     cases hm : pureRun P (sizeOf elem) with
     | none => rw [hm] at ha; simp at ha
     | some size =>
      have r3 := pureRun_sound P _ _ hm
      rw [hm] at ha
      simp only [Option.bind_some] at ha
      cases hfl : Instr.fill (fun i => some (i * size, size)) z.cells parts.toList with
      | none => simp [hfl, pureRun_stuck] at ha
      | some cells =>
       simp only [hfl, pureRun_pure, Option.some.injEq] at ha
       subst ha
       obtain ⟨r', e1, e2⟩ := fill_rel _ _ _ _ _ _ hp hzc hfl
       refine ⟨.agg r', fun w => ?_, .fold ⟨_, rfl, e2⟩⟩
       unfold Instr.build
       rw [run_then (r1 w), run_then (r2 w)]
       simp only
       rw [run_then (r3 w)]
       simp [e1]
    | _ => simp [pureRun_stuck] at ha
  ·cases ha
 ·cases ha
theorem zero_flat {zero : Array Value} (hz : zero.toList.all (flat 2) = true) (j : Nat) : flat 2 zero[j]! = true := by
 by_cases hlt : j < zero.size
 ·have e : zero[j]! = zero[j] := by simp [hlt]
  rw [e]
  exact List.all_eq_true.1 hz _ (by simp)
 ·have e : zero[j]! = default := by simp [hlt]
  rw [e]
  rfl
theorem zeros_rel {zero : Array Value} (hz : zero.toList.all (flat 2) = true) (n : Nat) : ARel (VRel ρ) ((Array.range n).map (zero[· % zero.size]!)) ((Array.range n).map (zero[· % zero.size]!)) := by
 refine ARel.refl_of fun x hx => ?_
 simp only [Array.toList_map, List.mem_map] at hx
 obtain ⟨j, _, rfl⟩ := hx
 exact VRel.flat (zero_flat hz _)
theorem abuildSlice_ok (H : HRel ρ h w) {t : TypeId} {len : Nat} {parts parts' : Array (Nat × Value)} {r : ANext} (hp : PartsRel (VRel ρ) parts.toList parts'.toList) (ha : abuildSlice P h t len parts = some r) :
  ValOkN P ρ h w r (Instr.buildSlice t len parts') := by
 unfold abuildSlice at ha
 split at ha
 ·rename_i elem hu
  have r1 := pureRun_sound P _ _ hu
  split at ha
  ·rename_i size hs
   have r2 := pureRun_sound P _ _ hs
   split at ha
   ·rename_i hle
    have hle := Nat.le_of_ble_eq_true hle
    split at ha
    ·rename_i zero hz
     have r3 := pureRun_sound P _ _ hz
     split at ha
     ·rename_i hfz
      split at ha
      ·rename_i cells hf
       cases ha
       obtain ⟨r', e1, e2⟩ := fill_rel _ _ _ _ _ _ hp (zeros_rel (ρ := ρ) hfz (len * size)) hf
       obtain ⟨H', A'⟩ := new_cells_exact H cells.toList r' elem (size + 1) (LRel.of_ARel e2)
       have hlt : ¬ (16777216 < len * size) := by omega
       refine ⟨.slice (some ⟨w.heap.size, 0, none⟩) len len, _, w.alloc (.cells r' elem), ?_, VRel.mk_slice (g := ⟨w.heap.size, 0, r'.size, size + 1⟩) (ρ.upd_same _ _) (Nat.le_refl _) (Nat.le_refl _) (.inl rfl), H', A'⟩
       by_cases h0 : len * size = 0
       ·have hz0 : zero = #[] := by
         have := r3 w
         simp only [h0] at this
         simpa using this.symm
        subst hz0
        simp [Instr.buildSlice, r1, r2, h0] at e1 ⊢
        simp [e1, newRow]
       ·have hr := r3 w
        rw [if_neg h0] at hr
        cases hzv : (zeroValue elem).run P w with
        | halt x y => simp [hzv] at hr
        | ok z w2 =>
         simp [hzv] at hr
         obtain ⟨rfl, rfl⟩ := hr
         simp [Instr.buildSlice, r1, r2, h0, hlt, hzv, e1, newRow]
      ·cases ha
     ·cases ha
    ·cases ha
   ·cases ha
  ·cases ha
 ·cases ha
theorem pureRun_bounds {α : Type} (P : Program) (k : IntKind) (x y : Int) (c : BoundsCode) : pureRun P (boundsPanic k x y c : Sem α) = none := by
 unfold boundsPanic
 dsimp only
 split <;> rfl
theorem bound_inv {v : Value} {y u : Nat} {c : BoundsCode} (hb : pureRun P (Instr.sliceBound v y c) = some u) : ∃ k i, v = .int k i ∧ 0 ≤ i ∧ i ≤ (y : Int) ∧ u = i.toNat := by
 unfold Instr.sliceBound at hb
 rw [pureRun_bind] at hb
 cases v with
 | int k i =>
  simp only [asIntOf, pureRun_pure, Option.bind_some] at hb
  split at hb
  ·rename_i h
   rw [pureRun_pure] at hb
   exact ⟨k, i, rfl, h.1, h.2, by simpa using hb.symm⟩
  ·rw [pureRun_bounds] at hb; cases hb
 | pointer a => cases a <;> simp [asIntOf, stuck, unsupported, pureRun] at hb
 | _ => simp [asIntOf, stuck, pureRun] at hb
theorem bound_run {k : IntKind} {i : Int} {y : Nat} {c : BoundsCode} (h0 : 0 ≤ i) (h1 : i ≤ (y : Int)) (w : World) : (Instr.sliceBound (.int k i) y c).run P w = .ok i.toNat w := by
 simp [Instr.sliceBound, asIntOf, h0, h1]
theorem bounds_inv {b : Bool} {n k l u m : Nat} {lo hi : Option Value} (hnk : n ≤ k) (hb : pureRun P (Instr.sliceBounds b n k lo hi none) = some (l, u, m)) :
  m = k ∧ l ≤ u ∧ u ≤ k ∧ (∀ v, lo = some v → ∃ q i, v = .int q i) ∧ (∀ v, hi = some v → ∃ q i, v = .int q i) ∧ ∀ k' w, k ≤ k' → (Instr.sliceBounds b n k' lo hi none).run P w = .ok (l, u, k') w := by
 unfold Instr.sliceBounds at hb
 simp only [pureRun_bind, pureRun_pure, Option.bind_some] at hb
 cases hi with
 | none =>
  simp only [pureRun_bind, pureRun_pure, Option.bind_some] at hb
  cases lo with
  | none =>
   simp at hb
   obtain ⟨rfl, rfl, rfl⟩ := hb
   exact ⟨rfl, by omega, hnk, (fun v hv => by cases hv), (fun v hv => by cases hv), fun k' w _ => by simp [Instr.sliceBounds]⟩
  | some v =>
   simp only [pureRun_bind] at hb
   cases hl : pureRun P (Instr.sliceBound v n (if (none : Option Value).isSome then .slice3C else .sliceB)) with
   | none => rw [hl] at hb; cases hb
   | some l' =>
    rw [hl] at hb
    simp only [Option.bind_some, pureRun_pure, Option.some.injEq, Prod.mk.injEq] at hb
    obtain ⟨rfl, rfl, rfl⟩ := hb
    obtain ⟨q, i, rfl, h0, h1, rfl⟩ := bound_inv hl
    refine ⟨rfl, by omega, hnk, (fun v hv => by cases hv; exact ⟨_, _, rfl⟩), (fun v hv => by cases hv), fun k' w _ => ?_⟩
    simp [Instr.sliceBounds, bound_run h0 h1]
 | some z =>
  simp only [pureRun_bind] at hb
  cases hh : pureRun P (Instr.sliceBound z k (if b then .sliceAcap else .sliceAlen)) with
  | none => rw [hh] at hb; cases hb
  | some u' =>
   rw [hh] at hb
   simp only [Option.bind_some] at hb
   obtain ⟨q, i, rfl, h0, h1, rfl⟩ := bound_inv hh
   cases lo with
   | none =>
    obtain ⟨rfl, rfl, rfl⟩ : 0 = l ∧ i.toNat = u ∧ k = m := by simpa [pureRun_pure] using hb
    refine ⟨rfl, by omega, by omega, (fun v hv => by cases hv), (fun v hv => by cases hv; exact ⟨_, _, rfl⟩), fun k' w hk => ?_⟩
    have h1' : i ≤ (k' : Int) := by omega
    simp [Instr.sliceBounds, bound_run h0 h1']
   | some v =>
    simp only [pureRun_bind] at hb
    cases hl : pureRun P (Instr.sliceBound v i.toNat (if (none : Option Value).isSome then .slice3C else .sliceB)) with
    | none => rw [hl] at hb; cases hb
    | some l' =>
     rw [hl] at hb
     simp only [Option.bind_some, pureRun_pure, Option.some.injEq, Prod.mk.injEq] at hb
     obtain ⟨rfl, rfl, rfl⟩ := hb
     obtain ⟨q', i', rfl, g0, g1, rfl⟩ := bound_inv hl
     refine ⟨rfl, by omega, by omega, (fun v hv => by cases hv; exact ⟨_, _, rfl⟩), (fun v hv => by cases hv; exact ⟨_, _, rfl⟩), fun k' w hk => ?_⟩
     have h1' : i ≤ (k' : Int) := by omega
     simp [Instr.sliceBounds, bound_run h0 h1', bound_run g0 g1]
theorem bounds3_inv {n k l u m : Nat} {lo hi : Option Value} {z : Value} (hb : pureRun P (Instr.sliceBounds true n k lo hi (some z)) = some (l, u, m)) :
  l ≤ u ∧ u ≤ m ∧ (∀ v, lo = some v → ∃ q i, v = .int q i) ∧ (∀ v, hi = some v → ∃ q i, v = .int q i) ∧ (∀ v, some z = some v → ∃ q i, v = .int q i) ∧ ∀ k' w, k ≤ k' → (Instr.sliceBounds true n k' lo hi (some z)).run P w = .ok (l, u, m) w := by
 unfold Instr.sliceBounds at hb
 simp only [pureRun_bind, if_true, Option.isSome_some] at hb
 cases hz : pureRun P (Instr.sliceBound z k .slice3Acap) with
 | none => rw [hz] at hb; cases hb
 | some m' =>
  rw [hz] at hb
  obtain ⟨q, i, rfl, h0, h1, rfl⟩ := bound_inv hz
  simp only [Option.bind_some] at hb
  cases hi with
  | none =>
   simp only [pureRun_bind] at hb
   cases hb
  | some y =>
   simp only [pureRun_bind] at hb
   cases hh : pureRun P (Instr.sliceBound y i.toNat .slice3B) with
   | none => rw [hh] at hb; cases hb
   | some u' =>
    rw [hh] at hb
    simp only [Option.bind_some] at hb
    obtain ⟨q', i', rfl, g0, g1, rfl⟩ := bound_inv hh
    cases lo with
    | none =>
     obtain ⟨rfl, rfl, rfl⟩ : 0 = l ∧ i'.toNat = u ∧ i.toNat = m := by simpa [pureRun_pure] using hb
     refine ⟨by omega, by omega, (fun v hv => by cases hv), (fun v hv => by cases hv; exact ⟨_, _, rfl⟩), (fun v hv => by cases hv; exact ⟨_, _, rfl⟩), fun k' w hk => ?_⟩
     have h1' : i ≤ (k' : Int) := by omega
     simp [Instr.sliceBounds, bound_run h0 h1', bound_run g0 g1]
    | some v =>
     simp only [pureRun_bind] at hb
     cases hl : pureRun P (Instr.sliceBound v i'.toNat BoundsCode.slice3C) with
     | none => rw [hl] at hb; cases hb
     | some l' =>
      rw [hl] at hb
      simp only [Option.bind_some, pureRun_pure, Option.some.injEq, Prod.mk.injEq] at hb
      obtain ⟨rfl, rfl, rfl⟩ := hb
      obtain ⟨q'', i'', rfl, f0, f1, rfl⟩ := bound_inv hl
      refine ⟨by omega, by omega, (fun v hv => by cases hv; exact ⟨_, _, rfl⟩), (fun v hv => by cases hv; exact ⟨_, _, rfl⟩), (fun v hv => by cases hv; exact ⟨_, _, rfl⟩), fun k' w hk => ?_⟩
      have h1' : i ≤ (k' : Int) := by omega
      simp [Instr.sliceBounds, bound_run h0 h1', bound_run g0 g1, bound_run f0 f1]
def ORel (R : Value → Value → Prop) : Option Value → Option Value → Prop
 | none, none => True
 | some x, some y => R x y
 | _, _ => False
theorem ORel.int_eq {a b : Option Value} (k : ORel (VRel ρ) a b) (hi : ∀ v, a = some v → ∃ q i, v = .int q i) : b = a := by
 cases a with
 | none => cases b with
  | none => rfl
  | some y => exact k.elim
 | some x => cases b with
  | none => exact k.elim
  | some y =>
   obtain ⟨q, i, rfl⟩ := hi _ rfl
   rw [VRel.int k]
theorem nowhere_ok (H : HRel ρ h w) {s : Sem Value} {a : Addr} {k : Nat} (hs : s.run P w = .ok (.slice (some a) 0 k) w) : ValOkN P ρ h w (nowhere h) s := by
 obtain ⟨H', A'⟩ := H.nowhere
 exact ⟨_, _, w, hs, .fold ⟨a, k, rfl, by simp [PRel, ρ.upd_same], Nat.le_refl _, Nat.zero_le _, fun g hg => by simp [ρ.upd_same] at hg⟩, H', A'⟩
theorem aslice_ok (H : HRel ρ h w) {t : TypeId} {x y : Value} {lo hi mx lo' hi' mx' : Option Value} {r : ANext} (hx : VRel ρ x y) (hlo : ORel (VRel ρ) lo lo') (hhi : ORel (VRel ρ) hi hi') (hmx : ORel (VRel ρ) mx mx')
  (ha : aslice P h t x lo hi mx = some r) : ValOkN P ρ h w r (Instr.sliceAt t y lo' hi' mx') := by
 unfold aslice at ha
 split at ha
 ·rename_i z
  split at ha
  ·rename_i elem i o n k hu
   have r1 := pureRun_sound P _ _ hu
   split at ha
   ·rename_i l u m s hb hs
    have r2 := pureRun_sound P _ _ hs
    obtain ⟨a', k', rfl, hp, hnk, hkk, hroom⟩ := hx.slice_any
    obtain ⟨hlu, hum, hl1, hh1, hm1, hrun⟩ := bounds3_inv hb
    obtain rfl := hlo.int_eq hl1
    obtain rfl := hhi.int_eq hh1
    obtain rfl := hmx.int_eq hm1
    have hr := hrun k' w hkk
    split at ha
    ·rename_i hlt
     have hlt : l < m := by simpa [Nat.blt_eq] using hlt
     cases ha
     refine ValOk.same H (v' := .slice (some (a'.add (l * s))) (u - l) (m - l)) ?_ (.fold ⟨_, _, rfl, hp.add, by omega, Nat.le_refl _, fun _ _ => .inl rfl⟩)
     simp [Instr.sliceAt, r1, Instr.slice, hr, r2, show ¬ m = l by omega]
    ·cases ha
   ·cases ha
  ·cases ha
 ·have hm : mx' = none := by
   cases mx' with
   | none => rfl
   | some _ => exact hmx.elim
  subst hm
  split at ha
  ·rename_i n elem i o hu
   have r1 := pureRun_sound P _ _ hu
   split at ha
   ·rename_i l u m s hb hs
    have r2 := pureRun_sound P _ _ hs
    obtain ⟨rfl, hlu, hun, hl1, hh1, hrun⟩ := bounds_inv (Nat.le_refl _) hb
    obtain rfl := hlo.int_eq hl1
    obtain rfl := hhi.int_eq hh1
    obtain ⟨a', rfl, hp⟩ := hx.ptr_any
    have hr := hrun m w (Nat.le_refl _)
    split at ha
    ·rename_i hlt
     have hlt : l < m := by simpa [Nat.blt_eq] using hlt
     cases ha
     refine ValOk.same H (v' := .slice (some (a'.add (l * s))) (u - l) (m - l)) ?_ (.fold ⟨_, _, rfl, hp.add, by omega, Nat.le_refl _, fun _ _ => .inl rfl⟩)
     simp [Instr.sliceAt, r1, Instr.sureAddr, hr, r2, show ¬ m = l by omega]
    ·split at ha
     ·rename_i hlm
      have hlm : l = m := by simpa using hlm
      subst hlm
      cases ha
      refine nowhere_ok H (a := a') (k := 0) ?_
      have : u - l = 0 := by omega
      simp [Instr.sliceAt, r1, Instr.sureAddr, hr, r2, this]
     ·cases ha
   ·cases ha
  ·rename_i elem a n k hu
   have r1 := pureRun_sound P _ _ hu
   split at ha
   ·rename_i l u m s hb hs
    have r2 := pureRun_sound P _ _ hs
    split at ha
    ·split at ha
     ·rename_i hz
      simp only [Bool.and_eq_true, Nat.beq_eq] at hz
      obtain ⟨⟨⟨rfl, rfl⟩, rfl⟩, rfl⟩ := hz
      cases ha
      obtain rfl := hx.atom_eq rfl
      obtain ⟨rfl, hlu, hun, hl1, hh1, hrun⟩ := bounds_inv (Nat.le_refl _) hb
      obtain rfl := hlo.int_eq hl1
      obtain rfl := hhi.int_eq hh1
      have hr := hrun 0 w (Nat.le_refl _)
      refine ValOk.same H (v' := .slice none 0 0) ?_ (.atom rfl)
      simp [Instr.sliceAt, r1, Instr.slice, hr, r2]
     ·cases ha
    ·rename_i i o
     obtain ⟨a', k', rfl, hp, hnk, hkk, hroom⟩ := hx.slice_any
     obtain ⟨rfl, hlu, hun, hl1, hh1, hrun⟩ := bounds_inv hnk hb
     obtain rfl := hlo.int_eq hl1
     obtain rfl := hhi.int_eq hh1
     have hr := hrun k' w hkk
     split at ha
     ·rename_i hc
      simp only [Bool.and_eq_true, Nat.blt_eq, Bool.or_eq_true, Nat.beq_eq] at hc
      obtain ⟨hlt, hfit⟩ := hc
      cases ha
      refine ValOk.same H (v' := .slice (some (a'.add (l * s))) (u - l) (k' - l)) ?_ (.fold ⟨_, _, rfl, hp.add, by omega, by omega, fun g hg => ?_⟩)
      ·simp [Instr.sliceAt, r1, Instr.slice, hr, r2, show ¬ k' = l by omega]
      ·rcases hroom g hg with e | ⟨sz, e1, e2⟩
       ·exact .inl (by omega)
       ·rcases hfit with h0 | hfit
        ·subst h0; exact .inr ⟨sz, e1, by simpa using e2⟩
        obtain ⟨oo, o', f1, f2, f3⟩ := H.obj i g hg
        have hsz : sz = s := by
         unfold rowFits at hfit
         rw [f1] at hfit
         cases oo with
         | cells c e row ro =>
          obtain ⟨c', fr, _, _, _, hrow, _⟩ := f3
          simp at hfit
          omega
         | dead => exact f3.elim
         | _ => simp at hfit
        subst hsz
        refine .inr ⟨sz, e1, ?_⟩
        have : (k' - l) * sz + l * sz = k' * sz := by rw [← Nat.add_mul]; congr 1; omega
        simp only at e2 ⊢
        omega
     ·split at ha
      ·rename_i hlm
       have hlm : l = m := by simpa using hlm
       subst hlm
       cases ha
       have : u - l = 0 := by omega
       by_cases e : k' = l
       ·subst e
        refine nowhere_ok H (a := a') (k := k' - k') ?_
        simp [Instr.sliceAt, r1, Instr.slice, hr, r2, this]
       ·refine nowhere_ok H (a := a'.add (l * s)) (k := k' - l) ?_
        simp [Instr.sliceAt, r1, Instr.slice, hr, r2, this, e]
      ·cases ha
    ·cases ha
   ·cases ha
  ·cases ha
end
end Go.Am
