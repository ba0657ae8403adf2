/-
  OWN WORK. 'Am', second text: the abstract machine itself: what each operation does to abstract values and blocks; regions; code; calls.
  It returns 'none' wherever it does not serve.
-/
import Derived.Test.YtmfepbkpojafnaaGreatDoorAmA
import Derived.Laws.Sem
namespace Go.Am
noncomputable section

/-- A value without a reference: it is the same in every world. -/
def atomB : Value → Bool
  | .bool _ | .int _ _ | .float _ _ | .complex _ _ _ | .string _ | .nilFunc | .nilIface => true
  | .pointer none | .slice none _ _ | .map none | .chan none => true
  | _ => false
def flat : Nat → Value → Bool
  | 0, v => atomB v
  | n + 1, v =>
    match v with
    | .agg cs => cs.toList.all (flat n)
    | .tuple vs => vs.toList.all (flat n)
    | .iface _ x => flat n x
    | v => atomB v

/-- What a piece of the model answers if it asks nothing of a world. -/
def pureRun {α : Type} (P : Program) : Sem α → Option α
  | .pure a => some a
  | .program k => pureRun P (k P)
  | .mark _ k => pureRun P k
  | .choose q k => match q.forced with
    | true => pureRun P (k 0)
    | false => none
  | _ => none

/-! Integers, by the kernel's own numbers. -/
def kN : IntKind → Nat
  | .i8 => 0 | .i16 => 1 | .i32 => 2 | .i64 => 3 | .u8 => 4 | .u16 => 5 | .u32 => 6 | .u64 => 7
def inI64 (n : Int) : Bool := Int.rec (motive := fun _ => Bool) (fun m => Nat.blt m 9223372036854775808) (fun m => Nat.blt m 9223372036854775808) n
def fwrap (k : IntKind) (n : Int) : Int :=
  match k with
  | .i64 => Bool.rec (motive := fun _ => Int) (IntKind.wrap .i64 n) n (inI64 n)
  | .u8 => Int.rec (motive := fun _ => Int) (fun m => Int.ofNat (m % 256)) (fun m => IntKind.wrap .u8 (Int.negSucc m)) n
  | k => k.wrap n
def ilt (a b : Int) : Bool :=
  match a, b with
  | .ofNat m, .ofNat n => Nat.blt m n
  | .ofNat _, .negSucc _ => false
  | .negSucc _, .ofNat _ => true
  | .negSucc m, .negSucc n => Nat.blt n m
def ieq (a b : Int) : Bool :=
  match a, b with
  | .ofNat m, .ofNat n => Nat.beq m n
  | .negSucc m, .negSucc n => Nat.beq m n
  | _, _ => false
def fbin (op : BinOp) (k k' : IntKind) (a b : Int) : Option Value :=
  match Nat.beq (kN k) (kN k') with
  | true =>
    match op with
    | .add => some (.int k (fwrap k (a + b)))
    | .sub => some (.int k (fwrap k (a - b)))
    | .mul => some (.int k (fwrap k (a * b)))
    | .lss => some (.bool (ilt a b))
    | .leq => some (.bool (!ilt b a))
    | .gtr => some (.bool (ilt b a))
    | .geq => some (.bool (!ilt a b))
    | .eql => some (.bool (ieq a b))
    | .neq => some (.bool (!ieq a b))
    | _ => none
  | false => none

/-- What an operation comes to. -/
inductive ANext where
  | val (v : Value) (h : AHeap)
  | enter (f : FuncId) (args : Array Value)
  | round (l : Nat) (args : Array Value)

def splice (c : List Value) (o : Nat) (xs : List Value) : List Value := c.take o ++ (xs ++ c.drop (o + xs.length))

section
variable (P : Program)

def aload (h : AHeap) (t : TypeId) (v : Value) : Option Value :=
  match v with
  | .pointer (some ⟨i, o, none⟩) =>
    match h.get i with
    | some (.cells c _ _ _) =>
      match pureRun P (isAgg t) with
      | some true =>
        match pureRun P (sizeOf t) with
        | some s => match Nat.ble (o + s) c.length with
          | true => some (.agg ((c.drop o).take s).toArray)
          | false => none
        | none => none
      | some false => c[o]?
      | none => none
    | _ => none
  | _ => none

/-- The cells that a value is stored as. -/
def wcells (h : AHeap) (i o : Nat) (xs : List Value) : Option AHeap :=
  match h.get i with
  | some (.cells c e row ro) =>
    match !ro && Nat.ble (o + xs.length) c.length && xs.all Value.oneCell' with
    | true => some (h.set i (.cells (splice c o xs) e row ro))
    | false => none
  | _ => none

def astore (h : AHeap) (t : TypeId) (v x : Value) : Option AHeap :=
  match v with
  | .pointer (some ⟨i, o, none⟩) =>
    match pureRun P (sizeOf t) with
    | some s => match Nat.beq x.cells.size s with
      | true => wcells h i o x.cells.toList
      | false => none
    | none => none
  | _ => none

/-- The first k cells that lie at an address. -/
def rcells (h : AHeap) (a : Option Addr) (k : Nat) : Option (List Value) :=
  match k with
  | 0 => some []
  | k + 1 => match a with
    | some ⟨i, o, none⟩ =>
      match h.get i with
      | some (.cells c _ _ _) => match Nat.ble (o + (k + 1)) c.length with
        | true => some ((c.drop o).take (k + 1))
        | false => none
      | _ => none
    | _ => none

def newCells (h : AHeap) (c : List Value) (e : TypeId) (row : Nat) : AHeap := h.push (.cells c e row false)

def aalloc (h : AHeap) (elem : TypeId) : Option ANext :=
  match pureRun P (zeroValue elem) with
  | some z => match flat 3 z with
    | true => some (.val (.pointer (some ⟨h.n, 0, none⟩)) (newCells h z.cells.toList elem 0))
    | false => none
  | none => none

def abox (h : AHeap) (elem : TypeId) (x : Value) : Option ANext :=
  some (.val (.pointer (some ⟨h.n, 0, none⟩)) (newCells h x.cells.toList elem 0))

def abuild (t : TypeId) (parts : Array (Nat × Value)) : Option Value :=
  match pureRun P (zeroValue t) with
  | some z => match flat 3 z with
    | true => pureRun P (Instr.build t parts)
    | false => none
  | none => none

def abuildSlice (h : AHeap) (t : TypeId) (len : Nat) (parts : Array (Nat × Value)) : Option ANext :=
  match pureRun P (underlying t) with
  | some (.slice elem) =>
    match pureRun P (sizeOf elem) with
    | some size =>
      match Nat.ble (len * size) 65536 with
      | true =>
        match pureRun P (if len * size = 0 then pure #[] else do pure (← zeroValue elem).cells) with
        | some zero =>
          match zero.toList.all (flat 2) with
          | true =>
            match Instr.fill (fun i => some (i * size, size)) ((Array.range (len * size)).map (zero[· % zero.size]!)) parts.toList with
            | some cells => some (.val (.slice (some ⟨h.n, 0, none⟩) len len) (newCells h cells.toList elem (size + 1)))
            | none => none
          | false => none
        | none => none
      | false => none
    | none => none
  | _ => none

def afield (t : TypeId) (v : Value) (f : Nat) : Option Value :=
  match v with
  | .pointer (some ⟨i, o, none⟩) =>
    match pureRun P (underlying t) with
    | some (.struct fields) =>
      match fields[f]? with
      | some fd => match pureRun P (sizeOf fd.type) with
        | some (_ + 1) => some (.pointer (some ⟨i, o + fd.offset, none⟩))
        | _ => none
      | none => none
    | _ => none
  | _ => none

def ahasIndex (k : Int) (len : Nat) : Bool :=
  match k with
  | .ofNat m => Nat.blt m len
  | .negSucc _ => false

def aindex (t : TypeId) (x ix : Value) : Option Value :=
  match ix with
  | .int _ k =>
    match pureRun P (underlying t), x with
    | some (.array len elem), .pointer (some ⟨i, o, none⟩) =>
      match ahasIndex k len, pureRun P (sizeOf elem) with
      | true, some s => some (.pointer (some ⟨i, o + k.toNat * s, none⟩))
      | _, _ => none
    | some (.slice elem), .slice (some ⟨i, o, none⟩) len _ =>
      match ahasIndex k len, pureRun P (sizeOf elem) with
      | true, some s => some (.pointer (some ⟨i, o + k.toNat * s, none⟩))
      | _, _ => none
    | _, _ => none
  | _ => none

/-- A slice of no capacity: where it lies cannot be told. -/
def nowhere (h : AHeap) : ANext := .val (.slice (some ⟨h.n, 0, none⟩) 0 0) (h.push .dead)

/-- The elements of a block's rows have so many cells (if it has rows). -/
def rowFits (h : AHeap) (i s : Nat) : Bool :=
  match h.get i with
  | some (.cells _ _ row _) => Nat.beq row 0 || Nat.beq row (s + 1)
  | some .dead => true
  | _ => false

def aslice (h : AHeap) (t : TypeId) (x : Value) (lo hi mx : Option Value) : Option ANext :=
  match mx with
  | some _ => none
  | none =>
    match pureRun P (underlying t), x with
    | some (.array n elem), .pointer (some ⟨i, o, none⟩) =>
      match pureRun P (Instr.sliceBounds false n n lo hi none), pureRun P (sizeOf elem) with
      | some (l, u, m), some s => match Nat.blt l m with
        | true => some (.val (.slice (some ⟨i, o + l * s, none⟩) (u - l) (m - l)) h)
        | false => match Nat.beq l m with
          | true => some (nowhere h)
          | false => none
      | _, _ => none
    | some (.slice elem), .slice a n k =>
      match pureRun P (Instr.sliceBounds true n k lo hi none), pureRun P (sizeOf elem) with
      | some (l, u, m), some s =>
        match a with
        | none => match Nat.beq l 0 && Nat.beq u 0 && Nat.beq k 0 && Nat.beq n 0 with
          | true => some (.val (.slice none 0 0) h)
          | false => none
        | some ⟨i, o, none⟩ => match Nat.blt l m && rowFits h i s with
          | true => some (.val (.slice (some ⟨i, o + l * s, none⟩) (u - l) (m - l)) h)
          | false => match Nat.beq l m with
            | true => some (nowhere h)
            | false => none
        | _ => none
      | _, _ => none
    | _, _ => none

def aarrayAt (h : AHeap) (arr : TypeId) (x : Value) : Option ANext :=
  match pureRun P (underlying arr), x with
  | some (.array n _), .slice (some a) len _ => match Nat.ble n len with
    | true => some (.val (.pointer (some a)) h)
    | false => none
  | _, _ => none

def aextract (t : Value) (i : Nat) : Option Value :=
  match t with
  | .tuple vs => vs[i]?
  | _ => none

def bytesOf (s : ByteArray) : List Value := s.data.toList.map fun b => .int .u8 b.toNat

/-- The bytes that cells hold. -/
def stringOf : List Value → Option (List UInt8)
  | [] => some []
  | .int .u8 n :: r => (stringOf r).map (UInt8.ofNat n.toNat :: ·)
  | _ :: _ => none

def aconvert (h : AHeap) (src dst : TypeId) (x : Value) : Option ANext :=
  match pureRun P (underlying src), pureRun P (underlying dst), x with
  | some _, some (.int k), .int _ n => some (.val (.int k (fwrap k n)) h)
  | some .string, some (.slice e), .string s =>
    match pureRun P (underlying e), pureRun P (sizeOf e) with
    | some (.int .u8), some 1 => some (.val (.slice (some ⟨h.n, 0, none⟩) s.size s.size) (newCells h (bytesOf s) e 2))
    | _, _ => none
  | some (.slice _), some (.slice e), .slice (some ⟨i, o, none⟩) n k =>
    match src == dst, pureRun P (underlying e), h.get i with
    | true, some (.int .u8), some (.cells _ _ _ false) => some (.val (.slice (some ⟨i, o, none⟩) n k) h)
    | _, _, _ => none
  | some (.slice e), some .string, .slice (some a) n _ =>
    match pureRun P (underlying e) with
    | some (.int .u8) => match rcells h (some a) n with
      | some cs => (stringOf cs).map fun b => .val (.string ⟨b.toArray⟩) h
      | none => none
    | _ => none
  | _, _, x => match flat 3 x with
    | true => (pureRun P (convert src dst x)).bind fun v => match flat 3 v with
      | true => some (.val v h)
      | false => none
    | false => none

/-- A comparison with nil. -/
def anil (op : BinOp) (xType : TypeId) (x y : Value) : Option Value :=
  match (match op with | .eql => some false | .neq => some true | _ => none) with
  | some r =>
    match pureRun P (underlying xType), x, y with
    | some (.slice _), .slice (some _) _ _, .slice none _ _ => some (.bool r)
    | some (.slice _), .slice none _ _, .slice (some _) _ _ => some (.bool r)
    | some (.pointer _), .pointer (some _), .pointer none => some (.bool r)
    | some (.pointer _), .pointer none, .pointer (some _) => some (.bool r)
    | some (.func _ _ _), .func _ _ _, .nilFunc => some (.bool r)
    | some (.func _ _ _), .nilFunc, .func _ _ _ => some (.bool r)
    | _, _, _ => none
  | none => none

def amakeMap (h : AHeap) (t : TypeId) (r : Option Value) : Option ANext :=
  match r with
  | none => some (.val (.map (some h.n)) (h.push (.map [] 0)))
  | some (.int _ _) => match pureRun P (underlying t) with
    | some (.map _ _) => some (.val (.map (some h.n)) (h.push (.map [] 0)))
    | _ => none
  | _ => none

def amapOf (h : AHeap) (x : Value) : Option (List MapEntry) :=
  match x with
  | .map none => some []
  | .map (some r) => match h.get r with
    | some (.map es _) => some es
    | _ => none
  | _ => none

def alookup (h : AHeap) (xType : TypeId) (x ix : Value) (commaOk : Bool) : Option Value :=
  match pureRun P (underlying xType) with
  | some (.map key elem) =>
    match amapOf h x, flat 2 ix with
    | some es, true =>
      match pureRun P (Instr.checkKey es.isEmpty 10000 key ix), pureRun P (underlying key) with
      | some _, some kind =>
        match Instr.findNow kind ix es 0 with
        | some (some (_, v)) => some (if commaOk then .tuple #[v, .bool true] else v)
        | some none => match pureRun P (zeroValue elem) with
          | some z => match flat 3 z with
            | true => some (if commaOk then .tuple #[z, .bool false] else z)
            | false => none
          | none => none
        | none => none
      | _, _ => none
    | _, _ => none
  | _ => none

def amapUpdate (h : AHeap) (t : TypeId) (m k v : Value) : Option AHeap :=
  match pureRun P (underlying t) with
  | some (.map key _) =>
    match m, flat 2 k with
    | .map (some r), true =>
      match h.get r with
      | some (.map es clock) =>
        match pureRun P (Instr.checkKey false 10000 key k), pureRun P (underlying key) with
        | some _, some kind =>
          match Instr.findNow kind k es 0 with
          | some (some (i, _)) =>
            match Instr.sameBits 10000 (((es[i]?).map (·.key)).getD k) k with
            | true => some (h.set r (.map (es.modify i fun e => { e with key := k, val := v }) clock))
            | false => none
          | some none => some (h.set r (.map (es ++ [{ key := k, val := v, born := clock }]) (clock + 1)))
          | none => none
        | _, _ => none
      | _ => none
    | _, _ => none
  | _ => none

def arange (h : AHeap) (xType : TypeId) (x : Value) : Option ANext :=
  match pureRun P (underlying xType), x with
  | some .string, .string s => some (.val (.pointer (some ⟨h.n, 0, none⟩)) (h.push (.iter s 0)))
  | _, _ => none

def anext (h : AHeap) (it : Value) (isString : Bool) : Option ANext :=
  match it, isString with
  | .pointer (some ⟨r, 0, none⟩), true =>
    match h.get r with
    | some (.iter s pos) =>
      match Nat.blt pos s.size with
      | true => some (.val (.tuple #[.bool true, goInt pos, .int .i32 (Utf8.decode s pos).1]) (h.set r (.iter s (pos + (Utf8.decode s pos).2))))
      | false => some (.val (.tuple #[.bool false]) h)
    | _ => none
  | _, _ => none

def amakeSlice (h : AHeap) (t : TypeId) (len cap : Value) : Option ANext :=
  match pureRun P (underlying t), len, cap with
  | some (.slice elem), .int .i64 (.ofNat l), .int .i64 (.ofNat c) =>
    match pureRun P (typeInfo elem), pureRun P (sizeOf elem) with
    | some info, some s =>
      match Nat.ble l c && Nat.ble c 1048576 && Nat.ble (info.bytes * c) 281474976710656 with
      | true =>
        match pureRun P (if c * s = 0 then pure #[] else do pure (← zeroValue elem).cells) with
        | some zero =>
          match zero.toList.all (flat 2) with
          | true => some (.val (.slice (some ⟨h.n, 0, none⟩) l c) (newCells h ((Array.range (c * s)).map (zero[· % zero.size]!)).toList elem (s + 1)))
          | false => none
        | none => none
      | false => none
    | _, _ => none
  | _, _, _ => none

/-- What is appended: how many elements, and their cells. -/
def anews (h : AHeap) (elem : TypeId) (size : Nat) (xType : Option TypeId) (x : Value) : Option (Nat × List Value) :=
  match (match xType with | some t => (pureRun P (underlying t)).map (· matches .int _) | none => some false) with
  | some true =>
    match x with
    | .int .i64 (.ofNat l) =>
      match pureRun P (typeInfo elem) with
      | some info =>
        match Nat.ble l 1048576 && Nat.ble (info.bytes * l) 281474976710656 with
        | true =>
          match pureRun P (if l * size = 0 then pure #[] else do pure (Builtin.zeroCells (← zeroValue elem).cells l)) with
          | some zs => match zs.toList.all (flat 2) && Nat.beq zs.size (l * size) with
            | true => some (l, zs.toList)
            | false => none
          | none => none
        | false => none
      | none => none
    | _ => none
  | some false =>
    match x with
    | .slice a n _ => (rcells h a (n * size)).map (n, ·)
    | .string s => match Nat.beq size 1 with
      | true => some (s.size, bytesOf s)
      | false => none
    | _ => none
  | none => none

def aappend (h : AHeap) (argTypes : Array TypeId) (args : Array Value) : Option ANext :=
  match (argTypes[0]? : Option TypeId), (args[0]? : Option Value), (args[1]? : Option Value) with
  | some sType, some (.slice base sLen sCap), some x =>
    match pureRun P (underlying sType) with
    | some (.slice elem) =>
      match pureRun P (sizeOf elem), pureRun P (typeInfo elem) with
      | some size, some info =>
        match anews P h elem size argTypes[1]? x with
        | some (0, _) => match Nat.ble sLen sCap with
          | true => some (.val (.slice base sLen sCap) h)
          | false => none
        | some (m + 1, news) =>
          match Nat.ble (sLen + (m + 1)) sCap with
          | true =>
            match base with
            | some ⟨i, o, none⟩ => (wcells h i (o + sLen * size) news).map fun h' => .val (.slice base (sLen + (m + 1)) sCap) h'
            | _ => none
          | false =>
            match Nat.blt 0 info.bytes && Nat.ble ((2 * (sLen + (m + 1)) + 256) * info.bytes) 281474976710656, pureRun P (zeroValue elem), rcells h base (sLen * size) with
            | true, some z, some old =>
              match Nat.beq z.cells.size size with
              | false => none
              | true =>
              let fresh (h' : AHeap) : Option ANext := some (.val (.slice (some ⟨h'.n, 0, none⟩) (sLen + (m + 1)) (sLen + (m + 1))) (newCells h' (old ++ news) elem (size + 1)))
              match base with
              | none => fresh h
              | some ⟨i, _, none⟩ =>
                match h.get i with
                | some (.cells _ e row ro) =>
                  match Nat.beq row 0, Nat.beq row (size + 1) && Nat.beq e elem && !ro && news.all Value.oneCell' with
                  | true, _ => fresh h
                  | false, true => fresh (h.set i .dead)
                  | false, false => none
                | _ => none
              | _ => none
            | _, _, _ => none
        | none => none
      | _, _ => none
    | _ => none
  | _, _, _ => none

def acopy (h : AHeap) (argTypes : Array TypeId) (args : Array Value) : Option ANext :=
  match (argTypes[0]? : Option TypeId), (args[0]? : Option Value), (args[1]? : Option Value) with
  | some dType, some (.slice base dLen _), some src =>
    match pureRun P (underlying dType) with
    | some (.slice elem) =>
      match pureRun P (sizeOf elem) with
      | some size =>
        match (match src with
               | .slice a n _ => (rcells h a (Nat.min n dLen * size)).map (Nat.min n dLen, ·)
               | .string s => match Nat.beq size 1 with
                 | true => some (Nat.min s.size dLen, (bytesOf s).take (Nat.min s.size dLen))
                 | false => none
               | _ => none) with
        | some (n, []) => some (.val (goInt n) h)
        | some (n, cs) =>
          match base with
          | some ⟨i, o, none⟩ => (wcells h i o cs).map fun h' => .val (goInt n) h'
          | _ => none
        | none => none
      | none => none
    | _ => none
  | _, _, _ => none

def alen (h : AHeap) (argTypes : Array TypeId) (args : Array Value) : Option Value :=
  match (argTypes[0]? : Option TypeId), (args[0]? : Option Value) with
  | some t, some (.slice (some _) n _) => match pureRun P (underlying t) with
    | some (.slice _) => some (goInt n)
    | _ => none
  | some t, some (.map (some r)) => match pureRun P (underlying t), h.get r with
    | some (.map _ _), some (.map es _) => some (goInt es.length)
    | _, _ => none
  | some t, some (.pointer (some _)) => match pureRun P (underlying t) with
    | some (.pointer arr) => match pureRun P (underlying arr) with
      | some (.array n _) => some (goInt n)
      | _ => none
    | _ => none
  | some t, some (.agg _) => match pureRun P (underlying t) with
    | some (.array n _) => some (goInt n)
    | _ => none
  | _, _ => none

/-- A function called by its number. -/
def acallFunc (h : AHeap) (f : FuncId) (args : Array Value) : Option ANext :=
  match P.funcs[f]? with
  | some fn =>
    match fn.name == "runtime.NumGoroutine" with
    | true => none
    | false =>
      match fn.body with
      | some _ => some (.enter f args)
      | none =>
        match args.toList.all (flat 3) with
        | true =>
          match pureRun P (callFunc f args) with
          | some (.value v) => match flat 3 v with
            | true => some (.val v h)
            | false => none
          | _ => none
        | false => none
  | none => none

/-- An operation whose operands hold no reference, and that asks nothing of the world. -/
def aflat (o : Oper) (ev : Operand → Value) (h : AHeap) : Option ANext :=
  match o.op.operands.toList.all fun x => flat 3 (ev x) with
  | true =>
    match pureRun P (execOp ev o) with
    | some (.value v) => match flat 3 v with
      | true => some (.val v h)
      | false => none
    | _ => none
  | false => none

def acall (o : Oper) (c : Call) (ev : Operand → Value) (h : AHeap) : Option ANext :=
  match c.callee with
  | .value f =>
    match ev f with
    | .func (.func g) first captured => acallFunc P h g (first ++ c.args.map ev ++ captured)
    | .func (.yield l) first _ => some (.round l (first ++ c.args.map ev))
    | _ => none
  | .builtin b =>
    match b with
    | .append => aappend P h c.argTypes (c.args.map ev)
    | .copy => acopy P h c.argTypes (c.args.map ev)
    | .len => match alen P h c.argTypes (c.args.map ev) with
      | some v => some (.val v h)
      | none => aflat P o ev h
    | _ => aflat P o ev h
  | _ => none

def valOf (v : Option Value) (h : AHeap) : Option ANext := v.map (.val · h)
def skipOf (h : Option AHeap) : Option ANext := h.map (.val undef ·)

def constsFlat (o : Oper) : Bool := o.op.operands.toList.all fun
  | .const v => flat 3 v
  | .global g => Nat.blt g P.globals.size
  | _ => true

/-- What an operation does. -/
def aop (o : Oper) (ev : Operand → Value) (h : AHeap) : Option ANext :=
  match o.op with
  | .move x | .assign x => some (.val (ev x) h)
  | .pick c a b => match ev c with
    | .bool t => some (.val (if t then ev a else ev b) h)
    | _ => none
  | .alloc elem => aalloc P h elem
  | .box elem x => abox h elem (ev x)
  | .build t parts => valOf (abuild P t (parts.map fun (i, x) => (i, ev x))) h
  | .buildSlice t len parts => abuildSlice P h t len (parts.map fun (i, x) => (i, ev x))
  | .load t a => valOf (aload P h t (ev a)) h
  | .store t a x => skipOf (astore P h t (ev a) (ev x))
  | .nilCheck x => match ev x with
    | .pointer (some a) => some (.val (.pointer (some a)) h)
    | .func (.func f) first captured => some (.val (.func (.func f) first captured) h)
    | .func (.yield f) first captured => some (.val (.func (.yield f) first captured) h)
    | _ => none
  | .binOp op t x y _ => match ev x, ev y with
    | .int k a, .int k' b => match fbin op k k' a b with
      | some v => some (.val v h)
      | none => aflat P o ev h
    | vx, vy => match anil P op t vx vy with
      | some v => some (.val v h)
      | none => aflat P o ev h
  | .sliceToArrayPointer arr x => aarrayAt P h arr (ev x)
  | .convert src dst x => aconvert P h src dst (ev x)
  | .makeFunc fn first captured => match fn with
    | .func f => some (.val (.func (.func f) (first.map ev) (captured.map ev)) h)
    | _ => none
  | .makeMap t r => amakeMap P h t (r.map ev)
  | .makeSlice t l c => amakeSlice P h t (ev l) (ev c)
  | .slice t x lo hi mx => match pureRun P (underlying t) with
    | some .string => aflat P o ev h
    | _ => aslice P h t (ev x) (lo.map ev) (hi.map ev) (mx.map ev)
  | .fieldAddr s x f => valOf (afield P s (ev x) f) h
  | .field t x f => valOf (pureRun P (Instr.field t (ev x) f)) h
  | .indexAddr t x ix => valOf (aindex P t (ev x) (ev ix)) h
  | .lookup t x ix ok => valOf (alookup P h t (ev x) (ev ix) ok) h
  | .mapUpdate t m k x => skipOf (amapUpdate P h t (ev m) (ev k) (ev x))
  | .range t x => arange P h t (ev x)
  | .next it isString => anext h (ev it) isString
  | .extract t i => valOf (aextract (ev t) i) h
  | .call c => acall P o c ev h
  | .unOp .. | .index .. => aflat P o ev h
  | _ => none
end
end
end Go.Am
