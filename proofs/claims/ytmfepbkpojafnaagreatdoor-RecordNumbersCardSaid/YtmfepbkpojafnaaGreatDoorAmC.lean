/-
  OWN WORK. 'Am', third text: regions, code, calls, rounds.
-/
import Derived.Test.YtmfepbkpojafnaaGreatDoorAmB
namespace Go.Am
noncomputable section

abbrev Res := Exit × AAct × AHeap
/-- How code is carried out: in which round, the code, the activation, the heap. -/
structure Ex where
  run : Option Nat → Code → AAct → AHeap → Option Res
  /-- What calls come to that are known beforehand. -/
  orc : FuncId → Array Value → AHeap → Option (Value × AHeap)
instance : CoeFun Ex (fun _ => Option Nat → Code → AAct → AHeap → Option Res) := ⟨Ex.run⟩

def enterAct (n : Nat) (args : List Value) : AAct :=
  { n := n, t := (args.foldl (fun (s : Nat × Tr Value) v => (s.1 + 1, s.2.set s.1 v)) (0, Tr.nil)).2, marks := [] }

def amapM {α β : Type} (f : α → Option β) : List α → Option (List β)
  | [] => some []
  | x :: r => match f x with
    | some y => (amapM f r).map (y :: ·)
    | none => none

def aresult (P : Program) (fn : Func) (a : AAct) (h : AHeap) : Option Value :=
  match amapM (fun
      | ResultVar.tmp t => some (a.tmp t)
      | ResultVar.cell x t => aload P h t (a.tmp x)) fn.results.toList with
  | some [v] => some v
  | some vs => some (.tuple vs.toArray)
  | none => none

/-- The blocks of an activation's ranges over functions are shut. -/
def shutMarks (h : AHeap) : List Nat → Option AHeap
  | [] => some h
  | r :: rest => match h.get r with
    | some .defd => shutMarks (h.set r .dead) rest
    | _ => none

def acallRun (P : Program) (ex : Ex) (f : FuncId) (args : Array Value) (h : AHeap) : Option (Value × AHeap) :=
  match P.funcs[f]? with
  | some fn =>
    match fn.body, Nat.ble args.size fn.ntmps with
    | some c, true =>
      match ex none c (enterAct fn.ntmps args.toList) h with
      | some (.normal, a, h') | some (.ret, a, h') =>
        match shutMarks h' a.marks with
        | some h'' => (aresult P fn a h'').map fun v => (v, h'')
        | none => none
      | _ => none
    | _, _ => none
  | none => none

def acallBy (P : Program) (ex : Ex) (f : FuncId) (args : Array Value) (h : AHeap) : Option (Value × AHeap) :=
  match ex.orc f args h with
  | some r => some r
  | none => acallRun P ex f args h

def setTmps (t : Tr Value) : List Tmp → List Value → Tr Value
  | i :: is, v :: vs => setTmps (t.set i v) is vs
  | _, _ => t

def aroundBy (ex : Ex) (l : Nat) (args : Array Value) (h : AHeap) : Option (Value × AHeap) :=
  match h.get l with
  | some (.loop _ _ a ps assign body _) =>
    match Nat.beq args.size ps.size && ps.toList.all (Nat.blt · a.n) with
    | true =>
      match ex (some l) assign { n := a.n, t := setTmps a.t ps.toList args.toList, marks := [] } h with
      | some (.normal, a₁, h₁) =>
        match h₁.get l with
        | some (.loop .ready pend a' ps' assign' body' d') =>
          match ex (some l) body a₁ (h₁.set l (.loop .busy pend a' ps' assign' body' d')) with
          | some (e, _, h₂) =>
            match h₂.get l with
            | some (.loop _ _ a'' ps'' assign'' body'' d'') =>
              match (match e with
                     | .normal => some none
                     | .ret => some (some Code.ret)
                     | .exit id => some (some (Code.exit id))
                     | _ => none) with
              | some jump =>
                some (.bool jump.isNone, h₂.set l (.loop (if jump.isNone then .ready else .done) jump a'' ps'' assign'' body'' d''))
              | none => none
            | _ => none
          | none => none
        | _ => none
      | _ => none
    | false => none
  | _ => none

/-- What an operation of a region comes to, its calls carried out. -/
def doneBy (P : Program) (ex : Ex) (x : ANext) (h : AHeap) : Option (Value × AHeap) :=
  match x with
  | .val v h' => some (v, h')
  | .enter f args => acallBy P ex f args h
  | .round l args => aroundBy ex l args h

def ayielded (ops : Array Oper) (a : AAct) (j : Nat) : Option Bool :=
  match ((ops[j]?).bind (·.dst)) with
  | some t => match Nat.blt t a.n, a.tmp t with
    | true, .bool b => some b
    | _, _ => none
  | none => none

def dstOk (o : Oper) (a : AAct) : Bool :=
  match o.dst with
  | some d => Nat.blt d a.n
  | none => true

def opBy (P : Program) (ex : Ex) (ops : Array Oper) (o : Oper) (a : AAct) (h : AHeap) : Option (Value × AHeap) :=
  match dstOk o a with
  | true =>
    match Region.wanted o (ayielded ops a) with
    | true => match aop P o a.eval h with
      | some x => doneBy P ex x h
      | none => none
    | false => some (undef, h)
  | false => none

def runOps (P : Program) (ex : Ex) (ops : Array Oper) (l : List Oper) : AAct → AHeap → Option (AAct × AHeap) :=
  List.rec (motive := fun _ => AAct → AHeap → Option (AAct × AHeap)) (fun a h => some (a, h))
    (fun o _ ih a h => match opBy P ex ops o a h with
      | some (v, h') => ih (a.put o.dst v) h'
      | none => none) l
theorem runOps_nil (P : Program) (ex : Ex) (ops : Array Oper) (a : AAct) (h : AHeap) : runOps P ex ops [] a h = some (a, h) := rfl
theorem runOps_cons (P : Program) (ex : Ex) (ops : Array Oper) (o : Oper) (l : List Oper) (a : AAct) (h : AHeap) :
    runOps P ex ops (o :: l) a h = match opBy P ex ops o a h with
      | some (v, h') => runOps P ex ops l (a.put o.dst v) h'
      | none => none := rfl

/-! A region that draws its order. -/

/-- An operation that changes nothing but for a block of its own. -/
def eager (o : Oper) : Bool :=
  match o.op with
  | .move _ | .assign _ | .pick .. | .build .. | .load .. | .nilCheck _ | .binOp .. | .unOp .. | .convert .. | .slice .. | .fieldAddr .. | .indexAddr .. | .index .. | .field .. | .extract .. | .makeFunc .. => true
  | .alloc _ | .box .. | .buildSlice .. | .makeSlice .. | .makeMap .. => true
  | .call { callee := .builtin b, .. } => match b with
    | .len | .cap | .max | .min | .real | .imag | .complex => true
    | _ => false
  | _ => false

/-- An operation that makes a block of its own, whatever the heap. -/
def maker (o : Oper) (obj : AObj) : Bool :=
  match o.op with
  | .alloc _ | .box .. | .buildSlice .. | .makeSlice .. | .makeMap .. => true
  | .slice .. => match obj with
    | .dead => true
    | _ => false
  | _ => false

/-- Bit by bit, which operations come before each one. -/
def befs : List Oper → List Nat → List Nat
  | [], acc => acc
  | o :: r, acc => befs r (acc ++ [(o.after.toList.filter (Region.binds .any)).foldl (fun s e => s ||| (2 ^ e.on ||| acc.getD e.on 0)) 0])

def Apart (ops : Array Oper) (x y : Oper) : Bool := x.apart ops y && y.apart ops x

/-- Each two operations come in one order, or neither writes what the other reads or writes; edges lead back. -/
def orderly (ops : Array Oper) : Bool :=
  let b := befs ops.toList []
  ops.toList.zipIdx.all fun (y, j) =>
    y.after.toList.all (fun e => !Region.binds .any e || Nat.blt e.on j) &&
    (match y.guard with
     | some (g, _) => Nat.blt g j && y.after.toList.any (fun e => Region.binds .any e && Nat.beq e.on g)
     | none => true) &&
    (match y.op with | .select .. => false | _ => true) &&
    (ops.toList.take j).zipIdx.all fun (x, i) => (b.getD j 0).testBit i || Apart ops x y

/-- An eager operation that has been carried out: its number, the operation, the activation at which it was, what it gave, the block that it made. -/
structure Pend where
  i : Nat
  o : Oper
  a : AAct
  v : Value
  new : Option (Nat × AObj)

def beqA : Value → Value → Bool
  | .bool a, .bool b => a == b
  | .int k a, .int j b => k == j && a == b
  | .float k a, .float j b => k == j && a == b
  | .complex k a c, .complex j b d => k == j && a == b && c == d
  | .string a, .string b => a.data.toList == b.data.toList
  | .nilFunc, .nilFunc | .nilIface, .nilIface => true
  | .pointer a, .pointer b => a == b
  | .slice a n k, .slice b m j => a == b && n == m && k == j
  | .map a, .map b => a == b
  | .chan a, .chan b => a == b
  | _, _ => false
def beqV : Value → Value → Bool
  | .iface t a, .iface s b => t == s && beqA a b
  | a, b => beqA a b
def beqVs : List Value → List Value → Bool
  | [], [] => true
  | x :: r, y :: s => beqV x y && beqVs r s
  | _, _ => false
def beqD : Value → Value → Bool
  | .agg a, .agg b => beqVs a.toList b.toList
  | .tuple a, .tuple b => beqVs a.toList b.toList
  | a, b => beqV a b
def beqDs : List Value → List Value → Bool
  | [], [] => true
  | x :: r, y :: s => beqD x y && beqDs r s
  | _, _ => false
def beqO : AObj → AObj → Bool
  | .cells c e r o, .cells d f s p => beqVs c d && e == f && r == s && o == p
  | .map [] a, .map [] b => a == b
  | .dead, .dead => true
  | _, _ => false

/-- Whether an eager operation would do the same now. -/
def still (P : Program) (ops : Array Oper) (p : Pend) (h : AHeap) : Bool :=
  match Region.wanted p.o (ayielded ops p.a) with
  | false => true
  | true =>
    match p.new with
    | some (id, obj) => match h.get id with
      | some o => beqO o obj
      | none => false
    | none => match aop P p.o p.a.eval h with
      | some (.val v h') => beqD v p.v && Nat.beq h'.n h.n
      | _ => false

def pickNext (ops : Array Oper) (ready : List Nat) : Option (Option Nat) :=
  match ready.find? fun i => ((ops[i]?).map eager).getD false with
  | some i => some (some i)
  | none => match ready with
    | [] => some none
    | [i] => some (some i)
    | _ => none

def runDraw (P : Program) (ex : Ex) (ops : Array Oper) (bs : List Nat) : Nat → Array Bool → List Pend → AAct → AHeap → Option (AAct × AHeap)
  | 0, _, _, _, _ => none
  | n + 1, listed, W, a, h =>
    match pickNext ops (Region.ready .any ops listed) with
    | none => none
    | some none => some (a, h)
    | some (some i) =>
      match ops[i]? with
      | none => none
      | some o =>
        match opBy P ex ops o a h with
        | none => none
        | some (v, h') =>
          match eager o with
          | true =>
            match Nat.beq h'.n h.n with
            | true => runDraw P ex ops bs n (listed.setIfInBounds i true) ({ i, o, a, v, new := none } :: W) (a.put o.dst v) h'
            | false => match Nat.beq h'.n (h.n + 1), h'.get h.n with
              | true, some obj => match maker o obj && W.all (still P ops · h') with
                | true => runDraw P ex ops bs n (listed.setIfInBounds i true) ({ i, o, a, v, new := some (h.n, obj) } :: W) (a.put o.dst v) h'
                | false => none
              | _, _ => none
          | false =>
            let W' := W.filter fun p => !(bs.getD i 0).testBit p.i
            match W'.all (still P ops · h') with
            | true => runDraw P ex ops bs n (listed.setIfInBounds i true) W' (a.put o.dst v) h'
            | false => none

/-- Whether all that is written in a region is data without references. -/
def constsOk (P : Program) (ops : Array Oper) : Bool := ops.toList.all (constsFlat P)

def runRegion (P : Program) (ex : Ex) (ops : Array Oper) (draw : Bool) (a : AAct) (h : AHeap) : Option (AAct × AHeap) :=
  match constsOk P ops, draw with
  | false, _ => none
  | true, false => runOps P ex ops ops.toList a h
  | true, true => match orderly ops with
    | true => runDraw P ex ops (befs ops.toList []) (ops.size + 1) (Array.replicate ops.size false) [] a h
    | false => none

def fval (a : AAct) : Operand → Value
  | .const _ => .nilFunc
  | x => a.eval x

/-- The block for the deferred calls of a range's rounds. -/
def rangeIn (rd : Option Nat) (h : AHeap) : Option (Nat × List Nat × AHeap) :=
  match rd with
  | none => some (h.n, [h.n], h.push .defd)
  | some l => match h.get l with
    | some (.loop _ _ _ _ _ _ d) => some (d, [], h)
    | _ => none

/-- A range over a function. -/
def rangeBy (P : Program) (ex : Ex) (rd : Option Nat) (f : Operand) (ps : Array Tmp) (assign body : Code) (a : AAct) (h : AHeap) : Option Res :=
  match rangeIn rd h with
  | some (d, mark, h₁) =>
    match fval a f with
    | .func (.func g) first captured =>
      match P.funcs[g]? with
      | some fn =>
        match fn.name == "runtime.NumGoroutine" || fn.body.isNone with
        | true => none
        | false =>
          match acallBy P ex g (first ++ #[.func (.yield h₁.n) #[] #[]] ++ captured) (h₁.push (.loop .ready none a ps assign body d)) with
          | some (_, h₂) =>
            match h₂.get h₁.n with
            | some (.loop .busy _ _ _ _ _ _) => none
            | some (.loop _ pending a' ps' assign' body' d') =>
              let h₃ := h₂.set h₁.n (.loop .exhausted pending a' ps' assign' body' d')
              let a₃ : AAct := { n := a.n, t := a.t, marks := mark ++ a.marks }
              match pending with
              | none => some (.normal, a₃, h₃)
              | some c => ex rd c a₃ h₃
            | _ => none
          | none => none
      | none => none
    | _ => none
  | none => none

def execStep (P : Program) (ex : Ex) (rd : Option Nat) (c : Code) (a : AAct) (h : AHeap) : Option Res :=
  match c with
  | .skip => some (.normal, a, h)
  | .region _ ops draw => (runRegion P ex ops draw a h).map fun (a', h') => (.normal, a', h')
  | .seq x y => match ex rd x a h with
    | some (.normal, a', h') => ex rd y a' h'
    | r => r
  | .cond x y z => match a.eval x with
    | .bool true => ex rd y a h
    | .bool false => ex rd z a h
    | _ => none
  | .block id b => match ex rd b a h with
    | some (.exit j, a', h') => match Nat.beq j id with
      | true => some (.normal, a', h')
      | false => some (.exit j, a', h')
    | r => r
  | .loop b => match ex rd b a h with
    | some (.normal, a', h') => ex rd (.loop b) a' h'
    | r => r
  | .rangeFunc f ps assign body => rangeBy P ex rd f ps assign body a h
  | .exit id => some (.exit id, a, h)
  | .ret => some (.ret, a, h)
  | .label _ => some (.normal, a, h)
  | .scope b => match ex rd b a h with
    | some (.goto _, _, _) => none
    | r => r
  | _ => none

abbrev Orc := FuncId → Array Value → AHeap → Option (Value × AHeap)
def exec (P : Program) (orc : Orc) (n : Nat) : Ex := Nat.rec (motive := fun _ => Ex) ⟨fun _ _ _ _ => none, orc⟩ (fun _ ih => ⟨execStep P ih, orc⟩) n
theorem exec_zero (P : Program) (orc : Orc) (rd : Option Nat) (c : Code) (a : AAct) (h : AHeap) : exec P orc 0 rd c a h = none := rfl
theorem exec_succ (P : Program) (orc : Orc) (n : Nat) (rd : Option Nat) (c : Code) (a : AAct) (h : AHeap) : exec P orc (n + 1) rd c a h = execStep P (exec P orc n) rd c a h := rfl

def call (P : Program) (orc : Orc) (n : Nat) (f : FuncId) (args : Array Value) (h : AHeap) : Option (Value × AHeap) := acallBy P (exec P orc n) f args h
end
end Go.Am
