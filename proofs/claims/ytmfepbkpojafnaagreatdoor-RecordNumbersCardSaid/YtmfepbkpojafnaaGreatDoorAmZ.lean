/-
  OWN WORK. 'Am', twenty-sixth text: code carried out on values that are not known: what is asked of them is collected.
-/
import Derived.Test.YtmfepbkpojafnaaGreatDoorAmY
namespace Go.Am
noncomputable section

/-- How an operation is carried out: as it is, or (1) by both truth values, (2) an index within a slice, (3) a number that a cell holds, (4) a store into a cell, (5) the next letter of a string, (6) a remainder, (7) a call by what is asked of it, (8) a byte of a string, (9) a new slice of so many elements, (10) an append for which there is no room. -/
abbrev Sy := Oper → Nat
/-- What is asked of calls that are known. -/
abbrev Asks := FuncId → Array Value → AHeap → (Value → AHeap → Prop) → Prop
def AsksOk (orc : Orc) (pc : Asks) : Prop := ∀ f args h k, pc f args h k → ∃ v h', orc f args h = some (v, h') ∧ k v h'

def intAt (c : List Value) (o : Nat) : Int := match c[o]? with
  | some (.int _ x) => x
  | _ => 0
def floatAt (c : List Value) (o : Nat) : Nat := match c[o]? with
  | some (.float _ x) => x
  | _ => 0

section
variable (P : Program) (ex : Ex) (sy : Sy) (pc : Asks) (ops : Array Oper)

def symSplit (o : Oper) (a : AAct) (h : AHeap) (k : Value → AHeap → Prop) : Prop :=
  match aop P o a.eval h with
  | some x => match doneBy P ex x h with
    | some (.bool b, h') => (b = true → k (.bool true) h') ∧ (b = false → k (.bool false) h')
    | _ => False
  | none => False
def symIndex (o : Oper) (a : AAct) (h : AHeap) (k : Value → AHeap → Prop) : Prop :=
  match o.op with
  | .indexAddr t x ix => match a.eval ix, pureRun P (underlying t), a.eval x with
    | .int _ j, some (.slice elem), .slice (some ⟨i, off, none⟩) len _ => match pureRun P (sizeOf elem) with
      | some s => ahasIndex j len = true ∧ k (.pointer (some ⟨i, off + j.toNat * s, none⟩)) h
      | none => False
    | _, _, _ => False
  | _ => False
def symLoad (o : Oper) (a : AAct) (h : AHeap) (k : Value → AHeap → Prop) : Prop :=
  match o.op with
  | .load t x => match a.eval x, pureRun P (isAgg t), pureRun P (underlying t) with
    | .pointer (some ⟨i, off, none⟩), some false, some (.int kd) => match h.get i with
      | some (.cells c _ _ _) => c[off]? = some (.int kd (intAt c off)) ∧ k (.int kd (intAt c off)) h
      | _ => False
    | .pointer (some ⟨i, off, none⟩), some false, some (.float kd) => match h.get i with
      | some (.cells c _ _ _) => c[off]? = some (.float kd (floatAt c off)) ∧ k (.float kd (floatAt c off)) h
      | _ => False
    | _, _, _ => False
  | _ => False
def symStore (o : Oper) (a : AAct) (h : AHeap) (k : Value → AHeap → Prop) : Prop :=
  match o.op with
  | .store t x y => match a.eval x, pureRun P (sizeOf t) with
    | .pointer (some ⟨i, off, none⟩), some s => match h.get i with
      | some (.cells c e row false) => match Nat.beq (a.eval y).cells.size s && (a.eval y).cells.toList.all Value.oneCell' with
        | true => Nat.ble (off + (a.eval y).cells.toList.length) c.length = true ∧ k undef (h.set i (.cells (splice c off (a.eval y).cells.toList) e row false))
        | false => False
      | _ => False
    | _, _ => False
  | _ => False
def symNext (o : Oper) (a : AAct) (h : AHeap) (k : Value → AHeap → Prop) : Prop :=
  match o.op with
  | .next it true => match a.eval it with
    | .pointer (some ⟨r, 0, none⟩) => match h.get r with
      | some (.iter s pos) => (Nat.blt pos s.size = true → k (.tuple #[.bool true, goInt pos, .int .i32 (Utf8.decode s pos).1]) (h.set r (.iter s (pos + (Utf8.decode s pos).2)))) ∧ (Nat.blt pos s.size = false → k (.tuple #[.bool false]) h)
      | _ => False
    | _ => False
  | _ => False
def symRem (o : Oper) (a : AAct) (h : AHeap) (k : Value → AHeap → Prop) : Prop :=
  match o.op with
  | .binOp .rem _ x y _ => match a.eval x, a.eval y with
    | .int kd m, .int kd' n => match Nat.beq (kN kd) (kN kd') with
      | true => n ≠ 0 ∧ k (.int kd (m.tmod n)) h
      | false => False
    | _, _ => False
  | _ => False
def symCall (o : Oper) (a : AAct) (h : AHeap) (k : Value → AHeap → Prop) : Prop :=
  match aop P o a.eval h with
  | some (.enter f args) => pc f args h k
  | _ => False
def byteAt (s : ByteArray) (i : Nat) : Int := match s[i]? with
  | some b => b.toNat
  | none => 0
def symByte (o : Oper) (a : AAct) (h : AHeap) (k : Value → AHeap → Prop) : Prop :=
  match o.op with
  | .index t x ix => match a.eval x, a.eval ix, pureRun P (underlying t) with
    | .string s, .int _ j, some .string => ahasIndex j s.size = true ∧ k (.int .u8 (byteAt s j.toNat)) h
    | _, _, _ => False
  | _ => False
def symMake (o : Oper) (a : AAct) (h : AHeap) (k : Value → AHeap → Prop) : Prop :=
  match o.op with
  | .makeSlice t l c => match a.eval l, a.eval c, pureRun P (underlying t) with
    | .int .i64 (.ofNat q), .int .i64 (.ofNat q'), some (.slice elem) => match pureRun P (typeInfo elem), pureRun P (sizeOf elem), pureRun P (zeroValue elem) with
      | some info, some 1, some z => match z.cells.toList with
        | [z0] => match Nat.ble (info.bytes * 65536) 281474976710656 && flat 2 z0 with
          | true => q' = q ∧ Nat.ble q 65536 = true ∧ k (.slice (some ⟨h.n, 0, none⟩) q q) (newCells h (List.replicate q z0) elem 2)
          | false => False
        | _ => False
      | _, _, _ => False
    | _, _, _ => False
  | _ => False
def symAppend (o : Oper) (a : AAct) (h : AHeap) (k : Value → AHeap → Prop) : Prop :=
  match o.op with
  | .call c => match c.callee with
    | .builtin .append => match (c.argTypes[0]? : Option TypeId), ((c.args.map a.eval)[0]? : Option Value), ((c.args.map a.eval)[1]? : Option Value) with
      | some sType, some (.slice (some ⟨i, 0, none⟩) sLen sCap), some x => match pureRun P (underlying sType) with
        | some (.slice elem) => match pureRun P (sizeOf elem), pureRun P (typeInfo elem), pureRun P (zeroValue elem) with
          | some size, some info, some z => match anews P h elem size c.argTypes[1]? x, h.get i with
            | some (m + 1, news), some (.cells cs e row false) => match Nat.beq z.cells.size size && Nat.blt 0 info.bytes && Nat.beq row (size + 1) && Nat.beq e elem && news.all Value.oneCell' with
              | true => Nat.ble (sLen + (m + 1)) sCap = false ∧ Nat.ble ((2 * (sLen + (m + 1)) + 256) * info.bytes) 281474976710656 = true ∧ sLen * size = cs.length ∧
                  k (.slice (some ⟨h.n, 0, none⟩) (sLen + (m + 1)) (sLen + (m + 1))) (newCells (h.set i .dead) (cs ++ news) elem (size + 1))
              | false => False
            | _, _ => False
          | _, _, _ => False
        | _ => False
      | _, _, _ => False
    | _ => False
  | _ => False
def symOp (n : Nat) (o : Oper) (a : AAct) (h : AHeap) (k : Value → AHeap → Prop) : Prop :=
  match n with
  | 1 => symSplit P ex o a h k
  | 2 => symIndex P o a h k
  | 3 => symLoad P o a h k
  | 4 => symStore P o a h k
  | 5 => symNext o a h k
  | 6 => symRem o a h k
  | 7 => symCall P pc o a h k
  | 8 => symByte P o a h k
  | 9 => symMake P o a h k
  | 10 => symAppend P o a h k
  | _ => False
def opC (o : Oper) (a : AAct) (h : AHeap) (k : Value → AHeap → Prop) : Prop :=
  match dstOk o a with
  | false => False
  | true => match Region.wanted o (ayielded ops a) with
    | false => k undef h
    | true => match sy o with
      | 0 => match aop P o a.eval h with
        | some x => match doneBy P ex x h with
          | some (v, h') => k v h'
          | none => False
        | none => False
      | n + 1 => symOp P ex pc (n + 1) o a h k
def runOpsC (l : List Oper) : AAct → AHeap → (AAct → AHeap → Prop) → Prop :=
  List.rec (motive := fun _ => AAct → AHeap → (AAct → AHeap → Prop) → Prop) (fun a h k => k a h)
    (fun o _ ih a h k => opC P ex sy pc ops o a h fun v h' => ih (a.put o.dst v) h' k) l
/-- An operation that does not look at the heap. -/
def simple (o : Oper) : Bool :=
  match o.op with
  | .move _ | .assign _ | .pick .. | .build .. | .nilCheck _ | .binOp .. | .unOp .. | .fieldAddr .. | .indexAddr .. | .index .. | .field .. | .extract .. => true
  | _ => false
/-- A value that is equal to itself by its looks. -/
def sameA : Value → Bool
  | .bool _ | .int _ _ | .float _ _ | .complex _ _ _ | .string _ | .nilFunc | .nilIface | .pointer _ | .slice _ _ _ | .map _ | .chan _ => true
  | _ => false
def sameV : Value → Bool
  | .agg a => a.toList.all sameA
  | .tuple a => a.toList.all sameA
  | a => sameA a
def stillsC (W : List Pend) (h : AHeap) (cont : Prop) : Prop :=
  List.rec (motive := fun _ => Prop) cont (fun p _ ih =>
    match Region.wanted p.o (ayielded ops p.a) with
    | false => ih
    | true => match p.new with
      | some (id, obj) => match h.get id, obj with
        | some (.cells c e row ro), .cells c₂ e₂ row₂ ro₂ => match c₂.all sameA && Nat.beq e e₂ && Nat.beq row row₂ && (ro == ro₂) with
          | true => c = c₂ ∧ ih
          | false => False
        | _, _ => False
      | none => match simple p.o && sameV p.v with
        | true => ih
        | false => match aop P p.o p.a.eval h with
          | some (.val v h'') => match Nat.beq h''.n h.n && sameV p.v with
            | true => v = p.v ∧ ih
            | false => False
          | _ => False) W
def runDrawC (bs : List Nat) : Nat → Array Bool → List Pend → AAct → AHeap → (AAct → AHeap → Prop) → Prop
  | 0, _, _, _, _, _ => False
  | n + 1, listed, W, a, h, k =>
    match pickNext ops (Region.ready .any ops listed) with
    | none => False
    | some none => k a h
    | some (some i) =>
      match ops[i]? with
      | none => False
      | some o => opC P ex sy pc ops o a h fun v h' =>
          match eager o with
          | true =>
            match Nat.beq h'.n h.n with
            | true => runDrawC bs n (listed.setIfInBounds i true) ({ i, o, a, v, new := none } :: W) (a.put o.dst v) h' k
            | false => match Nat.beq h'.n (h.n + 1), h'.get h.n with
              | true, some obj => match maker o obj with
                | true => stillsC P ops W h' <| runDrawC bs n (listed.setIfInBounds i true) ({ i, o, a, v, new := some (h.n, obj) } :: W) (a.put o.dst v) h' k
                | false => False
              | _, _ => False
          | false =>
            let W' := W.filter fun p => !(bs.getD i 0).testBit p.i
            stillsC P ops W' h' (runDrawC bs n (listed.setIfInBounds i true) W' (a.put o.dst v) h' k)
def runRegionC (draw : Bool) (a : AAct) (h : AHeap) (k : AAct → AHeap → Prop) : Prop :=
  match constsOk P ops, draw with
  | false, _ => False
  | true, false => runOpsC P ex sy pc ops ops.toList a h k
  | true, true => match orderly ops with
    | true => runDrawC P ex sy pc ops (befs ops.toList []) (ops.size + 1) (Array.replicate ops.size false) [] a h k
    | false => False
end

/-- What a loop comes to: by the number of its block; what a region comes to, by its number. -/
structure Loops (P : Program) where
  body : Nat → Code
  spec : Nat → AAct → AHeap → Post → Prop
  ok : ∀ i a h k, spec i a h k → J P (.loop (body i)) a h k
  reg : Nat → Option Code := fun _ => none
  rspec : Nat → AAct → AHeap → Post → Prop := fun _ _ _ _ => False
  rok : ∀ i c a h k, reg i = some c → rspec i a h k → J P c a h k := by intro i c a h k _ q; exact False.elim q

section
variable (P : Program) (ex : Ex) (sy : Sy) (pc : Asks) (L : Loops P)
def stepC (ih : Code → AAct → AHeap → Post → Prop) (c : Code) (a : AAct) (h : AHeap) (k : Post) : Prop :=
  match c with
  | .skip => k .normal a h
  | .region id ops draw => match L.reg id with
    | some c' => Code.region id ops draw = c' ∧ L.rspec id a h k
    | none => runRegionC P ex sy pc ops draw a h fun a' h' => k .normal a' h'
  | .seq x y => ih x a h fun e a' h' => match e with
    | .normal => ih y a' h' k
    | e => k e a' h'
  | .cond x y z => match a.eval x with
    | .bool true => ih y a h k
    | .bool false => ih z a h k
    | _ => False
  | .block id b =>
    let k' : Post := fun e a' h' => match e with
      | .exit j => match Nat.beq j id with
        | true => k .normal a' h'
        | false => k (.exit j) a' h'
      | e => k e a' h'
    match b with
    | .loop c => c = L.body id ∧ L.spec id a h k'
    | b => ih b a h k'
  | .exit id => k (.exit id) a h
  | .ret => k .ret a h
  | .label _ => k .normal a h
  | _ => False
def execC (n : Nat) : Code → AAct → AHeap → Post → Prop := Nat.rec (motive := fun _ => Code → AAct → AHeap → Post → Prop) (fun _ _ _ _ => False) (fun _ ih => stepC P ex sy pc L ih) n
end

section
variable {P : Program} {ex : Ex} {sy : Sy} {pc : Asks} {ops : Array Oper} {o : Oper} {a : AAct} {h : AHeap}
theorem symOp_ok (hpc : AsksOk ex.orc pc) {n : Nat} {k : Value → AHeap → Prop} (hk : symOp P ex pc n o a h k) : ∃ x v h', aop P o a.eval h = some x ∧ doneBy P ex x h = some (v, h') ∧ k v h' := by
  unfold symOp at hk
  split at hk
  · unfold symSplit at hk
    split at hk
    · rename_i x hx
      split at hk
      · rename_i b h' hd
        cases b with
        | true => exact ⟨x, _, h', hx, hd, hk.1 rfl⟩
        | false => exact ⟨x, _, h', hx, hd, hk.2 rfl⟩
      · exact hk.elim
    · exact hk.elim
  · unfold symIndex at hk
    split at hk
    · rename_i t x ix hop
      split at hk
      · rename_i kd j elem i off len cap h1 h2 h3
        split at hk
        · rename_i s hs
          refine ⟨.val _ _, _, _, ?_, rfl, hk.2⟩
          simp only [aop, hop, aindex, h1, h2, h3, hs, hk.1, valOf, Option.map_some]
        · exact hk.elim
      · exact hk.elim
    · exact hk.elim
  · unfold symLoad at hk
    split at hk
    · rename_i t x hop
      split at hk
      · rename_i i off kd h1 h2 h3
        split at hk
        · rename_i c e row ro hg
          refine ⟨.val _ _, _, _, ?_, rfl, hk.2⟩
          simp only [aop, hop, aload, h1, h2, hg, hk.1, valOf, Option.map_some]
        · exact hk.elim
      · rename_i i off kd h1 h2 h3
        split at hk
        · rename_i c e row ro hg
          refine ⟨.val _ _, _, _, ?_, rfl, hk.2⟩
          simp only [aop, hop, aload, h1, h2, hg, hk.1, valOf, Option.map_some]
        · exact hk.elim
      · exact hk.elim
    · exact hk.elim
  · unfold symStore at hk
    split at hk
    · rename_i t x y hop
      split at hk
      · rename_i i off s h1 h2
        split at hk
        · rename_i c e row hg
          split at hk
          · rename_i hc
            simp only [Bool.and_eq_true] at hc
            refine ⟨.val _ _, _, _, ?_, rfl, hk.2⟩
            simp only [aop, hop, astore, wcells, h1, h2, hg, hc.1, hc.2, hk.1, skipOf, Option.map_some, Bool.not_false, Bool.and_self]
          · exact hk.elim
        · exact hk.elim
      · exact hk.elim
    · exact hk.elim
  · unfold symNext at hk
    split at hk
    · rename_i it hop
      split at hk
      · rename_i r h1
        split at hk
        · rename_i s pos hg
          cases hb : Nat.blt pos s.size with
          | true =>
            refine ⟨.val _ _, _, _, ?_, rfl, hk.1 hb⟩
            simp only [aop, hop, anext, h1, hg, hb]
          | false =>
            refine ⟨.val _ _, _, _, ?_, rfl, hk.2 hb⟩
            simp only [aop, hop, anext, h1, hg, hb]
        · exact hk.elim
      · exact hk.elim
    · exact hk.elim
  · unfold symRem at hk
    split at hk
    · rename_i t x y b hop
      split at hk
      · rename_i kd m kd' n h1 h2
        split at hk
        · rename_i hb
          obtain rfl := kN_eq hb
          refine ⟨.val _ _, _, _, ?_, rfl, hk.2⟩
          have e1 : fbin .rem kd kd m n = none := by simp [fbin]
          have e2 : pureRun P (execOp a.eval o) = some (.value (.int kd (m.tmod n))) := by
            simp [execOp, hop, h1, h2, eqGuard, binOp, Op.intDiv, hk.1]
            rfl
          have e3 : (o.op.operands.toList.all fun x => flat 3 (a.eval x)) = true := by
            simp [hop, Op.operands, h1, h2, flat, atomB]
          simp only [aop, hop, h1, h2, e1, aflat, e2]
          rw [hop] at e3
          simp only [e3]
          rfl
        · exact hk.elim
      · exact hk.elim
    · exact hk.elim
  · unfold symCall at hk
    split at hk
    · rename_i f args hx
      obtain ⟨v, h', ho, hk⟩ := hpc f args h k hk
      exact ⟨_, v, h', hx, by simp only [doneBy, acallBy, ho], hk⟩
    · exact hk.elim
  · unfold symByte at hk
    split at hk
    · rename_i t x ix hop
      split at hk
      · rename_i s kd j h1 h2 h3
        refine ⟨.val _ _, _, _, ?_, rfl, hk.2⟩
        have hj : ∃ m : Nat, j = Int.ofNat m ∧ m < s.size := by
          have := hk.1
          unfold ahasIndex at this
          split at this
          · rename_i m; exact ⟨m, rfl, by simpa [Nat.blt_eq] using this⟩
          · cases this
        obtain ⟨m, rfl, hm⟩ := hj
        have hb : s[m]? = some s[m] := getElem?_pos s m hm
        have e2 : pureRun P (execOp a.eval o) = some (.value (.int .u8 (byteAt s m))) := by
          have e0 : pureRun P (Instr.index t (.string s) (.int kd (Int.ofNat m))) = some (.int .u8 (byteAt s m)) := by
            unfold Instr.index
            simp only [asIntOf, pure_bind, pureRun_bind, h3, Option.bind_some]
            rw [if_pos (by simp)]
            simp only [Int.ofNat_eq_natCast, Int.toNat_natCast, hb, pureRun_pure, byteAt]
          simp only [execOp, hop, h1, h2]
          rw [pureRun_bind, e0]
          rfl
        have e3 : (o.op.operands.toList.all fun x => flat 3 (a.eval x)) = true := by
          simp [hop, Op.operands, h1, h2, flat, atomB]
        simp only [aop, hop, aflat, e2]
        rw [hop] at e3
        simp only [e3]
        rfl
      · exact hk.elim
    · exact hk.elim
  · unfold symMake at hk
    split at hk
    · rename_i t l c hop
      split at hk
      · rename_i q q' elem h1 h2 h3
        split at hk
        · rename_i info z hi hs hz
          split at hk
          · rename_i z0 hz0
            split at hk
            · rename_i hb
              obtain ⟨rfl, hq, hk⟩ := hk
              simp only [Bool.and_eq_true, Nat.ble_eq] at hb hq
              refine ⟨.val _ _, _, _, ?_, rfl, hk⟩
              have hzz : z.cells = #[z0] := Array.toList_inj.1 hz0
              have hbytes : Nat.ble (info.bytes * q') 281474976710656 = true := by
                rw [Nat.ble_eq]
                exact Nat.le_trans (Nat.mul_le_mul_left _ hq) hb.1
              have hq2 : Nat.ble q' 1048576 = true := by rw [Nat.ble_eq]; omega
              have hself : Nat.ble q' q' = true := by rw [Nat.ble_eq]; exact Nat.le_refl _
              simp only [aop, hop, amakeSlice, h1, h2, h3, hi, hs, hbytes, hq2, hself, Bool.and_self, Nat.mul_one]
              by_cases h0 : q' = 0
              · subst h0
                simp [pureRun_pure]
              · rw [if_neg h0]
                have e1 : pureRun P (do pure (← zeroValue elem).cells : Sem (Array Value)) = some #[z0] := by
                  rw [pureRun_bind, hz]
                  simp only [Option.bind_some, pureRun_pure, hzz]
                rw [e1]
                simp only [List.all_cons, List.all_nil, hb.2, Bool.and_self]
                have e2 : ((Array.range q').map fun x => (#[z0] : Array Value)[x % (#[z0] : Array Value).size]!).toList = List.replicate q' z0 := by
                  rw [Array.toList_map, List.eq_replicate_iff]
                  refine ⟨by simp, fun b hb' => ?_⟩
                  obtain ⟨x, _, rfl⟩ := List.mem_map.1 hb'
                  simp [Nat.mod_one]
                rw [e2]
            · exact hk.elim
          · exact hk.elim
        · exact hk.elim
      · exact hk.elim
    · exact hk.elim
  · unfold symAppend at hk
    split at hk
    · rename_i c hop
      split at hk
      · rename_i hcal
        split at hk
        · rename_i sType i sLen sCap x h1 h2 h3
          split at hk
          · rename_i elem hu
            split at hk
            · rename_i size info z hs hi hz
              split at hk
              · rename_i m news cs e row hn hg
                split at hk
                · rename_i hb
                  simp only [Bool.and_eq_true, Nat.beq_eq] at hb
                  obtain ⟨⟨⟨⟨b1, b2⟩, b3⟩, b4⟩, b5⟩ := hb
                  obtain ⟨k1, k2, k3, hk⟩ := hk
                  refine ⟨.val _ _, _, _, ?_, rfl, hk⟩
                  have hr : rcells h (some ⟨i, 0, none⟩) (sLen * size) = some cs := by
                    rw [k3]
                    unfold rcells
                    split
                    · rename_i hz
                      rw [List.length_eq_zero_iff.1 hz]
                    · rename_i n hz
                      simp only [hg]
                      rw [show Nat.ble (0 + (n + 1)) cs.length = true by rw [Nat.ble_eq, hz]; omega]
                      simp only [List.drop_zero]
                      rw [show n + 1 = cs.length from hz.symm, List.take_length]
                  have hrow : Nat.beq row 0 = false := by
                    rw [b3, Tr.beq_eq]
                    simp
                  have hre : (Nat.beq row (size + 1) && Nat.beq e elem && !false && news.all Value.oneCell') = true := by
                    rw [b3, b4, b5]
                    simp
                  have hsz : Nat.beq z.cells.size size = true := by rw [b1]; simp
                  simp only [aop, hop, acall, hcal, aappend, h1, h2, h3, hu, hs, hi, hn, k1, b2, k2, hz, hr, hg, Bool.and_self, hsz, hrow, hre]
                  rfl
                · exact hk.elim
              · exact hk.elim
            · exact hk.elim
          · exact hk.elim
        · exact hk.elim
      · exact hk.elim
    · exact hk.elim
  · exact hk.elim
theorem opC_ok (hpc : AsksOk ex.orc pc) {k : Value → AHeap → Prop} (hk : opC P ex sy pc ops o a h k) : ∃ v h', opBy P ex ops o a h = some (v, h') ∧ k v h' := by
  unfold opC at hk
  unfold opBy
  split at hk
  · exact hk.elim
  · rename_i hd
    rw [hd]
    split at hk
    · rename_i hw
      exact ⟨_, _, by simp only [hw], hk⟩
    · rename_i hw
      split at hk
      · split at hk
        · rename_i x hx
          split at hk
          · rename_i v h' hv
            exact ⟨v, h', by simp only [hw, hx, hv], hk⟩
          · exact hk.elim
        · exact hk.elim
      · obtain ⟨x, v, h', hx, hv, hk⟩ := symOp_ok hpc hk
        exact ⟨v, h', by simp only [hw, hx, hv], hk⟩
theorem runOpsC_ok (hpc : AsksOk ex.orc pc) {k : AAct → AHeap → Prop} : ∀ {l : List Oper} {a : AAct} {h : AHeap}, runOpsC P ex sy pc ops l a h k → ∃ a' h', runOps P ex ops l a h = some (a', h') ∧ k a' h'
  | [], a, h, hk => ⟨a, h, rfl, hk⟩
  | o :: l, a, h, hk => by
    have hk : opC P ex sy pc ops o a h fun v h' => runOpsC P ex sy pc ops l (a.put o.dst v) h' k := hk
    obtain ⟨v, h', ho, hk⟩ := opC_ok hpc hk
    obtain ⟨a₂, h₂, hr, hk⟩ := runOpsC_ok hpc hk
    exact ⟨a₂, h₂, by rw [runOps_cons, ho]; exact hr, hk⟩
theorem sameA_refl {v : Value} (hv : sameA v = true) : beqA v v = true := by
  cases v <;> simp [sameA] at hv <;> simp [beqA]
theorem sameA_refl' {v : Value} (hv : sameA v = true) : beqV v v = true := by
  have h1 := sameA_refl hv
  cases v <;> simp [sameA] at hv <;> simpa [beqV] using h1
theorem sames_refl : ∀ {l : List Value}, l.all sameA = true → beqVs l l = true
  | [], _ => rfl
  | x :: l, h => by
    simp only [List.all_cons, Bool.and_eq_true] at h
    simp only [beqVs, Bool.and_eq_true]
    exact ⟨sameA_refl' h.1, sames_refl h.2⟩
theorem sameV_refl {v : Value} (hv : sameV v = true) : beqD v v = true := by
  cases v <;> first
    | exact sames_refl hv
    | (have h' := hv; simp only [sameV] at h'; have h2 := sameA_refl' h'; unfold beqD; exact h2)
    | (simp [sameV, sameA] at hv)
theorem aflat_of (ev : Operand → Value) : ∃ r : Option Value, ∀ h, aflat P o ev h = r.map (ANext.val · h) := by
  unfold aflat
  split
  · split
    · split
      · exact ⟨some _, fun _ => rfl⟩
      · exact ⟨none, fun _ => rfl⟩
    · exact ⟨none, fun _ => rfl⟩
  · exact ⟨none, fun _ => rfl⟩
theorem simple_of (hs : simple o = true) (ev : Operand → Value) : ∃ r : Option Value, ∀ h, aop P o ev h = r.map (ANext.val · h) := by
  unfold simple at hs
  split at hs
  · rename_i hop; exact ⟨some _, fun _ => by simp only [aop, hop]; rfl⟩
  · rename_i hop; exact ⟨some _, fun _ => by simp only [aop, hop]; rfl⟩
  · rename_i c x y hop
    cases hc : ev c with
    | bool t => exact ⟨some (if t then ev x else ev y), fun _ => by simp only [aop, hop, hc]; rfl⟩
    | _ => exact ⟨none, fun _ => by simp only [aop, hop, hc]; rfl⟩
  · rename_i hop; exact ⟨_, fun _ => by simp only [aop, hop]; rfl⟩
  · rename_i x hop
    by_cases hx : ∃ v, ∀ h : AHeap, (match ev x with
      | .pointer (some a) => some (ANext.val (.pointer (some a)) h)
      | .func (.func f) first captured => some (.val (.func (.func f) first captured) h)
      | .func (.yield f) first captured => some (.val (.func (.yield f) first captured) h)
      | _ => none) = some (.val v h)
    · obtain ⟨v, hv⟩ := hx
      exact ⟨some v, fun h => by simp only [aop, hop]; exact hv h⟩
    · refine ⟨none, fun h => ?_⟩
      simp only [aop, hop]
      split
      · rename_i a ha; exact (hx ⟨_, fun h => by rw [ha]⟩).elim
      · rename_i f first cap ha; exact (hx ⟨_, fun h => by rw [ha]⟩).elim
      · rename_i f first cap ha; exact (hx ⟨_, fun h => by rw [ha]⟩).elim
      · rfl
  · rename_i bop t x y b hop
    obtain ⟨r, hr⟩ := aflat_of (P := P) (o := o) ev
    by_cases hi : ∃ k m k' n, ev x = .int k m ∧ ev y = .int k' n
    · obtain ⟨k, m, k', n, h1, h2⟩ := hi
      cases hf : fbin bop k k' m n with
      | some v => exact ⟨some v, fun h => by simp only [aop, hop, h1, h2, hf]; rfl⟩
      | none => exact ⟨r, fun h => by simp only [aop, hop, h1, h2, hf]; exact hr h⟩
    · cases hf : anil P bop t (ev x) (ev y) with
      | some v =>
        refine ⟨some v, fun h => ?_⟩
        simp only [aop, hop]
        split
        · rename_i h1 h2; exact (hi ⟨_, _, _, _, h1, h2⟩).elim
        · rw [hf]; rfl
      | none =>
        refine ⟨r, fun h => ?_⟩
        simp only [aop, hop]
        split
        · rename_i h1 h2; exact (hi ⟨_, _, _, _, h1, h2⟩).elim
        · rw [hf]; exact hr h
  · rename_i hop
    obtain ⟨r, hr⟩ := aflat_of (P := P) (o := o) ev
    exact ⟨r, fun h => by simp only [aop, hop]; exact hr h⟩
  · rename_i hop; exact ⟨_, fun _ => by simp only [aop, hop]; rfl⟩
  · rename_i hop; exact ⟨_, fun _ => by simp only [aop, hop]; rfl⟩
  · rename_i hop
    obtain ⟨r, hr⟩ := aflat_of (P := P) (o := o) ev
    exact ⟨r, fun h => by simp only [aop, hop]; exact hr h⟩
  · rename_i hop; exact ⟨_, fun _ => by simp only [aop, hop]; rfl⟩
  · rename_i hop; exact ⟨_, fun _ => by simp only [aop, hop]; rfl⟩
  · cases hs
theorem simple_val {ev : Operand → Value} {v : Value} {h₁ : AHeap} (hs : simple o = true) (hx : aop P o ev h = some (.val v h₁)) (h' : AHeap) : aop P o ev h' = some (.val v h') := by
  obtain ⟨r, hr⟩ := simple_of (P := P) hs ev
  rw [hr] at hx ⊢
  cases r with
  | none => cases hx
  | some u => cases hx; rfl
/-- Of what was carried out ahead and does not look at the heap: that it was so. -/
def Ahead (P : Program) (ops : Array Oper) (p : Pend) : Prop := p.new = none → simple p.o = true → Region.wanted p.o (ayielded ops p.a) = true → ∃ h₀ h₁, aop P p.o p.a.eval h₀ = some (.val p.v h₁)
theorem stillsC_ok {cont : Prop} : ∀ {W : List Pend}, (∀ p ∈ W, Ahead P ops p) → stillsC P ops W h cont → W.all (still P ops · h) = true ∧ cont
  | [], _, hk => ⟨rfl, hk⟩
  | p :: W, hA, hk => by
    have hA' : ∀ q ∈ W, Ahead P ops q := fun q hq => hA q (by simp [hq])
    have hk : (match Region.wanted p.o (ayielded ops p.a) with
      | false => stillsC P ops W h cont
      | true => match p.new with
        | some (id, obj) => match h.get id, obj with
          | some (.cells c e row ro), .cells c₂ e₂ row₂ ro₂ => match c₂.all sameA && Nat.beq e e₂ && Nat.beq row row₂ && (ro == ro₂) with
            | true => c = c₂ ∧ stillsC P ops W h cont
            | false => False
          | _, _ => False
        | none => match simple p.o && sameV p.v with
          | true => stillsC P ops W h cont
          | false => match aop P p.o p.a.eval h with
            | some (.val v h'') => match Nat.beq h''.n h.n && sameV p.v with
              | true => v = p.v ∧ stillsC P ops W h cont
              | false => False
            | _ => False) := hk
    have one : still P ops p h = true ∧ stillsC P ops W h cont := by
      unfold still
      split at hk
      · rename_i hw
        exact ⟨by simp only [hw], hk⟩
      · rename_i hw
        simp only [hw]
        split at hk
        · rename_i id obj hn
          simp only [hn]
          split at hk
          · rename_i c e row ro c₂ e₂ row₂ ro₂ hg
            simp only [hg]
            split at hk
            · rename_i hb
              simp only [Bool.and_eq_true, Nat.beq_eq, beq_iff_eq] at hb
              obtain ⟨rfl, hk⟩ := hk
              obtain ⟨⟨⟨h1, rfl⟩, rfl⟩, rfl⟩ := hb
              refine ⟨?_, hk⟩
              simp only [beqO, Bool.and_eq_true, sames_refl h1, beq_self_eq_true, and_self]
            · exact hk.elim
          · exact hk.elim
        · rename_i hn
          simp only [hn]
          split at hk
          · rename_i hs
            simp only [Bool.and_eq_true] at hs
            obtain ⟨h₀, h₁, hx⟩ := hA p (by simp) hn hs.1 hw
            rw [simple_val hs.1 hx h]
            refine ⟨?_, hk⟩
            simp [sameV_refl hs.2]
          · split at hk
            · rename_i v h'' hx
              split at hk
              · rename_i hb
                simp only [Bool.and_eq_true] at hb
                obtain ⟨rfl, hk⟩ := hk
                refine ⟨?_, hk⟩
                rw [hx]
                simp only [sameV_refl hb.2, hb.1, Bool.and_self]
              · exact hk.elim
            · exact hk.elim
    obtain ⟨h1, h2⟩ := one
    obtain ⟨h3, h4⟩ := stillsC_ok hA' h2
    exact ⟨by simp only [List.all_cons, h1, h3, Bool.and_self], h4⟩
theorem opC_ahead {a : AAct} {v : Value} {h' : AHeap} (ho : opBy P ex ops o a h = some (v, h')) (i : Nat) (new : Option (Nat × AObj)) : Ahead P ops { i, o, a, v, new } := by
  intro _ hs hw
  simp only at hs hw ⊢
  unfold opBy at ho
  split at ho
  · rw [hw] at ho
    simp only at ho
    split at ho
    · rename_i x hx
      obtain ⟨r, hr⟩ := simple_of (P := P) hs a.eval
      rw [hr] at hx
      cases r with
      | none => cases hx
      | some u => cases hx; cases ho; exact ⟨h, _, hr h⟩
    · cases ho
  · cases ho
theorem runDrawC_ok (hpc : AsksOk ex.orc pc) {k : AAct → AHeap → Prop} {bs : List Nat} : ∀ {n : Nat} {listed : Array Bool} {W : List Pend} {a : AAct} {h : AHeap}, (∀ p ∈ W, Ahead P ops p) → runDrawC P ex sy pc ops bs n listed W a h k → ∃ a' h', runDraw P ex ops bs n listed W a h = some (a', h') ∧ k a' h'
  | 0, _, _, _, _, _, hk => hk.elim
  | n + 1, listed, W, a, h, hA, hk => by
    simp only [runDrawC] at hk
    simp only [runDraw]
    split at hk
    · exact hk.elim
    · rename_i hp
      rw [hp]
      exact ⟨a, h, rfl, hk⟩
    · rename_i i hp
      rw [hp]
      split at hk
      · exact hk.elim
      · rename_i o ho
        simp only [ho]
        obtain ⟨v, h', hv, hk⟩ := opC_ok hpc hk
        have grow : ∀ new, ∀ p ∈ ({ i, o, a, v, new } : Pend) :: W, Ahead P ops p := fun new p hp => by
          rcases List.mem_cons.1 hp with rfl | hp
          · exact opC_ahead hv i new
          · exact hA p hp
        simp only [hv]
        split at hk
        · rename_i he
          simp only [he]
          split at hk
          · rename_i hn
            simp only [hn]
            exact runDrawC_ok hpc (grow _) hk
          · rename_i hn
            simp only [hn]
            split at hk
            · rename_i obj h1 h2
              simp only [h1, h2]
              split at hk
              · rename_i hc
                obtain ⟨h3, hk⟩ := stillsC_ok hA hk
                simp only [hc, h3, Bool.and_self]
                exact runDrawC_ok hpc (grow _) hk
              · exact hk.elim
            · exact hk.elim
        · rename_i he
          simp only [he]
          have hA' : ∀ p ∈ W.filter (fun p => !(bs.getD i 0).testBit p.i), Ahead P ops p := fun p hp => hA p (List.mem_filter.1 hp).1
          obtain ⟨h3, hk⟩ := stillsC_ok hA' hk
          simp only [h3]
          exact runDrawC_ok hpc hA' hk
theorem runRegionC_ok (hpc : AsksOk ex.orc pc) {draw : Bool} {k : AAct → AHeap → Prop} (hk : runRegionC P ex sy pc ops draw a h k) : ∃ a' h', runRegion P ex ops draw a h = some (a', h') ∧ k a' h' := by
  unfold runRegionC at hk
  unfold runRegion
  split at hk
  · exact hk.elim
  · rename_i hc
    simp only [hc]
    exact runOpsC_ok hpc hk
  · rename_i hc
    simp only [hc]
    split at hk
    · rename_i ho
      simp only [ho]
      exact runDrawC_ok hpc (fun p hp => by cases hp) hk
    · exact hk.elim
theorem onBlock_eq (id : Nat) (k : Post) (e : Exit) (a : AAct) (h : AHeap) (hk : match e with
    | .exit j => match Nat.beq j id with
      | true => k .normal a h
      | false => k (.exit j) a h
    | e => k e a h) : onBlock id k e a h := by
  cases e with
  | exit j =>
    simp only [onBlock]
    simp only at hk
    split at hk
    · rename_i hj
      rw [if_pos (by simpa using hj)]
      exact hk
    · rename_i hj
      rw [if_neg (by intro e; subst e; simp at hj)]
      exact hk
  | _ => exact hk
theorem exec_orc (orc : Orc) (m : Nat) : (exec P orc m).orc = orc := by cases m <;> rfl
theorem execC_ok {orc : Orc} (hm : P.follows .mixedOrders = true) (ho : OrcOk P orc) {m : Nat} {sy : Sy} {pc : Asks} (hpc : AsksOk orc pc) (L : Loops P) : ∀ {n : Nat} {c : Code} {a : AAct} {h : AHeap} {k : Post}, execC P (exec P orc m) sy pc L n c a h k → J P c a h k
  | 0, _, _, _, _, hk => hk.elim
  | n + 1, c, a, h, k, hk => by
    have hk : stepC P (exec P orc m) sy pc L (execC P (exec P orc m) sy pc L n) c a h k := hk
    cases c with
    | skip => exact .skip hk
    | region id ops draw =>
      simp only [stepC] at hk
      split at hk
      · rename_i c' hc
        rw [hk.1]
        exact L.rok id c' a h k hc hk.2
      · obtain ⟨a', h', hr, hk⟩ := runRegionC_ok (by rw [exec_orc]; exact hpc) hk
        exact .region hm ho hr hk
    | seq x y =>
      refine .seq ((execC_ok hm ho hpc L (show execC P (exec P orc m) sy pc L n x a h _ from hk)).mono fun e a' h' q => ?_)
      cases e with
      | normal => exact execC_ok hm ho hpc L q
      | _ => exact q
    | cond x y z =>
      simp only [stepC] at hk
      split at hk
      · rename_i hb
        exact .cond hb (fun _ => execC_ok hm ho hpc L hk) fun e => by cases e
      · rename_i hb
        exact .cond hb (fun e => by cases e) fun _ => execC_ok hm ho hpc L hk
      · exact hk.elim
    | block id b =>
      simp only [stepC] at hk
      split at hk
      · rename_i c
        obtain ⟨rfl, hk⟩ := hk
        exact .block ((L.ok id a h _ hk).mono fun e a' h' q => onBlock_eq id k e a' h' q)
      · exact .block ((execC_ok hm ho hpc L hk).mono fun e a' h' q => onBlock_eq id k e a' h' q)
    | exit id => exact .exit hk
    | ret => exact .ret hk
    | label l => exact .label hk
    | _ => exact False.elim hk
end
end
end Go.Am
