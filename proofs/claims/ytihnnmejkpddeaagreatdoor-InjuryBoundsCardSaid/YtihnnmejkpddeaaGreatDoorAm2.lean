/-
  OWN WORK. 'Am': that each operation does what the machine says (integers, strings, maps, slices, calls).
-/
import Derived.Test.YtihnnmejkpddeaaGreatDoorAm1
import Derived.IntWalk
import Derived.Laws.Append
namespace Go.Am
theorem underlying_of {P : Program} {t : TypeId} {d : TypeDesc} (h : pureRun P (underlying t) = some d) : P.underlying t = some d := by
 have : pureRun P (underlying t) = P.underlying t := by
  simp only [underlying, program]
  show pureRun P (Sem.program fun p => match p.underlying t with
   | some d => Sem.pure d
   | none => stuck "no such type") = _
  simp only [pureRun]
  cases P.underlying t <;> rfl
 rw [← this, h]
theorem fwrap_eq (k : IntKind) (n : Int) : fwrap k n = k.wrap n := by
 cases k with
 | i64 =>
  show Bool.rec (motive := fun _ => Int) (IntKind.wrap .i64 n) n (inI64 n) = _
  cases h : inI64 n with
  | false => rfl
  | true =>
   have hb : -9223372036854775808 ≤ n ∧ n < 9223372036854775808 := by
    cases n with
    | ofNat m =>
     have : Nat.blt m 9223372036854775808 = true := h
     rw [Nat.blt_eq] at this
     simp only [Int.ofNat_eq_natCast]
     omega
    | negSucc m =>
     have : Nat.blt m 9223372036854775808 = true := h
     rw [Nat.blt_eq] at this
     rw [Int.negSucc_eq]
     omega
   show n = _
   exact (IntWalk.i64_in n ⟨by omega, by omega⟩).symm
 | u8 =>
  cases n with
  | ofNat m =>
   show Int.ofNat (m % 256) = _
   simp [IntKind.wrap, IntKind.bits, IntKind.signed]
  | negSucc m => rfl
 | _ => rfl
theorem ilt_eq (a b : Int) : ilt a b = decide (a < b) := by
 cases a with
 | ofNat m =>
  cases b with
  | ofNat n =>
   simp only [ilt]
   rw [Bool.eq_iff_iff, Nat.blt_eq, decide_eq_true_eq]
   simp only [Int.ofNat_eq_natCast]
   omega
  | negSucc n =>
   simp only [ilt]
   rw [Bool.eq_iff_iff, decide_eq_true_eq, Int.negSucc_eq]
   simp only [Int.ofNat_eq_natCast]
   constructor
   ·intro h; cases h
   ·intro h; omega
 | negSucc m =>
  cases b with
  | ofNat n =>
   simp only [ilt]
   rw [Bool.eq_iff_iff, decide_eq_true_eq, Int.negSucc_eq]
   simp only [Int.ofNat_eq_natCast]
   constructor
   ·intro _; omega
   ·intro _; trivial
  | negSucc n =>
   simp only [ilt]
   rw [Bool.eq_iff_iff, Nat.blt_eq, decide_eq_true_eq, Int.negSucc_eq, Int.negSucc_eq]
   omega
theorem ieq_eq (a b : Int) : ieq a b = (a == b) := by
 cases a with
 | ofNat m =>
  cases b with
  | ofNat n =>
   simp only [ieq]
   rw [Bool.eq_iff_iff, Nat.beq_eq, beq_iff_eq]
   simp only [Int.ofNat_eq_natCast]
   omega
  | negSucc n =>
   simp only [ieq]
   rw [Bool.eq_iff_iff, beq_iff_eq]
   simp
 | negSucc m =>
  cases b with
  | ofNat n =>
   simp only [ieq]
   rw [Bool.eq_iff_iff, beq_iff_eq]
   simp
  | negSucc n =>
   simp only [ieq]
   rw [Bool.eq_iff_iff, Nat.beq_eq, beq_iff_eq]
   simp
theorem kN_eq {k k' : IntKind} (h : Nat.beq (kN k) (kN k') = true) : k = k' := by
 cases k <;> cases k' <;> first | rfl | (simp [kN] at h)
section
variable {P : Program} {ρ : Rho} {h : AHeap} {w : World}
theorem fbin_ok {op : BinOp} {k k' : IntKind} {a b : Int} {v : Value} (t : TypeId) (x y : Operand) (hf : fbin op k k' a b = some v) (w : World) :
  (do eqGuard op t x y (.int k a) (.int k' b); binOp op t (.int k a) (.int k' b) : Sem Value).run P w = .ok v w ∧ flat 3 v = true := by
 unfold fbin at hf
 split at hf
 ·rename_i hk
  obtain rfl := kN_eq hk
  cases op <;> simp only [Option.some.injEq, reduceCtorEq] at hf <;> subst hf <;>
   simp [eqGuard, binOp, Op.intArith, Op.intCmp, fwrap_eq, ilt_eq, ieq_eq, flat, atomB] <;> grind
 ·cases hf
theorem stringOf_inv : ∀ {cs : List Value} {b : List UInt8}, stringOf cs = some b → ∃ ns : List Int, cs = ns.map (Value.int .u8) ∧ b = ns.map fun n => UInt8.ofNat n.toNat
 | [], b, h => by simp only [stringOf, Option.some.injEq] at h; exact ⟨[], rfl, h.symm⟩
 | v :: cs, b, h => by
  cases v with
  | int k n =>
   cases k with
   | u8 =>
    simp only [stringOf] at h
    cases hr : stringOf cs with
    | none => simp [hr] at h
    | some b' =>
     simp [hr] at h
     obtain ⟨ns, e1, e2⟩ := stringOf_inv hr
     exact ⟨n :: ns, by simp [e1], by simp [← h, e2]⟩
   | _ => simp [stringOf] at h
  | _ => simp [stringOf] at h
theorem foldl_bytes : ∀ (ns : List Int) (r : ByteArray), ns.foldl (fun r n => r.push (UInt8.ofNat n.toNat)) r = ⟨r.data ++ (ns.map fun n => UInt8.ofNat n.toNat).toArray⟩
 | [], r => by simp
 | n :: ns, r => by rw [List.foldl_cons, foldl_bytes ns]; simp [ByteArray.push]
theorem rcells_ok (H : HRel ρ h w) {a a' : Addr} {k : Nat} {cs : List Value} (hp : PRel ρ a a') (hr : rcells h (some a) k = some cs) : ∃ ys, LRel (VRel ρ) cs ys ∧ cs.length = k ∧ (loadCells a' k).run P w = .ok ys.toArray w := by
 unfold rcells at hr
 split at hr
 ·cases hr
  exact ⟨[], LRel.nil, rfl, rfl⟩
 ·rename_i k
  split at hr
  ·rename_i i o he
   cases he
   split at hr
   ·rename_i c e row ro hg
    split at hr
    ·rename_i hle
     have hle := Nat.le_of_ble_eq_true hle
     cases hr
     obtain ⟨g, hi⟩ := H.get_live hg (by simp) hp.born
     obtain ⟨_, rfl⟩ := hp.live hi
     obtain ⟨ys, h1, h2⟩ := H.read P hi hg hle
     exact ⟨ys, h1, by simp; omega, h2⟩
    ·cases hr
   ·cases hr
  ·cases hr
theorem flat_all_int (ns : List Int) : (ns.map (Value.int .u8)).all (flat 0) = true := by
 rw [List.all_eq_true]
 intro x hx
 obtain ⟨n, _, rfl⟩ := List.mem_map.1 hx
 rfl
theorem mark_ok (H : HRel ρ h w) {i : Nat} {g : G} (hi : ρ i = .live g) {c : List Value} {e : TypeId} {row : Nat} (hg : h.get i = some (.cells c e row false)) (o : Nat) :
  ∃ w', (markStringish ⟨g.b, o, none⟩).run P w = .ok () w' ∧ HRel ρ h w' ∧ Adv h.n ρ h w ρ h w' := by
 obtain ⟨c', fr, e1, e2, e3, e4, e5, e6⟩ := H.cells hi hg
 have e6 := e6 rfl
 have hb : g.b < w.heap.size := H.lt hi
 obtain ⟨lo, hi'⟩ := fr
 have hsh : w.shape? g.b = some (e, c'.size) := by simp [World.shape?, e1]
 have hfz : w.freeze ⟨g.b, c'.size, none⟩ 1 = setBlock w g.b (.cells c' e (if lo == hi' then (c'.size, c'.size + 1) else (min lo c'.size, max hi' (c'.size + 1)))) := by
  have : w.heap.modify g.b (fun
    | .cells c elem (lo, hi) => .cells c elem (if lo == hi then (c'.size, c'.size + 1) else (min lo c'.size, max hi (c'.size + 1)))
    | o => o) = w.heap.setIfInBounds g.b (.cells c' e (if lo == hi' then (c'.size, c'.size + 1) else (min lo c'.size, max hi' (c'.size + 1)))) := by
   apply Array.ext_getElem?
   intro j
   rw [Array.getElem?_setIfInBounds, Array.getElem?_modify]
   by_cases e : g.b = j
   ·subst e
    obtain ⟨hlt, hv⟩ := Array.getElem?_eq_some_iff.1 e1
    simp [hlt, hv]
   ·simp [e]
  unfold World.freeze
  rw [if_neg (by decide)]
  exact congrArg (fun x => ({ w with heap := x } : World)) this
 refine ⟨setBlock w g.b (.cells c' e (if lo == hi' then (c'.size, c'.size + 1) else (min lo c'.size, max hi' (c'.size + 1)))), by simp [markStringish, hsh, hfz], ⟨H.bound, H.inj, fun j gj hj => ?_, H.dead⟩, Rho.le_refl _, Nat.le_refl _, by simp, rfl, rfl, rfl, fun b hb' ho => ?_, fun _ _ h => h, fun _ _ h => h⟩
 ·by_cases ej : j = i
  ·subst ej
   rw [hi] at hj
   cases hj
   refine ⟨_, _, hg, setBlock_at hb, c', _, rfl, e2, e3, e4, e5, ?_⟩
   simp only at e6
   split
   ·rename_i hq
    intro _
    right
    simp; omega
   ·rename_i hq
    have hq : lo ≠ hi' := by simpa using hq
    intro _
    right
    simp only
    rcases e6 with e | e
    ·exact absurd e hq
    ·omega
  ·obtain ⟨o1, o2, f1, f2, f3⟩ := H.obj j gj hj
   have hne : gj.b ≠ g.b := fun he => ej (H.inj i j g gj hi hj he.symm (by simp [AHeap.rw, hg])).symm
   exact ⟨o1, o2, f1, by rw [setBlock_ne hne]; exact f2, f3⟩
 ·refine setBlock_ne fun he => ho ⟨i, g, hi, he.symm, ?_⟩
  simp [AHeap.rw, hg]
theorem bytesOf_eq (s : ByteArray) : bytesOf s = (s.data.map fun b => Value.int .u8 b.toNat).toList := by simp [bytesOf]
theorem bytesOf_flat (s : ByteArray) : (bytesOf s).all (flat 0) = true := by
 rw [List.all_eq_true]
 intro x hx
 obtain ⟨n, _, rfl⟩ := List.mem_map.1 hx
 rfl
theorem bytesOf_length (s : ByteArray) : (bytesOf s).length = s.size := by simp [bytesOf]
theorem aconvert_ok (H : HRel ρ h w) {src dst : TypeId} {x y : Value} {r : ANext} (hx : VRel ρ x y) (ha : aconvert P h src dst x = some r) : ValOkN P ρ h w r (convert src dst y) := by
 unfold aconvert at ha
 split at ha
 ·rename_i u k q n hs hd
  have r1 := pureRun_sound P _ _ hs
  have r2 := pureRun_sound P _ _ hd
  obtain rfl := hx.int
  cases ha
  exact ValOk.same H (v' := .int k (k.wrap n)) (by simp [convert, r1, r2, Conv.intToInt]) (by rw [fwrap_eq]; exact .atom rfl)
 ·rename_i e s hs hd
  obtain rfl := hx.atom_eq rfl
  split at ha
  ·rename_i he hsz
   cases ha
   have hcap := grownCap_ge w s.size 0 e
   have hrun := run_bytes_of_string (P := P) w src dst e s (underlying_of hs) (underlying_of hd) (underlying_of he)
   generalize hC : bytesRow s (grownCap w s.size 0 e) = C at hrun
   have hCs : C.size = grownCap w s.size 0 e := by
    rw [← hC]
    simp only [bytesRow, Array.size_append, Array.size_map, Array.size_replicate]
    have : s.data.size = s.size := rfl
    omega
   have hu := H.bound h.n (Nat.le_refl _)
   have HN := (H.drew (w.drawn + 1)).new ⟨w.heap.size, 0, C.size, 2⟩ rfl (.cells (bytesOf s) e 2 false) (.cells C e (C.size, C.size + 1))
    ⟨C, _, rfl, by simp only [bytesOf_length, hCs]; omega, rfl, rfl, fun j v hv => ⟨v, by
     rw [Nat.zero_add, ← hC]
     simp only [bytesRow]
     have hj : j < (bytesOf s).length := (List.getElem?_eq_some_iff.1 hv).1
     rw [bytesOf_eq, Array.getElem?_toList] at hv
     rw [Array.getElem?_append_left (by simp; rw [bytesOf_length] at hj; exact hj)]
     exact hv, VRel.flat (List.all_eq_true.1 (bytesOf_flat s) v (List.mem_of_getElem? hv))⟩, fun _ => .inr (Nat.le_refl _)⟩
   refine ⟨_, _, _, hrun, ?_, HN.1, (Adv.drew _ _ _ _ _).trans HN.2⟩
   exact VRel.mk_slice (g := ⟨w.heap.size, 0, C.size, 2⟩) (ρ.upd_same _ _) (Nat.le_refl _) hcap (.inr ⟨1, rfl, by simp [hCs]⟩)
  ·cases ha
 ·rename_i e' e i o n k hs hd
  split at ha
  ·rename_i c e0 row heq he hg
   cases ha
   obtain ⟨g, k', hi, rfl, h1, h2, h3⟩ := hx.slice_live H hg (by simp)
   obtain ⟨w', hm, H', A'⟩ := mark_ok (P := P) H hi hg (o + g.sh)
   have heq : src = dst := by simpa using heq
   subst heq
   have r1 := pureRun_sound P _ _ hs
   have r2 := pureRun_sound P _ _ hd
   have r3 := pureRun_sound P _ _ he
   refine ⟨_, ρ, w', ?_, VRel.mk_slice hi h1 h2 h3, H', A'⟩
   rw [hd] at hs
   cases hs
   simp [convert, r1, r3, hm]
  ·cases ha
 ·rename_i e a n k hs hd
  split at ha
  ·rename_i he
   split at ha
   ·rename_i cs hc
    cases hb : stringOf cs with
    | none => simp [hb] at ha
    | some b =>
     simp [hb] at ha
     subst ha
     obtain ⟨a', k', rfl, hp, _⟩ := hx.slice_any
     obtain ⟨ys, h1, h2, h3⟩ := rcells_ok (P := P) H hp hc
     obtain ⟨ns, rfl, rfl⟩ := stringOf_inv hb
     obtain rfl := h1.flat_eq (flat_all_int ns)
     refine ValOk.same H (v' := .string ⟨(ns.map fun n => UInt8.ofNat n.toNat).toArray⟩) ?_ (.atom rfl)
     rw [run_convert_bytes_string w src dst e _ _ _ (underlying_of hs) (underlying_of he) (underlying_of hd), run_bytesToString w a' n k' ns h3, foldl_bytes]
     simp [ByteArray.empty, ByteArray.emptyWithCapacity]
     rfl
   ·cases ha
  ·cases ha
 ·split at ha
  ·rename_i hf
   obtain rfl := VRel.flat_eq hf hx
   cases hv : pureRun P (convert src dst y) with
   | none => simp [hv] at ha
   | some v =>
    simp [hv] at ha
    split at ha
    ·rename_i hfv
     cases ha
     exact ValOk.same H (pureRun_sound P _ _ hv w) (.flat hfv)
    ·cases ha
  ·cases ha
end
end Go.Am
namespace Go.Am
section
variable {P : Program} {ρ : Rho} {h : AHeap} {w : World}
theorem anil_ok {op : BinOp} {t : TypeId} {x y x' y' v : Value} (xo yo : Operand) (hx : VRel ρ x x') (hy : VRel ρ y y') (ha : anil P op t x y = some v) (w : World) :
  (do eqGuard op t xo yo x' y'; binOp op t x' y' : Sem Value).run P w = .ok v w ∧ flat 3 v = true := by
 obtain ⟨d, hd⟩ : ∃ d, Op.maxDepth = d + 1 := ⟨9999, rfl⟩
 unfold anil at ha
 split at ha
 ·rename_i r hop
  have hr : (op = .eql ∧ r = false) ∨ (op = .neq ∧ r = true) := by
   cases op <;> simp at hop <;> simp [hop]
  split at ha
  ·rename_i e a n k m j hu
   have r1 := pureRun_sound P _ _ hu
   cases ha
   obtain ⟨a', k', rfl, _⟩ := hx.slice_any
   obtain rfl := hy.atom_eq rfl
   rcases hr with ⟨rfl, rfl⟩ | ⟨rfl, rfl⟩ <;> simp [eqGuard, binOp, Op.equal, hd, Op.equalIn, r1, flat, atomB]
  ·rename_i e n k a m j hu
   have r1 := pureRun_sound P _ _ hu
   cases ha
   obtain ⟨a', k', rfl, _⟩ := hy.slice_any
   obtain rfl := hx.atom_eq rfl
   rcases hr with ⟨rfl, rfl⟩ | ⟨rfl, rfl⟩ <;> simp [eqGuard, binOp, Op.equal, hd, Op.equalIn, r1, flat, atomB]
  ·rename_i e a hu
   have r1 := pureRun_sound P _ _ hu
   cases ha
   obtain ⟨a', rfl, _⟩ := hx.ptr_any
   obtain rfl := hy.atom_eq rfl
   rcases hr with ⟨rfl, rfl⟩ | ⟨rfl, rfl⟩ <;> simp [eqGuard, binOp, Op.equal, hd, Op.equalIn, r1, flat, atomB]
  ·rename_i e a hu
   have r1 := pureRun_sound P _ _ hu
   cases ha
   obtain ⟨a', rfl, _⟩ := hy.ptr_any
   obtain rfl := hx.atom_eq rfl
   rcases hr with ⟨rfl, rfl⟩ | ⟨rfl, rfl⟩ <;> simp [eqGuard, binOp, Op.equal, hd, Op.equalIn, r1, flat, atomB]
  ·rename_i hu
   have r1 := pureRun_sound P _ _ hu
   cases ha
   obtain ⟨fn', f', c', rfl, _⟩ := hx.unfold
   obtain rfl := hy.atom_eq rfl
   rcases hr with ⟨rfl, rfl⟩ | ⟨rfl, rfl⟩ <;> simp [eqGuard, binOp, Op.equal, hd, Op.equalIn, r1, flat, atomB]
  ·rename_i hu
   have r1 := pureRun_sound P _ _ hu
   cases ha
   obtain ⟨fn', f', c', rfl, _⟩ := hy.unfold
   obtain rfl := hx.atom_eq rfl
   rcases hr with ⟨rfl, rfl⟩ | ⟨rfl, rfl⟩ <;> simp [eqGuard, binOp, Op.equal, hd, Op.equalIn, r1, flat, atomB]
  ·cases ha
 ·cases ha
def EntsRel (ρ : Rho) (es es' : List MapEntry) : Prop := es'.length = es.length ∧ ∀ (i : Nat) e e', es[i]? = some e → es'[i]? = some e' → EntRel ρ e e'
theorem EntsRel.cons_left {e : MapEntry} {es es' : List MapEntry} (k : EntsRel ρ (e :: es) es') : ∃ e' es'', es' = e' :: es'' ∧ EntRel ρ e e' ∧ EntsRel ρ es es'' := by
 cases es' with
 | nil => have := k.1; simp at this
 | cons e' es'' => exact ⟨e', es'', rfl, k.2 0 e e' rfl rfl, by simpa using k.1, fun i a b ha hb => k.2 (i + 1) a b (by simpa using ha) (by simpa using hb)⟩
theorem findNow_rel (kind : TypeDesc) (key : Value) : ∀ (es es' : List MapEntry) (i : Nat) (r : Option (Nat × Value)), EntsRel ρ es es' → Instr.findNow kind key es i = some r →
  match r with
  | none => Instr.findNow kind key es' i = some none
  | some (j, v) => ∃ v', Instr.findNow kind key es' i = some (some (j, v')) ∧ VRel ρ v v' ∧ i ≤ j ∧ j - i < es.length
 | [], es', i, r, k, hf => by
  have : es' = [] := by simpa using k.1
  subst this
  simp only [Instr.findNow, Option.some.injEq] at hf
  subst hf
  rfl
 | e :: es, es', i, r, k, hf => by
  obtain ⟨e', es'', rfl, h1, h2⟩ := k.cons_left
  simp only [Instr.findNow] at hf ⊢
  rw [h1.1]
  cases hs : Instr.sameNow kind key e.key with
  | none => simp [hs] at hf
  | some b =>
   cases b with
   | true =>
    simp only [hs, Option.some.injEq] at hf
    subst hf
    exact ⟨e'.val, rfl, h1.2.2.2, Nat.le_refl _, by simp⟩
   | false =>
    simp only [hs] at hf ⊢
    have := findNow_rel kind key es es'' (i + 1) r h2 hf
    cases r with
    | none => exact this
    | some q =>
     obtain ⟨j, v⟩ := q
     obtain ⟨v', a, b, c, d⟩ := this
     exact ⟨v', a, b, by omega, by simp; omega⟩
theorem amapOf_ok (H : HRel ρ h w) {x y : Value} {es : List MapEntry} (hx : VRel ρ x y) (ha : amapOf h x = some es) :
  (y = .map none ∧ es = []) ∨ ∃ r es' clock, y = .map (some r) ∧ w.heap[r]? = some (.map es' clock) ∧ EntsRel ρ es es'.toList := by
 unfold amapOf at ha
 split at ha
 ·cases ha
  exact .inl ⟨hx.atom_eq rfl, rfl⟩
 ·rename_i r
  split at ha
  ·rename_i es0 clock hg
   cases ha
   obtain ⟨r', rfl, hb⟩ := hx.unfold
   obtain ⟨g, hi⟩ := H.get_live hg (by simp) hb.born
   obtain rfl := hb.live hi
   obtain ⟨o, o', f1, f2, f3⟩ := H.obj _ g hi
   rw [hg] at f1
   cases f1
   obtain ⟨es', rfl, e2, e3⟩ := f3
   exact .inr ⟨_, es', clock, rfl, f2, by simpa using e2, fun i a b ha hb => e3 i a b ha (by simpa using hb)⟩
  ·cases ha
 ·cases ha
theorem run_getObj {r : Nat} {o : Obj} (hr : w.heap[r]? = some o) (hc : ∀ c e f, o ≠ .cells c e f) : (getObj r).run P w = .ok o w := by
 cases o <;> first | (simp [getObj, Sem.run, hr]; done) | exact absurd rfl (hc _ _ _)
theorem run_setObj {r : Nat} {o o' : Obj} (hr : w.heap[r]? = some o) (hc : ∀ c e f, o ≠ .cells c e f) : (setObj r o').run P w = .ok () (setBlock w r o') := by
 cases o <;> first | (simp [setObj, Sem.run, hr, setBlock]; done) | exact absurd rfl (hc _ _ _)
theorem alookup_ok (H : HRel ρ h w) {t : TypeId} {x y ix iy v : Value} {ok : Bool} (hx : VRel ρ x y) (hi : VRel ρ ix iy) (ha : alookup P h t x ix ok = some v) :
  ∃ v', (Instr.lookup t y iy ok).run P w = .ok v' w ∧ VRel ρ v v' := by
 unfold alookup at ha
 split at ha
 ·rename_i key elem hu
  have r1 := pureRun_sound P _ _ hu
  split at ha
  ·rename_i es hm hf
   obtain rfl := VRel.flat_eq hf hi
   have pair : ∀ {v v' : Value} (b : Bool), VRel ρ v v' → VRel ρ (if ok then .tuple #[v, .bool b] else v) (if ok then .tuple #[v', .bool b] else v') := fun {v v'} b k => by
    cases ok
    ·exact k
    ·exact .fold ⟨_, rfl, ARel.of_LRel (LRel.cons k (LRel.cons (.atom rfl) LRel.nil))⟩
   split at ha
   ·rename_i uu kind hck hk
    have r2 := pureRun_sound P _ _ hck
    have r3 := pureRun_sound P _ _ hk
    have body : ∀ es' : Array MapEntry, EntsRel ρ es es'.toList → ∃ v', (do
      Instr.checkKey es'.isEmpty 10000 key iy
      let (v, b) ← match ← Instr.findKey key iy es'.toList with
       | some (_, v) => pure (v, true)
       | none => pure (← zeroValue elem, false)
      pure (if ok then .tuple #[v, .bool b] else v) : Sem Value).run P w = .ok v' w ∧ VRel ρ v v' := by
     intro es' he
     have hemp : es'.isEmpty = es.isEmpty := by
      have := he.1
      rw [← Array.isEmpty_toList]
      cases es <;> cases h' : es'.toList <;> simp_all
     rw [hemp]
     split at ha
     ·rename_i j u hfn
      cases ha
      obtain ⟨v', e1, e2, _⟩ := findNow_rel kind iy es es'.toList 0 _ he hfn
      exact ⟨_, by simp [r2, Instr.findKey, r3, e1], pair true e2⟩
     ·rename_i hfn
      have e1 := findNow_rel kind iy es es'.toList 0 _ he hfn
      simp only at e1
      split at ha
      ·rename_i z hz
       have r4 := pureRun_sound P _ _ hz
       split at ha
       ·rename_i hfz
        cases ha
        exact ⟨_, by simp [r2, Instr.findKey, r3, e1, r4], pair false (.flat hfz)⟩
       ·cases ha
      ·cases ha
     ·cases ha
    rcases amapOf_ok H hx hm with ⟨rfl, rfl⟩ | ⟨r, es', clock, rfl, hr, he⟩
    ·obtain ⟨v', e1, e2⟩ := body #[] ⟨rfl, fun i a b ha => by simp at ha⟩
     refine ⟨v', ?_, e2⟩
     rw [← e1]
     simp [Instr.lookup, r1]
     rfl
    ·obtain ⟨v', e1, e2⟩ := body es' he
     refine ⟨v', ?_, e2⟩
     rw [← e1]
     simp [Instr.lookup, r1, run_getObj hr (by simp)]
     rfl
   ·cases ha
  ·cases ha
 ·cases ha
theorem HRel.setObj (H : HRel ρ h w) {i : Nat} {g : G} (hi : ρ i = .live g) {o : AObj} {o' : Obj} (ho : ObjRel ρ g o o') (hrw : (h.set i o).rw i = h.rw i) (hrw' : h.rw i = true) :
  HRel ρ (h.set i o) (setBlock w g.b o') ∧ Adv h.n ρ h w ρ (h.set i o) (setBlock w g.b o') := by
 have hb : g.b < w.heap.size := H.lt hi
 have hrwj : ∀ j, (h.set i o).rw j = h.rw j := fun j => by
  by_cases e : j = i
  ·subst e; exact hrw
  ·unfold AHeap.rw; rw [AHeap.get_set, if_neg e]
 refine ⟨⟨H.bound, fun a b p q hp hq hpq hr => H.inj a b p q hp hq hpq (by rwa [hrwj] at hr), fun j gj hj => ?_, fun j hj q hq => ?_⟩, Rho.le_refl _, Nat.le_refl _, by simp, rfl, rfl, rfl, fun b hb' hob => ?_, fun b _ ⟨j, gj, hj, hbj, hr⟩ => ⟨j, gj, hj, hbj, by rwa [hrwj] at hr⟩, fun _ _ h => h⟩
 ·by_cases e : j = i
  ·subst e
   rw [hi] at hj
   cases hj
   exact ⟨o, o', by rw [AHeap.get_set, if_pos rfl], setBlock_at hb, ho⟩
  ·obtain ⟨o1, o2, f1, f2, f3⟩ := H.obj j gj hj
   have hne : gj.b ≠ g.b := fun he => e (H.inj i j g gj hi hj he.symm hrw').symm
   exact ⟨o1, o2, by rw [AHeap.get_set, if_neg e]; exact f1, by rw [setBlock_ne hne]; exact f2, f3⟩
 ·rw [AHeap.get_set, if_neg (by intro e; subst e; rw [hi] at hj; cases hj)] at hq
  exact H.dead j hj q hq
 ·exact setBlock_ne fun he => hob ⟨i, g, hi, he.symm, hrw'⟩
theorem amapUpdate_ok (H : HRel ρ h w) {t : TypeId} {m m' k k' v v' : Value} {h' : AHeap} (hm : VRel ρ m m') (hk : VRel ρ k k') (hv : VRel ρ v v') (ha : amapUpdate P h t m k v = some h') :
  ∃ w', (Instr.mapUpdate t m' k' v').run P w = .ok () w' ∧ HRel ρ h' w' ∧ Adv h.n ρ h w ρ h' w' := by
 unfold amapUpdate at ha
 split at ha
 ·rename_i key elem hu
  have r1 := pureRun_sound P _ _ hu
  split at ha
  ·rename_i r hf
   obtain rfl := VRel.flat_eq hf hk
   split at ha
   ·rename_i es clock hg
    split at ha
    ·rename_i uu kind hck hkd
     have r2 := pureRun_sound P _ _ hck
     have r3 := pureRun_sound P _ _ hkd
     obtain ⟨r', rfl, hb⟩ := hm.unfold
     obtain ⟨g, hi⟩ := H.get_live hg (by simp) hb.born
     obtain rfl := hb.live hi
     obtain ⟨o, o', f1, f2, f3⟩ := H.obj _ g hi
     rw [hg] at f1
     cases f1
     obtain ⟨es', rfl, e2, e3⟩ := f3
     have he : EntsRel ρ es es'.toList := ⟨by simpa using e2, fun i a b ha hb => e3 i a b ha (by simpa using hb)⟩
     have hrw : h.rw r = true := by simp [AHeap.rw, hg]
     split at ha
     ·rename_i i u hfn
      obtain ⟨u', q1, _, _, q4⟩ := findNow_rel kind k' es es'.toList 0 _ he hfn
      split at ha
      ·rename_i hsb
       cases ha
       have hi1 : i < es.length := by omega
       have hi2 : i < es'.size := by omega
       have g1 := List.getElem?_eq_getElem hi1
       have g2 := Array.getElem?_eq_getElem hi2
       have hkey : es'[i].key = es[i].key := (e3 i _ _ g1 g2).1
       have hsb' : Instr.sameBits 10000 (((es'[i]?).map (·.key)).getD k') k' = true := by
        rw [g2]; rw [g1] at hsb
        simpa [hkey] using hsb
       have hup : ObjRel ρ g (.map (es.modify i fun e => { e with key := k', val := v }) clock) (.map (es'.modify i fun e => { e with key := k', val := v' }) clock) := by
        refine ⟨_, rfl, by simp [e2], fun j a b hja hjb => ?_⟩
        rw [List.getElem?_modify] at hja
        rw [Array.getElem?_modify] at hjb
        by_cases ej : i = j
        ·subst ej
         rw [if_pos rfl] at hjb
         rw [g1] at hja
         rw [g2] at hjb
         simp at hja hjb
         subst hja; subst hjb
         exact ⟨rfl, hf, (e3 i _ _ g1 g2).2.2.1, hv⟩
        ·rw [if_neg ej] at hjb
         simp only [ej, if_false] at hja
         exact e3 j a b (by cases hx : es[j]? <;> simp_all) hjb
       obtain ⟨H', A'⟩ := H.setObj hi hup (by simp [AHeap.rw, AHeap.get_set, hg]) hrw
       refine ⟨_, ?_, H', A'⟩
       simp [Instr.mapUpdate, r1, run_getObj f2 (by simp), r2, Instr.findKey, r3, q1, Instr.keyThatStays, hsb', run_setObj f2 (by simp)]
      ·cases ha
     ·rename_i hfn
      cases ha
      have q1 := findNow_rel kind k' es es'.toList 0 _ he hfn
      simp only at q1
      have hup : ObjRel ρ g (.map (es ++ [{ key := k', val := v, born := clock }]) (clock + 1)) (.map (es'.push { key := k', val := v', born := clock }) (clock + 1)) := by
       refine ⟨_, rfl, by simp [e2], fun j a b hja hjb => ?_⟩
       rw [List.getElem?_append] at hja
       rw [Array.getElem?_push] at hjb
       rw [← e2] at hja
       by_cases ej : j = es'.size
       ·subst ej
        simp at hja hjb
        subst hja; subst hjb
        exact ⟨rfl, hf, rfl, hv⟩
       ·rw [if_neg ej] at hjb
        split at hja
        ·exact e3 j a b hja hjb
        ·rename_i hlt
         have := (Array.getElem?_eq_some_iff.1 hjb).1
         omega
      obtain ⟨H', A'⟩ := H.setObj hi hup (by simp [AHeap.rw, AHeap.get_set, hg]) hrw
      refine ⟨_, ?_, H', A'⟩
      simp [Instr.mapUpdate, r1, run_getObj f2 (by simp), r2, Instr.findKey, r3, q1, run_setObj f2 (by simp)]
     ·cases ha
    ·cases ha
   ·cases ha
  ·cases ha
 ·cases ha
theorem amakeMap_ok (H : HRel ρ h w) {t : TypeId} {x y : Option Value} {r : ANext} (hx : ORel (VRel ρ) x y) (ha : amakeMap P h t x = some r) : ValOkN P ρ h w r (Instr.makeMap t y) := by
 have core : ValOkN P ρ h w (.val (.map (some h.n)) (h.push (.map [] 0))) (do pure (.map (some (← newObj (.map #[] 0))))) := by
  obtain ⟨H', A'⟩ := H.new ⟨w.heap.size, 0, 0, 0⟩ rfl (.map [] 0) (.map #[] 0) ⟨#[], rfl, rfl, fun i a b ha => by simp at ha⟩
  exact ⟨_, _, _, by simp, .fold ⟨w.heap.size, rfl, by simp [BRel, ρ.upd_same]⟩, H', A'⟩
 unfold amakeMap at ha
 split at ha
 ·cases ha
  cases y with
  | some _ => exact hx.elim
  | none =>
   obtain ⟨v', ρ', w', e, k⟩ := core
   exact ⟨v', ρ', w', by rw [← e]; simp [Instr.makeMap], k⟩
 ·split at ha
  ·rename_i hu
   have r1 := pureRun_sound P _ _ hu
   cases ha
   cases y with
   | none => exact hx.elim
   | some y =>
    obtain rfl := VRel.int hx
    obtain ⟨v', ρ', w', e, k⟩ := core
    exact ⟨v', ρ', w', by rw [← e]; simp [Instr.makeMap, r1, asInt, asIntOf], k⟩
  ·cases ha
 ·cases ha
theorem arange_ok (H : HRel ρ h w) {t : TypeId} {x y : Value} {r : ANext} (hx : VRel ρ x y) (ha : arange P h t x = some r) : ValOkN P ρ h w r (Instr.range t y) := by
 unfold arange at ha
 split at ha
 ·rename_i s hu
  have r1 := pureRun_sound P _ _ hu
  obtain rfl := hx.atom_eq rfl
  cases ha
  obtain ⟨H', A'⟩ := H.new ⟨w.heap.size, 0, 0, 0⟩ rfl (.iter s 0) (.stringIter s 0) ⟨rfl, rfl⟩
  exact ⟨.pointer (some ⟨w.heap.size, 0, none⟩), _, _, by simp [Instr.range, r1], VRel.mk_ptr (g := ⟨w.heap.size, 0, 0, 0⟩) (ρ.upd_same _ _), H', A'⟩
 ·cases ha
theorem anext_ok (H : HRel ρ h w) {it it' : Value} {b : Bool} {ty : TypeId} {r : ANext} (hx : VRel ρ it it') (ha : anext h it b = some r) : ValOkN P ρ h w r (Instr.next it' b ty) := by
 unfold anext at ha
 split at ha
 ·rename_i r0
  split at ha
  ·rename_i s pos hg
   obtain ⟨g, hi, rfl⟩ := hx.ptr_live H hg (by simp)
   obtain ⟨o, o', f1, f2, f3⟩ := H.obj _ g hi
   rw [hg] at f1
   cases f1
   obtain ⟨rfl, hsh⟩ := f3
   have hrw : h.rw r0 = true := by simp [AHeap.rw, hg]
   rw [hsh]
   split at ha
   ·rename_i hlt
    have hlt : pos < s.size := by simpa [Nat.blt_eq] using hlt
    cases ha
    obtain ⟨H', A'⟩ := H.setObj (o := .iter s (pos + (Utf8.decode s pos).2)) hi ⟨rfl, hsh⟩ (by simp [AHeap.rw, AHeap.get_set, hg]) hrw
    refine ⟨.tuple #[.bool true, goInt pos, .int .i32 (Utf8.decode s pos).1], ρ, _, ?_, .flat (n := 1) rfl, H', A'⟩
    simp [Instr.next, run_getObj f2 (by simp), hlt, run_setObj f2 (by simp)]
   ·rename_i hlt
    have hlt : ¬ pos < s.size := by
     intro e
     have : Nat.blt pos s.size = true := by rw [Nat.blt_eq]; exact e
     rw [this] at hlt
     cases hlt
    cases ha
    refine ValOk.same H (v' := .tuple #[.bool false]) ?_ (.flat (n := 1) rfl)
    simp [Instr.next, run_getObj f2 (by simp), hlt]
  ·cases ha
 ·cases ha
end
end Go.Am
namespace Go.Am
section
variable {P : Program} {ρ : Rho} {h : AHeap} {w : World}
theorem zero_cells_run {elem : TypeId} {n : Nat} {zero : Array Value} (hz : pureRun P (if n = 0 then pure #[] else do pure (← zeroValue elem).cells) = some zero) :
  (n = 0 ∧ zero = #[]) ∨ (n ≠ 0 ∧ ∃ z, z.cells = zero ∧ ∀ w, (zeroValue elem).run P w = .ok z w) := by
 by_cases h0 : n = 0
 ·rw [if_pos h0, pureRun_pure] at hz
  exact .inl ⟨h0, by simpa using hz.symm⟩
 ·rw [if_neg h0, pureRun_bind] at hz
  cases hv : pureRun P (zeroValue elem) with
  | none => simp [hv] at hz
  | some z =>
   rw [hv, Option.bind_some, pureRun_pure] at hz
   exact .inr ⟨h0, z, by simpa using hz, pureRun_sound P _ _ hv⟩
theorem amakeSlice_ok (H : HRel ρ h w) {t : TypeId} {len cap len' cap' : Value} {r : ANext} (hl : VRel ρ len len') (hc : VRel ρ cap cap') (ha : amakeSlice P h t len cap = some r) : ValOkN P ρ h w r (Instr.makeSlice t len' cap') := by
 unfold amakeSlice at ha
 split at ha
 ·rename_i elem l c hu
  have r1 := pureRun_sound P _ _ hu
  obtain rfl := hl.int
  obtain rfl := hc.int
  split at ha
  ·rename_i info s hi hs
   have r2 := pureRun_sound P _ _ hi
   have r3 := pureRun_sound P _ _ hs
   split at ha
   ·rename_i hb
    simp only [Bool.and_eq_true, Nat.ble_eq] at hb
    obtain ⟨⟨hlc, hc1⟩, hbytes⟩ := hb
    split at ha
    ·rename_i zero hz
     split at ha
     ·rename_i hfz
      cases ha
      obtain ⟨H', A'⟩ := new_cells_exact H ((Array.range (c * s)).map (zero[· % zero.size]!)).toList ((Array.range (c * s)).map (zero[· % zero.size]!)) elem (s + 1) (LRel.of_ARel (zeros_rel (ρ := ρ) hfz (c * s)))
      refine ⟨.slice (some ⟨w.heap.size, 0, none⟩) l c, _, _, ?_, VRel.mk_slice (g := ⟨w.heap.size, 0, _, s + 1⟩) (ρ.upd_same _ _) hlc (Nat.le_refl _) (.inl rfl), H', A'⟩
      have w1 : IntKind.i64.wrap (l : Int) = (l : Int) := IntWalk.i64_in _ ⟨by omega, by omega⟩
      have w2 : IntKind.i64.wrap (c : Int) = (c : Int) := IntWalk.i64_in _ ⟨by omega, by omega⟩
      have g1 : ¬ ((c : Int) < 0) := by omega
      have g2 : ¬ ((281474976710656 : Int) < (info.bytes : Int) * (c : Int)) := by
       have : ((info.bytes * c : Nat) : Int) ≤ ((281474976710656 : Nat) : Int) := Int.ofNat_le.2 hbytes
       rw [Int.natCast_mul] at this
       exact Int.not_lt.2 this
      have g3 : ¬ ((l : Int) < 0) := by omega
      have g4 : ¬ ((c : Int) < (l : Int)) := by omega
      rcases zero_cells_run hz with ⟨h0, rfl⟩ | ⟨h0, z, rfl, hzr⟩
      ·simp [Instr.makeSlice, r1, asInt, asIntOf, r2, w1, w2, g1, g2, g3, g4, r3, h0, newRow]
      ·simp [Instr.makeSlice, r1, asInt, asIntOf, r2, w1, w2, g1, g2, g3, g4, r3, h0, hzr, newRow]
     ·cases ha
    ·cases ha
   ·cases ha
  ·cases ha
 ·cases ha
theorem len_ok {t : TypeId} {n : Nat} {a : Option Addr} {k : Nat} (args : Array Value) (argTypes : Array TypeId) (h0 : argTypes[0]? = some t) (h1 : args[0]? = some (.slice a n k)) {e : TypeId} (hu : pureRun P (underlying t) = some (.slice e)) (ty : TypeId) (w : World) :
  (Builtin.len_ argTypes ty args).run P w = .ok (goInt n) w := by
 have r1 := pureRun_sound P _ _ hu
 simp [Builtin.len_, h0, h1, r1]
theorem ARel.get {R : Value → Value → Prop} {a b : Array Value} (k : ARel R a b) {i : Nat} {x : Value} (hx : a[i]? = some x) : ∃ y, b[i]? = some y ∧ R x y := by
 have hi : i < b.size := by rw [← k.1]; exact (Array.getElem?_eq_some_iff.1 hx).1
 exact ⟨b[i], Array.getElem?_eq_getElem hi, k.2 i _ _ hx (Array.getElem?_eq_getElem hi)⟩
theorem alen_ok (H : HRel ρ h w) {argTypes : Array TypeId} {args args' : Array Value} {v : Value} (hA : ARel (VRel ρ) args args') (ha : alen P h argTypes args = some v) (ty : TypeId) :
  (Builtin.len_ argTypes ty args').run P w = .ok v w ∧ flat 3 v = true := by
 unfold alen at ha
 split at ha
 ·rename_i t a n k h0 h1
  obtain ⟨y, e1, e2⟩ := hA.get h1
  obtain ⟨a', k', rfl, _⟩ := e2.slice_any
  split at ha
  ·rename_i e hu
   cases ha
   exact ⟨len_ok args' argTypes h0 e1 hu ty w, rfl⟩
  ·cases ha
 ·rename_i t r h0 h1
  obtain ⟨y, e1, e2⟩ := hA.get h1
  split at ha
  ·rename_i kk ee es clock hu hg
   have r1 := pureRun_sound P _ _ hu
   cases ha
   obtain ⟨r', rfl, hb⟩ := e2.unfold
   obtain ⟨g, hi⟩ := H.get_live hg (by simp) hb.born
   obtain rfl := hb.live hi
   obtain ⟨o, o', f1, f2, f3⟩ := H.obj _ g hi
   rw [hg] at f1
   cases f1
   obtain ⟨es', rfl, q2, q3⟩ := f3
   exact ⟨by simp [Builtin.len_, h0, e1, r1, run_getObj f2, q2], rfl⟩
  ·cases ha
 ·rename_i t a h0 h1
  obtain ⟨y, e1, e2⟩ := hA.get h1
  split at ha
  ·rename_i arr hu
   have r1 := pureRun_sound P _ _ hu
   split at ha
   ·rename_i n e hu2
    have r2 := pureRun_sound P _ _ hu2
    cases ha
    exact ⟨by simp [Builtin.len_, h0, e1, r1, r2], rfl⟩
   ·cases ha
  ·cases ha
 ·rename_i t a h0 h1
  obtain ⟨y, e1, e2⟩ := hA.get h1
  split at ha
  ·rename_i n e hu
   have r1 := pureRun_sound P _ _ hu
   cases ha
   exact ⟨by simp [Builtin.len_, h0, e1, r1], rfl⟩
  ·cases ha
 ·cases ha
def appZ (xt : Option TypeId) : Sem Bool :=
 match xt with
 | some xType => do pure ((← underlying xType) matches .int _)
 | none => pure false
def appN (zeros : Bool) (elem : TypeId) (x : Value) : Sem Nat :=
 if zeros then do
   let l := IntKind.i64.wrap (← asInt x)
   if l < 0 then runtimePanic (.error "makeslice: len out of range")
   if l * (← typeInfo elem).bytes > 2 ^ 48 then
    let made ← choose (.extern "append.ofMake.carriedOut" 2)
    runtimePanic (.error (if made == 1 then "makeslice: len out of range" else "growslice: len out of range"))
   pure l.toNat
  else Builtin.lenOf x
def appC (zeros : Bool) (elem : TypeId) (size n : Nat) (x : Value) : Sem (Array Value) :=
 if !zeros then Builtin.firstCells size n x
 else if n * size = 0 then pure #[]
 else do pure (Builtin.zeroCells (← zeroValue elem).cells n)
def appB (size elem : TypeId) (zeros : Bool) (n : Nat) (base : Option Addr) (sLen sCap : Nat) (s x : Value) : Sem Value := do
 let need := sLen + n
 if need ≤ sCap then
  let new ← appC zeros elem size n x
  if let some a := base then storeCells (a.add (sLen * size)) new.toList
  pure (.slice base need sCap)
 else
  if (need : Int) > IntKind.i64.max ∧ (zeros ∨ (← typeInfo elem).bytes = 0) then runtimePanic (.error "growslice: len out of range")
  if Builtin.nextslicecap need sCap * (← typeInfo elem).bytes > 2 ^ 48 then (if zeros then runtimePanic (.error "growslice: len out of range") else do
   if !(← Builtin.mayShare size sLen n base x) then mark .noRoom
   unsupported (.resourceLimit "append: a slice or a string whose bytes no memory bears"))
  let newCap ← choose (.appendCap need sCap elem)
  askRoom (newCap * (← typeInfo elem).bytes)
  let old ← Builtin.firstCells size sLen s
  let new ← appC zeros elem size n x
  let rest := Builtin.zeroCells (← zeroValue elem).cells (newCap - need)
  pure (.slice (some (← newRow elem (old ++ new ++ rest))) need newCap)
theorem append_eq {argTypes : Array TypeId} {args : Array Value} {ty sType elem size n sLen sCap : Nat} {base : Option Addr} {x : Value} {zeros : Bool} (h0 : argTypes[0]? = some sType) (h1 : args[0]? = some (.slice base sLen sCap)) (h2 : args[1]? = some x)
  (r1 : (underlying sType).run P w = .ok (.slice elem) w) (r2 : (sizeOf elem).run P w = .ok size w) (r3 : (appZ argTypes[1]?).run P w = .ok zeros w)
  (r4 : (zeros = false ∧ (Builtin.lenOf x).run P w = .ok n w) ∨ (zeros = true ∧ x = .int .i64 (n : Int) ∧ IntKind.i64.wrap (n : Int) = n ∧ ∃ info, (typeInfo elem).run P w = .ok info w ∧ ¬ ((n : Int) * (info.bytes : Int) > 2 ^ 48))) :
  (Builtin.append_ argTypes ty args).run P w = (appB size elem zeros n base sLen sCap (.slice base sLen sCap) x).run P w := by
 unfold Builtin.append_
 simp only [h0, h1, h2]
 rw [run_then r1]
 simp only
 rw [run_then r2]
 have fin : ∀ K : Bool → Sem Value, (match argTypes[1]? with
   | some xType => do
    let d ← underlying xType
    let zeros ← pure (match d with | TypeDesc.int _ => true | _ => false)
    K zeros
   | none => do
    let zeros ← pure false
    K zeros).run P w = (K zeros).run P w := by
  intro K
  cases h3 : argTypes[1]? with
  | none =>
   rw [h3] at r3
   simp only [appZ] at r3
   simp at r3
   subst r3
   rfl
  | some t =>
   rw [h3] at r3
   simp only [appZ] at r3
   show ((underlying t) >>= fun d => (pure (match d with | TypeDesc.int _ => true | _ => false) : Sem Bool) >>= K).run P w = _
   rw [← bind_assoc]
   exact run_then r3
 refine (fin _).trans ?_
 rcases r4 with ⟨rfl, hl⟩ | ⟨rfl, rfl, hw, info, hi, hb⟩
 ·refine (run_then hl).trans ?_
  rfl
 ·have ha : (asInt (.int .i64 (n : Int))).run P w = .ok (n : Int) w := rfl
  have g1 : ¬ (IntKind.i64.wrap (n : Int) < 0) := by rw [hw]; omega
  have g2 : ¬ (IntKind.i64.wrap (n : Int) * (info.bytes : Int) > 2 ^ 48) := by rw [hw]; exact hb
  refine (congrArg (fun s => Sem.run P s w) (if_pos rfl)).trans ?_
  refine (run_then ha).trans ?_
  rw [if_neg g1]
  refine (run_then hi).trans ?_
  rw [if_neg g2, hw]
  rfl
theorem anews_ok (H : HRel ρ h w) {elem : TypeId} {size n : Nat} {xt : Option TypeId} {x y : Value} {news : List Value} (hx : VRel ρ x y) (ha : anews P h elem size xt x = some (n, news)) :
  ∃ zeros news', (∀ w, (appZ xt).run P w = .ok zeros w) ∧
   ((zeros = false ∧ (Builtin.lenOf y).run P w = .ok n w) ∨ (zeros = true ∧ y = .int .i64 (n : Int) ∧ IntKind.i64.wrap (n : Int) = n ∧ ∃ info, (typeInfo elem).run P w = .ok info w ∧ ¬ ((n : Int) * (info.bytes : Int) > 2 ^ 48))) ∧ LRel (VRel ρ) news news' ∧ news.length = n * size ∧ (appC zeros elem size n y).run P w = .ok news'.toArray w := by
 unfold anews at ha
 split at ha
 ·rename_i hxt
  cases xt with
  | none => simp at hxt
  | some t =>
   simp only [Option.map_eq_some_iff] at hxt
   obtain ⟨d, hd, hi⟩ := hxt
   have r0 := pureRun_sound P _ _ hd
   have hZ : ∀ w, (appZ (some t)).run P w = .ok true w := fun w => by
    simp only [appZ]
    rw [run_then (r0 w)]
    exact congrArg (fun b => (Result.ok b w : Result Bool)) hi
   split at ha
   ·rename_i l
    obtain rfl := hx.int
    split at ha
    ·rename_i info hinfo
     have r1 := pureRun_sound P _ _ hinfo
     split at ha
     ·rename_i hb
      simp only [Bool.and_eq_true, Nat.ble_eq] at hb
      obtain ⟨hl1, hl2⟩ := hb
      split at ha
      ·rename_i zs hz
       split at ha
       ·rename_i hf
        simp only [Bool.and_eq_true, Nat.beq_eq] at hf
        simp only [Option.some.injEq, Prod.mk.injEq] at ha
        obtain ⟨rfl, rfl⟩ := ha
        have w1 : IntKind.i64.wrap (l : Int) = (l : Int) := IntWalk.i64_in _ ⟨by omega, by omega⟩
        have g2 : ¬ ((l : Int) * (info.bytes : Int) > 2 ^ 48) := by
         have : ((info.bytes * l : Nat) : Int) ≤ ((281474976710656 : Nat) : Int) := Int.ofNat_le.2 hl2
         rw [Int.natCast_mul, Int.mul_comm] at this
         exact Int.not_lt.2 this
        refine ⟨true, zs.toList, hZ, .inr ⟨rfl, rfl, w1, info, r1 w, g2⟩, LRel.flat hf.1, by simpa using hf.2, ?_⟩
        ·have rz := pureRun_sound P _ _ hz w
         simp only [appC]
         simpa using rz
       ·cases ha
      ·cases ha
     ·cases ha
    ·cases ha
   ·cases ha
 ·rename_i hxt
  have hZ : ∀ w, (appZ xt).run P w = .ok false w := fun w => by
   cases xt with
   | none => rfl
   | some t =>
    simp only [Option.map_eq_some_iff] at hxt
    obtain ⟨d, hd, hi⟩ := hxt
    have r0 := pureRun_sound P _ _ hd
    simp only [appZ]
    rw [run_then (r0 w)]
    exact congrArg (fun b => (Result.ok b w : Result Bool)) hi
  split at ha
  ·rename_i a m k
   cases hc : rcells h a (m * size) with
   | none => simp [hc] at ha
   | some cs =>
    simp [hc] at ha
    obtain ⟨rfl, rfl⟩ := ha
    cases a with
    | none =>
     obtain rfl := hx.atom_eq rfl
     unfold rcells at hc
     split at hc
     ·rename_i h0
      cases hc
      refine ⟨false, [], hZ, (.inl ⟨rfl, by simp [Builtin.lenOf]⟩), LRel.nil, by simpa using h0.symm, ?_⟩
      simp [appC, Builtin.firstCells]
     ·cases hc
    | some a =>
     obtain ⟨a', k', rfl, hp, _⟩ := hx.slice_any
     obtain ⟨ys, h1, h2, h3⟩ := rcells_ok (P := P) H hp hc
     exact ⟨false, ys, hZ, (.inl ⟨rfl, by simp [Builtin.lenOf]⟩), h1, h2, by simp [appC, Builtin.firstCells, h3]⟩
  ·rename_i s
   obtain rfl := hx.atom_eq rfl
   split at ha
   ·rename_i hs
    have hs := Nat.eq_of_beq_eq_true hs
    subst hs
    simp only [Option.some.injEq, Prod.mk.injEq] at ha
    obtain ⟨rfl, rfl⟩ := ha
    refine ⟨false, bytesOf s, hZ, (.inl ⟨rfl, by simp [Builtin.lenOf]⟩), LRel.flat (bytesOf_flat s), by simp [bytesOf_length], ?_⟩
    have hext : s.extract 0 s.size = s := by simp
    simp only [appC, Builtin.firstCells, hext]
    show Result.ok _ w = _
    congr 1
    apply Array.ext'
    simp [bytesOf]
   ·cases ha
  ·cases ha
 ·cases ha
theorem HRel.kill {i : Nat} {g : G} (H : HRel ρ h w) (hi : ρ i = .live g) : HRel (ρ.upd i .dead) (h.set i .dead) w := by
 have old : ∀ {j gj}, ρ.upd i .dead j = .live gj → j ≠ i ∧ ρ j = .live gj := fun {j gj} h' => by
  by_cases e : j = i
  ·subst e; rw [ρ.upd_same] at h'; cases h'
  ·rw [ρ.upd_ne _ e] at h'; exact ⟨e, h'⟩
 refine ⟨fun j hj => ?_, fun j k gj gk hj hk he hr => H.inj j k gj gk (old hj).2 (old hk).2 he (by unfold AHeap.rw at hr ⊢; rwa [AHeap.get_set, if_neg (old hj).1] at hr), fun j gj hj => ?_, fun j hj o ho => ?_⟩
 ·have : ρ j = .unborn := H.bound j hj
  rw [ρ.upd_ne _ (by intro e; subst e; rw [hi] at this; cases this)]
  exact this
 ·obtain ⟨ne, hl⟩ := old hj
  obtain ⟨o1, o2, f1, f2, f3⟩ := H.obj j gj hl
  exact ⟨o1, o2, by rw [AHeap.get_set, if_neg ne]; exact f1, f2, f3.mono Rho.le_dead⟩
 ·by_cases e : j = i
  ·subst e
   rw [AHeap.get_set, if_pos rfl] at ho
   cases ho
   rfl
  ·rw [ρ.upd_ne _ e] at hj
   rw [AHeap.get_set, if_neg e] at ho
   exact H.dead j hj o ho
theorem HRel.setOther (H : HRel ρ h w) {b : Nat} (hb : ∀ j gj, ρ j = .live gj → gj.b ≠ b) (o : Obj) : HRel ρ h (setBlock w b o) :=
 ⟨H.bound, H.inj, fun j gj hj => by
  obtain ⟨o1, o2, f1, f2, f3⟩ := H.obj j gj hj
  exact ⟨o1, o2, f1, by rw [setBlock_ne (hb j gj hj)]; exact f2, f3⟩, H.dead⟩
theorem HRel.adopt (H : HRel ρ h w) {g : G} (hb : ∀ j gj, ρ j = .live gj → gj.b ≠ g.b) {o : AObj} {o' : Obj} (hw : w.heap[g.b]? = some o') (ho : ObjRel (ρ.upd h.n (.live g)) g o o') :
  HRel (ρ.upd h.n (.live g)) (h.push o) w := by
 have hu := H.bound h.n (Nat.le_refl _)
 have hle : ρ.le (ρ.upd h.n (.live g)) := Rho.le_born hu
 have old : ∀ {j gj}, j ≠ h.n → ρ.upd h.n (.live g) j = .live gj → ρ j = .live gj := fun hj h => by rwa [ρ.upd_ne _ hj] at h
 refine ⟨fun i hi => ?_, fun i j gi gj hi hj he hr => ?_, fun i gi hi => ?_, fun i hi o ho => ?_⟩
 ·simp at hi
  rw [ρ.upd_ne _ (by omega)]; exact H.bound i (by omega)
 ·by_cases ei : i = h.n
  ·by_cases ej : j = h.n
   ·rw [ei, ej]
   ·subst ei
    rw [ρ.upd_same] at hi
    cases hi
    exact absurd he.symm (hb j gj (old ej hj))
  ·by_cases ej : j = h.n
   ·subst ej
    rw [ρ.upd_same] at hj
    cases hj
    exact absurd he (hb i gi (old ei hi))
   ·exact H.inj i j gi gj (old ei hi) (old ej hj) he (by rwa [rw_push_live H (old ei hi)] at hr)
 ·by_cases ei : i = h.n
  ·subst ei
   rw [ρ.upd_same] at hi
   cases hi
   exact ⟨o, o', by rw [AHeap.get_push, if_pos rfl], hw, ho⟩
  ·obtain ⟨o1, o2, f1, f2, f3⟩ := H.obj i gi (old ei hi)
   exact ⟨o1, o2, by rw [AHeap.get_push, if_neg ei]; exact f1, f2, f3.mono hle⟩
 ·by_cases ei : i = h.n
  ·subst ei; rw [ρ.upd_same] at hi; cases hi
  ·rw [ρ.upd_ne _ ei] at hi
   rw [AHeap.get_push, if_neg ei] at ho
   exact H.dead i hi o ho
theorem Adv.kill {i : Nat} {g : G} (_ : HRel ρ h w) (hi : ρ i = .live g) (k : Nat) : Adv k ρ h w (ρ.upd i .dead) (h.set i .dead) w := by
 refine ⟨Rho.le_dead, Nat.le_refl _, Nat.le_refl _, rfl, rfl, rfl, fun _ _ _ => rfl, fun b _ ⟨j, gj, hj, hbj, hr⟩ => ?_, fun j _ hu => ?_⟩
 ·by_cases e : j = i
  ·subst e; rw [ρ.upd_same] at hj; cases hj
  ·rw [ρ.upd_ne _ e] at hj
   unfold AHeap.rw at hr
   rw [AHeap.get_set, if_neg e] at hr
   exact ⟨j, gj, hj, hbj, hr⟩
 ·rw [ρ.upd_ne _ (by intro e; subst e; rw [hi] at hu; cases hu)]; exact hu
theorem appB_fits {size elem n sLen sCap : Nat} {zeros : Bool} {base : Option Addr} {s x : Value} {new : Array Value} (hle : sLen + n ≤ sCap) (hC : (appC zeros elem size n x).run P w = .ok new w) {w' : World}
  (hst : match base with | some a => (storeCells (a.add (sLen * size)) new.toList).run P w = .ok () w' | none => w' = w) :
  (appB size elem zeros n base sLen sCap s x).run P w = .ok (.slice base (sLen + n) sCap) w' := by
 unfold appB
 simp only
 rw [if_pos hle, run_then hC]
 cases base with
 | none => subst hst; rfl
 | some a => simp only at hst ⊢; rw [run_then hst]; rfl
theorem appB_grow {size elem n sLen sCap : Nat} {zeros : Bool} {base : Option Addr} {s x : Value} {old new : Array Value} {info : TypeInfo} {z : Value} (hgt : sCap < sLen + n)
  (hi : ∀ w, (typeInfo elem).run P w = .ok info w) (hz : ∀ w, (zeroValue elem).run P w = .ok z w) (hb0 : 0 < info.bytes) (hb : (2 * (sLen + n) + 256) * info.bytes ≤ 281474976710656)
  (hold : (Builtin.firstCells size sLen s).run P w.drew = .ok old w.drew) (hC : (appC zeros elem size n x).run P w.drew = .ok new w.drew) :
  (appB size elem zeros n base sLen sCap s x).run P w =
   .ok (.slice (some ⟨w.heap.size, 0, none⟩) (sLen + n) (grownCap w (sLen + n) sCap elem)) (w.drew.alloc (.cells (old ++ new ++ Builtin.zeroCells z.cells (grownCap w (sLen + n) sCap elem - (sLen + n))) elem)) := by
 have h1 : ¬ (sLen + n ≤ sCap) := by omega
 have hb2 : (sLen + n) * info.bytes ≤ 140737488355328 := by
  have : (2 * (sLen + n) + 256) * info.bytes = 2 * ((sLen + n) * info.bytes) + 256 * info.bytes := by rw [Nat.add_mul, Nat.mul_assoc]
  omega
 have h2 : ¬ (Builtin.nextslicecap (sLen + n) sCap * info.bytes > 2 ^ 48) := by
  have := growslice_fits (bytes := info.bytes) hgt hb2
  omega
 have h3 : sLen + n ≤ 281474976710656 := by
  have h4 : 2 * (sLen + n) + 256 ≤ (2 * (sLen + n) + 256) * info.bytes := Nat.le_mul_of_pos_right _ hb0
  omega
 have h5 : ¬ (((sLen + n : Nat) : Int) > IntKind.i64.max ∧ (zeros = true ∨ info.bytes = 0)) := by
  intro hc
  have : IntKind.i64.max = 9223372036854775807 := rfl
  rw [this] at hc
  omega
 unfold appB
 simp only
 rw [if_neg h1, run_then (hi w), if_neg h5, run_then (hi w), if_neg h2]
 have hch : (choose (.appendCap (sLen + n) sCap elem)).run P w = .ok (grownCap w (sLen + n) sCap elem) w.drew := by
  simp [Question.forced, grownCap]
 rw [run_then hch, run_then (hi w.drew), run_then (run_askRoom P w.drew _), run_then hold, run_then hC, run_then (hz w.drew)]
 simp [newRow]
end
end Go.Am
namespace Go.Am
section
variable {P : Program} {ρ : Rho} {h : AHeap} {w : World}
theorem run_firstCells (H : HRel ρ h w) {base : Option Addr} {sLen sCap size : Nat} {y : Value} {old : List Value} (hy : VRel ρ (.slice base sLen sCap) y) (ho : rcells h base (sLen * size) = some old) :
  ∃ ys, LRel (VRel ρ) old ys ∧ old.length = sLen * size ∧ (Builtin.firstCells size sLen y).run P w = .ok ys.toArray w := by
 cases base with
 | none =>
  obtain rfl := hy.atom_eq rfl
  unfold rcells at ho
  split at ho
  ·rename_i h0
   cases ho
   exact ⟨[], LRel.nil, by simpa using h0.symm, by simp [Builtin.firstCells]⟩
  ·cases ho
 | some a =>
  obtain ⟨a', k', rfl, hp, _⟩ := hy.slice_any
  obtain ⟨ys, h1, h2, h3⟩ := rcells_ok (P := P) H hp ho
  exact ⟨ys, h1, h2, by simp [Builtin.firstCells, h3]⟩
theorem rcells_eq {i o k : Nat} {c : List Value} {e : TypeId} {row : Nat} {ro : Bool} {old : List Value} (hg : h.get i = some (.cells c e row ro)) (hr : rcells h (some ⟨i, o, none⟩) k = some old) : old = (c.drop o).take k := by
 cases k with
 | zero => simp only [rcells, Option.some.injEq] at hr; simp [← hr]
 | succ k =>
  simp only [rcells, hg] at hr
  split at hr
  ·simpa using hr.symm
  ·cases hr
theorem aappend_ok (H : HRel ρ h w) {argTypes : Array TypeId} {args args' : Array Value} {r : ANext} (ty : TypeId) (hA : ARel (VRel ρ) args args') (ha : aappend P h argTypes args = some r) : ValOkN P ρ h w r (Builtin.append_ argTypes ty args') := by
 unfold aappend at ha
 split at ha
 ·rename_i sType base sLen sCap x h0 h1 h2
  obtain ⟨s', g1, hs'⟩ := hA.get h1
  obtain ⟨x', g2, hx'⟩ := hA.get h2
  split at ha
  ·rename_i elem hu
   have r1 := pureRun_sound P _ _ hu
   split at ha
   ·rename_i size info hs hinf
    have r2 := pureRun_sound P _ _ hs
    have ri := pureRun_sound P _ _ hinf
    split at ha
    ·-- nothing is appended
     rename_i news0 hn
     split at ha
     ·rename_i hle
      have hle := Nat.le_of_ble_eq_true hle
      cases ha
      obtain ⟨zeros, news', hZ, hN, hL, hlen, hC⟩ := anews_ok H hx' hn
      have hnil : news' = [] := by
       have := hL.1
       rw [hlen] at this
       simpa using this.symm
      subst hnil
      cases base with
      | none =>
       obtain rfl := hs'.atom_eq rfl
       refine ValOk.same H ?_ hs'
       rw [append_eq (ty := ty) h0 g1 g2 (r1 w) (r2 w) (hZ w) hN]
       exact appB_fits (by omega) hC rfl
      | some a =>
       obtain ⟨a', k', rfl, hp, h3, h4, h5⟩ := hs'.slice_any
       refine ValOk.same H ?_ hs'
       rw [append_eq (ty := ty) h0 g1 g2 (r1 w) (r2 w) (hZ w) hN]
       exact appB_fits (by omega) hC rfl
     ·cases ha
    ·rename_i m news hn
     split at ha
     ·-- in place
      rename_i hle
      have hle := Nat.le_of_ble_eq_true hle
      split at ha
      ·rename_i i o
       obtain ⟨zeros, news', hZ, hN, hL, hlen, hC⟩ := anews_ok H hx' hn
       cases hw : wcells h i (o + sLen * size) news with
       | none => simp [hw] at ha
       | some h' =>
        simp [hw] at ha
        subst ha
        have hg : ∃ z, h.get i = some z ∧ z ≠ .dead := by
         unfold wcells at hw
         split at hw
         ·rename_i hg; exact ⟨_, hg, by simp⟩
         ·cases hw
        obtain ⟨z, hg, hz⟩ := hg
        obtain ⟨g, k', hi, rfl, h3, h4, h5⟩ := hs'.slice_live H hg hz
        obtain ⟨w', hrun, H', A'⟩ := wcells_ok (P := P) H hi hL hw
        refine ⟨_, ρ, w', ?_, VRel.mk_slice hi (by omega) h4 h5, H', A'⟩
        rw [append_eq (ty := ty) h0 g1 g2 (r1 w) (r2 w) (hZ w) hN]
        refine appB_fits (by omega) hC ?_
        simp only [add_none]
        rw [show o + g.sh + sLen * size = o + sLen * size + g.sh by omega]
        exact hrun
      ·cases ha
     ·-- into a new row, or in place where there is room that is not known
      rename_i hle
      have hgt : sCap < sLen + (m + 1) := by
       rcases Nat.lt_or_ge sCap (sLen + (m + 1)) with hlt | hge
       ·exact hlt
       ·rw [Nat.ble_eq_true_of_le hge] at hle; cases hle
      split at ha
      ·rename_i z old hbytes hz hold
       simp only [Bool.and_eq_true, Nat.blt_eq, Nat.ble_eq] at hbytes
       obtain ⟨hb0, hb1⟩ := hbytes
       have rz := pureRun_sound P _ _ hz
       split at ha
       ·cases ha
       ·rename_i hzs
        have hzs := Nat.eq_of_beq_eq_true hzs
        have grow : ∀ (base' : Option Addr) (k' : Nat) (ρ₁ : Rho) (h₁ : AHeap), s' = .slice base' sLen k' → k' < sLen + (m + 1) → HRel ρ₁ h₁ w → ρ.le ρ₁ → Adv h.n ρ h w ρ₁ h₁ w → h.n ≤ h₁.n →
          ValOk P ρ h w (.slice (some ⟨h₁.n, 0, none⟩) (sLen + (m + 1)) (sLen + (m + 1))) (newCells h₁ (old ++ news) elem (size + 1)) (Builtin.append_ argTypes ty args') := by
         intro base' k' ρ₁ h₁ hse hk H₁ hle₁ A₁ hn₁
         obtain ⟨zeros, news0, hZ, hN, _, _, _⟩ := anews_ok H hx' hn
         have HD := H.drew (w.drawn + 1)
         obtain ⟨olds, ho1, ho2, ho3⟩ := run_firstCells (P := P) (size := size) HD hs' hold
         obtain ⟨zeros', news', hZ', hN', hL', hlen', hC'⟩ := anews_ok HD hx' hn
         have hzz : zeros' = zeros := by
          have a := hZ w
          rw [hZ' w] at a
          simpa using a
         subst hzz
         subst hse
         have hrun := appB_grow (P := P) (w := w) (base := base') (x := x') (zeros := zeros') hk ri rz hb0 hb1 ho3 hC'
         have hall : LRel (VRel ρ₁) (old ++ news) (olds ++ news') := (LRel.append ho1 hL').mono fun _ _ k => k.mono hle₁
         have hcap := grownCap_ge w (sLen + (m + 1)) k' elem
         generalize hcc : grownCap w (sLen + (m + 1)) k' elem = cc at hrun hcap
         have hsz : (olds.toArray ++ news'.toArray ++ Builtin.zeroCells z.cells (cc - (sLen + (m + 1)))).size = cc * size := by
          have e1 := ho1.1
          have e2 := hL'.1
          have e3 : (Builtin.zeroCells z.cells (cc - (sLen + (m + 1)))).size = (cc - (sLen + (m + 1))) * size := by rw [← hzs]; simp [Builtin.zeroCells]
          simp only [Array.size_append, List.size_toArray, e3]
          rw [← e1, ← e2, ho2, hlen', ← Nat.add_mul, ← Nat.add_mul]
          congr 1
          omega
         obtain ⟨H', A'⟩ := new_cells (H₁.drew (w.drawn + 1)) (old ++ news) (olds.toArray ++ news'.toArray ++ Builtin.zeroCells z.cells (cc - (sLen + (m + 1)))) elem (size + 1) (fun ρ' hle' => by
          have : (olds.toArray ++ news'.toArray ++ Builtin.zeroCells z.cells (cc - (sLen + (m + 1)))).toList.take (old ++ news).length = olds ++ news' := by
           rw [Array.toList_append, Array.toList_append]
           rw [hall.1]
           exact List.take_left
          rw [this]
          exact hall.mono fun _ _ k => k.mono hle')
         refine ⟨_, _, _, ?_, VRel.mk_slice (g := ⟨w.heap.size, 0, _, size + 1⟩) (Rho.upd_same _ _ _) (Nat.le_refl _) hcap (.inr ⟨size, rfl, by rw [hsz]; simp⟩), H', (A₁.trans (Adv.drew _ _ _ _ _)).trans (A'.less hn₁)⟩
         rw [append_eq (ty := ty) h0 g1 g2 (r1 w) (r2 w) (hZ w) hN]
         exact hrun
        cases base with
        | none =>
         simp only at ha
         cases ha
         obtain rfl := hs'.atom_eq rfl
         exact grow none sCap ρ h rfl hgt H (Rho.le_refl _) (Adv.refl _ _ _ _) (Nat.le_refl _)
        | some a =>
         obtain ⟨i, o, sp⟩ := a
         cases sp with
         | some _ => simp at ha
         | none =>
          simp only at ha
          split at ha
          ·rename_i c e row ro hg
           obtain ⟨g, k', hi, rfl, h3, h4, h5⟩ := hs'.slice_live H hg (by simp)
           obtain ⟨c', fr, e1, e2, e3, e4, e5, e6⟩ := H.cells hi hg
           split at ha
           ·-- no rows: there is no room
            rename_i _ hrow
            have hrow := Nat.eq_of_beq_eq_true hrow
            cases ha
            have hk : k' = sCap := by
             rcases h5 with e | ⟨sz, q, _⟩
             ·exact e
             ·omega
            exact grow _ k' ρ h rfl (by omega) H (Rho.le_refl _) (Adv.refl _ _ _ _) (Nat.le_refl _)
           ·rename_i hrow hc
            simp only [Bool.and_eq_true, Nat.beq_eq, Bool.not_eq_true'] at hc
            obtain ⟨⟨⟨rfl, rfl⟩, rfl⟩, hone⟩ := hc
            cases ha
            have HK := H.kill hi
            have AK := Adv.kill H hi h.n
            by_cases hfit : sLen + (m + 1) ≤ k'
            ·-- in place
             obtain ⟨zeros, news', hZ, hN, hL, hlen, hC⟩ := anews_ok H hx' hn
             have hroom : o + g.sh + k' * size ≤ g.tot := by
              rcases h5 with q | ⟨sz, q1, q2⟩
              ·omega
              ·have : sz = size := by omega
               rw [← this]; exact q2
             have hmul : (sLen + (m + 1)) * size ≤ k' * size := Nat.mul_le_mul_right _ hfit
             rw [Nat.add_mul] at hmul
             have hll := hL.1
             have hb : g.b < w.heap.size := H.lt hi
             have e6 := e6 rfl
             have hlen2 : news'.length = (m + 1) * size := hll.symm.trans hlen
             have hnl : news.length = news'.length := hll
             have hold' := rcells_eq hg hold
             have holen : old.length = sLen * size := by
              obtain ⟨_, _, q, _⟩ := run_firstCells (P := P) (size := size) H hs' hold
              exact q
             have hrun := run_storeCells P (b := g.b) (k := o + g.sh + sLen * size) news' 0 w c' e1 (by omega) (hL.oneCell hone) (fun j _ hj => by rcases e6 with q | q <;> omega)
             rw [Nat.add_zero] at hrun
             have none' : ∀ j gj, ρ.upd i .dead j = .live gj → gj.b ≠ g.b := fun j gj hj he => by
              by_cases e : j = i
              ·subst e; rw [ρ.upd_same] at hj; cases hj
              ·rw [ρ.upd_ne _ e] at hj
               exact e (H.inj i j g gj hi hj he.symm (by simp [AHeap.rw, hg])).symm
             have H2 := HK.setOther none' (.cells (putCells c' (o + g.sh + sLen * size) news') e fr)
             have hu : ρ h.n = .unborn := H.bound _ (Nat.le_refl _)
             have hne : h.n ≠ i := fun e => by rw [e, hi] at hu; cases hu
             have hu2 : ρ.upd i .dead h.n = .unborn := by rw [ρ.upd_ne _ hne]; exact hu
             have hle2 : ρ.le ((ρ.upd i .dead).upd h.n (.live ⟨g.b, g.sh + o, g.tot, size + 1⟩)) := Rho.le_trans Rho.le_dead (Rho.le_born hu2)
             have H3 : HRel ((ρ.upd i .dead).upd h.n (.live ⟨g.b, g.sh + o, g.tot, size + 1⟩)) (newCells (h.set i .dead) (old ++ news) e (size + 1)) (setBlock w g.b (.cells (putCells c' (o + g.sh + sLen * size) news') e fr)) := H2.adopt (g := ⟨g.b, g.sh + o, g.tot, size + 1⟩) none' (o := .cells (old ++ news) e (size + 1) false) (setBlock_at hb)
              ⟨_, fr, rfl, by rw [putCells_size]; simp; omega, by rw [putCells_size]; exact e3, rfl, fun j v hv => by
               rw [putCells_get _ _ _ _ (by omega)]
               rw [List.getElem?_append] at hv
               split at hv
               ·rename_i hj
                rw [if_neg (by simp; omega)]
                rw [hold', List.getElem?_take] at hv
                split at hv
                ·rw [List.getElem?_drop] at hv
                 obtain ⟨v', q1, q2⟩ := e5 _ _ hv
                 exact ⟨v', by rw [← q1]; congr 1; simp; omega, q2.mono hle2⟩
                ·cases hv
               ·rename_i hj
                have hlt : j - old.length < news'.length := by
                 have := (List.getElem?_eq_some_iff.1 hv).1
                 omega
                rw [if_pos (by simp; omega)]
                refine ⟨news'[j - old.length], ?_, (hL.2 _ _ _ hv (List.getElem?_eq_getElem hlt)).mono hle2⟩
                rw [← List.getElem?_eq_getElem hlt]
                congr 1
                simp; omega, fun _ => e6⟩
             refine ⟨.slice (some ⟨g.b, o + g.sh, none⟩) (sLen + (m + 1)) k', _, _, ?_, ?_, H3, ?_⟩
             ·rw [append_eq (ty := ty) h0 g1 g2 (r1 w) (r2 w) (hZ w) hN]
              refine appB_fits hfit hC ?_
              simp only [add_none]
              exact hrun
             ·have := VRel.mk_slice (ρ := (ρ.upd i .dead).upd h.n (.live ⟨g.b, g.sh + o, g.tot, size + 1⟩)) (i := h.n) (o := 0) (n := sLen + (m + 1)) (k := sLen + (m + 1)) (k' := k') (Rho.upd_same _ _ _) (Nat.le_refl _) hfit (.inr ⟨size, rfl, by simp; omega⟩)
              rw [show o + g.sh = 0 + (g.sh + o) by omega]
              exact this
             ·have hown : Own ρ h g.b := ⟨i, g, hi, rfl, by simp [AHeap.rw, hg]⟩
              refine ⟨hle2, Nat.le_succ _, by simp, rfl, rfl, rfl, fun b _ hno => setBlock_ne fun he => hno (he ▸ hown), fun b _ ⟨j, gj, hj, hbj, hr⟩ => ?_, fun j hj hju => ?_⟩
              ·by_cases ej : j = h.n
               ·subst ej
                rw [Rho.upd_same] at hj
                cases hj
                exact hbj ▸ hown
               ·rw [Rho.upd_ne _ _ ej] at hj
                by_cases ei : j = i
                ·subst ei; rw [ρ.upd_same] at hj; cases hj
                ·rw [ρ.upd_ne _ ei] at hj
                 refine ⟨j, gj, hj, hbj, ?_⟩
                 unfold AHeap.rw newCells at hr
                 rw [AHeap.get_push, if_neg (by simpa using ej), AHeap.get_set, if_neg ei] at hr
                 exact hr
              ·rw [Rho.upd_ne _ _ (by omega), ρ.upd_ne _ (by intro e; subst e; rw [hi] at hju; cases hju)]
               exact hju
            ·exact grow _ k' (ρ.upd i .dead) (h.set i .dead) rfl (by omega) HK Rho.le_dead AK (by simp)
           ·cases ha
          ·cases ha
      ·cases ha
    ·cases ha
   ·cases ha
  ·cases ha
 ·cases ha
end
end Go.Am
namespace Go.Am
section
variable {P : Program} {ρ : Rho} {h : AHeap} {w : World}
theorem aclear_ok (H : HRel ρ h w) {argTypes : Array TypeId} {args args' : Array Value} {r : ANext} (ty : TypeId) (hA : ARel (VRel ρ) args args') (ha : aclear P h argTypes args = some r) : ValOkN P ρ h w r (Builtin.clear_ argTypes ty args') := by
 unfold aclear at ha
 split at ha
 ·rename_i t x h0 h1
  obtain ⟨x', g1, hx⟩ := hA.get h1
  split at ha
  ·rename_i elem a k hu
   have r1 := pureRun_sound P _ _ hu
   cases ha
   refine ValOk.same H (v' := .tuple #[]) ?_ (.flat (n := 1) rfl)
   cases a with
   | none =>
    obtain rfl := hx.atom_eq rfl
    simp [Builtin.clear_, h0, g1, r1]
   | some a =>
    obtain ⟨a', k', rfl, _⟩ := hx.slice_any
    simp [Builtin.clear_, h0, g1, r1]
  ·rename_i elem i o n k hu
   have r1 := pureRun_sound P _ _ hu
   split at ha
   ·rename_i z hz
    have r2 := pureRun_sound P _ _ hz
    split at ha
    ·rename_i hf
     simp only [Option.map_eq_some_iff] at ha
     obtain ⟨h', hw, rfl⟩ := ha
     have hg : ∃ z, h.get i = some z ∧ z ≠ .dead := by
      unfold wcells at hw
      split at hw
      ·rename_i hg; exact ⟨_, hg, by simp⟩
      ·cases hw
     obtain ⟨z', hg, hz'⟩ := hg
     obtain ⟨g, k', hi, rfl, h3, h4, h5⟩ := hx.slice_live H hg hz'
     obtain ⟨w', hrun, H', A'⟩ := wcells_ok (P := P) H hi (LRel.flat hf) hw
     refine ⟨.tuple #[], ρ, w', ?_, .flat (n := 1) rfl, H', A'⟩
     simp [Builtin.clear_, h0, g1, r1, r2, hrun]
    ·cases ha
   ·cases ha
  ·cases ha
 ·cases ha
theorem acopy_ok (H : HRel ρ h w) {argTypes : Array TypeId} {args args' : Array Value} {r : ANext} (ty : TypeId) (hA : ARel (VRel ρ) args args') (ha : acopy P h argTypes args = some r) : ValOkN P ρ h w r (Builtin.copy_ argTypes ty args') := by
 unfold acopy at ha
 split at ha
 ·rename_i dType base dLen dCap src h0 h1 h2
  obtain ⟨d', g1, hd'⟩ := hA.get h1
  obtain ⟨s', g2, hs'⟩ := hA.get h2
  split at ha
  ·rename_i elem hu
   have r1 := pureRun_sound P _ _ hu
   split at ha
   ·rename_i size hsz
    have r2 := pureRun_sound P _ _ hsz
    have read : ∀ n cs, (match src with
           | .slice a n _ => (rcells h a (Nat.min n dLen * size)).map (Nat.min n dLen, ·)
           | .string s => match Nat.beq size 1 with
            | true => some (Nat.min s.size dLen, (bytesOf s).take (Nat.min s.size dLen))
            | false => none
           | _ => none) = some (n, cs) → ∃ m ys, (Builtin.lenOf s').run P w = .ok m w ∧ Nat.min m dLen = n ∧ LRel (VRel ρ) cs ys ∧ (Builtin.firstCells size n s').run P w = .ok ys.toArray w := by
     intro n cs hm
     split at hm
     ·rename_i a m k
      simp only [Option.map_eq_some_iff, Prod.mk.injEq] at hm
      obtain ⟨cs', hc, rfl, rfl⟩ := hm
      cases a with
      | none =>
       obtain rfl := hs'.atom_eq rfl
       refine ⟨m, [], by simp [Builtin.lenOf], rfl, ?_, by simp [Builtin.firstCells]⟩
       unfold rcells at hc
       split at hc
       ·cases hc; exact LRel.nil
       ·cases hc
      | some a =>
       obtain ⟨a', k', rfl, hp, _⟩ := hs'.slice_any
       obtain ⟨ys, q1, q2, q3⟩ := rcells_ok (P := P) H hp hc
       exact ⟨m, ys, by simp [Builtin.lenOf], rfl, q1, by simp [Builtin.firstCells, q3]⟩
     ·rename_i s
      obtain rfl := hs'.atom_eq rfl
      split at hm
      ·simp only [Option.some.injEq, Prod.mk.injEq] at hm
       obtain ⟨rfl, rfl⟩ := hm
       refine ⟨s.size, (bytesOf s).take (Nat.min s.size dLen), by simp [Builtin.lenOf], rfl, (LRel.flat (bytesOf_flat s)).take _, ?_⟩
       simp only [Builtin.firstCells]
       show Result.ok _ w = _
       congr 1
       apply Array.ext'
       simp only [Array.toList_map, bytesOf]
       congr 1
       have : (s.extract 0 (Nat.min s.size dLen)).data = s.data.extract 0 (Nat.min s.size dLen) := by simp
       rw [this]
       simp
      ·cases hm
     ·cases hm
    split at ha
    ·rename_i n hm
     cases ha
     obtain ⟨m, ys, q1, q2, q3, q4⟩ := read _ _ hm
     obtain rfl := q3.nil_left
     refine ValOk.same H (v' := goInt n) ?_ (.atom rfl)
     cases base with
     | none =>
      obtain rfl := hd'.atom_eq rfl
      simp [Builtin.copy_, h0, g1, g2, r1, q1, r2]
      rw [q2, q4]
      rfl
     | some a =>
      obtain ⟨a', k', rfl, _⟩ := hd'.slice_any
      simp [Builtin.copy_, h0, g1, g2, r1, q1, r2]
      rw [q2, q4]
      rfl
    ·rename_i n cs hne hm
     obtain ⟨m, ys, q1, q2, q3, q4⟩ := read _ _ hm
     split at ha
     ·rename_i i o
      cases hw : wcells h i o cs with
      | none => simp [hw] at ha
      | some h' =>
       simp [hw] at ha
       subst ha
       have hg : ∃ z, h.get i = some z ∧ z ≠ .dead := by
        unfold wcells at hw
        split at hw
        ·rename_i hg; exact ⟨_, hg, by simp⟩
        ·cases hw
       obtain ⟨z, hg, hz⟩ := hg
       obtain ⟨g, k', hi, rfl, _⟩ := hd'.slice_live H hg hz
       obtain ⟨w', hrun, H', A'⟩ := wcells_ok (P := P) H hi q3 hw
       refine ⟨goInt n, ρ, w', ?_, .atom rfl, H', A'⟩
       simp [Builtin.copy_, h0, g1, g2, r1, q1, r2]
       rw [q2, q4]
       simp [hrun]
     ·cases ha
    ·cases ha
   ·cases ha
  ·cases ha
 ·cases ha
theorem acallFunc_ok (H : HRel ρ h w) {f : FuncId} {args args' : Array Value} {r : ANext} (hA : ARel (VRel ρ) args args') (ha : acallFunc P h f args = some r) : OpOk P ρ h w r (callFunc f args') := by
 unfold acallFunc at ha
 split at ha
 ·rename_i fn hf
  split at ha
  ·cases ha
  ·rename_i hn
   split at ha
   ·rename_i b hb
    cases ha
    have hn' : ¬ fn.name = "runtime.NumGoroutine" := by simpa using hn
    exact ⟨args', by simp [callFunc, hf, hn', hb], hA⟩
   ·rename_i hb
    split at ha
    ·rename_i hfl
     have hArgs : args' = args := toList_of_ARel_eq hA fun x hx y hy => VRel.flat_eq (List.all_eq_true.1 hfl x hx) hy
     subst hArgs
     split at ha
     ·rename_i v hv
      split at ha
      ·rename_i hfv
       cases ha
       exact ⟨.value v, v, ρ, w, pureRun_sound P _ _ hv w, .inl rfl, .flat hfv, H, Adv.refl _ _ _ _⟩
      ·cases ha
     ·cases ha
    ·cases ha
 ·cases ha
theorem aflat_ok (H : HRel ρ h w) {o : Oper} (hs : ∀ cs b, o.op ≠ .select cs b) {ev ce : Operand → Value} {r : ANext} (he : ∀ x ∈ o.op.operands, VRel ρ (ev x) (ce x)) (ha : aflat P o ev h = some r) : OpOk P ρ h w r (execOp ce o) := by
 unfold aflat at ha
 split at ha
 ·rename_i hf
  have e : execOp ce o = execOp ev o := execOp_congr o hs fun x hx => VRel.flat_eq (List.all_eq_true.1 hf x (by simpa using hx)) (he x hx)
  rw [e]
  split at ha
  ·rename_i v hv
   split at ha
   ·rename_i hfv
    cases ha
    exact ⟨.value v, v, ρ, w, pureRun_sound P _ _ hv w, .inl rfl, .flat hfv, H, Adv.refl _ _ _ _⟩
   ·cases ha
  ·cases ha
 ·cases ha
theorem ARel.append {R : Value → Value → Prop} {a b c d : Array Value} (k : ARel R a b) (l : ARel R c d) : ARel R (a ++ c) (b ++ d) := by
 have e : ∀ x y : Array Value, (x.toList ++ y.toList).toArray = x ++ y := fun x y => by
  apply Array.ext'
  simp
 rw [← e, ← e]
 exact ARel.of_LRel (LRel.append (LRel.of_ARel k) (LRel.of_ARel l))
theorem ARel.map {ev ce : Operand → Value} {xs : Array Operand} (he : ∀ x ∈ xs, VRel ρ (ev x) (ce x)) : ARel (VRel ρ) (xs.map ev) (xs.map ce) := by
 refine ⟨by simp, fun i x y hx hy => ?_⟩
 simp only [Array.getElem?_map, Option.map_eq_some_iff] at hx hy
 obtain ⟨a, ha, rfl⟩ := hx
 obtain ⟨b, hb, rfl⟩ := hy
 rw [ha] at hb
 cases hb
 exact he a (Array.mem_of_getElem? ha)
theorem OpOk.eq {r : ANext} {s s' : Sem Next} (k : OpOk P ρ h w r s) (e : s'.run P w = s.run P w) : OpOk P ρ h w r s' := by
 cases r with
 | val v h' =>
  obtain ⟨nx, v', ρ', w', q, k⟩ := k
  exact ⟨nx, v', ρ', w', e.trans q, k⟩
 | enter f args =>
  obtain ⟨args', q, k⟩ := k
  exact ⟨args', e.trans q, k⟩
 | round l args =>
  obtain ⟨l', args', q, k⟩ := k
  exact ⟨l', args', e.trans q, k⟩
theorem acall_ok (H : HRel ρ h w) {o : Oper} {c : Call} (ho : o.op = .call c) {ev ce : Operand → Value} {r : ANext} (he : ∀ x ∈ o.op.operands, VRel ρ (ev x) (ce x)) (ha : acall P o c ev h = some r) : OpOk P ρ h w r (execOp ce o) := by
 have hs : ∀ cs b, o.op ≠ .select cs b := by rw [ho]; intro cs b e; cases e
 have hex : execOp ce o = (do let d ← resolve ce c o.type; invoke d.target d.args) := by
  obtain ⟨dst, op, type, pos, after, guard⟩ := o
  simp only at ho
  subst ho
  rfl
 have hops : ∀ x ∈ c.operands, VRel ρ (ev x) (ce x) := fun x hx => he x (by rw [ho]; exact hx)
 have hargs : ARel (VRel ρ) (c.args.map ev) (c.args.map ce) := ARel.map fun x hx => hops x (by simp [Call.operands, hx])
 unfold acall at ha
 split at ha
 ·rename_i f hcal
  have hf : VRel ρ (ev f) (ce f) := hops f (by simp [Call.operands, hcal])
  split at ha
  ·rename_i g first captured hev
   rw [hev] at hf
   obtain ⟨fn', first', cap', q, hfn, h1, h2⟩ := hf.unfold
   have hfn : fn' = .func g := hfn
   subst hfn
   have := acallFunc_ok (P := P) H ((h1.append hargs).append h2) ha
   rw [hex]
   refine this.eq ?_
   simp [resolve, hcal, q, Deferred.ofValue, invoke]
  ·rename_i l first captured hev
   rw [hev] at hf
   obtain ⟨fn', first', cap', q, hfn, h1, h2⟩ := hf.unfold
   obtain ⟨l', rfl, hl⟩ := hfn
   cases ha
   rw [hex]
   refine ⟨l', first' ++ c.args.map ce, ?_, hl, h1.append hargs⟩
   simp [resolve, hcal, q, Deferred.ofValue, invoke]
  ·cases ha
 ·rename_i b hcal
  split at ha
  ·rw [hex]
   refine (ValOkN.op (aappend_ok H o.type hargs ha)).eq ?_
   simp [resolve, hcal, invoke, builtin]
  ·rw [hex]
   refine (ValOkN.op (acopy_ok H o.type hargs ha)).eq ?_
   simp [resolve, hcal, invoke, builtin]
  ·rw [hex]
   refine (ValOkN.op (aclear_ok H o.type hargs ha)).eq ?_
   simp [resolve, hcal, invoke, builtin]
  ·split at ha
   ·rename_i v hv
    cases ha
    rw [hex]
    obtain ⟨q1, q2⟩ := alen_ok H hargs hv o.type
    exact ⟨.value v, v, ρ, w, by simp [resolve, hcal, invoke, builtin, q1], .inl rfl, .flat q2, H, Adv.refl _ _ _ _⟩
   ·exact aflat_ok H hs he ha
  ·exact aflat_ok H hs he ha
 ·cases ha
theorem valOf_ok (H : HRel ρ h w) {x : Option Value} {r : ANext} {s : Sem Value} (hx : ∀ v, x = some v → ∃ v', s.run P w = .ok v' w ∧ VRel ρ v v') (ha : valOf x h = some r) : OpOk P ρ h w r (do pure (.value (← s))) := by
 cases x with
 | none => simp [valOf] at ha
 | some v =>
  simp only [valOf, Option.map_some, Option.some.injEq] at ha
  subst ha
  obtain ⟨v', q1, q2⟩ := hx v rfl
  exact ValOkN.op (r := .val v h) (ValOk.same H q1 q2)
theorem skipOf_ok {x : Option AHeap} {r : ANext} {s : Sem Unit} (hx : ∀ h', x = some h' → ∃ w', s.run P w = .ok () w' ∧ HRel ρ h' w' ∧ Adv h.n ρ h w ρ h' w') (ha : skipOf x = some r) : OpOk P ρ h w r (do s; pure .skip) := by
 cases x with
 | none => simp [skipOf] at ha
 | some h' =>
  simp only [skipOf, Option.map_some, Option.some.injEq] at ha
  subst ha
  obtain ⟨w', q1, q2, q3⟩ := hx h' rfl
  exact ⟨.skip, Go.undef, ρ, w', by simp [q1], .inr ⟨rfl, rfl⟩, .undef, q2, q3⟩
theorem parts_rel {ev ce : Operand → Value} {ps : Array (Nat × Operand)} (he : ∀ x ∈ ps.map (·.2), VRel ρ (ev x) (ce x)) :
  PartsRel (VRel ρ) (ps.map fun (i, x) => (i, ev x)).toList (ps.map fun (i, x) => (i, ce x)).toList := by
 refine ⟨by simp, fun i x y hx hy => ?_⟩
 simp only [Array.toList_map, List.getElem?_map, Option.map_eq_some_iff] at hx hy
 obtain ⟨a, ha, rfl⟩ := hx
 obtain ⟨b, hb, rfl⟩ := hy
 rw [ha] at hb
 cases hb
 refine ⟨rfl, he a.2 ?_⟩
 rw [Array.mem_map]
 exact ⟨a, by rw [Array.mem_def]; exact List.mem_of_getElem? ha, rfl⟩
theorem orel_map {ev ce : Operand → Value} {x : Option Operand} (he : ∀ y, x = some y → VRel ρ (ev y) (ce y)) : ORel (VRel ρ) (x.map ev) (x.map ce) := by
 cases x with
 | none => trivial
 | some y => exact he y rfl
theorem vfield_ok {t : TypeId} {x y v : Value} {f : Nat} (hx : VRel ρ x y) (ha : pureRun P (Instr.field t x f) = some v) : ∃ v', (∀ w, (Instr.field t y f).run P w = .ok v' w) ∧ VRel ρ v v' := by
 unfold Instr.field at ha
 rw [pureRun_bind] at ha
 cases hu : pureRun P (underlying t) with
 | none => simp [hu] at ha
 | some u =>
  have r1 := pureRun_sound P _ _ hu
  rw [hu, Option.bind_some] at ha
  cases u with
  | struct fields =>
   simp only at ha
   cases hf : fields[f]? with
   | none => simp [hf, pureRun_stuck] at ha
   | some fd =>
    simp only [hf] at ha
    rw [pureRun_bind] at ha
    cases x with
    | agg cs =>
     obtain ⟨cs', rfl, hc⟩ := hx.unfold
     simp only [asAgg, pureRun_pure, Option.bind_some, part] at ha
     rw [pureRun_bind] at ha
     cases hg : pureRun P (isAgg fd.type) with
     | none => simp [hg] at ha
     | some b =>
      have r2 := pureRun_sound P _ _ hg
      rw [hg, Option.bind_some] at ha
      cases b with
      | true =>
       simp only [if_true] at ha
       rw [pureRun_bind] at ha
       cases hs : pureRun P (sizeOf fd.type) with
       | none => simp [hs] at ha
       | some n =>
        have r3 := pureRun_sound P _ _ hs
        rw [hs, Option.bind_some, pureRun_pure] at ha
        simp only [Option.some.injEq] at ha
        subst ha
        refine ⟨.agg (cs'.extract fd.offset (fd.offset + n)), fun w => by simp [Instr.field, r1, hf, asAgg, part, r2, r3], .fold ⟨_, rfl, ?_⟩⟩
        refine ⟨by simp [hc.1], fun i a b ha hb => ?_⟩
        rw [Array.getElem?_extract] at ha hb
        rw [← hc.1] at hb
        split at ha
        ·rename_i hlt
         rw [if_pos hlt] at hb
         exact hc.2 _ _ _ ha hb
        ·cases ha
      | false =>
       simp only [Bool.false_eq_true, if_false] at ha
       cases he : cs[fd.offset]? with
       | none => simp [he, pureRun_stuck] at ha
       | some z =>
        simp only [he, pureRun_pure, Option.some.injEq] at ha
        subst ha
        obtain ⟨z', q1, q2⟩ := ARel.get hc he
        exact ⟨z', fun w => by simp [Instr.field, r1, hf, asAgg, part, r2, q1], q2⟩
    | _ => simp [asAgg, pureRun_stuck] at ha
  | _ => simp [pureRun_stuck] at ha
theorem vindex_ok {t : TypeId} {cs : Array Value} {x y ix iy v : Value} (hx0 : x = .agg cs) (hx : VRel ρ x y) (hi : VRel ρ ix iy) (ha : pureRun P (Instr.index t x ix) = some v) : ∃ v', (∀ w, (Instr.index t y iy).run P w = .ok v' w) ∧ VRel ρ v v' := by
 subst hx0
 unfold Instr.index at ha
 cases ix with
 | int k i =>
  obtain rfl := hi.unfold
  simp only [asIntOf, pure_bind] at ha
  rw [pureRun_bind] at ha
  cases hu : pureRun P (underlying t) with
  | none => simp [hu] at ha
  | some u =>
   have r1 := pureRun_sound P _ _ hu
   rw [hu, Option.bind_some] at ha
   cases u with
   | array len elem =>
    obtain ⟨cs', rfl, hc⟩ := hx.unfold
    simp only at ha
    split at ha
    ·rename_i hb
     rw [pureRun_bind] at ha
     cases hz : pureRun P (sizeOf elem) with
     | none => simp [hz] at ha
     | some z =>
      have r4 := pureRun_sound P _ _ hz
      rw [hz, Option.bind_some] at ha
      simp only [part] at ha
      rw [pureRun_bind] at ha
      cases hg : pureRun P (isAgg elem) with
      | none => simp [hg] at ha
      | some b =>
       have r2 := pureRun_sound P _ _ hg
       rw [hg, Option.bind_some] at ha
       cases b with
       | true =>
        simp only [if_true] at ha
        rw [pureRun_bind] at ha
        rw [hz, Option.bind_some, pureRun_pure] at ha
        simp only [Option.some.injEq] at ha
        subst ha
        refine ⟨.agg (cs'.extract (i.toNat * z) (i.toNat * z + z)), fun w => by simp [Instr.index, asIntOf, r1, hb, part, r2, r4], .fold ⟨_, rfl, ?_⟩⟩
        refine ⟨by simp [hc.1], fun i a b ha hb => ?_⟩
        rw [Array.getElem?_extract] at ha hb
        rw [← hc.1] at hb
        split at ha
        ·rename_i hlt
         rw [if_pos hlt] at hb
         exact hc.2 _ _ _ ha hb
        ·cases ha
       | false =>
        simp only [Bool.false_eq_true, if_false] at ha
        cases he : cs[i.toNat * z]? with
        | none => simp [he, pureRun_stuck] at ha
        | some q =>
         simp only [he, pureRun_pure, Option.some.injEq] at ha
         subst ha
         obtain ⟨q', q1, q2⟩ := ARel.get hc he
         exact ⟨q', fun w => by simp [Instr.index, asIntOf, r1, hb, part, r2, r4, q1], q2⟩
    ·simp [pureRun_bounds] at ha
   | _ => simp [pureRun_stuck] at ha
 | pointer p =>
  rw [pureRun_bind] at ha
  have e : pureRun P (asIntOf (Value.pointer p)) = none := by cases p <;> rfl
  rw [e] at ha
  cases ha
 | _ =>
  rw [pureRun_bind] at ha
  simp [asIntOf, pureRun_stuck] at ha
theorem arrayAt_ok (H : HRel ρ h w) {arr : TypeId} {x y : Value} {r : ANext} (hx : VRel ρ x y) (ha : aarrayAt P h arr x = some r) : ValOkN P ρ h w r (Instr.arrayAt arr y) := by
 unfold aarrayAt at ha
 split at ha
 ·rename_i n e a len k hu
  have r1 := pureRun_sound P _ _ hu
  split at ha
  ·rename_i hle
   have hle := Nat.le_of_ble_eq_true hle
   cases ha
   obtain ⟨a', k', rfl, hp, _⟩ := hx.slice_any
   refine ValOk.same H (v' := .pointer (some a')) ?_ (.fold ⟨a', rfl, hp⟩)
   have : ¬ len < n := by omega
   simp [Instr.arrayAt, r1, this]
  ·cases ha
 ·cases ha
theorem aop_ok (H : HRel ρ h w) {o : Oper} {ev ce : Operand → Value} {r : ANext} (he : ∀ x ∈ o.op.operands, VRel ρ (ev x) (ce x)) (ha : aop P o ev h = some r) : OpOk P ρ h w r (execOp ce o) := by
 have hflat : (∀ cs b, o.op ≠ .select cs b) → aflat P o ev h = some r → OpOk P ρ h w r (execOp ce o) := fun hs k => aflat_ok H hs he k
 have hcall : ∀ c, o.op = .call c → acall P o c ev h = some r → OpOk P ρ h w r (execOp ce o) := fun c hc k => acall_ok H hc he k
 obtain ⟨dst, op, type, pos, after, guard⟩ := o
 simp only at he hflat hcall
 cases op with
 | move x =>
  simp only [aop, Option.some.injEq] at ha
  subst ha
  exact ⟨.value (ce x), ce x, ρ, w, rfl, .inl rfl, he x (by simp [Op.operands]), H, Adv.refl _ _ _ _⟩
 | assign x =>
  simp only [aop, Option.some.injEq] at ha
  subst ha
  exact ⟨.value (ce x), ce x, ρ, w, rfl, .inl rfl, he x (by simp [Op.operands]), H, Adv.refl _ _ _ _⟩
 | pick c a b =>
  simp only [aop] at ha
  have hc := he c (by simp [Op.operands])
  split at ha
  ·rename_i t ht
   rw [ht] at hc
   have hc := hc.bool
   cases ha
   refine ⟨.value (if t then ce a else ce b), if t then ce a else ce b, ρ, w, by simp [execOp, hc, asBool], .inl rfl, ?_, H, Adv.refl _ _ _ _⟩
   cases t
   ·exact he b (by simp [Op.operands])
   ·exact he a (by simp [Op.operands])
  ·cases ha
 | alloc elem => simp only [aop] at ha; exact ValOkN.op (aalloc_ok H ha)
 | box elem x => simp only [aop] at ha; exact ValOkN.op (abox_ok H (he x (by simp [Op.operands])) ha)
 | build t parts =>
  simp only [aop] at ha
  refine valOf_ok H (fun v hv => ?_) ha
  obtain ⟨v', q1, q2⟩ := abuild_ok (parts_rel fun x hx => he x (by simpa [Op.operands] using hx)) hv
  exact ⟨v', q1 w, q2⟩
 | buildSlice t len parts => simp only [aop] at ha; exact ValOkN.op (abuildSlice_ok H (parts_rel fun x hx => he x (by simpa [Op.operands] using hx)) ha)
 | load t a => simp only [aop] at ha; exact valOf_ok H (fun v hv => aload_ok H (he a (by simp [Op.operands])) hv) ha
 | store t a x => simp only [aop] at ha; exact skipOf_ok (fun h' hh => astore_ok H (he a (by simp [Op.operands])) (he x (by simp [Op.operands])) hh) ha
 | nilCheck x =>
  simp only [aop] at ha
  have hx := he x (by simp [Op.operands])
  split at ha
  ·rename_i a hv
   rw [hv] at hx
   obtain ⟨a', q, hp⟩ := hx.ptr_any
   cases ha
   exact ⟨.value (.pointer (some a')), _, ρ, w, by simp [execOp, q], .inl rfl, .fold ⟨a', rfl, hp⟩, H, Adv.refl _ _ _ _⟩
  ·rename_i f first captured hv
   rw [hv] at hx
   obtain ⟨fn', f', c', q, h1, h2, h3⟩ := hx.unfold
   have h1 : fn' = .func f := h1
   subst h1
   cases ha
   exact ⟨.value (.func (.func f) f' c'), _, ρ, w, by simp [execOp, q], .inl rfl, .fold ⟨_, f', c', rfl, rfl, h2, h3⟩, H, Adv.refl _ _ _ _⟩
  ·rename_i f first captured hv
   rw [hv] at hx
   obtain ⟨fn', f', c', q, ⟨l', rfl, hl⟩, h2, h3⟩ := hx.unfold
   cases ha
   exact ⟨.value (.func (.yield l') f' c'), _, ρ, w, by simp [execOp, q], .inl rfl, .fold ⟨_, f', c', rfl, ⟨l', rfl, hl⟩, h2, h3⟩, H, Adv.refl _ _ _ _⟩
  ·cases ha
 | binOp op t x y yt =>
  simp only [aop] at ha
  have hx := he x (by simp [Op.operands])
  have hy := he y (by simp [Op.operands])
  split at ha
  ·rename_i k a k' b hvx hvy
   rw [hvx] at hx
   rw [hvy] at hy
   split at ha
   ·rename_i v hv
    cases ha
    obtain ⟨q1, q2⟩ := fbin_ok (P := P) t x y hv w
    refine ValOkN.op (s := do eqGuard op t x y (ce x) (ce y); binOp op t (ce x) (ce y)) (r := .val v h) (ValOk.same H (v' := v) ?_ (.flat q2))
    rw [hx.int, hy.int]
    exact q1
   ·exact hflat (by simp) ha
  ·split at ha
   ·rename_i v hv
    cases ha
    obtain ⟨q1, q2⟩ := anil_ok x y hx hy hv w
    exact ValOkN.op (s := do eqGuard op t x y (ce x) (ce y); binOp op t (ce x) (ce y)) (r := .val v h) (ValOk.same H q1 (.flat q2))
   ·exact hflat (by simp) ha
 | convert src dst x => simp only [aop] at ha; exact ValOkN.op (aconvert_ok H (he x (by simp [Op.operands])) ha)
 | sliceToArrayPointer arr x => simp only [aop] at ha; exact ValOkN.op (arrayAt_ok H (he x (by simp [Op.operands])) ha)
 | makeFunc fn first captured =>
  simp only [aop] at ha
  split at ha
  ·rename_i f
   cases ha
   exact ⟨.value (.func (.func f) (first.map ce) (captured.map ce)), _, ρ, w, rfl, .inl rfl, .fold ⟨_, _, _, rfl, rfl, ARel.map fun x hx => he x (by simp [Op.operands, hx]), ARel.map fun x hx => he x (by simp [Op.operands, hx])⟩, H, Adv.refl _ _ _ _⟩
  ·cases ha
 | makeMap t r => simp only [aop] at ha; exact ValOkN.op (amakeMap_ok H (orel_map fun y hy => he y (by simp [Op.operands, hy])) ha)
 | makeSlice t l c => simp only [aop] at ha; exact ValOkN.op (amakeSlice_ok H (he l (by simp [Op.operands])) (he c (by simp [Op.operands])) ha)
 | slice t x lo hi mx =>
  simp only [aop] at ha
  split at ha
  ·exact hflat (by simp) ha
  ·exact ValOkN.op (aslice_ok H (he x (by simp [Op.operands])) (orel_map fun y hy => he y (by simp [Op.operands, hy])) (orel_map fun y hy => he y (by simp [Op.operands, hy])) (orel_map fun y hy => he y (by simp [Op.operands, hy])) ha)
 | fieldAddr s x f =>
  simp only [aop] at ha
  refine valOf_ok H (fun v hv => ?_) ha
  obtain ⟨v', q1, q2⟩ := afield_ok (he x (by simp [Op.operands])) hv
  exact ⟨v', q1 w, q2⟩
 | field t x f =>
  simp only [aop] at ha
  refine valOf_ok H (fun v hv => ?_) ha
  obtain ⟨v', q1, q2⟩ := vfield_ok (he x (by simp [Op.operands])) hv
  exact ⟨v', q1 w, q2⟩
 | indexAddr t x ix =>
  simp only [aop] at ha
  refine valOf_ok H (fun v hv => ?_) ha
  obtain ⟨v', q1, q2⟩ := aindex_ok (he x (by simp [Op.operands])) (he ix (by simp [Op.operands])) hv
  exact ⟨v', q1 w, q2⟩
 | lookup t x ix ok => simp only [aop] at ha; exact valOf_ok H (fun v hv => alookup_ok H (he x (by simp [Op.operands])) (he ix (by simp [Op.operands])) hv) ha
 | mapUpdate t m k x => simp only [aop] at ha; exact skipOf_ok (fun h' hh => amapUpdate_ok H (he m (by simp [Op.operands])) (he k (by simp [Op.operands])) (he x (by simp [Op.operands])) hh) ha
 | insert t m k x => simp only [aop] at ha; exact skipOf_ok (fun h' hh => amapUpdate_ok H (he m (by simp [Op.operands])) (he k (by simp [Op.operands])) (he x (by simp [Op.operands])) hh) ha
 | range t x => simp only [aop] at ha; exact ValOkN.op (arange_ok H (he x (by simp [Op.operands])) ha)
 | next it isString => simp only [aop] at ha; exact ValOkN.op (anext_ok H (he it (by simp [Op.operands])) ha)
 | extract t i =>
  simp only [aop] at ha
  refine valOf_ok H (fun v hv => ?_) ha
  obtain ⟨v', q1, q2⟩ := aextract_ok (he t (by simp [Op.operands])) hv
  exact ⟨v', q1 w, q2⟩
 | call c => simp only [aop] at ha; exact hcall c rfl ha
 | unOp op t x => simp only [aop] at ha; exact hflat (by simp) ha
 | index t x ix =>
  simp only [aop] at ha
  split at ha
  ·rename_i cs hx
   refine valOf_ok H (fun v hv => ?_) ha
   obtain ⟨v', q1, q2⟩ := vindex_ok hx (he x (by simp [Op.operands])) (he ix (by simp [Op.operands])) hv
   exact ⟨v', q1 w, q2⟩
  ·exact hflat (by simp) ha
 | _ => simp [aop] at ha
end
end Go.Am
namespace Go.Am
def fence (rd : Option Nat) : Fence := { Fence.wide with round := rd }
theorem fence_depth (rd : Option Nat) (n : Nat) : (fence rd).depth.isSome = true → 1 ≤ n := fun h => by simp [fence, Fence.wide] at h
def MarksRel (ρ : Rho) (ms : List Nat) (ds : List Deferred) : Prop :=
 ds.length = ms.length ∧ ∀ (i : Nat) m d, ms[i]? = some m → ds[i]? = some d → ∃ r, d = { target := .collected r, args := #[] } ∧ BRel ρ m r
theorem MarksRel.mono {ρ ρ' : Rho} (h : ρ.le ρ') {ms : List Nat} {ds : List Deferred} (k : MarksRel ρ ms ds) : MarksRel ρ' ms ds :=
 ⟨k.1, fun i m d hm hd => let ⟨r, e, hb⟩ := k.2 i m d hm hd; ⟨r, e, hb.mono h⟩⟩
def RdRel (ρ : Rho) : Option Nat → Option Nat → Prop
 | none, none => True
 | some l, some l' => BRel ρ l l'
 | _, _ => False
theorem RdRel.mono {ρ ρ' : Rho} (h : ρ.le ρ') {a b : Option Nat} (k : RdRel ρ a b) : RdRel ρ' a b := by
 cases a <;> cases b <;> simp only [RdRel] at *
 exact k.mono h
theorem undef_getD (a : Array Value) (t : Nat) (ht : a.size ≤ t) : a.getD t Go.undef = Go.undef := by
 rw [Array.getD_eq_getD_getElem?, Array.getElem?_eq_none ht]
 rfl
theorem TmpsRel.put {ρ ρ' : Rho} (hle : ρ.le ρ') {a : AAct} {act : Act} (k : TmpsRel ρ a act.tmps) {dst : Option Tmp} {v v' : Value} (hd : ∀ d, dst = some d → d < a.n) (hv : VRel ρ' v v') : TmpsRel ρ' (a.put dst v) (act.put dst v').tmps := by
 cases dst with
 | none => exact k.mono hle
 | some d =>
  refine ⟨by simp [Act.put, k.size], fun t => ?_⟩
  rw [AAct.tmp_put]
  simp only [Act.put, Array.getD_eq_getD_getElem?]
  rw [Array.getElem?_setIfInBounds]
  have hlt : d < act.tmps.size := by rw [← k.size]; exact hd d rfl
  by_cases e : t = d
  ·subst e
   rw [if_pos rfl, if_pos rfl, if_pos hlt]
   exact hv
  ·rw [if_neg e, if_neg (Ne.symm e)]
   have := (k.tmp t).mono hle
   rwa [Array.getD_eq_getD_getElem?] at this
def Globs (P : Program) (ρ : Rho) : Prop := ∀ g, g < P.globals.size → ρ g = .dead ∨ ∃ q, ρ g = .live q ∧ q.b = g ∧ q.sh = 0
theorem Globs.mono {P : Program} {ρ ρ' : Rho} (h : ρ.le ρ') (k : Globs P ρ) : Globs P ρ' := fun g hg => by
 have hs := h g
 rcases k g hg with e | ⟨q, e, h1, h2⟩
 ·rw [e] at hs; exact .inl hs
 ·rw [e] at hs
  rcases hs with e' | e'
  ·exact .inr ⟨q, e', h1, h2⟩
  ·exact .inl e'
theorem eval_rel {P : Program} {ρ : Rho} {a : AAct} {act : Act} (G : Globs P ρ) (k : TmpsRel ρ a act.tmps) {o : Oper} (hc : constsFlat P o = true) : ∀ x ∈ o.op.operands, VRel ρ (a.eval x) (act.eval x) := by
 intro x hx
 have hcx := List.all_eq_true.1 hc x (by simpa using hx)
 cases x with
 | tmp t => exact k.tmp t
 | const v => exact .flat (n := 3) hcx
 | global g =>
  have hg : g < P.globals.size := by simpa [Nat.blt_eq] using hcx
  refine .fold ⟨⟨g, 0, none⟩, rfl, ?_⟩
  unfold PRel
  rcases G g hg with e | ⟨q, e, h1, h2⟩
  ·simp [e]
  ·simp [e, h1, h2]
 | func f => exact .fold ⟨.func f, #[], #[], rfl, rfl, ARel.refl_of fun x hx => by simp at hx, ARel.refl_of fun x hx => by simp at hx⟩
theorem VRel.bool_back {ρ : Rho} {v : Value} {b : Bool} (k : VRel ρ v (.bool b)) : v = .bool b := by
 have h := k.unfold
 cases v with
 | bool c => exact (show (Value.bool b) = .bool c from h).symm
 | pointer a => cases a <;> simp [VStep] at h
 | slice a n c => cases a <;> simp [VStep] at h
 | map a => cases a <;> simp [VStep] at h
 | chan a => cases a <;> simp [VStep] at h
 | _ => simp [VStep] at h
theorem wanted_rel {ρ : Rho} {a : AAct} {act : Act} (k : TmpsRel ρ a act.tmps) (ops : Array Oper) (o : Oper) : Region.wanted o (yielded ops act.tmps) = Region.wanted o (ayielded ops a) := by
 unfold Region.wanted
 cases o.guard with
 | none => rfl
 | some gw =>
  obtain ⟨j, want⟩ := gw
  have : yielded ops act.tmps j = ayielded ops a j := by
   unfold yielded ayielded
   cases (ops[j]?).bind (·.dst) with
   | none => rfl
   | some t =>
    have hk := k.tmp t
    rw [Array.getD_eq_getD_getElem?] at hk
    simp only [Option.bind_some]
    by_cases hlt : t < act.tmps.size
    ·have e : act.tmps[t]? = some act.tmps[t] := Array.getElem?_eq_getElem hlt
     rw [e] at hk ⊢
     simp only [Option.getD_some] at hk
     have hb : Nat.blt t a.n = true := by rw [Nat.blt_eq, k.size]; exact hlt
     rw [hb]
     cases hc : act.tmps[t] with
     | bool b => rw [hc] at hk; rw [hk.bool_back]
     | _ =>
      cases ha : a.tmp t with
      | bool b => rw [ha] at hk; rw [hk.bool] at hc; cases hc
      | _ => rfl
    ·rw [Array.getElem?_eq_none (Nat.le_of_not_lt hlt)]
     have hb : Nat.blt t a.n = false := by
      cases hq : Nat.blt t a.n with
      | false => rfl
      | true => rw [Nat.blt_eq, k.size] at hq; exact absurd hq hlt
     rw [hb]
  show (yielded ops act.tmps j == some want) = (ayielded ops a j == some want)
  rw [this]
structure SRel (P : Program) (ρ : Rho) (a : AAct) (h : AHeap) (act : Act) (w : World) : Prop where
 heap : HRel ρ h w
 tmps : TmpsRel ρ a act.tmps
 marks : MarksRel ρ a.marks act.defers
 globs : Globs P ρ
end Go.Am
namespace Go.Am
def LoopWp (F : Fence) (n : Nat) (P : Program) (c : Code) (Q : Exit → Act → World → Prop) (a : Act) (w : World) : Prop :=
 ∀ (b : Frame) (k : List Item) (cs : List Frame), b.roundOf = F.round → F.fn b.fn → F.room (cs.length + 1 + n) →
  ∃ e a' w', Q e a' w' ∧ ArrivesIn (Machine.fenced P F) P (lone (b.atR a (.code c :: .inLoop c :: k)) cs w) b k cs e a' w'
section
variable {F : Fence} {n : Nat} {P : Program} {Q : Exit → Act → World → Prop} {a : Act} {w : World}
theorem LoopWp.wp {c : Code} (h : LoopWp F n P c Q a w) : (Code.loop c).wpIn F n P Q a w := by
 intro b k cs hro hb hr
 obtain ⟨e, a', w', hq, harr⟩ := h b k cs hro hb hr
 exact ⟨e, a', w', hq, .of_steps (.one (fenced_calm hb hr rfl) stepR_loop) harr⟩
theorem LoopWp.round {c : Code} (h : c.wpIn F n P (Exit.then (LoopWp F n P c Q) Q) a w) : LoopWp F n P c Q a w := by
 intro b k cs hro hb hr
 obtain ⟨e, a₁, w₁, hq, harr⟩ := h b (.inLoop c :: k) cs hro hb hr
 cases e with
 | normal =>
  obtain ⟨e₂, a₂, w₂, hq₂, harr₂⟩ := hq b k cs hro hb hr
  exact ⟨e₂, a₂, w₂, hq₂, .of_steps (StepsIn.trans harr (.one (fenced_calm hb hr rfl) stepR_inLoop)) harr₂⟩
 | exit id => exact ⟨_, a₁, w₁, hq, .pass (x := .inLoop c) rfl (fun _ _ => .inl (by simp)) harr⟩
 | goto l => exact ⟨_, a₁, w₁, hq, .pass (x := .inLoop c) rfl (fun _ _ => .inl (by simp)) harr⟩
 | ret => exact ⟨_, a₁, w₁, hq, .pass (x := .inLoop c) rfl (fun _ _ => .inl (by simp)) harr⟩
 | panic ch => exact ⟨_, a₁, w₁, hq, .pass (x := .inLoop c) rfl (fun _ _ => .inl (by simp)) harr⟩
 | outgrown => exact ⟨_, a₁, w₁, hq, .pass (x := .inLoop c) rfl (fun _ _ => .inl (by simp)) harr⟩
theorem LoopWp.mono {c : Code} {Q' : Exit → Act → World → Prop} (h : LoopWp F n P c Q a w) (hq : ∀ e a w, Q e a w → Q' e a w) : LoopWp F n P c Q' a w :=
 fun b k cs hro hb hr => let ⟨e, a', w', q, r⟩ := h b k cs hro hb hr; ⟨e, a', w', hq _ _ _ q, r⟩
end
def CPost (ρ : Rho) (h : AHeap) (w : World) (v : Value) (h' : AHeap) : Ending → World → Prop :=
 fun e w' => ∃ v' ρ', e = .returned v' ∧ VRel ρ' v v' ∧ HRel ρ' h' w' ∧ Adv h.n ρ h w ρ' h' w'
def ExPost (P : Program) (ρ : Rho) (h : AHeap) (w : World) (e : Exit) (a' : AAct) (h' : AHeap) : Exit → Act → World → Prop :=
 fun e' act' w' => e' = e ∧ ∃ ρ', SRel P ρ' a' h' act' w' ∧ Adv h.n ρ h w ρ' h' w'
def WpX (rd : Option Nat) (P : Program) (c : Code) (Q : Exit → Act → World → Prop) (act : Act) (w : World) : Prop :=
 c.wpIn (fence rd) 0 P Q act w ∧ ∀ b, c = .loop b → LoopWp (fence rd) 0 P b Q act w
def OrcOk (P : Program) (orc : Orc) : Prop := ∀ f args h v h', orc f args h = some (v, h') → ∀ ρ args' w, HRel ρ h w → Globs P ρ → ARel (VRel ρ) args args' → CallsIn (fence none) 0 P f args' w (CPost ρ h w v h')
structure ExOk (P : Program) (ex : Ex) : Prop where
 run : ∀ rd c a h e a' h', ex rd c a h = some (e, a', h') → ∀ rd' ρ act w, RdRel ρ rd rd' → SRel P ρ a h act w → WpX rd' P c (ExPost P ρ h w e a' h') act w
 orc : OrcOk P ex.orc
section
variable {P : Program} {ρ : Rho} {h : AHeap} {w : World}
theorem enter_get : ∀ (l : List Value) (i : Nat) (t : Tr Value) (j : Nat),
  ((l.foldl (fun (s : Nat × Tr Value) v => (s.1 + 1, s.2.set s.1 v)) (i, t)).2).get j = if i ≤ j ∧ j < i + l.length then l[j - i]? else t.get j
 | [], i, t, j => by simp; intro a b; omega
 | v :: l, i, t, j => by
  rw [List.foldl_cons, enter_get l (i + 1) (t.set i v) j]
  simp only [List.length_cons]
  by_cases e : j = i
  ·subst e
   rw [if_neg (by omega), if_pos (by omega), Tr.get_set, if_pos rfl]
   simp
  ·by_cases e1 : i + 1 ≤ j ∧ j < i + 1 + l.length
   ·rw [if_pos e1, if_pos (by omega), show j - i = (j - (i + 1)) + 1 by omega, List.getElem?_cons_succ]
   ·rw [if_neg e1, if_neg (by omega), Tr.get_set, if_neg e]
theorem enter_tmp (n : Nat) (l : List Value) (j : Nat) : (enterAct n l).tmp j = l[j]?.getD Go.undef := by
 unfold enterAct AAct.tmp
 simp only
 rw [enter_get l 0 Tr.nil j]
 by_cases h : 0 ≤ j ∧ j < 0 + l.length
 ·rw [if_pos h]; simp
 ·rw [if_neg h, Tr.get_nil, List.getElem?_eq_none (by omega)]
theorem enter_rel {args args' : Array Value} {n : Nat} (hA : ARel (VRel ρ) args args') (hn : args.size ≤ n) :
  TmpsRel ρ (enterAct n args.toList) (args' ++ Array.replicate (n - args'.size) Go.undef) := by
 have hs := hA.1
 refine ⟨by simp [enterAct]; omega, fun t => ?_⟩
 rw [enter_tmp, Array.getD_eq_getD_getElem?, Array.getElem?_append]
 by_cases ht : t < args.size
 ·have e1 : args.toList[t]? = some args[t] := by rw [Array.getElem?_toList]; exact Array.getElem?_eq_getElem ht
  have ht' : t < args'.size := by omega
  rw [e1, if_pos ht', Array.getElem?_eq_getElem ht']
  exact hA.2 t _ _ (Array.getElem?_eq_getElem ht) (Array.getElem?_eq_getElem ht')
 ·rw [List.getElem?_eq_none (by simpa using ht), if_neg (by omega)]
  have : ((Array.replicate (n - args'.size) Go.undef)[t - args'.size]?).getD Go.undef = Go.undef := by
   rw [Array.getElem?_replicate]
   split <;> rfl
  rw [this]
  exact .undef
theorem loadVar_ptr {t : TypeId} {v : Value} {x : Value} {w w' : World} (hv : (Instr.loadAt t v).run P w = .ok x w') : (do loadVar t (← asAddr v) : Sem Value).run P w = .ok x w' := by
 cases v with
 | pointer a =>
  cases a with
  | none => simp [Instr.loadAt, Instr.sureAddr] at hv
  | some a => simpa [Instr.loadAt, Instr.sureAddr, asAddr] using hv
 | _ => simp [Instr.loadAt, Instr.sureAddr] at hv
theorem result_ok (H : HRel ρ h w) {a : AAct} {tmps : Array Value} (T : TmpsRel ρ a tmps) {fn : Func} {v : Value} (hr : aresult P fn a h = some v) : ∃ v', (results fn tmps).run P w = .ok v' w ∧ VRel ρ v v' := by
 have list : ∀ (l : List ResultVar) (vs : List Value), amapM (fun
   | ResultVar.tmp t => some (a.tmp t)
   | ResultVar.cell x t => aload P h t (a.tmp x)) l = some vs → ∃ vs', (l.mapM fun
    | ResultVar.tmp t => (pure (tmps.getD t Go.undef) : Sem Value)
    | ResultVar.cell a t => do loadVar t (← asAddr (tmps.getD a Go.undef))).run P w = .ok vs' w ∧ LRel (VRel ρ) vs vs' := by
  intro l
  induction l with
  | nil => intro vs h; simp only [amapM, Option.some.injEq] at h; subst h; exact ⟨[], by simp, LRel.nil⟩
  | cons r l ih =>
   intro vs hvs
   simp only [amapM] at hvs
   split at hvs
   ·rename_i y hy
    cases hm : amapM (fun
     | ResultVar.tmp t => some (a.tmp t)
     | ResultVar.cell x t => aload P h t (a.tmp x)) l with
    | none => rw [hm] at hvs; simp at hvs
    | some ys =>
     rw [hm] at hvs
     simp only [Option.map_some, Option.some.injEq] at hvs
     subst hvs
     obtain ⟨ys', q1, q2⟩ := ih ys hm
     cases r with
     | tmp t =>
      simp only [Option.some.injEq] at hy
      subst hy
      refine ⟨tmps.getD t Go.undef :: ys', ?_, LRel.cons (T.tmp t) q2⟩
      rw [List.mapM_cons]
      rw [run_then (x := (pure (tmps.getD t Go.undef) : Sem Value)) (a := tmps.getD t Go.undef) (w' := w) rfl, run_then q1]
      rfl
     | cell x t =>
      simp only at hy
      obtain ⟨y', z1, z2⟩ := aload_ok (P := P) H (T.tmp x) hy
      refine ⟨y' :: ys', ?_, LRel.cons z2 q2⟩
      have := loadVar_ptr z1
      rw [List.mapM_cons]
      rw [run_then this, run_then q1]
      rfl
   ·cases hvs
 unfold aresult at hr
 have fin : ∀ vs vs' : List Value, amapM (fun
   | ResultVar.tmp t => some (a.tmp t)
   | ResultVar.cell x t => aload P h t (a.tmp x)) fn.results.toList = some vs → (fn.results.toList.mapM fun
    | ResultVar.tmp t => (pure (tmps.getD t Go.undef) : Sem Value)
    | ResultVar.cell a t => do loadVar t (← asAddr (tmps.getD a Go.undef))).run P w = .ok vs' w →
   (results fn tmps).run P w = .ok (if h : vs'.toArray.size = 1 then vs'.toArray[0] else .tuple vs'.toArray) w := by
  intro vs vs' _ hv
  unfold results
  have : (fn.results.mapM fun
    | ResultVar.tmp t => (pure (tmps.getD t Go.undef) : Sem Value)
    | ResultVar.cell a t => do loadVar t (← asAddr (tmps.getD a Go.undef))).run P w = .ok vs'.toArray w := by
   rw [Array.mapM_eq_mapM_toList, ← bind_pure_comp, run_then hv]
   rfl
  exact (run_then this).trans rfl
 split at hr
 ·rename_i v0 hvs
  cases hr
  obtain ⟨vs', q1, q2⟩ := list _ _ hvs
  obtain ⟨v', r', rfl, k1, k2⟩ := q2.cons_left
  obtain rfl := k2.nil_left
  exact ⟨v', by rw [fin _ _ hvs q1]; rfl, k1⟩
 ·rename_i vs hne hvs
  cases hr
  obtain ⟨vs', q1, q2⟩ := list _ _ hvs
  refine ⟨.tuple vs'.toArray, ?_, .fold ⟨_, rfl, ARel.of_LRel q2⟩⟩
  rw [fin _ _ hvs q1, dif_neg]
  intro e
  have hl := q2.1
  simp only [List.size_toArray] at e
  cases vs with
  | nil => simp at hl; omega
  | cons x vs =>
   cases vs with
   | nil => exact hne x rfl
   | cons y vs => simp at hl; omega
 ·cases hr
end
end Go.Am
