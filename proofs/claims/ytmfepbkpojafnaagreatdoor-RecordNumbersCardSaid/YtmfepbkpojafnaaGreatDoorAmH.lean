/-
  OWN WORK. 'Am', eighth text: integers, conversions, comparisons with nil, maps, strings that are ranged over, new slices.
-/
import Derived.Test.YtmfepbkpojafnaaGreatDoorAmG
import Derived.IntWalk
namespace Go.Am

theorem underlying_of {P : Program} {t : TypeId} {d : TypeDesc} (h : pureRun P (underlying t) = some d) : P.underlying t = some d := by
  have : pureRun P (underlying t) = P.underlying t := by
    simp only [underlying, program]
    show pureRun P (Sem.program fun p => match p.underlying t with
      | some d => Sem.pure d
      | none => stuck "no such type") = _
    simp only [pureRun]
    cases P.underlying t <;> rfl
  rw [← this, h]

theorem fwrap_eq (k : IntKind) (n : Int) : fwrap k n = k.wrap n := by
  cases k with
  | i64 =>
    show Bool.rec (motive := fun _ => Int) (IntKind.wrap .i64 n) n (inI64 n) = _
    cases h : inI64 n with
    | false => rfl
    | true =>
      have hb : -9223372036854775808 ≤ n ∧ n < 9223372036854775808 := by
        cases n with
        | ofNat m =>
          have : Nat.blt m 9223372036854775808 = true := h
          rw [Nat.blt_eq] at this
          simp only [Int.ofNat_eq_natCast]
          omega
        | negSucc m =>
          have : Nat.blt m 9223372036854775808 = true := h
          rw [Nat.blt_eq] at this
          rw [Int.negSucc_eq]
          omega
      show n = _
      exact (IntWalk.i64_in n ⟨by omega, by omega⟩).symm
  | u8 =>
    cases n with
    | ofNat m =>
      show Int.ofNat (m % 256) = _
      simp [IntKind.wrap, IntKind.bits, IntKind.signed]
    | negSucc m => rfl
  | _ => rfl
theorem ilt_eq (a b : Int) : ilt a b = decide (a < b) := by
  cases a with
  | ofNat m =>
    cases b with
    | ofNat n =>
      simp only [ilt]
      rw [Bool.eq_iff_iff, Nat.blt_eq, decide_eq_true_eq]
      simp only [Int.ofNat_eq_natCast]
      omega
    | negSucc n =>
      simp only [ilt]
      rw [Bool.eq_iff_iff, decide_eq_true_eq, Int.negSucc_eq]
      simp only [Int.ofNat_eq_natCast]
      constructor
      · intro h; cases h
      · intro h; omega
  | negSucc m =>
    cases b with
    | ofNat n =>
      simp only [ilt]
      rw [Bool.eq_iff_iff, decide_eq_true_eq, Int.negSucc_eq]
      simp only [Int.ofNat_eq_natCast]
      constructor
      · intro _; omega
      · intro _; trivial
    | negSucc n =>
      simp only [ilt]
      rw [Bool.eq_iff_iff, Nat.blt_eq, decide_eq_true_eq, Int.negSucc_eq, Int.negSucc_eq]
      omega
theorem ieq_eq (a b : Int) : ieq a b = (a == b) := by
  cases a with
  | ofNat m =>
    cases b with
    | ofNat n =>
      simp only [ieq]
      rw [Bool.eq_iff_iff, Nat.beq_eq, beq_iff_eq]
      simp only [Int.ofNat_eq_natCast]
      omega
    | negSucc n =>
      simp only [ieq]
      rw [Bool.eq_iff_iff, beq_iff_eq]
      simp
  | negSucc m =>
    cases b with
    | ofNat n =>
      simp only [ieq]
      rw [Bool.eq_iff_iff, beq_iff_eq]
      simp
    | negSucc n =>
      simp only [ieq]
      rw [Bool.eq_iff_iff, Nat.beq_eq, beq_iff_eq]
      simp
theorem kN_eq {k k' : IntKind} (h : Nat.beq (kN k) (kN k') = true) : k = k' := by
  cases k <;> cases k' <;> first | rfl | (simp [kN] at h)

section
variable {P : Program} {ρ : Rho} {h : AHeap} {w : World}

theorem fbin_ok {op : BinOp} {k k' : IntKind} {a b : Int} {v : Value} (t : TypeId) (x y : Operand) (hf : fbin op k k' a b = some v) (w : World) :
    (do eqGuard op t x y (.int k a) (.int k' b); binOp op t (.int k a) (.int k' b) : Sem Value).run P w = .ok v w ∧ flat 3 v = true := by
  unfold fbin at hf
  split at hf
  · rename_i hk
    obtain rfl := kN_eq hk
    cases op <;> simp only [Option.some.injEq, reduceCtorEq] at hf <;> subst hf <;>
      simp [eqGuard, binOp, Op.intArith, Op.intCmp, fwrap_eq, ilt_eq, ieq_eq, flat, atomB] <;> grind
  · cases hf

/-- Bytes out of cells. -/
theorem stringOf_inv : ∀ {cs : List Value} {b : List UInt8}, stringOf cs = some b → ∃ ns : List Int, cs = ns.map (Value.int .u8) ∧ b = ns.map fun n => UInt8.ofNat n.toNat
  | [], b, h => by simp only [stringOf, Option.some.injEq] at h; exact ⟨[], rfl, h.symm⟩
  | v :: cs, b, h => by
    cases v with
    | int k n =>
      cases k with
      | u8 =>
        simp only [stringOf] at h
        cases hr : stringOf cs with
        | none => simp [hr] at h
        | some b' =>
          simp [hr] at h
          obtain ⟨ns, e1, e2⟩ := stringOf_inv hr
          exact ⟨n :: ns, by simp [e1], by simp [← h, e2]⟩
      | _ => simp [stringOf] at h
    | _ => simp [stringOf] at h
theorem foldl_bytes : ∀ (ns : List Int) (r : ByteArray), ns.foldl (fun r n => r.push (UInt8.ofNat n.toNat)) r = ⟨r.data ++ (ns.map fun n => UInt8.ofNat n.toNat).toArray⟩
  | [], r => by simp
  | n :: ns, r => by rw [List.foldl_cons, foldl_bytes ns]; simp [ByteArray.push]
theorem rcells_ok (H : HRel ρ h w) {a a' : Addr} {k : Nat} {cs : List Value} (hp : PRel ρ a a') (hr : rcells h (some a) k = some cs) : ∃ ys, LRel (VRel ρ) cs ys ∧ cs.length = k ∧ (loadCells a' k).run P w = .ok ys.toArray w := by
  unfold rcells at hr
  split at hr
  · cases hr
    exact ⟨[], LRel.nil, rfl, rfl⟩
  · rename_i k
    split at hr
    · rename_i i o he
      cases he
      split at hr
      · rename_i c e row ro hg
        split at hr
        · rename_i hle
          have hle := Nat.le_of_ble_eq_true hle
          cases hr
          obtain ⟨g, hi⟩ := H.get_live hg (by simp) hp.born
          obtain ⟨_, rfl⟩ := hp.live hi
          obtain ⟨ys, h1, h2⟩ := H.read P hi hg hle
          exact ⟨ys, h1, by simp; omega, h2⟩
        · cases hr
      · cases hr
    · cases hr

theorem flat_all_int (ns : List Int) : (ns.map (Value.int .u8)).all (flat 0) = true := by
  rw [List.all_eq_true]
  intro x hx
  obtain ⟨n, _, rfl⟩ := List.mem_map.1 hx
  rfl

/-- The run-time's mark behind the last cell. -/
theorem mark_ok (H : HRel ρ h w) {i : Nat} {g : G} (hi : ρ i = .live g) {c : List Value} {e : TypeId} {row : Nat} (hg : h.get i = some (.cells c e row false)) (o : Nat) :
    ∃ w', (markStringish ⟨g.b, o, none⟩).run P w = .ok () w' ∧ HRel ρ h w' ∧ Adv h.n ρ h w ρ h w' := by
  obtain ⟨c', fr, e1, e2, e3, e4, e5, e6⟩ := H.cells hi hg
  have hb : g.b < w.heap.size := H.lt hi
  obtain ⟨lo, hi'⟩ := fr
  have hsh : w.shape? g.b = some (e, c'.size) := by simp [World.shape?, e1]
  have hfz : w.freeze ⟨g.b, c'.size, none⟩ 1 = setBlock w g.b (.cells c' e (if lo == hi' then (c'.size, c'.size + 1) else (min lo c'.size, max hi' (c'.size + 1)))) := by
    have : w.heap.modify g.b (fun
        | .cells c elem (lo, hi) => .cells c elem (if lo == hi then (c'.size, c'.size + 1) else (min lo c'.size, max hi (c'.size + 1)))
        | o => o) = w.heap.setIfInBounds g.b (.cells c' e (if lo == hi' then (c'.size, c'.size + 1) else (min lo c'.size, max hi' (c'.size + 1)))) := by
      apply Array.ext_getElem?
      intro j
      rw [Array.getElem?_setIfInBounds, Array.getElem?_modify]
      by_cases e : g.b = j
      · subst e
        obtain ⟨hlt, hv⟩ := Array.getElem?_eq_some_iff.1 e1
        simp [hlt, hv]
      · simp [e]
    unfold World.freeze
    rw [if_neg (by decide)]
    exact congrArg (fun x => ({ w with heap := x } : World)) this
  refine ⟨setBlock w g.b (.cells c' e (if lo == hi' then (c'.size, c'.size + 1) else (min lo c'.size, max hi' (c'.size + 1)))), by simp [markStringish, hsh, hfz], ⟨H.bound, H.inj, fun j gj hj => ?_, H.dead⟩, Rho.le_refl _, Nat.le_refl _, by simp, rfl, rfl, rfl, fun b hb' ho => ?_, fun _ _ h => h, fun _ _ h => h⟩
  · by_cases ej : j = i
    · subst ej
      rw [hi] at hj
      cases hj
      refine ⟨_, _, hg, setBlock_at hb, c', _, rfl, e2, e3, e4, e5, ?_⟩
      simp only at e6
      split
      · rename_i hq
        right
        simp; omega
      · rename_i hq
        have hq : lo ≠ hi' := by simpa using hq
        right
        simp only
        rcases e6 with e | e
        · exact absurd e hq
        · omega
    · obtain ⟨o1, o2, f1, f2, f3⟩ := H.obj j gj hj
      have hne : gj.b ≠ g.b := fun he => ej (H.inj j i gj g hj hi he)
      exact ⟨o1, o2, f1, by rw [setBlock_ne hne]; exact f2, f3⟩
  · refine setBlock_ne fun he => ho ⟨i, g, hi, he.symm, ?_⟩
    simp [AHeap.rw, hg]

theorem bytesOf_eq (s : ByteArray) : bytesOf s = (s.data.map fun b => Value.int .u8 b.toNat).toList := by simp [bytesOf]
theorem bytesOf_flat (s : ByteArray) : (bytesOf s).all (flat 0) = true := by
  rw [List.all_eq_true]
  intro x hx
  obtain ⟨n, _, rfl⟩ := List.mem_map.1 hx
  rfl
theorem bytesOf_length (s : ByteArray) : (bytesOf s).length = s.size := by simp [bytesOf]

theorem aconvert_ok (H : HRel ρ h w) {src dst : TypeId} {x y : Value} {r : ANext} (hx : VRel ρ x y) (ha : aconvert P h src dst x = some r) : ValOkN P ρ h w r (convert src dst y) := by
  unfold aconvert at ha
  split at ha
  · rename_i u k q n hs hd
    have r1 := pureRun_sound P _ _ hs
    have r2 := pureRun_sound P _ _ hd
    obtain rfl := hx.int
    cases ha
    exact ValOk.same H (v' := .int k (k.wrap n)) (by simp [convert, r1, r2, Conv.intToInt]) (by rw [fwrap_eq]; exact .atom rfl)
  · rename_i e s hs hd
    obtain rfl := hx.atom_eq rfl
    split at ha
    · rename_i he hsz
      cases ha
      have hcap := grownCap_ge w s.size 0 e
      have hrun := run_bytes_of_string (P := P) w src dst e s (underlying_of hs) (underlying_of hd) (underlying_of he)
      generalize hC : bytesRow s (grownCap w s.size 0 e) = C at hrun
      have hCs : C.size = grownCap w s.size 0 e := by
        rw [← hC]
        simp only [bytesRow, Array.size_append, Array.size_map, Array.size_replicate]
        have : s.data.size = s.size := rfl
        omega
      have hu := H.bound h.n (Nat.le_refl _)
      have HN := (H.drew (w.drawn + 1)).new ⟨w.heap.size, 0, C.size, 2⟩ rfl (.cells (bytesOf s) e 2 false) (.cells C e (C.size, C.size + 1))
        ⟨C, _, rfl, by simp only [bytesOf_length, hCs]; omega, rfl, rfl, fun j v hv => ⟨v, by
          rw [Nat.zero_add, ← hC]
          simp only [bytesRow]
          have hj : j < (bytesOf s).length := (List.getElem?_eq_some_iff.1 hv).1
          rw [bytesOf_eq, Array.getElem?_toList] at hv
          rw [Array.getElem?_append_left (by simp; rw [bytesOf_length] at hj; exact hj)]
          exact hv, VRel.flat (List.all_eq_true.1 (bytesOf_flat s) v (List.mem_of_getElem? hv))⟩, .inr (Nat.le_refl _)⟩
      refine ⟨_, _, _, hrun, ?_, HN.1, (Adv.drew _ _ _ _ _).trans HN.2⟩
      exact VRel.mk_slice (g := ⟨w.heap.size, 0, C.size, 2⟩) (ρ.upd_same _ _) (Nat.le_refl _) hcap (.inr ⟨1, rfl, by simp [hCs]⟩)
    · cases ha
  · rename_i e' e i o n k hs hd
    split at ha
    · rename_i c e0 row heq he hg
      cases ha
      obtain ⟨g, k', hi, rfl, h1, h2, h3⟩ := hx.slice_live H hg (by simp)
      obtain ⟨w', hm, H', A'⟩ := mark_ok (P := P) H hi hg (o + g.sh)
      have heq : src = dst := by simpa using heq
      subst heq
      have r1 := pureRun_sound P _ _ hs
      have r2 := pureRun_sound P _ _ hd
      have r3 := pureRun_sound P _ _ he
      refine ⟨_, ρ, w', ?_, VRel.mk_slice hi h1 h2 h3, H', A'⟩
      rw [hd] at hs
      cases hs
      simp [convert, r1, r3, hm]
    · cases ha
  · rename_i e a n k hs hd
    split at ha
    · rename_i he
      split at ha
      · rename_i cs hc
        cases hb : stringOf cs with
        | none => simp [hb] at ha
        | some b =>
          simp [hb] at ha
          subst ha
          obtain ⟨a', k', rfl, hp, _⟩ := hx.slice_any
          obtain ⟨ys, h1, h2, h3⟩ := rcells_ok (P := P) H hp hc
          obtain ⟨ns, rfl, rfl⟩ := stringOf_inv hb
          obtain rfl := h1.flat_eq (flat_all_int ns)
          refine ValOk.same H (v' := .string ⟨(ns.map fun n => UInt8.ofNat n.toNat).toArray⟩) ?_ (.atom rfl)
          rw [run_convert_bytes_string w src dst e _ _ _ (underlying_of hs) (underlying_of he) (underlying_of hd), run_bytesToString w a' n k' ns h3, foldl_bytes]
          simp [ByteArray.empty, ByteArray.emptyWithCapacity]
          rfl
      · cases ha
    · cases ha
  · split at ha
    · rename_i hf
      obtain rfl := VRel.flat_eq hf hx
      cases hv : pureRun P (convert src dst y) with
      | none => simp [hv] at ha
      | some v =>
        simp [hv] at ha
        split at ha
        · rename_i hfv
          cases ha
          exact ValOk.same H (pureRun_sound P _ _ hv w) (.flat hfv)
        · cases ha
    · cases ha
end
end Go.Am
