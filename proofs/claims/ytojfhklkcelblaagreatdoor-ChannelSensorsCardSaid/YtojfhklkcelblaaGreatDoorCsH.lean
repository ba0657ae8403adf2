/-
  OWN WORK. What the laws on samples share.
-/
import Derived.Test.YtojfhklkcelblaaGreatDoorCsU
import Derived.Test.YtojfhklkcelblaaGreatDoorAm10
/-! What the laws on samples share. -/
namespace Go.Proofs.YtojfhklkcelblaaGreatDoor
open Go Go.Am

theorem inI64_nat {m : Nat} (h : m < 9223372036854775808) : inI64 (Int.ofNat m) = true := by
  show Nat.blt m 9223372036854775808 = true
  rw [Nat.blt_eq]; exact h
noncomputable abbrev nilS : Value := .slice none 0 0
theorem ieq_ne {x y : Int} (h : x ≠ y) : ieq x y = false := by rw [ieq_dec]; exact decide_eq_false h
theorem csE_nil : csE [] = 0 := by kernel_rfl
theorem N1_ne (k : Nat) : ¬ nG1 = Tryz.prog.globals.size + (k + 1) := by unfold nG1; omega
noncomputable abbrev argH (es : Nat → TypeId) (c : List Value) (e : TypeId) : AHeap := (base tabs2 es Tryz.prog.globals.size).push (.cells c e 0 true)
theorem ieq_self (a : Int) : ieq a a = true := by rw [ieq_dec]; simp
theorem short_le {n : Nat} (h : (!shortB n) = false) : n ≤ 4097 := by
  unfold shortB at h
  rw [ilt_say, ieq_dec] at h
  simp at h
  omega
theorem firstS_none : ∀ {l : List Int}, firstS l = 0 → ∀ x ∈ l, x = 0
  | [], _ => fun x hx => by cases hx
  | y :: l, h => by
    unfold firstS at h
    cases hy : ieq y 0 with
    | true =>
      rw [hy] at h
      rw [ieq_dec] at hy
      intro x hx
      rcases List.mem_cons.1 hx with rfl | hx
      · simpa using hy
      · exact firstS_none h x hx
    | false =>
      rw [hy] at h
      rw [ieq_dec] at hy
      exact absurd h (by simpa using hy)
theorem cs_zero {l : List Nat} (h : csE l = 0) : validL l ∧ l.length ≤ 4096 := by
  have h1 := firstS_none h
  have h2 := h1 _ (.head _)
  have h3 := h1 (smpsE l) (.tail _ (.head _))
  refine ⟨fun x hx => firstS_none (l := l.map smpE) h3 _ (List.mem_map.2 ⟨x, hx, rfl⟩), ?_⟩
  unfold whenS at h2
  rw [ilt_say] at h2
  by_cases hl : (4096 : Int) < Int.ofNat l.length
  · rw [decide_eq_true hl] at h2; cases h2
  · simp only [Int.ofNat_eq_natCast] at hl; omega
theorem not_ieq {x : Int} (h : (!ieq x 0) = true) : x ≠ 0 := by rw [ieq_dec] at h; simpa using h
theorem not_ieq' {x : Int} (h : (!ieq x 0) = false) : x = 0 := by rw [ieq_dec] at h; simpa using h
theorem not_ieq0 {x : Int} (h : x ≠ 0) (h' : (!ieq x 0) = false) : False := h (not_ieq' h')
noncomputable def allB (l : List Nat) : Bool := l.all fun x => ieq (smpE x) 0
theorem allB_iff {l : List Nat} : allB l = true ↔ validL l := by
  unfold allB validL
  rw [List.all_eq_true]
  refine ⟨fun h x hx => ?_, fun h x hx => ?_⟩
  · have := h x hx
    rw [ieq_dec] at this
    simpa using this
  · rw [h x hx]; rfl
noncomputable abbrev twoH (c : List Value) (e row : Nat) (c' : List Value) (e' row' : Nat) : AHeap := canon Tryz.prog [(c, e, row), (c', e', row')]
noncomputable abbrev slA (n k : Nat) : Value := .slice (some ⟨Tryz.prog.globals.size, 0, none⟩) n k
noncomputable abbrev slA' (n k : Nat) : Value := .slice (some ⟨Tryz.prog.globals.size + 1, 0, none⟩) n k
theorem rens_two {pre : Pre} {a b a' b' : Value} (h1 : Ren pre a a') (h2 : Ren pre b b') : (#[a, b] : Array Value).size = #[a', b'].size ∧ ∀ (i : Nat) x y, (#[a, b] : Array Value)[i]? = some x → (#[a', b'] : Array Value)[i]? = some y → Ren pre x y :=
  ⟨rfl, fun i x y hx hy => by
    match i, hx, hy with
    | 0, hx, hy => cases hx; cases hy; exact h1
    | 1, hx, hy => cases hx; cases hy; exact h2⟩
theorem fwrap_mid {x : Int} (h1 : -4611686018427387904 ≤ x) (h2 : x ≤ 4611686018427387904) : fwrap .i64 x = x := by
  have h : inI64 x = true := by
    cases x with
    | ofNat m => exact inI64_nat (by simp only [Int.ofNat_eq_natCast] at h2; omega)
    | negSucc m =>
      show Nat.blt m 9223372036854775808 = true
      rw [Nat.blt_eq]; omega
  simp only [fwrap, h]
end Go.Proofs.YtojfhklkcelblaaGreatDoor
/-! The extremes of samples, by the program and by the reference: their loops. -/
namespace Go.Proofs.YtojfhklkcelblaaGreatDoor
open Go Go.Am

structure X4 where
  lo : Int
  hi : Int
  la : Int
  ha : Int
noncomputable def X4.cells (s : X4) : List Value := [gi s.lo, gi s.hi, gi s.la, gi s.ha]
noncomputable def X4.agg (s : X4) : Value := .agg #[gi s.lo, gi s.hi, gi s.la, gi s.ha]
noncomputable def exS (j : Nat) (u : Int) (s : X4) : X4 where
  lo := bif ilt u s.lo then u else s.lo
  hi := bif ilt s.hi u then u else s.hi
  la := bif ilt u s.lo then Int.ofNat j else s.la
  ha := bif ilt s.hi u then Int.ofNat j else s.ha
noncomputable def exF : List Int → Nat → X4 → X4
  | [], _, s => s
  | u :: l, j, s => exF l (j + 1) (exS j u s)
theorem exF_drop {l : List Int} {j : Nat} {s : X4} (hj : j < l.length) : exF (l.drop j) j s = exF (l.drop (j + 1)) (j + 1) (exS j l[j] s) := by
  rw [List.drop_eq_getElem_cons hj]
  rfl
theorem exF_end {l : List Int} {j : Nat} {s : X4} (hj : l.length ≤ j) : exF (l.drop j) j s = s := by
  rw [List.drop_eq_nil_of_le hj]
  rfl
noncomputable abbrev xHp (c : List Value) (e row : Nat) (ro : Bool) (d z : List Value) : AHeap := canonT [] (fun _ => 0) Tryz.prog.globals.size [(c, e, row, ro), (d, 117, 0, false), (z, 117, 0, false)]
noncomputable abbrev xHr (c : List Value) (e row : Nat) (ro : Bool) (d z : List Value) : AHeap := canonT [] (fun _ => 0) Tryz.prog.globals.size [(c, e, row, ro), (d, 135, 0, false), (z, 135, 0, false)]
noncomputable abbrev xP : Value := .pointer (some ⟨Tryz.prog.globals.size + 1, 0, none⟩)
noncomputable abbrev xR : Value := .pointer (some ⟨Tryz.prog.globals.size + 2, 0, none⟩)
theorem ex_body (c z : List Value) (n k e row j : Nat) (ro : Bool) (lo hi la ha : Int) (g : Nat → Value) (Q : Exit → List Value → AHeap → Prop) : execC Tryz.prog (exec Tryz.prog orcZ 10) (syOf [(33, 1), (35, 2), (36, 3), (40, 1), (48, 1)]) askZ (noLoops _) 40 (loopOf Tryz.prog 59 0) (stOf 55 [(2, xR), (6, xP), (30, liP n k), (31, goN n), (32, goN j)] g) (xHp c e row ro [gi lo, gi hi, gi la, gi ha] z) (told 55 [2, 6, 30, 31, 32] Q) = (((Nat.blt j n = true → (Nat.blt j n = true ∧ c[(0 + (j * 1))]? = Option.some (gi (intAt c (0 + (j * 1)))) ∧ (ilt (intAt c (0 + (j * 1))) lo = true → ((ilt hi (intAt c (0 + (j * 1))) = true → Q .normal [xR, xP, liP n k, goN n, gi (fwrap IntKind.i64 (Int.ofNat (j + 1)))] (((((xHp c e row ro [gi lo, gi hi, gi la, gi ha] z).set (nG1 + 1) (.cells (splice [gi lo, gi hi, gi la, gi ha] 0 [gi (intAt c (0 + (j * 1)))]) 117 0 false)).set (nG1 + 1) (.cells (splice (splice [gi lo, gi hi, gi la, gi ha] 0 [gi (intAt c (0 + (j * 1)))]) 2 [goN j]) 117 0 false)).set (nG1 + 1) (.cells (splice (splice (splice [gi lo, gi hi, gi la, gi ha] 0 [gi (intAt c (0 + (j * 1)))]) 2 [goN j]) 1 [gi (intAt c (0 + (j * 1)))]) 117 0 false)).set (nG1 + 1) (.cells (splice (splice (splice (splice [gi lo, gi hi, gi la, gi ha] 0 [gi (intAt c (0 + (j * 1)))]) 2 [goN j]) 1 [gi (intAt c (0 + (j * 1)))]) 3 [goN j]) 117 0 false))) ∧ (ilt hi (intAt c (0 + (j * 1))) = false → Q .normal [xR, xP, liP n k, goN n, gi (fwrap IntKind.i64 (Int.ofNat (j + 1)))] (((xHp c e row ro [gi lo, gi hi, gi la, gi ha] z).set (nG1 + 1) (.cells (splice [gi lo, gi hi, gi la, gi ha] 0 [gi (intAt c (0 + (j * 1)))]) 117 0 false)).set (nG1 + 1) (.cells (splice (splice [gi lo, gi hi, gi la, gi ha] 0 [gi (intAt c (0 + (j * 1)))]) 2 [goN j]) 117 0 false))))) ∧ (ilt (intAt c (0 + (j * 1))) lo = false → ((ilt hi (intAt c (0 + (j * 1))) = true → Q .normal [xR, xP, liP n k, goN n, gi (fwrap IntKind.i64 (Int.ofNat (j + 1)))] (((xHp c e row ro [gi lo, gi hi, gi la, gi ha] z).set (nG1 + 1) (.cells (splice [gi lo, gi hi, gi la, gi ha] 1 [gi (intAt c (0 + (j * 1)))]) 117 0 false)).set (nG1 + 1) (.cells (splice (splice [gi lo, gi hi, gi la, gi ha] 1 [gi (intAt c (0 + (j * 1)))]) 3 [goN j]) 117 0 false))) ∧ (ilt hi (intAt c (0 + (j * 1))) = false → Q .normal [xR, xP, liP n k, goN n, gi (fwrap IntKind.i64 (Int.ofNat (j + 1)))] (xHp c e row ro [gi lo, gi hi, gi la, gi ha] z)))))) ∧ (Nat.blt j n = false → Q (.exit 0) [xR, xP, liP n k, goN n, goN j] (xHp c e row ro [gi lo, gi hi, gi la, gi ha] z)))) := by kernel_rfl
theorem Ex_body (c z : List Value) (n k e row j : Nat) (ro : Bool) (lo hi la ha : Int) (g : Nat → Value) (Q : Exit → List Value → AHeap → Prop) : execC Tryz.prog (exec Tryz.prog orcZ 10) (syOf [(23, 1), (28, 2), (29, 3), (30, 7), (34, 1), (42, 1)]) askZ (noLoops _) 40 (loopOf Tryz.prog 70 0) (stOf 48 [(0, liP n k), (2, xR), (4, xP), (5, goN j)] g) (xHr c e row ro [gi lo, gi hi, gi la, gi ha] z) (told 48 [0, 2, 4, 5] Q) = (((Nat.blt j n = true → (Nat.blt j n = true ∧ c[(0 + (j * 1))]? = Option.some (gf (floatAt c (0 + (j * 1)))) ∧ ieq (smpE (floatAt c (0 + (j * 1)))) 0 = true ∧ (ilt (unitE (floatAt c (0 + (j * 1)))) lo = true → ((ilt hi (unitE (floatAt c (0 + (j * 1)))) = true → Q .normal [liP n k, xR, xP, gi (fwrap IntKind.i64 (Int.ofNat (j + 1)))] (((((xHr c e row ro [gi lo, gi hi, gi la, gi ha] z).set (nG1 + 1) (.cells (splice [gi lo, gi hi, gi la, gi ha] 0 [gi (unitE (floatAt c (0 + (j * 1))))]) 135 0 false)).set (nG1 + 1) (.cells (splice (splice [gi lo, gi hi, gi la, gi ha] 0 [gi (unitE (floatAt c (0 + (j * 1))))]) 2 [goN j]) 135 0 false)).set (nG1 + 1) (.cells (splice (splice (splice [gi lo, gi hi, gi la, gi ha] 0 [gi (unitE (floatAt c (0 + (j * 1))))]) 2 [goN j]) 1 [gi (unitE (floatAt c (0 + (j * 1))))]) 135 0 false)).set (nG1 + 1) (.cells (splice (splice (splice (splice [gi lo, gi hi, gi la, gi ha] 0 [gi (unitE (floatAt c (0 + (j * 1))))]) 2 [goN j]) 1 [gi (unitE (floatAt c (0 + (j * 1))))]) 3 [goN j]) 135 0 false))) ∧ (ilt hi (unitE (floatAt c (0 + (j * 1)))) = false → Q .normal [liP n k, xR, xP, gi (fwrap IntKind.i64 (Int.ofNat (j + 1)))] (((xHr c e row ro [gi lo, gi hi, gi la, gi ha] z).set (nG1 + 1) (.cells (splice [gi lo, gi hi, gi la, gi ha] 0 [gi (unitE (floatAt c (0 + (j * 1))))]) 135 0 false)).set (nG1 + 1) (.cells (splice (splice [gi lo, gi hi, gi la, gi ha] 0 [gi (unitE (floatAt c (0 + (j * 1))))]) 2 [goN j]) 135 0 false))))) ∧ (ilt (unitE (floatAt c (0 + (j * 1)))) lo = false → ((ilt hi (unitE (floatAt c (0 + (j * 1)))) = true → Q .normal [liP n k, xR, xP, gi (fwrap IntKind.i64 (Int.ofNat (j + 1)))] (((xHr c e row ro [gi lo, gi hi, gi la, gi ha] z).set (nG1 + 1) (.cells (splice [gi lo, gi hi, gi la, gi ha] 1 [gi (unitE (floatAt c (0 + (j * 1))))]) 135 0 false)).set (nG1 + 1) (.cells (splice (splice [gi lo, gi hi, gi la, gi ha] 1 [gi (unitE (floatAt c (0 + (j * 1))))]) 3 [goN j]) 135 0 false))) ∧ (ilt hi (unitE (floatAt c (0 + (j * 1)))) = false → Q .normal [liP n k, xR, xP, gi (fwrap IntKind.i64 (Int.ofNat (j + 1)))] (xHr c e row ro [gi lo, gi hi, gi la, gi ha] z)))))) ∧ (Nat.blt j n = false → Q (.exit 0) [liP n k, xR, xP, goN j] (xHr c e row ro [gi lo, gi hi, gi la, gi ha] z)))) := by kernel_rfl
theorem x3_0 {e row t : Nat} {ro : Bool} {c d z : List Value} : (canonT [] (fun _ => 0) Tryz.prog.globals.size [(c, e, row, ro), (d, t, 0, false), (z, t, 0, false)]).get nG1 = some (.cells c e row ro) := by
  rw [canonT_get (T := []) rfl, if_pos (Nat.le_refl _), Nat.sub_self]; rfl
theorem x3_1 {e row t : Nat} {ro : Bool} {c d z : List Value} : (canonT [] (fun _ => 0) Tryz.prog.globals.size [(c, e, row, ro), (d, t, 0, false), (z, t, 0, false)]).get (nG1 + 1) = some (.cells d t 0 false) := by
  rw [canonT_get (T := []) rfl, if_pos (Nat.le_succ _), show nG1 + 1 - Tryz.prog.globals.size = 1 by unfold nG1; omega]; rfl
theorem x3_2 {e row t : Nat} {ro : Bool} {c d z : List Value} : (canonT [] (fun _ => 0) Tryz.prog.globals.size [(c, e, row, ro), (d, t, 0, false), (z, t, 0, false)]).get (nG1 + 2) = some (.cells z t 0 false) := by
  rw [canonT_get (T := []) rfl, if_pos (by unfold nG1; omega), show nG1 + 2 - Tryz.prog.globals.size = 2 by unfold nG1; omega]; rfl
/-- What a round leaves. -/
theorem x3_set {h : AHeap} {c z d' : List Value} {e row t : Nat} {ro : Bool} (h0 : h.get nG1 = some (.cells c e row ro)) (h2 : h.get (nG1 + 2) = some (.cells z t 0 false)) : (h.set (nG1 + 1) (.cells d' t 0 false)).get nG1 = some (.cells c e row ro) ∧ (h.set (nG1 + 1) (.cells d' t 0 false)).get (nG1 + 1) = some (.cells d' t 0 false) ∧ (h.set (nG1 + 1) (.cells d' t 0 false)).get (nG1 + 2) = some (.cells z t 0 false) := by
  refine ⟨?_, ?_, ?_⟩
  · rw [AHeap.get_set, if_neg (N1_ne 0)]; exact h0
  · rw [AHeap.get_set, if_pos rfl]
  · rw [AHeap.get_set, if_neg (by unfold nG1; omega)]; exact h2
noncomputable def zero4 : List Value := [gi 0, gi 0, gi 0, gi 0]
set_option maxRecDepth 100000 in
theorem ex_loop (l : List Int) (n k e row : Nat) (ro : Bool) (s : X4) (hn : n ≤ l.length) (hle : n ≤ 65536) (b0 b1 b2 : Nat) (hb : b0 = nG1 + 3 ∧ b1 = nG1 + 4 ∧ b2 = nG1 + 1) : ∀ (a : AAct) (h : AHeap), h.get b0 = some (.cells (l.map gi) e row ro) → h.get b1 = some (.cells s.cells 117 0 false) → h.get b2 = some (.cells zero4 117 0 false) →
    a.n = 55 → a.marks = [] → [2, 6, 30, 31, 32].map a.tmp = [.pointer (some ⟨b2, 0, none⟩), .pointer (some ⟨b1, 0, none⟩), .slice (some ⟨b0, 0, none⟩) n k, goN n, goN 0] →
    J Tryz.prog (.loop (loopOf Tryz.prog 59 0)) a h (told 55 [2, 6, 30, 31, 32] fun ex vs h => ex = .exit 0 ∧ vs = [xR, xP, liP n k, goN n, goN n] ∧ h.get (nG1 + 1) = some (.cells (exF (l.take n) 0 s).cells 117 0 false) ∧ h.get (nG1 + 2) = some (.cells zero4 117 0 false)) := by
  intro a h g0 g1 g2 ha hk hv
  have hlen : (l.take n).length = n := by rw [List.length_take]; omega
  refine loop_rule (fun q vs h => ∃ (j : Nat) (s' : X4) (c0 c1 c2 : Nat), ((c0 = nG1 + 3 ∧ c1 = nG1 + 4 ∧ c2 = nG1 + 1) ∨ (c0 = nG1 ∧ c1 = nG1 + 1 ∧ c2 = nG1 + 2)) ∧ j ≤ n ∧ q = n - j ∧ vs = [.pointer (some ⟨c2, 0, none⟩), .pointer (some ⟨c1, 0, none⟩), .slice (some ⟨c0, 0, none⟩) n k, goN n, goN j] ∧
    h.get c0 = some (.cells (l.map gi) e row ro) ∧ h.get c1 = some (.cells s'.cells 117 0 false) ∧ h.get c2 = some (.cells zero4 117 0 false) ∧ exF (l.take n) 0 s = exF ((l.take n).drop j) j s') _ ?_ n _ _ a ⟨0, s, b0, b1, b2, .inl hb, Nat.zero_le _, rfl, rfl, g0, g1, g2, rfl⟩ ha hk hv
  rintro q vs h g ⟨j, s', c0, c1, c2, hc, hj, rfl, rfl, g0, g1, g2, hf⟩
  refine J.reheap (es := fun _ => 0) (vs₂ := [xR, xP, liP n k, goN n, goN j]) (B := [(l.map gi, e, row, ro), (s'.cells, 117, 0, false), (zero4, 117, 0, false)]) (ids := [c0, c1, c2]) globs_pos (by decide) (by decide) rfl (by rcases hc with ⟨rfl, rfl, rfl⟩ | ⟨rfl, rfl, rfl⟩ <;> simp) (by unfold nG1 at hc; intro i hi; simp only [List.mem_cons, List.not_mem_nil, or_false] at hi; omega) ?_ (by rcases hc with ⟨rfl, rfl, rfl⟩ | ⟨rfl, rfl, rfl⟩ <;> kernel_rfl) ?_ fun g' => ?_
  · intro q b' i hb hi
    match q, hb, hi with
    | 0, hb, hi => cases hb; cases hi; exact ⟨g0, flat_ints l⟩
    | 1, hb, hi => cases hb; cases hi; exact ⟨g1, rfl⟩
    | 2, hb, hi => cases hb; cases hi; exact ⟨g2, rfl⟩
  · intro i hi
    simp only [List.mem_cons, List.not_mem_nil, or_false] at hi
    rcases hi with rfl | rfl | rfl
    · exact ⟨(30, .slice (some ⟨i, 0, none⟩) n k), by simp, by simp [named]⟩
    · exact ⟨(6, .pointer (some ⟨i, 0, none⟩)), by simp, by simp [named]⟩
    · exact ⟨(2, .pointer (some ⟨i, 0, none⟩)), by simp, by simp [named]⟩
  · refine execC_ok mixed orcZ_ok askZ_ok (noLoops _) (Eq.mpr (ex_body (l.map gi) zero4 n k e row j ro s'.lo s'.hi s'.la s'.ha g' _) ⟨fun hlt => ?_, fun hge => ?_⟩)
    · have hj' := blt_true hlt
      have hjl : j < l.length := by omega
      obtain ⟨h1, h2⟩ := int_at (List.getElem?_eq_getElem hjl)
      have hd := exF_drop (l := l.take n) (s := s') (show j < (l.take n).length by omega)
      rw [List.getElem_take] at hd
      rw [h2, fwrap_nat (by omega)]
      have fin : ∀ (d : List Value), d = (exS j l[j] s').cells → ∀ h' : AHeap, (h'.get nG1 = some (.cells (l.map gi) e row ro) ∧ h'.get (nG1 + 1) = some (.cells d 117 0 false) ∧ h'.get (nG1 + 2) = some (.cells zero4 117 0 false)) →
          ∃ m', m' < n - j ∧ ∃ (j' : Nat) (s'' : X4) (c0 c1 c2 : Nat), ((c0 = nG1 + 3 ∧ c1 = nG1 + 4 ∧ c2 = nG1 + 1) ∨ (c0 = nG1 ∧ c1 = nG1 + 1 ∧ c2 = nG1 + 2)) ∧ j' ≤ n ∧ m' = n - j' ∧ [xR, xP, liP n k, goN n, goN (j + 1)] = [.pointer (some ⟨c2, 0, none⟩), .pointer (some ⟨c1, 0, none⟩), .slice (some ⟨c0, 0, none⟩) n k, goN n, goN j'] ∧
          h'.get c0 = some (.cells (l.map gi) e row ro) ∧ h'.get c1 = some (.cells s''.cells 117 0 false) ∧ h'.get c2 = some (.cells zero4 117 0 false) ∧ exF (l.take n) 0 s = exF ((l.take n).drop j') j' s'' := by
        rintro d rfl h' ⟨q0, q1, q2⟩
        exact ⟨n - (j + 1), by omega, j + 1, _, nG1, nG1 + 1, nG1 + 2, .inr ⟨rfl, rfl, rfl⟩, by omega, rfl, rfl, q0, q1, q2, by rw [hf, hd]⟩
      have st : ∀ {h' : AHeap} {d' : List Value}, (h'.get nG1 = some (.cells (l.map gi) e row ro) ∧ h'.get (nG1 + 2) = some (.cells zero4 117 0 false)) → (h'.set (nG1 + 1) (.cells d' 117 0 false)).get nG1 = some (.cells (l.map gi) e row ro) ∧ (h'.set (nG1 + 1) (.cells d' 117 0 false)).get (nG1 + 2) = some (.cells zero4 117 0 false) := fun ⟨q0, q2⟩ => ⟨(x3_set q0 q2).1, (x3_set q0 q2).2.2⟩
      refine ⟨hlt, h2 ▸ h1, fun hl => ⟨fun hh => ?_, fun hh => ?_⟩, fun hl => ⟨fun hh => ?_, fun hh => ?_⟩⟩
      · refine fin _ ?_ _ (x3_set (st (st (st ⟨x3_0, x3_2⟩))).1 (st (st (st ⟨x3_0, x3_2⟩))).2)
        unfold exS X4.cells
        rw [hl, hh]; rfl
      · refine fin _ ?_ _ (x3_set (st ⟨x3_0, x3_2⟩).1 (st ⟨x3_0, x3_2⟩).2)
        unfold exS X4.cells
        rw [hl, hh]; rfl
      · refine fin _ ?_ _ (x3_set (st ⟨x3_0, x3_2⟩).1 (st ⟨x3_0, x3_2⟩).2)
        unfold exS X4.cells
        rw [hl, hh]; rfl
      · refine fin s'.cells ?_ _ ⟨x3_0, x3_1, x3_2⟩
        unfold exS X4.cells
        rw [hl, hh]; rfl
    · have hge := blt_false hge
      obtain rfl : j = n := by omega
      refine ⟨rfl, rfl, ?_, x3_2⟩
      rw [hf, exF_end (by omega)]
      exact x3_1
set_option maxRecDepth 100000 in
theorem Ex_loop (l : List Nat) (n k e row : Nat) (ro : Bool) (s : X4) (hn : n ≤ l.length) (hle : n ≤ 65536) (h0 : 1 ≤ n) (hval : ∀ x ∈ l.take n, smpE x = 0) (b0 b1 b2 : Nat) (hb : b0 = nG1 ∧ b1 = nG1 + 2 ∧ b2 = nG1 + 1) : ∀ (a : AAct) (h : AHeap), h.get b0 = some (.cells (l.map gf) e row ro) → h.get b1 = some (.cells s.cells 135 0 false) → h.get b2 = some (.cells zero4 135 0 false) →
    a.n = 48 → a.marks = [] → [0, 2, 4, 5].map a.tmp = [.slice (some ⟨b0, 0, none⟩) n k, .pointer (some ⟨b2, 0, none⟩), .pointer (some ⟨b1, 0, none⟩), goN 1] →
    J Tryz.prog (.loop (loopOf Tryz.prog 70 0)) a h (told 48 [0, 2, 4, 5] fun ex vs h => ex = .exit 0 ∧ vs = [liP n k, xR, xP, goN n] ∧ h.get (nG1 + 1) = some (.cells (exF (((l.take n).map unitE).drop 1) 1 s).cells 135 0 false) ∧ h.get (nG1 + 2) = some (.cells zero4 135 0 false)) := by
  intro a h g0 g1 g2 ha hk hv
  have hlen : (l.take n).length = n := by rw [List.length_take]; omega
  refine loop_rule (fun q vs h => ∃ (j : Nat) (s' : X4) (c0 c1 c2 : Nat), ((c0 = nG1 ∧ c1 = nG1 + 2 ∧ c2 = nG1 + 1) ∨ (c0 = nG1 ∧ c1 = nG1 + 1 ∧ c2 = nG1 + 2)) ∧ j ≤ n ∧ q = n - j ∧ vs = [.slice (some ⟨c0, 0, none⟩) n k, .pointer (some ⟨c2, 0, none⟩), .pointer (some ⟨c1, 0, none⟩), goN j] ∧
    h.get c0 = some (.cells (l.map gf) e row ro) ∧ h.get c1 = some (.cells s'.cells 135 0 false) ∧ h.get c2 = some (.cells zero4 135 0 false) ∧ exF (((l.take n).map unitE).drop 1) 1 s = exF (((l.take n).map unitE).drop j) j s') _ ?_ (n - 1) _ _ a ⟨1, s, b0, b1, b2, .inl hb, h0, rfl, rfl, g0, g1, g2, rfl⟩ ha hk hv
  rintro q vs h g ⟨j, s', c0, c1, c2, hc, hj, rfl, rfl, g0, g1, g2, hf⟩
  refine J.reheap (es := fun _ => 0) (vs₂ := [liP n k, xR, xP, goN j]) (B := [(l.map gf, e, row, ro), (s'.cells, 135, 0, false), (zero4, 135, 0, false)]) (ids := [c0, c1, c2]) globs_pos (by decide) (by decide) rfl (by rcases hc with ⟨rfl, rfl, rfl⟩ | ⟨rfl, rfl, rfl⟩ <;> simp) (by unfold nG1 at hc; intro i hi; simp only [List.mem_cons, List.not_mem_nil, or_false] at hi; omega) ?_ (by rcases hc with ⟨rfl, rfl, rfl⟩ | ⟨rfl, rfl, rfl⟩ <;> kernel_rfl) ?_ fun g' => ?_
  · intro q b' i hb hi
    match q, hb, hi with
    | 0, hb, hi => cases hb; cases hi; exact ⟨g0, flat_floats l⟩
    | 1, hb, hi => cases hb; cases hi; exact ⟨g1, rfl⟩
    | 2, hb, hi => cases hb; cases hi; exact ⟨g2, rfl⟩
  · intro i hi
    simp only [List.mem_cons, List.not_mem_nil, or_false] at hi
    rcases hi with rfl | rfl | rfl
    · exact ⟨(0, .slice (some ⟨i, 0, none⟩) n k), by simp, by simp [named]⟩
    · exact ⟨(4, .pointer (some ⟨i, 0, none⟩)), by simp, by simp [named]⟩
    · exact ⟨(2, .pointer (some ⟨i, 0, none⟩)), by simp, by simp [named]⟩
  · refine execC_ok mixed orcZ_ok askZ_ok (noLoops _) (Eq.mpr (Ex_body (l.map gf) zero4 n k e row j ro s'.lo s'.hi s'.la s'.ha g' _) ⟨fun hlt => ?_, fun hge => ?_⟩)
    · have hj' := blt_true hlt
      have hjl : j < l.length := by omega
      obtain ⟨h1, h2⟩ := float_at hjl
      have hva : smpE l[j] = 0 := hval _ (List.mem_of_getElem? (i := j) (by rw [List.getElem?_take, if_pos hj', List.getElem?_eq_getElem hjl]))
      have hd := exF_drop (l := (l.take n).map unitE) (j := j) (s := s') (by rw [List.length_map]; omega)
      rw [List.getElem_map, List.getElem_take] at hd
      rw [h2, fwrap_nat (by omega)]
      have fin : ∀ (d : List Value), d = (exS j (unitE l[j]) s').cells → ∀ h' : AHeap, (h'.get nG1 = some (.cells (l.map gf) e row ro) ∧ h'.get (nG1 + 1) = some (.cells d 135 0 false) ∧ h'.get (nG1 + 2) = some (.cells zero4 135 0 false)) →
          ∃ m', m' < n - j ∧ ∃ (j' : Nat) (s'' : X4) (c0 c1 c2 : Nat), ((c0 = nG1 ∧ c1 = nG1 + 2 ∧ c2 = nG1 + 1) ∨ (c0 = nG1 ∧ c1 = nG1 + 1 ∧ c2 = nG1 + 2)) ∧ j' ≤ n ∧ m' = n - j' ∧ [liP n k, xR, xP, goN (j + 1)] = [.slice (some ⟨c0, 0, none⟩) n k, .pointer (some ⟨c2, 0, none⟩), .pointer (some ⟨c1, 0, none⟩), goN j'] ∧
          h'.get c0 = some (.cells (l.map gf) e row ro) ∧ h'.get c1 = some (.cells s''.cells 135 0 false) ∧ h'.get c2 = some (.cells zero4 135 0 false) ∧ exF (((l.take n).map unitE).drop 1) 1 s = exF (((l.take n).map unitE).drop j') j' s'' := by
        rintro d rfl h' ⟨q0, q1, q2⟩
        exact ⟨n - (j + 1), by omega, j + 1, _, nG1, nG1 + 1, nG1 + 2, .inr ⟨rfl, rfl, rfl⟩, by omega, rfl, rfl, q0, q1, q2, by rw [hf, hd]⟩
      have st : ∀ {h' : AHeap} {d' : List Value}, (h'.get nG1 = some (.cells (l.map gf) e row ro) ∧ h'.get (nG1 + 2) = some (.cells zero4 135 0 false)) → (h'.set (nG1 + 1) (.cells d' 135 0 false)).get nG1 = some (.cells (l.map gf) e row ro) ∧ (h'.set (nG1 + 1) (.cells d' 135 0 false)).get (nG1 + 2) = some (.cells zero4 135 0 false) := fun ⟨q0, q2⟩ => ⟨(x3_set q0 q2).1, (x3_set q0 q2).2.2⟩
      refine ⟨hlt, h2 ▸ h1, by rw [hva]; rfl, fun hl => ⟨fun hh => ?_, fun hh => ?_⟩, fun hl => ⟨fun hh => ?_, fun hh => ?_⟩⟩
      · refine fin _ ?_ _ (x3_set (st (st (st ⟨x3_0, x3_2⟩))).1 (st (st (st ⟨x3_0, x3_2⟩))).2)
        unfold exS X4.cells
        rw [hl, hh]; rfl
      · refine fin _ ?_ _ (x3_set (st ⟨x3_0, x3_2⟩).1 (st ⟨x3_0, x3_2⟩).2)
        unfold exS X4.cells
        rw [hl, hh]; rfl
      · refine fin _ ?_ _ (x3_set (st ⟨x3_0, x3_2⟩).1 (st ⟨x3_0, x3_2⟩).2)
        unfold exS X4.cells
        rw [hl, hh]; rfl
      · refine fin s'.cells ?_ _ ⟨x3_0, x3_1, x3_2⟩
        unfold exS X4.cells
        rw [hl, hh]; rfl
    · have hge := blt_false hge
      obtain rfl : j = n := by omega
      refine ⟨rfl, rfl, ?_, x3_2⟩
      rw [hf, exF_end (by rw [List.length_map]; omega)]
      exact x3_1
end Go.Proofs.YtojfhklkcelblaaGreatDoor
/-! The extremes of samples: known for all samples, by the program and by the reference. -/
namespace Go.Proofs.YtojfhklkcelblaaGreatDoor
open Go Go.Am

noncomputable abbrev xH2 (t : Nat) (d z : List Value) : AHeap := canonT [] (fun _ => 0) Tryz.prog.globals.size [(d, t, 0, false), (z, t, 0, false)]
noncomputable abbrev xQ : Value := .pointer (some ⟨Tryz.prog.globals.size, 0, none⟩)
theorem x4_flat (s : X4) : s.cells.all (flat 3) = true := rfl
set_option maxRecDepth 100000 in
noncomputable def exLoops (l : List Int) (n : Nat) (s : X4) : Loops Tryz.prog where
  body := fun _ => loopOf Tryz.prog 59 0
  spec := fun _ a h c => entry a 55 [(2, .pointer (some ⟨Tryz.prog.globals.size + 1, 0, none⟩)), (6, .pointer (some ⟨Tryz.prog.globals.size + 4, 0, none⟩)), (30, .slice (some ⟨Tryz.prog.globals.size + 3, 0, none⟩) n n), (31, goN n), (32, goN 0)] (h.get (Tryz.prog.globals.size + 3) = some (.cells (l.map gi) 3 2 false) ∧ h.get (Tryz.prog.globals.size + 4) = some (.cells s.cells 117 0 false) ∧ h.get (Tryz.prog.globals.size + 1) = some (.cells zero4 117 0 false) ∧ (n ≤ l.length ∧ n ≤ 65536) ∧
    ∀ g r, r = exF (l.take n) 0 s → c (.exit 0) (stOf 55 [(2, .pointer (some ⟨Tryz.prog.globals.size + 1, 0, none⟩)), (6, xQ)] g) (xH2 117 r.cells zero4))
  ok := fun i a h c q => by
    obtain ⟨h1, h2, h3, g0, g1, g2, ⟨hs1, hs2⟩, h4⟩ := entry_facts q
    refine J.of_toldR globs_pos (ex_loop l n n 3 2 false s hs1 hs2 _ _ _ ⟨rfl, rfl, rfl⟩ a h g0 g1 g2 h1 h2 ?_) ?_
    · simp only [List.map_cons, List.map_nil]
      rw [h3 (2, .pointer (some ⟨nG1 + 1, 0, none⟩)) (by simp), h3 (6, .pointer (some ⟨nG1 + 4, 0, none⟩)) (by simp), h3 (30, .slice (some ⟨nG1 + 3, 0, none⟩) n n) (by simp), h3 (31, goN n) (by simp), h3 (32, goN 0) (by simp)]
    · rintro ex vs h' ⟨rfl, rfl, k1, k2⟩
      refine ⟨[2, 6], [xR, xP], [.pointer (some ⟨Tryz.prog.globals.size + 1, 0, none⟩), xQ], [((exF (l.take n) 0 s).cells, 117, 0, false), (zero4, 117, 0, false)], [nG1 + 1, nG1 + 2], by simp, rfl, by simp, by simp, ?_, by kernel_rfl, ?_, fun g => h4 g _ rfl⟩
      · intro q b' i hb hi
        match q, hb, hi with
        | 0, hb, hi => cases hb; cases hi; exact ⟨k1, x4_flat _⟩
        | 1, hb, hi => cases hb; cases hi; exact ⟨k2, rfl⟩
      · intro i hi
        simp only [List.mem_cons, List.not_mem_nil, or_false] at hi
        rcases hi with rfl | rfl
        · exact ⟨(6, xP), by simp, by simp [named]⟩
        · exact ⟨(2, xR), by simp, by simp [named]⟩
set_option maxRecDepth 100000 in
noncomputable def ExLoops (l : List Nat) (n k e row : Nat) (s : X4) : Loops Tryz.prog where
  body := fun _ => loopOf Tryz.prog 70 0
  spec := fun _ a h c => entry a 48 [(0, liP n k), (2, .pointer (some ⟨Tryz.prog.globals.size + 1, 0, none⟩)), (4, .pointer (some ⟨Tryz.prog.globals.size + 2, 0, none⟩)), (5, goN 1)] (h.get Tryz.prog.globals.size = some (.cells (l.map gf) e row true) ∧ h.get (Tryz.prog.globals.size + 2) = some (.cells s.cells 135 0 false) ∧ h.get (Tryz.prog.globals.size + 1) = some (.cells zero4 135 0 false) ∧ (n ≤ l.length ∧ n ≤ 65536 ∧ 1 ≤ n ∧ ∀ x ∈ l.take n, smpE x = 0) ∧
    ∀ g r, r = exF (((l.take n).map unitE).drop 1) 1 s → c (.exit 0) (stOf 48 [(2, .pointer (some ⟨Tryz.prog.globals.size + 1, 0, none⟩)), (4, xQ)] g) (xH2 135 r.cells zero4))
  ok := fun i a h c q => by
    obtain ⟨h1, h2, h3, g0, g1, g2, ⟨hs1, hs2, hs3, hs4⟩, h4⟩ := entry_facts q
    refine J.of_toldR globs_pos (Ex_loop l n k e row true s hs1 hs2 hs3 hs4 _ _ _ ⟨rfl, rfl, rfl⟩ a h g0 g1 g2 h1 h2 ?_) ?_
    · simp only [List.map_cons, List.map_nil]
      rw [h3 (0, liP n k) (by simp), h3 (2, .pointer (some ⟨nG1 + 1, 0, none⟩)) (by simp), h3 (4, .pointer (some ⟨nG1 + 2, 0, none⟩)) (by simp), h3 (5, goN 1) (by simp)]
    · rintro ex vs h' ⟨rfl, rfl, k1, k2⟩
      refine ⟨[2, 4], [xR, xP], [.pointer (some ⟨Tryz.prog.globals.size + 1, 0, none⟩), xQ], [((exF (((l.take n).map unitE).drop 1) 1 s).cells, 135, 0, false), (zero4, 135, 0, false)], [nG1 + 1, nG1 + 2], by simp, rfl, by simp, by simp, ?_, by kernel_rfl, ?_, fun g => h4 g _ rfl⟩
      · intro q b' i hb hi
        match q, hb, hi with
        | 0, hb, hi => cases hb; cases hi; exact ⟨k1, x4_flat _⟩
        | 1, hb, hi => cases hb; cases hi; exact ⟨k2, rfl⟩
      · intro i hi
        simp only [List.mem_cons, List.not_mem_nil, or_false] at hi
        rcases hi with rfl | rfl
        · exact ⟨(4, xP), by simp, by simp [named]⟩
        · exact ⟨(2, xR), by simp, by simp [named]⟩
noncomputable abbrev x0 (u : Int) : X4 := ⟨u, u, 0, 0⟩
theorem ex_run (l : List Nat) (n k e row : Nat) (u : Int) (K : Value → Prop) : callC Tryz.prog (exec Tryz.prog orcZ 10) (syOf [(10, 7), (18, 1), (22, 7), (24, 2), (25, 3), (27, 2), (28, 3)]) askZ (exLoops ((l.take n).map unitE) n (x0 u)) 40 59 #[liP n k] (liH (l.map gf) e row) (fun v _ => K v) = ((∃ x1 : List Nat, (List.map gf l = List.map gf x1 ∧ (0 : Nat) < n ∧ (n : Nat) ≤ List.length x1 ∧ (n : Nat) ≤ 1000000 ∧ (n : Nat) ≤ k ∧ ((!(ieq (firstS [csE (List.take n x1), whenS (ieq (Int.ofNat n) 0) 12]) 0)) = true → K (Value.tuple #[Value.agg (Array.mk (List.take 4 (List.drop 0 ([] ++ ([gi 0, gi 0, gi 0, gi 0] ++ []))))), gi (firstS [csE (List.take n x1), whenS (ieq (Int.ofNat n) 0) 12])])) ∧ ((!(ieq (firstS [csE (List.take n x1), whenS (ieq (Int.ofNat n) 0) 12]) 0)) = false → (∃ x2 : List Nat, (List.map gf l = List.map gf x2 ∧ (0 : Nat) < n ∧ (n : Nat) ≤ List.length x2 ∧ (n : Nat) ≤ 65536 ∧ validL (List.take n x2) ∧ ahasIndex 0 n = true ∧ (unitsL (List.take n x2))[0]? = Option.some (gi (intAt (unitsL (List.take n x2)) 0)) ∧ ahasIndex 0 n = true ∧ (unitsL (List.take n x2))[0]? = Option.some (gi (intAt (unitsL (List.take n x2)) 0)) ∧ (unitsL (List.take n x2))[0]? = Option.some (gi (intAt (unitsL (List.take n x2)) 0)) ∧ (unitsL (List.take n x2))[0]? = Option.some (gi (intAt (unitsL (List.take n x2)) 0)) ∧ loopOf Tryz.prog 59 0 = loopOf Tryz.prog 59 0 ∧ Value.pointer (some ⟨nG1 + 1, 0, none⟩) = Value.pointer (some ⟨nG1 + 1, 0, none⟩) ∧ Value.pointer (some ⟨nG1 + 4, 0, none⟩) = Value.pointer (some ⟨nG1 + 4, 0, none⟩) ∧ Value.slice (some ⟨nG1 + 3, 0, none⟩) n n = Value.slice (some ⟨nG1 + 3, 0, none⟩) n n ∧ goN n = goN n ∧ gi 0 = goN 0 ∧ ((((((liH (List.map gf l) e row).push (.cells [gi 0, gi 0, gi 0, gi 0] 117 0 false)).push (.cells [csR (List.take n x1) [], gi (whenS (ieq (Int.ofNat n) 0) 12)] 25 2 false)).push (.cells (unitsL (List.take n x2)) 3 2 false)).push (.cells [gi 0, gi 0, gi 0, gi 0] 117 0 false)).set (nG1 + 4) (.cells ([] ++ ([gi (intAt (unitsL (List.take n x2)) 0), gi (intAt (unitsL (List.take n x2)) 0), gi 0, gi 0] ++ [])) 117 0 false)).get (nG1 + 3) = Option.some (.cells (List.map gi (List.map unitE (List.take n l))) 3 2 false) ∧ ((((((liH (List.map gf l) e row).push (.cells [gi 0, gi 0, gi 0, gi 0] 117 0 false)).push (.cells [csR (List.take n x1) [], gi (whenS (ieq (Int.ofNat n) 0) 12)] 25 2 false)).push (.cells (unitsL (List.take n x2)) 3 2 false)).push (.cells [gi 0, gi 0, gi 0, gi 0] 117 0 false)).set (nG1 + 4) (.cells ([] ++ ([gi (intAt (unitsL (List.take n x2)) 0), gi (intAt (unitsL (List.take n x2)) 0), gi 0, gi 0] ++ [])) 117 0 false)).get (nG1 + 4) = Option.some (.cells (X4.cells (x0 u)) 117 0 false) ∧ ((((((liH (List.map gf l) e row).push (.cells [gi 0, gi 0, gi 0, gi 0] 117 0 false)).push (.cells [csR (List.take n x1) [], gi (whenS (ieq (Int.ofNat n) 0) 12)] 25 2 false)).push (.cells (unitsL (List.take n x2)) 3 2 false)).push (.cells [gi 0, gi 0, gi 0, gi 0] 117 0 false)).set (nG1 + 4) (.cells ([] ++ ([gi (intAt (unitsL (List.take n x2)) 0), gi (intAt (unitsL (List.take n x2)) 0), gi 0, gi 0] ++ [])) 117 0 false)).get (nG1 + 1) = Option.some (.cells zero4 117 0 false) ∧ ((n : Nat) ≤ List.length (List.map unitE (List.take n l)) ∧ (n : Nat) ≤ 65536) ∧ (∀ _ : Nat → Value, (∀ y4 : X4, (y4 = exF (List.take n (List.map unitE (List.take n l))) 0 (x0 u) → K (Value.tuple #[Value.agg (Array.mk (List.take 4 (List.drop 0 (splice zero4 0 (List.take 4 (List.drop 0 (X4.cells y4))))))), gi 0])))))))))) := by kernel_rfl
theorem Ex_run (l : List Nat) (n k e row : Nat) (u : Int) (K : Value → Prop) : callC Tryz.prog (exec Tryz.prog orcZ 10) (syOf [(9, 1), (12, 2), (13, 3), (14, 7), (16, 2), (17, 3), (18, 7)]) askZ (ExLoops l n k e row (x0 u)) 40 70 #[liP n k] (liH (l.map gf) e row) (fun v _ => K v) = (((ieq (Int.ofNat n) 0 = true → K (Value.tuple #[Value.agg (Array.mk (List.take 4 (List.drop 0 ([] ++ ([gi 0, gi 0, gi 0, gi 0] ++ []))))), gi 12])) ∧ (ieq (Int.ofNat n) 0 = false → (ahasIndex 0 n = true ∧ (List.map gf l)[0]? = Option.some (gf (floatAt (List.map gf l) 0)) ∧ ahasIndex 0 n = true ∧ (List.map gf l)[0]? = Option.some (gf (floatAt (List.map gf l) 0)) ∧ (List.map gf l)[0]? = Option.some (gf (floatAt (List.map gf l) 0)) ∧ (List.map gf l)[0]? = Option.some (gf (floatAt (List.map gf l) 0)) ∧ ieq (smpE (floatAt (List.map gf l) 0)) 0 = true ∧ [gi 0, gi 0, gi 0, gi 0] = [gi 0, gi 0, gi 0, gi 0] ∧ (List.map gf l)[0]? = Option.some (gf (floatAt (List.map gf l) 0)) ∧ ieq (smpE (floatAt (List.map gf l) 0)) 0 = true ∧ [gi 0, gi 0, gi 0, gi 0] = [gi 0, gi 0, gi 0, gi 0] ∧ loopOf Tryz.prog 70 0 = loopOf Tryz.prog 70 0 ∧ liP n k = liP n k ∧ Value.pointer (some ⟨nG1 + 1, 0, none⟩) = Value.pointer (some ⟨nG1 + 1, 0, none⟩) ∧ Value.pointer (some ⟨nG1 + 2, 0, none⟩) = Value.pointer (some ⟨nG1 + 2, 0, none⟩) ∧ gi 1 = goN 1 ∧ ((((liH (List.map gf l) e row).push (.cells [gi 0, gi 0, gi 0, gi 0] 135 0 false)).push (.cells [gi 0, gi 0, gi 0, gi 0] 135 0 false)).set (nG1 + 2) (.cells ([] ++ ([gi (unitE (floatAt (List.map gf l) 0)), gi (unitE (floatAt (List.map gf l) 0)), gi 0, gi 0] ++ [])) 135 0 false)).get (nG1) = Option.some (.cells (List.map gf l) e row true) ∧ ((((liH (List.map gf l) e row).push (.cells [gi 0, gi 0, gi 0, gi 0] 135 0 false)).push (.cells [gi 0, gi 0, gi 0, gi 0] 135 0 false)).set (nG1 + 2) (.cells ([] ++ ([gi (unitE (floatAt (List.map gf l) 0)), gi (unitE (floatAt (List.map gf l) 0)), gi 0, gi 0] ++ [])) 135 0 false)).get (nG1 + 2) = Option.some (.cells (X4.cells (x0 u)) 135 0 false) ∧ ((((liH (List.map gf l) e row).push (.cells [gi 0, gi 0, gi 0, gi 0] 135 0 false)).push (.cells [gi 0, gi 0, gi 0, gi 0] 135 0 false)).set (nG1 + 2) (.cells ([] ++ ([gi (unitE (floatAt (List.map gf l) 0)), gi (unitE (floatAt (List.map gf l) 0)), gi 0, gi 0] ++ [])) 135 0 false)).get (nG1 + 1) = Option.some (.cells zero4 135 0 false) ∧ ((n : Nat) ≤ List.length l ∧ (n : Nat) ≤ 65536 ∧ (1 : Nat) ≤ n ∧ (∀ y1 : Nat, (List.Mem y1 (List.take n l) → smpE y1 = 0))) ∧ (∀ _ : Nat → Value, (∀ y2 : X4, (y2 = exF (List.drop 1 (List.map unitE (List.take n l))) 1 (x0 u) → K (Value.tuple #[Value.agg (Array.mk (List.take 4 (List.drop 0 (splice zero4 0 (List.take 4 (List.drop 0 (X4.cells y2))))))), gi 0])))))))) := by kernel_rfl
theorem ex_nil : (call Tryz.prog orcZ 60 59 #[nilS] (emp Tryz.prog)).map (·.1) = some (.tuple #[.agg #[gi 0, gi 0, gi 0, gi 0], gi 12]) := by kernel_rfl
theorem ex_emp (k : Nat) : (call Tryz.prog orcZ 60 59 #[.slice (some ⟨0, 0, none⟩) 0 k] (emp Tryz.prog)).map (·.1) = some (.tuple #[.agg #[gi 0, gi 0, gi 0, gi 0], gi 12]) := by kernel_rfl
theorem Ex_nil : (call Tryz.prog orcZ 60 70 #[nilS] (emp Tryz.prog)).map (·.1) = some (.tuple #[.agg #[gi 0, gi 0, gi 0, gi 0], gi 12]) := by kernel_rfl
theorem Ex_emp (k : Nat) : (call Tryz.prog orcZ 60 70 #[.slice (some ⟨0, 0, none⟩) 0 k] (emp Tryz.prog)).map (·.1) = some (.tuple #[.agg #[gi 0, gi 0, gi 0, gi 0], gi 12]) := by kernel_rfl
noncomputable def exE (l : List Nat) : Int := firstS [csE l, whenS (ieq (Int.ofNat l.length) 0) 12]
noncomputable def exA (l : List Nat) : X4 := bif ieq (exE l) 0 then exF (l.map unitE) 0 (x0 (unitE (l.headD 0))) else ⟨0, 0, 0, 0⟩
noncomputable def exO (s : X4) (e : Int) : Out := .plain (.tuple #[.agg #[gi s.lo, gi s.hi, gi s.la, gi s.ha], gi e])
noncomputable def exX : List Nat → List Value → Option Out := fun l r => match r with
  | [] => some (exO (exA l) (exE l))
  | _ => none
noncomputable def exY : List Nat → List Value → (Out → Prop) → Prop := fun l r K => match r with
  | [] => ∀ s e, s = exA l → e = exE l → K (.plain (.tuple #[.agg #[gi s.lo, gi s.hi, gi s.la, gi s.ha], gi e]))
  | _ => False
noncomputable def ExX : List Nat → List Value → Option Out := fun l r => match r with
  | [] => bif ieq (csE l) 0 then some (exO (exA l) (exE l)) else none
  | _ => none
noncomputable def ExY : List Nat → List Value → (Out → Prop) → Prop := fun l r K => match r with
  | [] => ieq (csE l) 0 = true ∧ ∀ s e, s = exA l → e = exE l → K (.plain (.tuple #[.agg #[gi s.lo, gi s.hi, gi s.la, gi s.ha], gi e]))
  | _ => False
theorem exX_some {l : List Nat} {r : List Value} {o : Out} (h : exX l r = some o) : r = [] ∧ o = exO (exA l) (exE l) := by
  unfold exX at h
  split at h
  · cases h; exact ⟨rfl, rfl⟩
  · cases h
theorem ExX_some {l : List Nat} {r : List Value} {o : Out} (h : ExX l r = some o) : r = [] ∧ o = exO (exA l) (exE l) ∧ csE l = 0 := by
  unfold ExX at h
  split at h
  · cases hc : ieq (csE l) 0 with
    | false => rw [hc] at h; cases h
    | true =>
      rw [hc] at h; cases h
      rw [ieq_dec] at hc
      exact ⟨rfl, rfl, by simpa using hc⟩
  · cases h
theorem exY_ok (l : List Nat) (r : List Value) (K : Out → Prop) (h : exY l r K) : ∃ o, exX l r = some o ∧ K o := by
  unfold exY at h
  split at h
  · exact ⟨_, rfl, h _ _ rfl rfl⟩
  · exact h.elim
theorem ExY_ok (l : List Nat) (r : List Value) (K : Out → Prop) (h : ExY l r K) : ∃ o, ExX l r = some o ∧ K o := by
  unfold ExY at h
  split at h
  · refine ⟨exO (exA l) (exE l), ?_, h.2 _ _ rfl rfl⟩
    show (bif ieq (csE l) 0 then some (exO (exA l) (exE l)) else none) = _
    rw [h.1]; rfl
  · exact h.elim
theorem exS_same (u : Int) : exS 0 u (x0 u) = x0 u := by
  unfold exS
  have : ilt u u = false := by rw [ilt_say]; exact decide_eq_false (Int.lt_irrefl _)
  rw [this]; rfl
theorem exF_head {l : List Nat} (h : 0 < l.length) : exF ((l.map unitE).drop 1) 1 (x0 (unitE (l.headD 0))) = exF (l.map unitE) 0 (x0 (unitE (l.headD 0))) := by
  cases l with
  | nil => simp at h
  | cons x l =>
    show exF (l.map unitE) 1 (x0 (unitE x)) = exF (l.map unitE) 1 (exS 0 (unitE x) (x0 (unitE x)))
    rw [exS_same]
theorem exE_zero {l : List Nat} (h0 : 0 < l.length) (hc : csE l = 0) : exE l = 0 := by
  unfold exE
  rw [hc, ieq_ne (by simp only [Int.ofNat_eq_natCast]; omega)]
  rfl
theorem exA_good {l : List Nat} (h0 : 0 < l.length) (hc : csE l = 0) : exA l = exF (l.map unitE) 0 (x0 (unitE (l.headD 0))) := by
  unfold exA
  rw [exE_zero h0 hc]; rfl
theorem exA_bad {l : List Nat} (h : exE l ≠ 0) : exA l = ⟨0, 0, 0, 0⟩ := by
  unfold exA
  rw [ieq_ne h]; rfl
theorem head_take {l : List Nat} {n : Nat} (h0 : 0 < n) : (l.take n).headD 0 = l.headD 0 := by
  cases l with
  | nil => simp
  | cons x l => cases n with
    | zero => omega
    | succ n => rfl
theorem head_at {l : List Nat} (h0 : 0 < l.length) : l[0] = l.headD 0 := by
  cases l with
  | nil => simp at h0
  | cons x l => rfl
noncomputable def orcTd : Orc := orElse 70 (genO dF 65536 false ExX) (orElse 59 (genO dF 1000000 false exX) orcZ)
end Go.Proofs.YtojfhklkcelblaaGreatDoor
/-! The extremes of samples: known for all samples. -/
namespace Go.Proofs.YtojfhklkcelblaaGreatDoor
open Go Go.Am

theorem float_at0 {l : List Nat} (h0 : 0 < l.length) : (l.map gf)[0]? = some (gf (floatAt (l.map gf) 0)) ∧ floatAt (l.map gf) 0 = l.headD 0 := by
  obtain ⟨h1, h2⟩ := float_at (l := l) (j := 0) h0
  rw [head_at h0] at h2
  exact ⟨h1, h2⟩
theorem int_at0 {l : List Int} {x : Int} (h : l[0]? = some x) : (l.map gi)[0]? = some (gi (intAt (l.map gi) 0)) ∧ intAt (l.map gi) 0 = x := int_at h
theorem x4_back (s : X4) : (List.take 4 (List.drop 0 (splice zero4 0 (List.take 4 (List.drop 0 s.cells))))) = [gi s.lo, gi s.hi, gi s.la, gi s.ha] := rfl
set_option maxRecDepth 100000 in
theorem ex_call (l : List Nat) (n el row k : Nat) (h0 : 0 < n) (h1 : n ≤ l.length) (h2 : n ≤ 1000000) (h3 : n ≤ k) : CallJ Tryz.prog 59 #[liP n k] (liH (l.map gf) el row) (exO (exA (l.take n)) (exE (l.take n))).Got := by
  have hlen : (l.take n).length = n := by rw [List.length_take]; omega
  have he : firstS [csE (l.take n), whenS (ieq (Int.ofNat n) 0) 12] = exE (l.take n) := by unfold exE; rw [hlen]
  refine callC_ok mixed orcZ_ok askZ_ok (Eq.mpr (ex_run l n k el row (unitE (l.headD 0)) _) ⟨l, rfl, h0, h1, h2, h3, fun hp => ?_, fun hp => ?_⟩)
  · rw [he] at hp ⊢
    rw [exA_bad (not_ieq hp)]
    rfl
  · rw [he] at hp
    have hp := not_ieq' hp
    have hc : csE (l.take n) = 0 := firstS_none (by unfold exE at hp; exact hp) _ (.head _)
    obtain ⟨hva, hle⟩ := cs_zero hc
    rw [hlen] at hle
    have hu : ((l.take n).map unitE)[0]? = some (unitE (l.headD 0)) := by
      rw [List.getElem?_map, List.getElem?_take, if_pos h0, List.getElem?_eq_getElem (show 0 < l.length by omega), head_at (by omega)]
      rfl
    obtain ⟨u1, u2⟩ := int_at0 hu
    have hi : ahasIndex 0 n = true := by show Nat.blt 0 n = true; rw [Nat.blt_eq]; exact h0
    have ht : ((l.take n).map unitE).take n = (l.take n).map unitE := List.take_of_length_le (by rw [List.length_map]; omega)
    have u2' : intAt (unitsL (l.take n)) 0 = unitE (l.headD 0) := u2
    refine ⟨l, rfl, h0, h1, by omega, hva, hi, u1, hi, u1, u1, u1, rfl, rfl, rfl, rfl, rfl, rfl, ?_, ?_, ?_, ⟨by rw [List.length_map]; omega, by omega⟩, fun _ y hy => ?_⟩
    · rw [AHeap.get_set_neB (by kernel_rfl), AHeap.get_push_ne (by kernel_rfl), AHeap.get_push_eq (by kernel_rfl)]
      rfl
    · rw [AHeap.get_set_eqB (by kernel_rfl), u2']
      rfl
    · rw [AHeap.get_set_neB (by kernel_rfl), AHeap.get_push_ne (by kernel_rfl), AHeap.get_push_ne (by kernel_rfl), AHeap.get_push_ne (by kernel_rfl), AHeap.get_push_eq (by kernel_rfl)]
      rfl
    · rw [ht, show x0 (unitE (l.headD 0)) = x0 (unitE ((l.take n).headD 0)) by rw [head_take h0], ← exA_good (by omega) hc] at hy
      subst hy
      rw [exE_zero (by omega) hc]
      rfl
set_option maxRecDepth 100000 in
theorem Ex_call (l : List Nat) (n el row k : Nat) (h0 : 0 < n) (h1 : n ≤ l.length) (hc : csE (l.take n) = 0) : CallJ Tryz.prog 70 #[liP n k] (liH (l.map gf) el row) (exO (exA (l.take n)) (exE (l.take n))).Got := by
  have hlen : (l.take n).length = n := by rw [List.length_take]; omega
  obtain ⟨hva, hle⟩ := cs_zero hc
  rw [hlen] at hle
  have hi : ahasIndex 0 n = true := by show Nat.blt 0 n = true; rw [Nat.blt_eq]; exact h0
  obtain ⟨f1, f2⟩ := float_at0 (l := l) (by omega)
  have hv0 : ieq (smpE (floatAt (l.map gf) 0)) 0 = true := by
    rw [f2, ← head_at (show 0 < l.length by omega), hva _ (List.mem_of_getElem? (i := 0) (by rw [List.getElem?_take, if_pos h0, List.getElem?_eq_getElem (show 0 < l.length by omega)]))]
    rfl
  refine callC_ok mixed orcZ_ok askZ_ok (Eq.mpr (Ex_run l n k el row (unitE (l.headD 0)) _) ⟨fun hp => ?_, fun _ => ?_⟩)
  · rw [ieq_ne (by simp only [Int.ofNat_eq_natCast]; omega)] at hp
    cases hp
  · refine ⟨hi, f1, hi, f1, f1, f1, hv0, rfl, f1, hv0, rfl, rfl, rfl, rfl, rfl, rfl, ?_, ?_, ?_, ⟨h1, by omega, h0, hva⟩, fun _ y hy => ?_⟩
    · rw [AHeap.get_set_neB (by kernel_rfl), AHeap.get_push_ne (by kernel_rfl), AHeap.get_push_ne (by kernel_rfl)]
      rw [canon_get, if_pos (Nat.le_refl _), Nat.sub_self]; rfl
    · rw [AHeap.get_set_eqB (by kernel_rfl), f2]
      rfl
    · rw [AHeap.get_set_neB (by kernel_rfl), AHeap.get_push_ne (by kernel_rfl), AHeap.get_push_eq (by kernel_rfl)]
      rfl
    · rw [show x0 (unitE (l.headD 0)) = x0 (unitE ((l.take n).headD 0)) by rw [head_take h0], exF_head (by omega), ← exA_good (by omega) hc] at hy
      subst hy
      rw [exE_zero (by omega) hc]
      rfl
theorem exO_nil : exO (exA []) (exE []) = .plain (.tuple #[.agg #[gi 0, gi 0, gi 0, gi 0], gi 12]) := by
  have : exE [] = 12 := by unfold exE; rw [csE_nil]; rfl
  rw [exA_bad (by rw [this]; decide), this]
  rfl
set_option maxRecDepth 100000 in
theorem orcTd_ok : OrcOk Tryz.prog orcTd := by
  refine genO_ok dF_some (fun _ => rfl) globs_pos (genO_ok dF_some (fun _ => rfl) globs_pos orcZ_ok ?_ ?_ ?_ ?_) ?_ ?_ ?_ ?_
  · intro l r o h; obtain ⟨rfl, rfl⟩ := exX_some h; rfl
  · intro r o h; obtain ⟨rfl, rfl⟩ := exX_some h; rw [exO_nil]; exact CallJ.of_call mixed orcZ_ok ex_nil fun _ => rfl
  · intro r k o h; obtain ⟨rfl, rfl⟩ := exX_some h; rw [exO_nil]; exact CallJ.of_call mixed orcZ_ok (ex_emp k) fun _ => rfl
  · intro l off n r el row k o ho hw h0 h1 h2 h3 h
    obtain rfl := ho rfl
    obtain ⟨rfl, rfl⟩ := exX_some h
    rw [List.drop_zero]
    exact ex_call l n el row k h0 (by omega) h2 h3
  · intro l r o h; obtain ⟨rfl, rfl, _⟩ := ExX_some h; rfl
  · intro r o h; obtain ⟨rfl, rfl, _⟩ := ExX_some h; rw [exO_nil]; exact CallJ.of_call mixed orcZ_ok Ex_nil fun _ => rfl
  · intro r k o h; obtain ⟨rfl, rfl, _⟩ := ExX_some h; rw [exO_nil]; exact CallJ.of_call mixed orcZ_ok (Ex_emp k) fun _ => rfl
  · intro l off n r el row k o ho hw h0 h1 h2 h3 h
    obtain rfl := ho rfl
    rw [List.drop_zero] at h
    obtain ⟨rfl, rfl, hc⟩ := ExX_some h
    exact Ex_call l n el row k h0 (by omega) hc
noncomputable def askTd : Asks := asksG 70 gf 65536 ExY (asksG 59 gf 1000000 exY askZ)
theorem askTd_ok : AsksOk orcTd askTd := asksG_ok (d := dF) (e := gf) (fun _ => rfl) ExY_ok (asksG_ok (d := dF) (e := gf) (fun _ => rfl) exY_ok askZ_ok)
/-! Lists of samples that are the same. -/
end Go.Proofs.YtojfhklkcelblaaGreatDoor
