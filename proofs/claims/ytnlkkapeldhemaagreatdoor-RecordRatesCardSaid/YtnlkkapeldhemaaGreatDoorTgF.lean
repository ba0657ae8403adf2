/-
  OWN WORK. The extremes of samples, by the program and by the reference: their loops.
-/
import Derived.Test.YtnlkkapeldhemaaGreatDoorTgE
namespace Go.Proofs.YtnlkkapeldhemaaGreatDoor
open Go Go.Am

structure X4 where
  lo : Int
  hi : Int
  la : Int
  ha : Int
noncomputable def X4.cells (s : X4) : List Value := [gi s.lo, gi s.hi, gi s.la, gi s.ha]
noncomputable def X4.agg (s : X4) : Value := .agg #[gi s.lo, gi s.hi, gi s.la, gi s.ha]
noncomputable def exS (j : Nat) (u : Int) (s : X4) : X4 where
  lo := bif ilt u s.lo then u else s.lo
  hi := bif ilt s.hi u then u else s.hi
  la := bif ilt u s.lo then Int.ofNat j else s.la
  ha := bif ilt s.hi u then Int.ofNat j else s.ha
noncomputable def exF : List Int → Nat → X4 → X4
  | [], _, s => s
  | u :: l, j, s => exF l (j + 1) (exS j u s)
theorem exF_drop {l : List Int} {j : Nat} {s : X4} (hj : j < l.length) : exF (l.drop j) j s = exF (l.drop (j + 1)) (j + 1) (exS j l[j] s) := by
  rw [List.drop_eq_getElem_cons hj]
  rfl
theorem exF_end {l : List Int} {j : Nat} {s : X4} (hj : l.length ≤ j) : exF (l.drop j) j s = s := by
  rw [List.drop_eq_nil_of_le hj]
  rfl
noncomputable abbrev xHp (c : List Value) (e row : Nat) (ro : Bool) (d z : List Value) : AHeap := canonT [] (fun _ => 0) Tryz.prog.globals.size [(c, e, row, ro), (d, 50, 0, false), (z, 50, 0, false)]
noncomputable abbrev xHr (c : List Value) (e row : Nat) (ro : Bool) (d z : List Value) : AHeap := canonT [] (fun _ => 0) Tryz.prog.globals.size [(c, e, row, ro), (d, 54, 0, false), (z, 54, 0, false)]
noncomputable abbrev xP : Value := .pointer (some ⟨Tryz.prog.globals.size + 1, 0, none⟩)
noncomputable abbrev xR : Value := .pointer (some ⟨Tryz.prog.globals.size + 2, 0, none⟩)
theorem ex_body (c z : List Value) (n k e row j : Nat) (ro : Bool) (lo hi la ha : Int) (g : Nat → Value) (Q : Exit → List Value → AHeap → Prop) : execC Tryz.prog (exec Tryz.prog orcTc 10) (syOf [(33, 1), (35, 2), (36, 3), (40, 1), (48, 1)]) (askTc true true) (noLoops _) 40 (loopOf Tryz.prog 30 0) (stOf 55 [(2, xR), (6, xP), (30, liP n k), (31, goN n), (32, goN j)] g) (xHp c e row ro [gi lo, gi hi, gi la, gi ha] z) (told 55 [2, 6, 30, 31, 32] Q) = (((Nat.blt j n = true → (Nat.blt j n = true ∧ c[(0 + (j * 1))]? = Option.some (gi (intAt c (0 + (j * 1)))) ∧ (ilt (intAt c (0 + (j * 1))) lo = true → ((ilt hi (intAt c (0 + (j * 1))) = true → Q .normal [xR, xP, liP n k, goN n, gi (fwrap IntKind.i64 (Int.ofNat (j + 1)))] (((((xHp c e row ro [gi lo, gi hi, gi la, gi ha] z).set (N1 + 1) (.cells (splice [gi lo, gi hi, gi la, gi ha] 0 [gi (intAt c (0 + (j * 1)))]) 50 0 false)).set (N1 + 1) (.cells (splice (splice [gi lo, gi hi, gi la, gi ha] 0 [gi (intAt c (0 + (j * 1)))]) 2 [goN j]) 50 0 false)).set (N1 + 1) (.cells (splice (splice (splice [gi lo, gi hi, gi la, gi ha] 0 [gi (intAt c (0 + (j * 1)))]) 2 [goN j]) 1 [gi (intAt c (0 + (j * 1)))]) 50 0 false)).set (N1 + 1) (.cells (splice (splice (splice (splice [gi lo, gi hi, gi la, gi ha] 0 [gi (intAt c (0 + (j * 1)))]) 2 [goN j]) 1 [gi (intAt c (0 + (j * 1)))]) 3 [goN j]) 50 0 false))) ∧ (ilt hi (intAt c (0 + (j * 1))) = false → Q .normal [xR, xP, liP n k, goN n, gi (fwrap IntKind.i64 (Int.ofNat (j + 1)))] (((xHp c e row ro [gi lo, gi hi, gi la, gi ha] z).set (N1 + 1) (.cells (splice [gi lo, gi hi, gi la, gi ha] 0 [gi (intAt c (0 + (j * 1)))]) 50 0 false)).set (N1 + 1) (.cells (splice (splice [gi lo, gi hi, gi la, gi ha] 0 [gi (intAt c (0 + (j * 1)))]) 2 [goN j]) 50 0 false))))) ∧ (ilt (intAt c (0 + (j * 1))) lo = false → ((ilt hi (intAt c (0 + (j * 1))) = true → Q .normal [xR, xP, liP n k, goN n, gi (fwrap IntKind.i64 (Int.ofNat (j + 1)))] (((xHp c e row ro [gi lo, gi hi, gi la, gi ha] z).set (N1 + 1) (.cells (splice [gi lo, gi hi, gi la, gi ha] 1 [gi (intAt c (0 + (j * 1)))]) 50 0 false)).set (N1 + 1) (.cells (splice (splice [gi lo, gi hi, gi la, gi ha] 1 [gi (intAt c (0 + (j * 1)))]) 3 [goN j]) 50 0 false))) ∧ (ilt hi (intAt c (0 + (j * 1))) = false → Q .normal [xR, xP, liP n k, goN n, gi (fwrap IntKind.i64 (Int.ofNat (j + 1)))] (xHp c e row ro [gi lo, gi hi, gi la, gi ha] z)))))) ∧ (Nat.blt j n = false → Q (.exit 0) [xR, xP, liP n k, goN n, goN j] (xHp c e row ro [gi lo, gi hi, gi la, gi ha] z)))) := by kernel_rfl
theorem Ex_body (c z : List Value) (n k e row j : Nat) (ro : Bool) (lo hi la ha : Int) (g : Nat → Value) (Q : Exit → List Value → AHeap → Prop) : execC Tryz.prog (exec Tryz.prog orcTc 10) (syOf [(23, 1), (28, 2), (29, 3), (30, 7), (34, 1), (42, 1)]) (askTc true true) (noLoops _) 40 (loopOf Tryz.prog 33 0) (stOf 48 [(0, liP n k), (2, xR), (4, xP), (5, goN j)] g) (xHr c e row ro [gi lo, gi hi, gi la, gi ha] z) (told 48 [0, 2, 4, 5] Q) = (((Nat.blt j n = true → (Nat.blt j n = true ∧ c[(0 + (j * 1))]? = Option.some (gf (floatAt c (0 + (j * 1)))) ∧ ieq (smpE (floatAt c (0 + (j * 1)))) 0 = true ∧ (ilt (unitE (floatAt c (0 + (j * 1)))) lo = true → ((ilt hi (unitE (floatAt c (0 + (j * 1)))) = true → Q .normal [liP n k, xR, xP, gi (fwrap IntKind.i64 (Int.ofNat (j + 1)))] (((((xHr c e row ro [gi lo, gi hi, gi la, gi ha] z).set (N1 + 1) (.cells (splice [gi lo, gi hi, gi la, gi ha] 0 [gi (unitE (floatAt c (0 + (j * 1))))]) 54 0 false)).set (N1 + 1) (.cells (splice (splice [gi lo, gi hi, gi la, gi ha] 0 [gi (unitE (floatAt c (0 + (j * 1))))]) 2 [goN j]) 54 0 false)).set (N1 + 1) (.cells (splice (splice (splice [gi lo, gi hi, gi la, gi ha] 0 [gi (unitE (floatAt c (0 + (j * 1))))]) 2 [goN j]) 1 [gi (unitE (floatAt c (0 + (j * 1))))]) 54 0 false)).set (N1 + 1) (.cells (splice (splice (splice (splice [gi lo, gi hi, gi la, gi ha] 0 [gi (unitE (floatAt c (0 + (j * 1))))]) 2 [goN j]) 1 [gi (unitE (floatAt c (0 + (j * 1))))]) 3 [goN j]) 54 0 false))) ∧ (ilt hi (unitE (floatAt c (0 + (j * 1)))) = false → Q .normal [liP n k, xR, xP, gi (fwrap IntKind.i64 (Int.ofNat (j + 1)))] (((xHr c e row ro [gi lo, gi hi, gi la, gi ha] z).set (N1 + 1) (.cells (splice [gi lo, gi hi, gi la, gi ha] 0 [gi (unitE (floatAt c (0 + (j * 1))))]) 54 0 false)).set (N1 + 1) (.cells (splice (splice [gi lo, gi hi, gi la, gi ha] 0 [gi (unitE (floatAt c (0 + (j * 1))))]) 2 [goN j]) 54 0 false))))) ∧ (ilt (unitE (floatAt c (0 + (j * 1)))) lo = false → ((ilt hi (unitE (floatAt c (0 + (j * 1)))) = true → Q .normal [liP n k, xR, xP, gi (fwrap IntKind.i64 (Int.ofNat (j + 1)))] (((xHr c e row ro [gi lo, gi hi, gi la, gi ha] z).set (N1 + 1) (.cells (splice [gi lo, gi hi, gi la, gi ha] 1 [gi (unitE (floatAt c (0 + (j * 1))))]) 54 0 false)).set (N1 + 1) (.cells (splice (splice [gi lo, gi hi, gi la, gi ha] 1 [gi (unitE (floatAt c (0 + (j * 1))))]) 3 [goN j]) 54 0 false))) ∧ (ilt hi (unitE (floatAt c (0 + (j * 1)))) = false → Q .normal [liP n k, xR, xP, gi (fwrap IntKind.i64 (Int.ofNat (j + 1)))] (xHr c e row ro [gi lo, gi hi, gi la, gi ha] z)))))) ∧ (Nat.blt j n = false → Q (.exit 0) [liP n k, xR, xP, goN j] (xHr c e row ro [gi lo, gi hi, gi la, gi ha] z)))) := by kernel_rfl
theorem x3_0 {e row t : Nat} {ro : Bool} {c d z : List Value} : (canonT [] (fun _ => 0) Tryz.prog.globals.size [(c, e, row, ro), (d, t, 0, false), (z, t, 0, false)]).get N1 = some (.cells c e row ro) := by
  rw [canonT_get (T := []) rfl, if_pos (Nat.le_refl _), Nat.sub_self]; rfl
theorem x3_1 {e row t : Nat} {ro : Bool} {c d z : List Value} : (canonT [] (fun _ => 0) Tryz.prog.globals.size [(c, e, row, ro), (d, t, 0, false), (z, t, 0, false)]).get (N1 + 1) = some (.cells d t 0 false) := by
  rw [canonT_get (T := []) rfl, if_pos (Nat.le_succ _), show N1 + 1 - Tryz.prog.globals.size = 1 by unfold N1; omega]; rfl
theorem x3_2 {e row t : Nat} {ro : Bool} {c d z : List Value} : (canonT [] (fun _ => 0) Tryz.prog.globals.size [(c, e, row, ro), (d, t, 0, false), (z, t, 0, false)]).get (N1 + 2) = some (.cells z t 0 false) := by
  rw [canonT_get (T := []) rfl, if_pos (by unfold N1; omega), show N1 + 2 - Tryz.prog.globals.size = 2 by unfold N1; omega]; rfl
/-- What a round leaves. -/
theorem x3_set {h : AHeap} {c z d' : List Value} {e row t : Nat} {ro : Bool} (h0 : h.get N1 = some (.cells c e row ro)) (h2 : h.get (N1 + 2) = some (.cells z t 0 false)) : (h.set (N1 + 1) (.cells d' t 0 false)).get N1 = some (.cells c e row ro) ∧ (h.set (N1 + 1) (.cells d' t 0 false)).get (N1 + 1) = some (.cells d' t 0 false) ∧ (h.set (N1 + 1) (.cells d' t 0 false)).get (N1 + 2) = some (.cells z t 0 false) := by
  refine ⟨?_, ?_, ?_⟩
  · rw [AHeap.get_set, if_neg (N1_ne 0)]; exact h0
  · rw [AHeap.get_set, if_pos rfl]
  · rw [AHeap.get_set, if_neg (by unfold N1; omega)]; exact h2
noncomputable def zero4 : List Value := [gi 0, gi 0, gi 0, gi 0]
set_option maxRecDepth 100000 in
theorem ex_loop (l : List Int) (n k e row : Nat) (ro : Bool) (s : X4) (hn : n ≤ l.length) (hle : n ≤ 65536) (b0 b1 b2 : Nat) (hb : b0 = N1 + 3 ∧ b1 = N1 + 4 ∧ b2 = N1 + 1) : ∀ (a : AAct) (h : AHeap), h.get b0 = some (.cells (l.map gi) e row ro) → h.get b1 = some (.cells s.cells 50 0 false) → h.get b2 = some (.cells zero4 50 0 false) →
    a.n = 55 → a.marks = [] → [2, 6, 30, 31, 32].map a.tmp = [.pointer (some ⟨b2, 0, none⟩), .pointer (some ⟨b1, 0, none⟩), .slice (some ⟨b0, 0, none⟩) n k, goN n, goN 0] →
    J Tryz.prog (.loop (loopOf Tryz.prog 30 0)) a h (told 55 [2, 6, 30, 31, 32] fun ex vs h => ex = .exit 0 ∧ vs = [xR, xP, liP n k, goN n, goN n] ∧ h.get (N1 + 1) = some (.cells (exF (l.take n) 0 s).cells 50 0 false) ∧ h.get (N1 + 2) = some (.cells zero4 50 0 false)) := by
  intro a h g0 g1 g2 ha hk hv
  have hlen : (l.take n).length = n := by rw [List.length_take]; omega
  refine loop_rule (fun q vs h => ∃ (j : Nat) (s' : X4) (c0 c1 c2 : Nat), ((c0 = N1 + 3 ∧ c1 = N1 + 4 ∧ c2 = N1 + 1) ∨ (c0 = N1 ∧ c1 = N1 + 1 ∧ c2 = N1 + 2)) ∧ j ≤ n ∧ q = n - j ∧ vs = [.pointer (some ⟨c2, 0, none⟩), .pointer (some ⟨c1, 0, none⟩), .slice (some ⟨c0, 0, none⟩) n k, goN n, goN j] ∧
    h.get c0 = some (.cells (l.map gi) e row ro) ∧ h.get c1 = some (.cells s'.cells 50 0 false) ∧ h.get c2 = some (.cells zero4 50 0 false) ∧ exF (l.take n) 0 s = exF ((l.take n).drop j) j s') _ ?_ n _ _ a ⟨0, s, b0, b1, b2, .inl hb, Nat.zero_le _, rfl, rfl, g0, g1, g2, rfl⟩ ha hk hv
  rintro q vs h g ⟨j, s', c0, c1, c2, hc, hj, rfl, rfl, g0, g1, g2, hf⟩
  refine J.reheap (es := fun _ => 0) (vs₂ := [xR, xP, liP n k, goN n, goN j]) (B := [(l.map gi, e, row, ro), (s'.cells, 50, 0, false), (zero4, 50, 0, false)]) (ids := [c0, c1, c2]) globs_pos (by decide) (by decide) rfl (by rcases hc with ⟨rfl, rfl, rfl⟩ | ⟨rfl, rfl, rfl⟩ <;> simp) (by unfold N1 at hc; intro i hi; simp only [List.mem_cons, List.not_mem_nil, or_false] at hi; omega) ?_ (by rcases hc with ⟨rfl, rfl, rfl⟩ | ⟨rfl, rfl, rfl⟩ <;> kernel_rfl) ?_ fun g' => ?_
  · intro q b' i hb hi
    match q, hb, hi with
    | 0, hb, hi => cases hb; cases hi; exact ⟨g0, flat_ints l⟩
    | 1, hb, hi => cases hb; cases hi; exact ⟨g1, rfl⟩
    | 2, hb, hi => cases hb; cases hi; exact ⟨g2, rfl⟩
  · intro i hi
    simp only [List.mem_cons, List.not_mem_nil, or_false] at hi
    rcases hi with rfl | rfl | rfl
    · exact ⟨(30, .slice (some ⟨i, 0, none⟩) n k), by simp, by simp [named]⟩
    · exact ⟨(6, .pointer (some ⟨i, 0, none⟩)), by simp, by simp [named]⟩
    · exact ⟨(2, .pointer (some ⟨i, 0, none⟩)), by simp, by simp [named]⟩
  · refine execC_ok mixed orcTc_ok (askTc_ok true true) (noLoops _) (Eq.mpr (ex_body (l.map gi) zero4 n k e row j ro s'.lo s'.hi s'.la s'.ha g' _) ⟨fun hlt => ?_, fun hge => ?_⟩)
    · have hj' := blt_true hlt
      have hjl : j < l.length := by omega
      obtain ⟨h1, h2⟩ := int_at (List.getElem?_eq_getElem hjl)
      have hd := exF_drop (l := l.take n) (s := s') (show j < (l.take n).length by omega)
      rw [List.getElem_take] at hd
      rw [h2, fwrap_nat (by omega)]
      have fin : ∀ (d : List Value), d = (exS j l[j] s').cells → ∀ h' : AHeap, (h'.get N1 = some (.cells (l.map gi) e row ro) ∧ h'.get (N1 + 1) = some (.cells d 50 0 false) ∧ h'.get (N1 + 2) = some (.cells zero4 50 0 false)) →
          ∃ m', m' < n - j ∧ ∃ (j' : Nat) (s'' : X4) (c0 c1 c2 : Nat), ((c0 = N1 + 3 ∧ c1 = N1 + 4 ∧ c2 = N1 + 1) ∨ (c0 = N1 ∧ c1 = N1 + 1 ∧ c2 = N1 + 2)) ∧ j' ≤ n ∧ m' = n - j' ∧ [xR, xP, liP n k, goN n, goN (j + 1)] = [.pointer (some ⟨c2, 0, none⟩), .pointer (some ⟨c1, 0, none⟩), .slice (some ⟨c0, 0, none⟩) n k, goN n, goN j'] ∧
          h'.get c0 = some (.cells (l.map gi) e row ro) ∧ h'.get c1 = some (.cells s''.cells 50 0 false) ∧ h'.get c2 = some (.cells zero4 50 0 false) ∧ exF (l.take n) 0 s = exF ((l.take n).drop j') j' s'' := by
        rintro d rfl h' ⟨q0, q1, q2⟩
        exact ⟨n - (j + 1), by omega, j + 1, _, N1, N1 + 1, N1 + 2, .inr ⟨rfl, rfl, rfl⟩, by omega, rfl, rfl, q0, q1, q2, by rw [hf, hd]⟩
      have st : ∀ {h' : AHeap} {d' : List Value}, (h'.get N1 = some (.cells (l.map gi) e row ro) ∧ h'.get (N1 + 2) = some (.cells zero4 50 0 false)) → (h'.set (N1 + 1) (.cells d' 50 0 false)).get N1 = some (.cells (l.map gi) e row ro) ∧ (h'.set (N1 + 1) (.cells d' 50 0 false)).get (N1 + 2) = some (.cells zero4 50 0 false) := fun ⟨q0, q2⟩ => ⟨(x3_set q0 q2).1, (x3_set q0 q2).2.2⟩
      refine ⟨hlt, h2 ▸ h1, fun hl => ⟨fun hh => ?_, fun hh => ?_⟩, fun hl => ⟨fun hh => ?_, fun hh => ?_⟩⟩
      · refine fin _ ?_ _ (x3_set (st (st (st ⟨x3_0, x3_2⟩))).1 (st (st (st ⟨x3_0, x3_2⟩))).2)
        unfold exS X4.cells
        rw [hl, hh]; rfl
      · refine fin _ ?_ _ (x3_set (st ⟨x3_0, x3_2⟩).1 (st ⟨x3_0, x3_2⟩).2)
        unfold exS X4.cells
        rw [hl, hh]; rfl
      · refine fin _ ?_ _ (x3_set (st ⟨x3_0, x3_2⟩).1 (st ⟨x3_0, x3_2⟩).2)
        unfold exS X4.cells
        rw [hl, hh]; rfl
      · refine fin s'.cells ?_ _ ⟨x3_0, x3_1, x3_2⟩
        unfold exS X4.cells
        rw [hl, hh]; rfl
    · have hge := blt_false hge
      obtain rfl : j = n := by omega
      refine ⟨rfl, rfl, ?_, x3_2⟩
      rw [hf, exF_end (by omega)]
      exact x3_1
set_option maxRecDepth 100000 in
theorem Ex_loop (l : List Nat) (n k e row : Nat) (ro : Bool) (s : X4) (hn : n ≤ l.length) (hle : n ≤ 65536) (h0 : 1 ≤ n) (hval : ∀ x ∈ l.take n, smpE x = 0) (b0 b1 b2 : Nat) (hb : b0 = N1 ∧ b1 = N1 + 2 ∧ b2 = N1 + 1) : ∀ (a : AAct) (h : AHeap), h.get b0 = some (.cells (l.map gf) e row ro) → h.get b1 = some (.cells s.cells 54 0 false) → h.get b2 = some (.cells zero4 54 0 false) →
    a.n = 48 → a.marks = [] → [0, 2, 4, 5].map a.tmp = [.slice (some ⟨b0, 0, none⟩) n k, .pointer (some ⟨b2, 0, none⟩), .pointer (some ⟨b1, 0, none⟩), goN 1] →
    J Tryz.prog (.loop (loopOf Tryz.prog 33 0)) a h (told 48 [0, 2, 4, 5] fun ex vs h => ex = .exit 0 ∧ vs = [liP n k, xR, xP, goN n] ∧ h.get (N1 + 1) = some (.cells (exF (((l.take n).map unitE).drop 1) 1 s).cells 54 0 false) ∧ h.get (N1 + 2) = some (.cells zero4 54 0 false)) := by
  intro a h g0 g1 g2 ha hk hv
  have hlen : (l.take n).length = n := by rw [List.length_take]; omega
  refine loop_rule (fun q vs h => ∃ (j : Nat) (s' : X4) (c0 c1 c2 : Nat), ((c0 = N1 ∧ c1 = N1 + 2 ∧ c2 = N1 + 1) ∨ (c0 = N1 ∧ c1 = N1 + 1 ∧ c2 = N1 + 2)) ∧ j ≤ n ∧ q = n - j ∧ vs = [.slice (some ⟨c0, 0, none⟩) n k, .pointer (some ⟨c2, 0, none⟩), .pointer (some ⟨c1, 0, none⟩), goN j] ∧
    h.get c0 = some (.cells (l.map gf) e row ro) ∧ h.get c1 = some (.cells s'.cells 54 0 false) ∧ h.get c2 = some (.cells zero4 54 0 false) ∧ exF (((l.take n).map unitE).drop 1) 1 s = exF (((l.take n).map unitE).drop j) j s') _ ?_ (n - 1) _ _ a ⟨1, s, b0, b1, b2, .inl hb, h0, rfl, rfl, g0, g1, g2, rfl⟩ ha hk hv
  rintro q vs h g ⟨j, s', c0, c1, c2, hc, hj, rfl, rfl, g0, g1, g2, hf⟩
  refine J.reheap (es := fun _ => 0) (vs₂ := [liP n k, xR, xP, goN j]) (B := [(l.map gf, e, row, ro), (s'.cells, 54, 0, false), (zero4, 54, 0, false)]) (ids := [c0, c1, c2]) globs_pos (by decide) (by decide) rfl (by rcases hc with ⟨rfl, rfl, rfl⟩ | ⟨rfl, rfl, rfl⟩ <;> simp) (by unfold N1 at hc; intro i hi; simp only [List.mem_cons, List.not_mem_nil, or_false] at hi; omega) ?_ (by rcases hc with ⟨rfl, rfl, rfl⟩ | ⟨rfl, rfl, rfl⟩ <;> kernel_rfl) ?_ fun g' => ?_
  · intro q b' i hb hi
    match q, hb, hi with
    | 0, hb, hi => cases hb; cases hi; exact ⟨g0, flat_floats l⟩
    | 1, hb, hi => cases hb; cases hi; exact ⟨g1, rfl⟩
    | 2, hb, hi => cases hb; cases hi; exact ⟨g2, rfl⟩
  · intro i hi
    simp only [List.mem_cons, List.not_mem_nil, or_false] at hi
    rcases hi with rfl | rfl | rfl
    · exact ⟨(0, .slice (some ⟨i, 0, none⟩) n k), by simp, by simp [named]⟩
    · exact ⟨(4, .pointer (some ⟨i, 0, none⟩)), by simp, by simp [named]⟩
    · exact ⟨(2, .pointer (some ⟨i, 0, none⟩)), by simp, by simp [named]⟩
  · refine execC_ok mixed orcTc_ok (askTc_ok true true) (noLoops _) (Eq.mpr (Ex_body (l.map gf) zero4 n k e row j ro s'.lo s'.hi s'.la s'.ha g' _) ⟨fun hlt => ?_, fun hge => ?_⟩)
    · have hj' := blt_true hlt
      have hjl : j < l.length := by omega
      obtain ⟨h1, h2⟩ := float_at hjl
      have hva : smpE l[j] = 0 := hval _ (List.mem_of_getElem? (i := j) (by rw [List.getElem?_take, if_pos hj', List.getElem?_eq_getElem hjl]))
      have hd := exF_drop (l := (l.take n).map unitE) (j := j) (s := s') (by rw [List.length_map]; omega)
      rw [List.getElem_map, List.getElem_take] at hd
      rw [h2, fwrap_nat (by omega)]
      have fin : ∀ (d : List Value), d = (exS j (unitE l[j]) s').cells → ∀ h' : AHeap, (h'.get N1 = some (.cells (l.map gf) e row ro) ∧ h'.get (N1 + 1) = some (.cells d 54 0 false) ∧ h'.get (N1 + 2) = some (.cells zero4 54 0 false)) →
          ∃ m', m' < n - j ∧ ∃ (j' : Nat) (s'' : X4) (c0 c1 c2 : Nat), ((c0 = N1 ∧ c1 = N1 + 2 ∧ c2 = N1 + 1) ∨ (c0 = N1 ∧ c1 = N1 + 1 ∧ c2 = N1 + 2)) ∧ j' ≤ n ∧ m' = n - j' ∧ [liP n k, xR, xP, goN (j + 1)] = [.slice (some ⟨c0, 0, none⟩) n k, .pointer (some ⟨c2, 0, none⟩), .pointer (some ⟨c1, 0, none⟩), goN j'] ∧
          h'.get c0 = some (.cells (l.map gf) e row ro) ∧ h'.get c1 = some (.cells s''.cells 54 0 false) ∧ h'.get c2 = some (.cells zero4 54 0 false) ∧ exF (((l.take n).map unitE).drop 1) 1 s = exF (((l.take n).map unitE).drop j') j' s'' := by
        rintro d rfl h' ⟨q0, q1, q2⟩
        exact ⟨n - (j + 1), by omega, j + 1, _, N1, N1 + 1, N1 + 2, .inr ⟨rfl, rfl, rfl⟩, by omega, rfl, rfl, q0, q1, q2, by rw [hf, hd]⟩
      have st : ∀ {h' : AHeap} {d' : List Value}, (h'.get N1 = some (.cells (l.map gf) e row ro) ∧ h'.get (N1 + 2) = some (.cells zero4 54 0 false)) → (h'.set (N1 + 1) (.cells d' 54 0 false)).get N1 = some (.cells (l.map gf) e row ro) ∧ (h'.set (N1 + 1) (.cells d' 54 0 false)).get (N1 + 2) = some (.cells zero4 54 0 false) := fun ⟨q0, q2⟩ => ⟨(x3_set q0 q2).1, (x3_set q0 q2).2.2⟩
      refine ⟨hlt, h2 ▸ h1, by rw [hva]; rfl, fun hl => ⟨fun hh => ?_, fun hh => ?_⟩, fun hl => ⟨fun hh => ?_, fun hh => ?_⟩⟩
      · refine fin _ ?_ _ (x3_set (st (st (st ⟨x3_0, x3_2⟩))).1 (st (st (st ⟨x3_0, x3_2⟩))).2)
        unfold exS X4.cells
        rw [hl, hh]; rfl
      · refine fin _ ?_ _ (x3_set (st ⟨x3_0, x3_2⟩).1 (st ⟨x3_0, x3_2⟩).2)
        unfold exS X4.cells
        rw [hl, hh]; rfl
      · refine fin _ ?_ _ (x3_set (st ⟨x3_0, x3_2⟩).1 (st ⟨x3_0, x3_2⟩).2)
        unfold exS X4.cells
        rw [hl, hh]; rfl
      · refine fin s'.cells ?_ _ ⟨x3_0, x3_1, x3_2⟩
        unfold exS X4.cells
        rw [hl, hh]; rfl
    · have hge := blt_false hge
      obtain rfl : j = n := by omega
      refine ⟨rfl, rfl, ?_, x3_2⟩
      rw [hf, exF_end (by rw [List.length_map]; omega)]
      exact x3_1
end Go.Proofs.YtnlkkapeldhemaaGreatDoor
