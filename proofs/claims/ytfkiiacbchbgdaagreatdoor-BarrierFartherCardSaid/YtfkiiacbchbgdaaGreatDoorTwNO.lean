/-
  OWN WORK. Lists that are the same, and the reference's Safe, as known calls.
-/
import Derived.Test.YtfkiiacbchbgdaaGreatDoorTwGJ
/-! (OWN WORK. Lists that are the same: the loops' bodies; the reference's Safe and Last.) -/
namespace Go.Proofs.YtfkiiacbchbgdaaGreatDoor
open Go Go.Am

noncomputable abbrev slQ (n k : Nat) : Value := .slice (some ⟨Tryz.prog.globals.size + 1, 0, none⟩) n k
noncomputable abbrev tw2 (c c' : List Value) (e row e' row' : Nat) : AHeap := canon Tryz.prog [(c, e, row), (c', e', row')]
theorem si_body (c c' : List Value) (e row e' row' n k k' j : Nat) (g : Nat → Value) (Q : Exit → List Value → AHeap → Prop) : execC Tryz.prog (exec Tryz.prog orcTi 10) (syOf [(14, 1), (19, 2), (20, 3), (23, 2), (24, 3), (25, 1)]) askTi (noLoops _) 40 (loopOf Tryz.prog 23 0) (stOf 26 [(0, liP n k), (1, slQ n k'), (5, goN j)] g) (tw2 c c' e row e' row') (told 26 [0, 1, 5] Q) = (((Nat.blt j n = true → (Nat.blt j n = true ∧ c[(0 + (j * 1))]? = Option.some (gi (intAt c (0 + (j * 1)))) ∧ Nat.blt j n = true ∧ c'[(0 + (j * 1))]? = Option.some (gi (intAt c' (0 + (j * 1)))) ∧ ((!(ieq (intAt c (0 + (j * 1))) (intAt c' (0 + (j * 1))))) = true → Q .ret [liP n k, slQ n k', goN j] (tw2 c c' e row e' row')) ∧ ((!(ieq (intAt c (0 + (j * 1))) (intAt c' (0 + (j * 1))))) = false → Q .normal [liP n k, slQ n k', gi (fwrap IntKind.i64 (Int.ofNat (j + 1)))] (tw2 c c' e row e' row')))) ∧ (Nat.blt j n = false → Q (.exit 0) [liP n k, slQ n k', goN j] (tw2 c c' e row e' row')))) := by kernel_rfl
theorem sv_body (c c' : List Value) (e row e' row' n k k' j : Nat) (g : Nat → Value) (Q : Exit → List Value → AHeap → Prop) : execC Tryz.prog (exec Tryz.prog orcTi 10) (syOf [(14, 1), (19, 2), (20, 46), (23, 2), (24, 46), (25, 47)]) askTi (noLoops _) 40 (loopOf Tryz.prog 24 0) (stOf 26 [(0, liP n k), (1, slQ n k'), (5, goN j)] g) (tw2 c c' e row e' row') (told 26 [0, 1, 5] Q) = (((Nat.blt j n = true → (Nat.blt j n = true ∧ c[(0 + (j * 2))]? = Option.some (gi (intAt c (0 + (j * 2)))) ∧ c[((0 + (j * 2)) + 1)]? = Option.some (gi (intAt c ((0 + (j * 2)) + 1))) ∧ Nat.blt j n = true ∧ c'[(0 + (j * 2))]? = Option.some (gi (intAt c' (0 + (j * 2)))) ∧ c'[((0 + (j * 2)) + 1)]? = Option.some (gi (intAt c' ((0 + (j * 2)) + 1))) ∧ Value.bool (!(ieq (intAt c (0 + (j * 2))) (intAt c' (0 + (j * 2))) && (ieq (intAt c ((0 + (j * 2)) + 1)) (intAt c' ((0 + (j * 2)) + 1)) && true))) = Value.bool false ∧ Q .normal [liP n k, slQ n k', gi (fwrap IntKind.i64 (Int.ofNat (j + 1)))] (tw2 c c' e row e' row'))) ∧ (Nat.blt j n = false → Q (.exit 0) [liP n k, slQ n k', goN j] (tw2 c c' e row e' row')))) := by kernel_rfl
noncomputable def pBa (l : List Int) (t : T5) (x f g : Int) : Int := bif ieq (bE l t x f g) 0 then bA (sqA l f x) x (f + g) else 0
noncomputable def pBz (l : List Int) (t : T5) (x f g : Int) : Int := bif ieq (bE l t x f g) 0 then bZ (sqA l f x) (f + g) else bE l t x f g
noncomputable def pSa (l : List Int) (t : T5) (x : Int) : Bool := bif ieq (sE l t x) 0 then sfB l t x else false
theorem pBV_eq (l : List Int) (t : T5) (x f g : Int) : Out.plain (.tuple #[gi (pBa l t x f g), gi (pBz l t x f g)]) = .plain (pBV l t x f g) := by
  unfold pBV pBa pBz
  cases ieq (bE l t x f g) 0 <;> rfl
theorem pSV_eq (l : List Int) (t : T5) (x : Int) : Out.plain (.tuple #[.bool (pSa l t x), gi (sE l t x)]) = .plain (pSV l t x) := by
  unfold pSV pSa
  cases h : ieq (sE l t x) 0 with
  | false => rfl
  | true =>
    rw [ieq_dec] at h
    rw [of_decide_eq_true h]; rfl
noncomputable abbrev pBO' (_ : Nat) (l : List Int) (t : T5) (r : List Value) : Out := .plain (.tuple #[gi (pBa l t (arg0 r) (arg1 r) (arg2 r)), gi (pBz l t (arg0 r) (arg1 r) (arg2 r))])
noncomputable abbrev pSO' (_ : Nat) (l : List Int) (t : T5) (r : List Value) : Out := .plain (.tuple #[.bool (pSa l t (arg0 r)), gi (sE l t (arg0 r))])
noncomputable def askUe (b b' : Bool) : Asks := asksV Tryz.prog.globals.size 7 (twY (fun l t r => oneR l t r ∧ ieq (rE l t (arg0 r)) 0 = b) (fun n l t r => bif b then pRw n l (arg0 r) else pRp l t (arg0 r))) (asksV Tryz.prog.globals.size 10 (twY threeR pBO') (asksV Tryz.prog.globals.size 11 (twY oneR pSO') (asksV Tryz.prog.globals.size 25 (twY (fun l t r => noR l t r ∧ ieq (ctE l.length l t) 0 = b') (fun n l t _ => bif b' then pTw n l t else pTp l t)) (asksV Tryz.prog.globals.size 18 (twY rBC rBO) (asksV Tryz.prog.globals.size 28 (twY rTC rTO) askUd)))))
theorem askUe_ok (b b' : Bool) : AsksOk orcUe (askUe b b') := by
  refine asksV_ok (twY_ok fun n l t r h => ⟨h.1, ?_⟩) (asksV_ok (twY_ok fun _ _ _ _ h => ⟨h, pBV_eq _ _ _ _ _⟩) (asksV_ok (twY_ok fun _ _ _ _ h => ⟨h, pSV_eq _ _ _⟩) (asksV_ok (twY_ok fun n l t r h => ⟨h.1, ?_⟩) (asksV_ok (twY_ok fun _ _ _ _ h => ⟨h, rfl⟩) (asksV_ok (twY_ok fun _ _ _ _ h => ⟨h, rfl⟩) askUd_ok)))))
  · unfold pRO; rw [h.2]
  · unfold pTO; rw [h.2]
theorem rS_run (l : List Int) (m e row k : Nat) (a b c d w x : Int) (K : Value → Prop) : callC Tryz.prog (exec Tryz.prog orcUe 10) (syOf [(16, 7), (21, 1)]) (askUe true true) (noLoops _) 20 19 #[towV (m + 1) k a b c d w, gi x] (canon Tryz.prog [(l.map gi, e, row)]) (fun v _ => K v) = (((List.all (List.map gi l) (flat 3) = true ∧ True) ∧ towOk (List.map gi l) (m + 1) ∧ rBC (decI (List.map gi l)) (Prod.mk a (Prod.mk b (Prod.mk c (Prod.mk d w)))) [gi x, gi a, gi c] ∧ (ieq (bZ (sqA (decI (List.map gi l)) (arg1 [gi x, gi a, gi c]) (arg0 [gi x, gi a, gi c])) (arg1 [gi x, gi a, gi c] + arg2 [gi x, gi a, gi c])) 0 = true → K (Value.bool (!(ilt w (bA (sqA (decI (List.map gi l)) (arg1 [gi x, gi a, gi c]) (arg0 [gi x, gi a, gi c])) (arg0 [gi x, gi a, gi c]) (arg1 [gi x, gi a, gi c] + arg2 [gi x, gi a, gi c])))))) ∧ (ieq (bZ (sqA (decI (List.map gi l)) (arg1 [gi x, gi a, gi c]) (arg0 [gi x, gi a, gi c])) (arg1 [gi x, gi a, gi c] + arg2 [gi x, gi a, gi c])) 0 = false → K (Value.bool false)))) := by kernel_rfl
end Go.Proofs.YtfkiiacbchbgdaaGreatDoor
/-! (OWN WORK. Lists that are the same, and the reference's Safe, as known calls.) -/
namespace Go.Proofs.YtfkiiacbchbgdaaGreatDoor
open Go Go.Am

set_option maxRecDepth 100000 in
theorem si_loop (l : List Int) (n e row e' row' k k' : Nat) (hn : n ≤ l.length) (h1 : n ≤ 65536) : ∀ a : AAct, a.n = 26 → a.marks = [] → [0, 1, 5].map a.tmp = [liP n k, slQ n k', goN 0] →
    J Tryz.prog (.loop (loopOf Tryz.prog 23 0)) a (tw2 (l.map gi) (l.map gi) e row e' row') (told 26 [0, 1, 5] fun ex _ h => ex = .exit 0 ∧ h = tw2 (l.map gi) (l.map gi) e row e' row') := by
  refine scan_rule _ (fun j => [liP n k, slQ n k', goN j]) (fun _ => True) n trivial _ ?_ ?_
  · intro j hj _ g
    obtain ⟨f1, _⟩ := first_at (l := l) (j := j) (by omega)
    refine execC_ok mixed orcTi_ok askTi_ok (noLoops _) (Eq.mpr (si_body _ _ e row e' row' n k k' j g _) ⟨fun hlt => ⟨hlt, f1, hlt, f1, fun hx => ?_, fun _ => ⟨trivial, by rw [fwrap_nat (by omega)], rfl⟩⟩, fun hge => absurd (blt_false hge) (by omega)⟩)
    rw [ieq_self] at hx; cases hx
  · intro _ g
    exact execC_ok mixed orcTi_ok askTi_ok (noLoops _) (Eq.mpr (si_body _ _ e row e' row' n k k' n g _) ⟨fun hlt => absurd (blt_true hlt) (by omega), fun _ => ⟨rfl, rfl⟩⟩)
set_option maxRecDepth 100000 in
theorem sv_loop (l : List P2) (n e row e' row' k k' : Nat) (hn : n ≤ l.length) (h1 : n ≤ 65536) : ∀ a : AAct, a.n = 26 → a.marks = [] → [0, 1, 5].map a.tmp = [liP n k, slQ n k', goN 0] →
    J Tryz.prog (.loop (loopOf Tryz.prog 24 0)) a (tw2 (cellsP l) (cellsP l) e row e' row') (told 26 [0, 1, 5] fun ex _ h => ex = .exit 0 ∧ h = tw2 (cellsP l) (cellsP l) e row e' row') := by
  refine scan_rule _ (fun j => [liP n k, slQ n k', goN j]) (fun _ => True) n trivial _ ?_ ?_
  · intro j hj _ g
    obtain ⟨⟨f1, f2⟩, _⟩ := cellsP_at (l := l) (j := j) (by omega)
    exact execC_ok mixed orcTi_ok askTi_ok (noLoops _) (Eq.mpr (sv_body _ _ e row e' row' n k k' j g _) ⟨fun hlt => ⟨hlt, f1, f2, hlt, f1, f2, by rw [ieq_self, ieq_self]; rfl, trivial, by rw [fwrap_nat (by omega)], rfl⟩, fun hge => absurd (blt_false hge) (by omega)⟩)
  · intro _ g
    exact execC_ok mixed orcTi_ok askTi_ok (noLoops _) (Eq.mpr (sv_body _ _ e row e' row' n k k' n g _) ⟨fun hlt => absurd (blt_true hlt) (by omega), fun _ => ⟨rfl, rfl⟩⟩)
noncomputable abbrev SameL (f : FuncId) (c : List Value) (n e row e' row' k k' : Nat) (C : Prop) (hC : C → ∀ a : AAct, a.n = 26 → a.marks = [] → [0, 1, 5].map a.tmp = [liP n k, slQ n k', goN 0] →
    J Tryz.prog (.loop (loopOf Tryz.prog f 0)) a (tw2 c c e row e' row') (told 26 [0, 1, 5] fun ex _ h => ex = .exit 0 ∧ h = tw2 c c e row e' row')) : Loops Tryz.prog where
  body := fun _ => loopOf Tryz.prog f 0
  spec := fun _ a h q => entry a 26 [(0, liP n k), (1, slQ n k'), (5, goN 0)] (h = tw2 c c e row e' row' ∧ C ∧ ∀ g, q (.exit 0) (stOf 26 [] g) (tw2 c c e row e' row'))
  ok := fun i a h q p => by
    obtain ⟨h1, h2, h3, rfl, hc, h4⟩ := entry_facts p
    refine J.of_told (hC hc a h1 h2 ?_) ?_
    · simp only [List.map_cons, List.map_nil]
      rw [h3 (0, liP n k) (by simp), h3 (1, slQ n k') (by simp), h3 (5, goN 0) (by simp)]
    · rintro ex vs h' g ⟨rfl, rfl⟩
      exact h4 (ov ([0, 1, 5].zip vs) g)
noncomputable def siL (l : List Int) (n e row e' row' k k' : Nat) := SameL 23 (l.map gi) n e row e' row' k k' (n ≤ l.length ∧ n ≤ 65536) fun h => si_loop l n e row e' row' k k' h.1 h.2
noncomputable def svL (l : List P2) (n e row e' row' k k' : Nat) := SameL 24 (cellsP l) n e row e' row' k k' (n ≤ l.length ∧ n ≤ 65536) fun h => sv_loop l n e row e' row' k k' h.1 h.2
theorem si_run (l : List Int) (m e row e' row' k k' : Nat) (K : Value → Prop) : callC Tryz.prog (exec Tryz.prog orcTi 10) (syOf [(10, 32)]) askTi (siL l (m + 1) e row e' row' k k') 40 23 #[liP (m + 1) k, slQ (m + 1) k'] (tw2 (l.map gi) (l.map gi) e row e' row') (fun v _ => K v) =
  ((!(ieq (Int.ofNat (m + 1)) (Int.ofNat (m + 1)))) = false ∧ loopOf Tryz.prog 23 0 = loopOf Tryz.prog 23 0 ∧ liP (m + 1) k = liP (m + 1) k ∧ slQ (m + 1) k' = slQ (m + 1) k' ∧ gi 0 = goN 0 ∧ tw2 (l.map gi) (l.map gi) e row e' row' = tw2 (l.map gi) (l.map gi) e row e' row' ∧ (m + 1 ≤ l.length ∧ m + 1 ≤ 65536) ∧ ∀ _ : Nat → Value, K (.bool true)) := by kernel_rfl
theorem sv_run (l : List P2) (m e row e' row' k k' : Nat) (K : Value → Prop) : callC Tryz.prog (exec Tryz.prog orcTi 10) (syOf [(10, 32)]) askTi (svL l (m + 1) e row e' row' k k') 40 24 #[liP (m + 1) k, slQ (m + 1) k'] (tw2 (cellsP l) (cellsP l) e row e' row') (fun v _ => K v) =
  ((!(ieq (Int.ofNat (m + 1)) (Int.ofNat (m + 1)))) = false ∧ loopOf Tryz.prog 24 0 = loopOf Tryz.prog 24 0 ∧ liP (m + 1) k = liP (m + 1) k ∧ slQ (m + 1) k' = slQ (m + 1) k' ∧ gi 0 = goN 0 ∧ tw2 (cellsP l) (cellsP l) e row e' row' = tw2 (cellsP l) (cellsP l) e row e' row' ∧ (m + 1 ≤ l.length ∧ m + 1 ≤ 65536) ∧ ∀ _ : Nat → Value, K (.bool true)) := by kernel_rfl
theorem si_nil : (call Tryz.prog orcTi 40 23 #[nilS, nilS] (canon Tryz.prog [])).map (·.1) = some (.bool true) := by kernel_rfl
theorem sv_nil : (call Tryz.prog orcTi 40 24 #[nilS, nilS] (canon Tryz.prog [])).map (·.1) = some (.bool true) := by kernel_rfl
def siC (vs : List Value) (B : List Cells) : Prop := (vs = [nilS, nilS] ∧ B = []) ∨ ∃ (l : List Int) (m k e row k' e' row' : Nat), vs = [liP (m + 1) k, slQ (m + 1) k'] ∧ B = [(l.map gi, e, row), (l.map gi, e', row')] ∧ m + 1 ≤ l.length ∧ m + 1 ≤ 65536
def svC (vs : List Value) (B : List Cells) : Prop := (vs = [nilS, nilS] ∧ B = []) ∨ ∃ (l : List P2) (m k e row k' e' row' : Nat), vs = [liP (m + 1) k, slQ (m + 1) k'] ∧ B = [(cellsP l, e, row), (cellsP l, e', row')] ∧ m + 1 ≤ l.length ∧ m + 1 ≤ 65536
open Classical in
noncomputable def cnX (C : List Value → List Cells → Prop) (vs : List Value) (B : List Cells) : Option Out := if C vs B then some (.plain (.bool true)) else none
noncomputable def cnY (C : List Value → List Cells → Prop) (vs : List Value) (B : List Cells) (K : Out → Prop) : Prop := C vs B ∧ K (.plain (.bool true))
theorem cnY_ok {C : List Value → List Cells → Prop} (vs : List Value) (B : List Cells) (K : Out → Prop) (h : cnY C vs B K) : ∃ o, cnX C vs B = some o ∧ K o := ⟨_, if_pos h.1, h.2⟩
theorem cnX_some {C : List Value → List Cells → Prop} {vs : List Value} {B : List Cells} {o : Out} (h : cnX C vs B = some o) : C vs B ∧ o = .plain (.bool true) := by
  unfold cnX at h
  split at h
  · rename_i hc; cases h; exact ⟨hc, rfl⟩
  · cases h
/-! Safe, of the reference. -/
theorem floor_ok {a b : Int} (hb : 0 < b) : floorE a b * b ≤ a ∧ a < (floorE a b + 1) * b := by
  have h1 := Int.tmod_def a b
  have h2 := Int.tmod_lt_of_pos a hb
  have h3 : -b < a.tmod b := by
    have := Int.natAbs_tmod a b
    have h4 : a.natAbs % b.natAbs < b.natAbs := Nat.mod_lt _ (by omega)
    omega
  rw [Int.mul_comm] at h1
  unfold floorE
  rw [ilt_say]
  by_cases hz : a.tmod b < 0
  · rw [decide_eq_true hz]
    simp only [cond_true, Int.add_mul, Int.sub_mul, Int.one_mul]
    omega
  · rw [decide_eq_false hz]
    simp only [cond_false, Int.add_mul, Int.one_mul]
    omega
theorem ceil_iff {a b k : Int} (hb : 0 < b) : ceilE a b ≤ k ↔ a ≤ k * b := by
  obtain ⟨h1, h2⟩ := floor_ok (a := 0 - a) hb
  unfold ceilE
  generalize floorE (0 - a) b = q at *
  constructor
  · intro h
    have : (0 - q) * b ≤ k * b := Int.mul_le_mul_of_nonneg_right h (by omega)
    rw [Int.sub_mul, Int.zero_mul] at this
    omega
  · intro h
    apply Int.not_lt.1
    intro hlt
    have h3 : (q + 1) ≤ 0 - k := by omega
    have : (q + 1) * b ≤ (0 - k) * b := Int.mul_le_mul_of_nonneg_right h3 (by omega)
    rw [Int.sub_mul, Int.zero_mul] at this
    omega
theorem safe_same {sq x w s : Int} (hs : 0 ≤ s) (hq : 0 ≤ sq) (hx : x ≤ w) : (bif ieq (bZ sq s) 0 then !(ilt w (bA sq x s)) else false) = !(ilt ((w - x) * s) sq) := by
  unfold bZ bA
  by_cases h0 : sq = 0
  · subst h0
    have hm : 0 ≤ (w - x) * s := Int.mul_nonneg (by omega) hs
    rw [ieq_self, ilt_say, ilt_say, decide_eq_false (p := (w - x) * s < 0) (by omega)]
    show (!(decide (w < x))) = _
    rw [decide_eq_false (by omega)]
  · rw [ieq_ne h0]
    by_cases h1 : s = 0
    · subst h1
      rw [ieq_self, Int.mul_zero, ilt_say 0 sq, decide_eq_true (p := 0 < sq) (by omega)]; rfl
    · rw [ieq_ne h1, ilt_say, ilt_say]
      show (!(decide (w < x + ceilE sq s))) = _
      have := ceil_iff (a := sq) (b := s) (k := w - x) (by omega)
      congr 1
      rw [decide_eq_decide]
      omega
def rSC (l : List Int) (t : T5) (r : List Value) : Prop := ctE l.length l t = 0 ∧ oneR l t r ∧ 0 ≤ arg0 r ∧ arg0 r ≤ t.2.2.2.2
noncomputable abbrev rSO (_ : Nat) (l : List Int) (t : T5) (r : List Value) : Out := .plain (.bool (sfB l t (arg0 r)))
noncomputable def orcUf : Orc := orElse 19 (twO rSC rSO) (orElse 23 (anyO Tryz.prog.globals.size (cnX siC)) (orElse 24 (anyO Tryz.prog.globals.size (cnX svC)) orcUe))
set_option maxRecDepth 100000 in
theorem orcUf_ok : OrcOk Tryz.prog orcUf := by
  refine twO_ok (anyO_ok globs_pos (anyO_ok globs_pos orcUe_ok fun vs B o h _ => ?_) fun vs B o h _ => ?_) (fun _ _ _ _ _ => rfl) ?_
  · obtain ⟨⟨rfl, rfl⟩ | ⟨l, m, k, e, row, k', e', row', rfl, rfl, h1, h2⟩, rfl⟩ := cnX_some h
    · exact ⟨rfl, CallJ.of_call mixed orcTi_ok sv_nil fun _ => rfl⟩
    · exact ⟨rfl, callC_ok mixed orcTi_ok askTi_ok (Eq.mpr (sv_run l m e row e' row' k k' _) ⟨by rw [ieq_self]; rfl, rfl, rfl, rfl, rfl, rfl, ⟨h1, h2⟩, fun _ => rfl⟩)⟩
  · obtain ⟨⟨rfl, rfl⟩ | ⟨l, m, k, e, row, k', e', row', rfl, rfl, h1, h2⟩, rfl⟩ := cnX_some h
    · exact ⟨rfl, CallJ.of_call mixed orcTi_ok si_nil fun _ => rfl⟩
    · exact ⟨rfl, callC_ok mixed orcTi_ok askTi_ok (Eq.mpr (si_run l m e row e' row' k k' _) ⟨by rw [ieq_self]; rfl, rfl, rfl, rfl, rfl, rfl, ⟨h1, h2⟩, fun _ => rfl⟩)⟩
  · rintro l m k e row a b c d w r hl h1 ⟨hc, hr, x0, x1⟩
    have hr : r = [gi (arg0 r)] := hr
    rw [hr]
    show CallJ _ _ _ _ (fun v _ => v = .bool (sfB l (a, b, c, d, w) (arg0 r)))
    generalize arg0 r = x at *
    have hf := flat_ints l
    have ht := towOk_of hl (Nat.succ_pos m) h1
    have x1 : x ≤ w := x1
    obtain ⟨k1, k2, k3, k4, k5, k6⟩ := ctE_zero hc
    have hb : rBC l (a, b, c, d, w) [gi x, gi a, gi c] := ⟨hc, rfl, ⟨x0, x1⟩, ⟨k3.1, by show a ≤ 100000; omega⟩, k4.1, by show c ≤ 100000; omega⟩
    obtain ⟨s1, s2⟩ := sq_le (f := a) (x := x) hc rfl k3.1 x0 (by omega)
    have q := safe_same (x := x) (w := w) (s := a + c) (by omega) s1 x1
    rw [show (w - x) * (a + c) = (w - x) * (c + a) by rw [Int.add_comm a c]] at q
    have q : _ = sfB l (a, b, c, d, w) x := q
    refine callC_ok mixed orcUe_ok (askUe_ok true true) (Eq.mpr (rS_run l m e row k a b c d w x _) ?_)
    rw [decI_map]
    refine ⟨⟨hf, trivial⟩, ht, hb, fun z => ?_, fun z => ?_⟩
    · have z : ieq (bZ (sqA l a x) (a + c)) 0 = true := z
      rw [z] at q; exact congrArg Value.bool q
    · have z : ieq (bZ (sqA l a x) (a + c)) 0 = false := z
      rw [z] at q; exact congrArg Value.bool q
noncomputable def askUf (b b' : Bool) : Asks := asksV Tryz.prog.globals.size 19 (twY rSC rSO) (asksV Tryz.prog.globals.size 23 (cnY siC) (asksV Tryz.prog.globals.size 24 (cnY svC) (askUe b b')))
theorem askUf_ok (b b' : Bool) : AsksOk orcUf (askUf b b') := asksV_ok (twY_ok fun _ _ _ _ h => ⟨h, rfl⟩) (asksV_ok cnY_ok (asksV_ok cnY_ok (askUe_ok b b')))
theorem rl_body (es : TypeId) (c : List Value) (e row m k : Nat) (a b c' d w L : Int) (j : Nat) (g : Nat → Value) (Q : Exit → List Value → AHeap → Prop) : execC Tryz.prog (exec Tryz.prog orcUf 10) (syOf [(8, 1), (13, 7), (14, 1)]) (askUf true true) (noLoops _) 40 (loopOf Tryz.prog 21 0) (stOf 18 [(1, ptN 1), (2, gi 0), (3, gi L), (4, goN j)] g) ((canon Tryz.prog [(c, e, row)]).push (.cells [liP (m + 1) k, gi a, gi b, gi c', gi d, gi w] es 0 false)) (told 18 [1, 2, 3, 4] Q) = ((((!(ilt w (Int.ofNat j))) = true → ((List.all c (flat 3) = true ∧ True) ∧ towOk c (m + 1) ∧ rSC (decI c) (Prod.mk a (Prod.mk b (Prod.mk c' (Prod.mk d w)))) [goN j] ∧ ((!(sfB (decI c) (Prod.mk a (Prod.mk b (Prod.mk c' (Prod.mk d w)))) (arg0 [goN j]))) = true → Q .ret [ptN 1, gi L, gi L, goN j] ((canon Tryz.prog [Prod.mk c (Prod.mk e row)]).push (.cells [liP (m + 1) k, gi a, gi b, gi c', gi d, gi w] es 0 false))) ∧ ((!(sfB (decI c) (Prod.mk a (Prod.mk b (Prod.mk c' (Prod.mk d w)))) (arg0 [goN j]))) = false → Q .normal [ptN 1, gi 0, goN j, gi (fwrap IntKind.i64 (Int.ofNat (j + 1)))] ((canon Tryz.prog [Prod.mk c (Prod.mk e row)]).push (.cells [liP (m + 1) k, gi a, gi b, gi c', gi d, gi w] es 0 false))))) ∧ ((!(ilt w (Int.ofNat j))) = false → Q (.exit 0) [ptN 1, gi 0, gi L, goN j] ((canon Tryz.prog [Prod.mk c (Prod.mk e row)]).push (.cells [liP (m + 1) k, gi a, gi b, gi c', gi d, gi w] es 0 false))))) := by kernel_rfl
end Go.Proofs.YtfkiiacbchbgdaaGreatDoor
