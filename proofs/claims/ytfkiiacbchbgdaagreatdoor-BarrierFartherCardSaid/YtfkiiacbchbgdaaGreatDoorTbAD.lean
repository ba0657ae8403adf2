/-
  OWN WORK. Tables of tows: loops, which cells a table proves, errors.
-/
import Derived.Test.YtfkiiacbchbgdaaGreatDoorTwNO
/-! (OWN WORK. Tables of tows: the loops' bodies.) -/
namespace Go.Proofs.YtfkiiacbchbgdaaGreatDoor
open Go Go.Am

noncomputable abbrev tbH (c c' : List Value) (e row e' row' es n k : Nat) (a b c0 d w : Int) : AHeap := (canon Tryz.prog [(c, e, row), (c', e', row')]).push (.cells [liP n k, gi a, gi b, gi c0, gi d, gi w] es 0 false)
theorem bn_run (l : List Int) (m e row k : Nat) (a b c d w x : Int) (K : Value → Prop) : callC Tryz.prog (exec Tryz.prog orcUe 10) (syOf [(8, 33), (15, 33), (16, 33)]) (askUe true true) (noLoops _) 20 57 #[towV (m + 1) k a b c d w, gi x] (canon Tryz.prog [(l.map gi, e, row)]) (fun v _ => K v) = (inI64 (w - x) = true ∧ inI64 (c + a) = true ∧ inI64 ((w - x) * (c + a)) = true ∧ K (gi ((w - x) * (c + a)))) := by kernel_rfl
def bnC (l : List Int) (t : T5) (r : List Value) : Prop := ctE l.length l t = 0 ∧ oneR l t r ∧ 0 ≤ arg0 r ∧ arg0 r ≤ t.2.2.2.2
noncomputable abbrev bnO (_ : Nat) (_ : List Int) (t : T5) (r : List Value) : Out := .plain (gi ((t.2.2.2.2 - arg0 r) * (t.2.2.1 + t.1)))
noncomputable def orcTa1 : Orc := orElse 57 (twO bnC bnO) orcUe
theorem bn_le {l : List Int} {a b c d w x : Int} (hc : ctE l.length l (a, b, c, d, w) = 0) (x0 : 0 ≤ x) (x1 : x ≤ w) : inI64 (w - x) = true ∧ inI64 (c + a) = true ∧ inI64 ((w - x) * (c + a)) = true := by
  obtain ⟨k1, k2, k3, k4, k5, k6⟩ := ctE_zero hc
  have m1 : (w - x) * (c + a) ≤ 64 * 200000 := Int.mul_le_mul (by omega) (by omega) (by omega) (by omega)
  have m0 : 0 ≤ (w - x) * (c + a) := Int.mul_nonneg (by omega) (by omega)
  exact ⟨inI64_small (by omega) (by omega), inI64_small (by omega) (by omega), inI64_small (by omega) (by omega)⟩
set_option maxRecDepth 100000 in
theorem orcTa1_ok : OrcOk Tryz.prog orcTa1 := by
  refine twO_ok orcUe_ok (fun _ _ _ _ _ => rfl) ?_
  rintro l m k e row a b c d w r hl h1 ⟨hc, hr, x0, x1⟩
  have hr : r = [gi (arg0 r)] := hr
  rw [hr]
  obtain ⟨i1, i2, i3⟩ := bn_le hc x0 x1
  exact callC_ok mixed orcUe_ok (askUe_ok true true) (Eq.mpr (bn_run l m e row k a b c d w (arg0 r) _) ⟨i1, i2, i3, rfl⟩)
noncomputable def askTa1 : Asks := asksV Tryz.prog.globals.size 57 (twY bnC bnO) (askUe true true)
theorem askTa1_ok : AsksOk orcTa1 askTa1 := asksV_ok (twY_ok fun _ _ _ _ h => ⟨h, rfl⟩) (askUe_ok true true)
theorem pa_body (c c' : List Value) (e row e' row' es m k m' k' j : Nat) (a b c0 d w x : Int) (g : Nat → Value) (Q : Exit → List Value → AHeap → Prop) : execC Tryz.prog (exec Tryz.prog orcTa1 10) (syOf [(12, 1), (16, 33), (17, 2), (18, 3), (21, 2), (22, 3), (26, 2), (27, 3), (28, 33), (32, 33), (33, 1)]) askTa1 (noLoops _) 40 (loopOf Tryz.prog 69 0) (stOf 49 [(1, slQ m' k'), (2, gi x), (3, ptN 2), (6, .bool false), (10, gi w), (11, goN j)] g) (tbH c c' e row e' row' es (m + 1) k a b c0 d w) (told 49 [1, 2, 3, 6, 10, 11] Q) = (((ilt (Int.ofNat j) w = true → (inI64 (Int.ofNat (j + 1)) = true ∧ Nat.blt (j + 1) m' = true ∧ c'[(0 + ((j + 1) * 1))]? = Option.some (gi (intAt c' (0 + ((j + 1) * 1)))) ∧ Nat.blt j m' = true ∧ c'[(0 + (j * 1))]? = Option.some (gi (intAt c' (0 + (j * 1)))) ∧ Nat.blt j (m + 1) = true ∧ c[(0 + (j * 1))]? = Option.some (gi (intAt c (0 + (j * 1)))) ∧ inI64 (intAt c' (0 + (j * 1)) + intAt c (0 + (j * 1))) = true ∧ inI64 ((intAt c' (0 + (j * 1)) + intAt c (0 + (j * 1))) - a) = true ∧ (ilt (intAt c' (0 + ((j + 1) * 1))) ((intAt c' (0 + (j * 1)) + intAt c (0 + (j * 1))) - a) = true → Q .ret [slQ m' k', gi x, ptN 2, Value.bool false, gi w, goN j] (tbH c c' e row e' row' es (m + 1) k a b c0 d w)) ∧ (ilt (intAt c' (0 + ((j + 1) * 1))) ((intAt c' (0 + (j * 1)) + intAt c (0 + (j * 1))) - a) = false → Q .normal [slQ m' k', gi x, ptN 2, Value.bool false, gi w, gi (fwrap IntKind.i64 (Int.ofNat (j + 1)))] (tbH c c' e row e' row' es (m + 1) k a b c0 d w)))) ∧ (ilt (Int.ofNat j) w = false → Q (.exit 0) [slQ m' k', gi x, ptN 2, Value.bool false, gi w, goN j] (tbH c c' e row e' row' es (m + 1) k a b c0 d w)))) := by kernel_rfl
theorem pb_body (c c' : List Value) (e row e' row' es m k m' k' j : Nat) (a b c0 d w y : Int) (g : Nat → Value) (Q : Exit → List Value → AHeap → Prop) : execC Tryz.prog (exec Tryz.prog orcTa1 10) (syOf [(38, 1), (42, 2), (43, 3), (46, 7), (47, 1)]) askTa1 (noLoops _) 40 (loopOf Tryz.prog 69 2) (stOf 49 [(1, slQ m' k'), (3, ptN 2), (6, .bool false), (36, gi y), (37, goN j)] g) (tbH c c' e row e' row' es (m + 1) k a b c0 d w) (told 49 [1, 3, 6, 36, 37] Q) = (((ilt (Int.ofNat j) y = true → (Nat.blt j m' = true ∧ c'[(0 + (j * 1))]? = Option.some (gi (intAt c' (0 + (j * 1)))) ∧ (List.all c (flat 3) = true ∧ True) ∧ towOk c (m + 1) ∧ bnC (decI c) (Prod.mk a (Prod.mk b (Prod.mk c0 (Prod.mk d w)))) [goN j] ∧ c'[(0 + (j * 1))]? = Option.some (gi (intAt c' (0 + (j * 1)))) ∧ (ilt ((w - arg0 [goN j]) * (c0 + a)) (intAt c' (0 + (j * 1))) = true → Q .ret [slQ m' k', ptN 2, Value.bool false, gi y, goN j] (tbH c c' e row e' row' es (m + 1) k a b c0 d w)) ∧ (ilt ((w - arg0 [goN j]) * (c0 + a)) (intAt c' (0 + (j * 1))) = false → Q .normal [slQ m' k', ptN 2, Value.bool false, gi y, gi (fwrap IntKind.i64 (Int.ofNat (j + 1)))] (tbH c c' e row e' row' es (m + 1) k a b c0 d w)))) ∧ (ilt (Int.ofNat j) y = false → Q (.exit 2) [slQ m' k', ptN 2, Value.bool false, gi y, goN j] (tbH c c' e row e' row' es (m + 1) k a b c0 d w)))) := by kernel_rfl
theorem qa_body (c c' : List Value) (e row e' row' es m k m' k' j : Nat) (a b c0 d w x : Int) (g : Nat → Value) (Q : Exit → List Value → AHeap → Prop) : execC Tryz.prog (exec Tryz.prog orcTa1 10) (syOf [(12, 1), (17, 2), (18, 3), (21, 33), (22, 2), (23, 3), (27, 33), (28, 2), (29, 3), (30, 33), (34, 33), (35, 1)]) askTa1 (noLoops _) 40 (loopOf Tryz.prog 31 0) (stOf 58 [(1, slQ m' k'), (2, gi x), (3, ptN 2), (6, .bool false), (7, goN j)] g) (tbH c c' e row e' row' es (m + 1) k a b c0 d w) (told 58 [1, 2, 3, 6, 7] Q) = (((Nat.blt j m' = true → (Nat.blt j m' = true ∧ c'[(0 + (j * 1))]? = Option.some (gi (intAt c' (0 + (j * 1)))) ∧ inI64 (Int.ofNat j - 1) = true ∧ ahasIndex (Int.ofNat j - 1) m' = true ∧ c'[(0 + (Int.toNat (Int.ofNat j - 1) * 1))]? = Option.some (gi (intAt c' (0 + (Int.toNat (Int.ofNat j - 1) * 1)))) ∧ inI64 (Int.ofNat j - 1) = true ∧ ahasIndex (Int.ofNat j - 1) (m + 1) = true ∧ c[(0 + (Int.toNat (Int.ofNat j - 1) * 1))]? = Option.some (gi (intAt c (0 + (Int.toNat (Int.ofNat j - 1) * 1)))) ∧ inI64 (intAt c' (0 + (Int.toNat (Int.ofNat j - 1) * 1)) + intAt c (0 + (Int.toNat (Int.ofNat j - 1) * 1))) = true ∧ inI64 ((intAt c' (0 + (Int.toNat (Int.ofNat j - 1) * 1)) + intAt c (0 + (Int.toNat (Int.ofNat j - 1) * 1))) - a) = true ∧ (ilt (intAt c' (0 + (j * 1))) ((intAt c' (0 + (Int.toNat (Int.ofNat j - 1) * 1)) + intAt c (0 + (Int.toNat (Int.ofNat j - 1) * 1))) - a) = true → Q .ret [slQ m' k', gi x, ptN 2, Value.bool false, goN j] (tbH c c' e row e' row' es (m + 1) k a b c0 d w)) ∧ (ilt (intAt c' (0 + (j * 1))) ((intAt c' (0 + (Int.toNat (Int.ofNat j - 1) * 1)) + intAt c (0 + (Int.toNat (Int.ofNat j - 1) * 1))) - a) = false → Q .normal [slQ m' k', gi x, ptN 2, Value.bool false, gi (fwrap IntKind.i64 (Int.ofNat (j + 1)))] (tbH c c' e row e' row' es (m + 1) k a b c0 d w)))) ∧ (Nat.blt j m' = false → Q (.exit 0) [slQ m' k', gi x, ptN 2, Value.bool false, goN j] (tbH c c' e row e' row' es (m + 1) k a b c0 d w)))) := by kernel_rfl
theorem qb_body (c c' : List Value) (e row e' row' es m k m' k' j : Nat) (a b c0 d w x : Int) (g : Nat → Value) (Q : Exit → List Value → AHeap → Prop) : execC Tryz.prog (exec Tryz.prog orcTa1 10) (syOf [(38, 1), (43, 2), (44, 3), (48, 33), (55, 33), (56, 33), (57, 1)]) askTa1 (noLoops _) 40 (loopOf Tryz.prog 31 2) (stOf 58 [(1, slQ m' k'), (2, gi x), (3, ptN 2), (6, .bool false), (8, goN j)] g) (tbH c c' e row e' row' es (m + 1) k a b c0 d w) (told 58 [1, 2, 3, 6, 8] Q) = ((((!(ilt x (Int.ofNat j))) = true → (Nat.blt j m' = true ∧ c'[(0 + (j * 1))]? = Option.some (gi (intAt c' (0 + (j * 1)))) ∧ inI64 (w - Int.ofNat j) = true ∧ inI64 (c0 + a) = true ∧ inI64 ((w - Int.ofNat j) * (c0 + a)) = true ∧ (ilt ((w - Int.ofNat j) * (c0 + a)) (intAt c' (0 + (j * 1))) = true → Q .ret [slQ m' k', gi x, ptN 2, Value.bool false, goN j] (tbH c c' e row e' row' es (m + 1) k a b c0 d w)) ∧ (ilt ((w - Int.ofNat j) * (c0 + a)) (intAt c' (0 + (j * 1))) = false → Q .normal [slQ m' k', gi x, ptN 2, Value.bool false, gi (fwrap IntKind.i64 (Int.ofNat (j + 1)))] (tbH c c' e row e' row' es (m + 1) k a b c0 d w)))) ∧ ((!(ilt x (Int.ofNat j))) = false → Q (.exit 2) [slQ m' k', gi x, ptN 2, Value.bool false, goN j] (tbH c c' e row e' row' es (m + 1) k a b c0 d w)))) := by kernel_rfl
end Go.Proofs.YtfkiiacbchbgdaaGreatDoor
/-! (OWN WORK. Tables of tows: the loops.) -/
namespace Go.Proofs.YtfkiiacbchbgdaaGreatDoor
open Go Go.Am

noncomputable def nA (L : List Int) (j : Nat) : Int := intAt (L.map gi) (0 + j * 1)
theorem nA_at {L : List Int} {j : Nat} (hj : j < L.length) : (L.map gi)[0 + j * 1]? = some (gi (nA L j)) ∧ nA L j ∈ L := by
  obtain ⟨h1, h2⟩ := first_at hj
  refine ⟨h1, ?_⟩
  unfold nA
  rw [h2]; exact List.getElem_mem _
noncomputable def allB (f : Nat → Bool) : Nat → Nat → Bool
  | 0, _ => true
  | k + 1, i => f i && allB f k (i + 1)
theorem allB_t {f : Nat → Bool} {k i : Nat} (h : f i = true) : allB f (k + 1) i = allB f k (i + 1) := by
  show (f i && allB f k (i + 1)) = _
  rw [h]; rfl
theorem allB_f {f : Nat → Bool} {k i : Nat} (h : f i = false) : allB f (k + 1) i = false := by
  show (f i && allB f k (i + 1)) = _
  rw [h]; rfl
noncomputable def stB (l tab : List Int) (a : Int) (j : Nat) : Bool := !(ilt (nA tab (j + 1)) ((nA tab j + nA l j) - a))
noncomputable def bdB (tab : List Int) (w s : Int) (j : Nat) : Bool := !(ilt ((w - Int.ofNat j) * s) (nA tab j))
def tabC (l tab : List Int) (t : T5) : Prop := ctE l.length l t = 0 ∧ (∀ y ∈ tab, 0 ≤ y ∧ y ≤ 100000000) ∧ (tab.length : Int) = t.2.2.2.2 + 1
noncomputable abbrev tabH (l tab : List Int) (e row e' row' es m k : Nat) (a b c d w : Int) : AHeap := tbH (l.map gi) (tab.map gi) e row e' row' es (m + 1) k a b c d w
section
variable {l tab : List Int} {e row e' row' es m k k' : Nat} {a b c d w x : Int}
set_option maxRecDepth 100000 in
theorem pa_loop (hl : l.length = m + 1) (h1 : m + 1 ≤ 65536) (ht : tabC l tab (a, b, c, d, w)) : ∀ ac : AAct, ac.n = 49 → ac.marks = [] → [1, 2, 3, 6, 10, 11].map ac.tmp = [slQ tab.length k', gi x, ptN 2, .bool false, gi w, goN 0] →
    J Tryz.prog (.loop (loopOf Tryz.prog 69 0)) ac (tabH l tab e row e' row' es m k a b c d w) (told 49 [1, 2, 3, 6, 10, 11] fun ex vs h => h = tabH l tab e row e' row' es m k a b c d w ∧ ((ex = .exit 0 ∧ allB (stB l tab a) (Int.toNat w) 0 = true ∧ ∃ y, vs = [slQ tab.length k', gi x, ptN 2, .bool false, gi w, y]) ∨ (ex = .ret ∧ allB (stB l tab a) (Int.toNat w) 0 = false ∧ ∃ y z, vs = [slQ tab.length k', gi x, ptN 2, .bool false, y, z]))) := by
  obtain ⟨hc, hy, hw⟩ := ht
  obtain ⟨k1, k2, k3, k4, k5, k6⟩ := ctE_zero hc
  have hw : (tab.length : Int) = w + 1 := hw
  refine scan_rule _ (fun j => [slQ tab.length k', gi x, ptN 2, .bool false, gi w, goN j]) (fun j => allB (stB l tab a) (Int.toNat w) 0 = allB (stB l tab a) (Int.toNat w - j) j) (Int.toNat w) rfl _ ?_ ?_
  · intro j hj hI g
    obtain ⟨f0, m0⟩ := nA_at (L := tab) (j := j) (by omega)
    obtain ⟨f1, m1⟩ := nA_at (L := tab) (j := j + 1) (by omega)
    obtain ⟨f2, m2⟩ := nA_at (L := l) (j := j) (by omega)
    have b0 := hy _ m0
    have b1 := hy _ m1
    have b2 := k2 _ m2
    have hk : Int.toNat w - j = (Int.toNat w - (j + 1)) + 1 := by omega
    rw [hk] at hI
    refine execC_ok mixed orcTa1_ok askTa1_ok (noLoops _) (Eq.mpr (pa_body _ _ e row e' row' es m k _ k' j a b c d w x g _) ⟨fun _ => ⟨inI64_nat (by omega), by rw [Nat.blt_eq]; omega, f1, by rw [Nat.blt_eq]; omega, f0, by rw [Nat.blt_eq]; omega, f2, inI64_small (by show _ ≤ nA tab j + nA l j; omega) (by show nA tab j + nA l j ≤ _; omega), inI64_small (by show _ ≤ (nA tab j + nA l j) - a; omega) (by show (nA tab j + nA l j) - a ≤ _; omega), fun z => ?_, fun z => ?_⟩, fun z => ?_⟩)
    · rw [allB_f (f := stB l tab a) (i := j) (by show (!(ilt (nA tab (j + 1)) ((nA tab j + nA l j) - a))) = false; rw [show ilt (nA tab (j + 1)) ((nA tab j + nA l j) - a) = true from z]; rfl)] at hI
      exact ⟨rfl, .inr ⟨rfl, hI, _, _, rfl⟩⟩
    · rw [allB_t (f := stB l tab a) (i := j) (by show (!(ilt (nA tab (j + 1)) ((nA tab j + nA l j) - a))) = true; rw [show ilt (nA tab (j + 1)) ((nA tab j + nA l j) - a) = false from z]; rfl)] at hI
      exact ⟨hI, by rw [fwrap_nat (by omega)]; try rfl, rfl⟩
    · rw [ilt_say] at z
      have z := of_decide_eq_false z
      simp only [Int.ofNat_eq_natCast] at z
      omega
  · intro hI g
    rw [Nat.sub_self] at hI
    refine execC_ok mixed orcTa1_ok askTa1_ok (noLoops _) (Eq.mpr (pa_body _ _ e row e' row' es m k _ k' _ a b c d w x g _) ⟨fun z => ?_, fun _ => ⟨rfl, .inl ⟨rfl, hI, _, rfl⟩⟩⟩)
    rw [ilt_say] at z
    have z := of_decide_eq_true z
    simp only [Int.ofNat_eq_natCast] at z
    omega
set_option maxRecDepth 100000 in
theorem qa_loop (hl : l.length = m + 1) (h1 : m + 1 ≤ 65536) (ht : tabC l tab (a, b, c, d, w)) : ∀ ac : AAct, ac.n = 58 → ac.marks = [] → [1, 2, 3, 6, 7].map ac.tmp = [slQ tab.length k', gi x, ptN 2, .bool false, goN 1] →
    J Tryz.prog (.loop (loopOf Tryz.prog 31 0)) ac (tabH l tab e row e' row' es m k a b c d w) (told 58 [1, 2, 3, 6, 7] fun ex vs h => h = tabH l tab e row e' row' es m k a b c d w ∧ ((ex = .exit 0 ∧ allB (stB l tab a) (Int.toNat w) 0 = true ∧ ∃ y, vs = [slQ tab.length k', gi x, ptN 2, .bool false, y]) ∨ (ex = .ret ∧ allB (stB l tab a) (Int.toNat w) 0 = false ∧ ∃ y, vs = [slQ tab.length k', gi x, ptN 2, .bool false, y]))) := by
  obtain ⟨hc, hy, hw⟩ := ht
  obtain ⟨k1, k2, k3, k4, k5, k6⟩ := ctE_zero hc
  have hw : (tab.length : Int) = w + 1 := hw
  refine scan_rule _ (fun j => [slQ tab.length k', gi x, ptN 2, .bool false, goN (j + 1)]) (fun j => allB (stB l tab a) (Int.toNat w) 0 = allB (stB l tab a) (Int.toNat w - j) j) (Int.toNat w) rfl _ ?_ ?_
  · intro j hj hI g
    obtain ⟨f0, m0⟩ := nA_at (L := tab) (j := j) (by omega)
    obtain ⟨f1, m1⟩ := nA_at (L := tab) (j := j + 1) (by omega)
    obtain ⟨f2, m2⟩ := nA_at (L := l) (j := j) (by omega)
    have b0 := hy _ m0
    have b1 := hy _ m1
    have b2 := k2 _ m2
    have hk : Int.toNat w - j = (Int.toNat w - (j + 1)) + 1 := by omega
    rw [hk] at hI
    have hp : Int.ofNat (j + 1) - 1 = Int.ofNat j := by simp only [Int.ofNat_eq_natCast]; omega
    refine execC_ok mixed orcTa1_ok askTa1_ok (noLoops _) (Eq.mpr (qa_body _ _ e row e' row' es m k _ k' (j + 1) a b c d w x g _) ?_)
    rw [hp]
    refine ⟨fun _ => ⟨by rw [Nat.blt_eq]; omega, f1, inI64_nat (by omega), by show Nat.blt j tab.length = true; rw [Nat.blt_eq]; omega, f0, inI64_nat (by omega), by show Nat.blt j (m + 1) = true; rw [Nat.blt_eq]; omega, f2, inI64_small (by show _ ≤ nA tab j + nA l j; omega) (by show nA tab j + nA l j ≤ _; omega), inI64_small (by show _ ≤ (nA tab j + nA l j) - a; omega) (by show (nA tab j + nA l j) - a ≤ _; omega), fun z => ?_, fun z => ?_⟩, fun z => absurd (blt_false z) (by omega)⟩
    · rw [allB_f (f := stB l tab a) (i := j) (by show (!(ilt (nA tab (j + 1)) ((nA tab j + nA l j) - a))) = false; rw [show ilt (nA tab (j + 1)) ((nA tab j + nA l j) - a) = true from z]; rfl)] at hI
      exact ⟨rfl, .inr ⟨rfl, hI, _, rfl⟩⟩
    · rw [allB_t (f := stB l tab a) (i := j) (by show (!(ilt (nA tab (j + 1)) ((nA tab j + nA l j) - a))) = true; rw [show ilt (nA tab (j + 1)) ((nA tab j + nA l j) - a) = false from z]; rfl)] at hI
      exact ⟨hI, by rw [fwrap_nat (by omega)]; try rfl, rfl⟩
  · intro hI g
    rw [Nat.sub_self] at hI
    exact execC_ok mixed orcTa1_ok askTa1_ok (noLoops _) (Eq.mpr (qa_body _ _ e row e' row' es m k _ k' _ a b c d w x g _) ⟨fun z => absurd (blt_true z) (by omega), fun _ => ⟨rfl, .inl ⟨rfl, hI, _, rfl⟩⟩⟩)
set_option maxRecDepth 100000 in
theorem pb_loop (hl : l.length = m + 1) (h1 : m + 1 ≤ 65536) (ht : tabC l tab (a, b, c, d, w)) (x0 : 0 ≤ x) (x1 : x ≤ w) : ∀ ac : AAct, ac.n = 49 → ac.marks = [] → [1, 3, 6, 36, 37].map ac.tmp = [slQ tab.length k', ptN 2, .bool false, gi (x + 1), goN 0] →
    J Tryz.prog (.loop (loopOf Tryz.prog 69 2)) ac (tabH l tab e row e' row' es m k a b c d w) (told 49 [1, 3, 6, 36, 37] fun ex vs h => h = tabH l tab e row e' row' es m k a b c d w ∧ ((ex = .exit 2 ∧ allB (bdB tab w (c + a)) (Int.toNat x + 1) 0 = true) ∨ (ex = .ret ∧ allB (bdB tab w (c + a)) (Int.toNat x + 1) 0 = false ∧ ∃ y z, vs = [slQ tab.length k', ptN 2, .bool false, y, z]))) := by
  obtain ⟨hc, hy, hw⟩ := ht
  obtain ⟨k1, k2, k3, k4, k5, k6⟩ := ctE_zero hc
  have hw : (tab.length : Int) = w + 1 := hw
  refine scan_rule _ (fun j => [slQ tab.length k', ptN 2, .bool false, gi (x + 1), goN j]) (fun j => allB (bdB tab w (c + a)) (Int.toNat x + 1) 0 = allB (bdB tab w (c + a)) (Int.toNat x + 1 - j) j) (Int.toNat x + 1) rfl _ ?_ ?_
  · intro j hj hI g
    obtain ⟨f0, m0⟩ := nA_at (L := tab) (j := j) (by omega)
    have hk : Int.toNat x + 1 - j = (Int.toNat x + 1 - (j + 1)) + 1 := by omega
    rw [hk] at hI
    have hb : bnC l (a, b, c, d, w) [goN j] := ⟨hc, rfl, by show (0 : Int) ≤ Int.ofNat j; simp only [Int.ofNat_eq_natCast]; omega, by show Int.ofNat j ≤ w; simp only [Int.ofNat_eq_natCast]; omega⟩
    refine execC_ok mixed orcTa1_ok askTa1_ok (noLoops _) (Eq.mpr (pb_body _ _ e row e' row' es m k _ k' j a b c d w (x + 1) g _) ?_)
    rw [decI_map]
    refine ⟨fun _ => ⟨by rw [Nat.blt_eq]; omega, f0, ⟨flat_ints l, trivial⟩, towOk_of hl (Nat.succ_pos m) h1, hb, f0, fun z => ?_, fun z => ?_⟩, fun z => ?_⟩
    · rw [allB_f (f := bdB tab w (c + a)) (i := j) (by show (!(ilt ((w - Int.ofNat j) * (c + a)) (nA tab j))) = false; rw [show ilt ((w - Int.ofNat j) * (c + a)) (nA tab j) = true from z]; rfl)] at hI
      exact ⟨rfl, .inr ⟨rfl, hI, _, _, rfl⟩⟩
    · rw [allB_t (f := bdB tab w (c + a)) (i := j) (by show (!(ilt ((w - Int.ofNat j) * (c + a)) (nA tab j))) = true; rw [show ilt ((w - Int.ofNat j) * (c + a)) (nA tab j) = false from z]; rfl)] at hI
      exact ⟨hI, by rw [fwrap_nat (by omega)]; try rfl, rfl⟩
    · rw [ilt_say] at z
      have z := of_decide_eq_false z
      simp only [Int.ofNat_eq_natCast] at z
      omega
  · intro hI g
    rw [Nat.sub_self] at hI
    refine execC_ok mixed orcTa1_ok askTa1_ok (noLoops _) (Eq.mpr (pb_body _ _ e row e' row' es m k _ k' _ a b c d w (x + 1) g _) ⟨fun z => ?_, fun _ => ⟨rfl, .inl ⟨rfl, hI⟩⟩⟩)
    rw [ilt_say] at z
    have z := of_decide_eq_true z
    simp only [Int.ofNat_eq_natCast] at z
    omega
set_option maxRecDepth 100000 in
theorem qb_loop (hl : l.length = m + 1) (h1 : m + 1 ≤ 65536) (ht : tabC l tab (a, b, c, d, w)) (x0 : 0 ≤ x) (x1 : x ≤ w) : ∀ ac : AAct, ac.n = 58 → ac.marks = [] → [1, 2, 3, 6, 8].map ac.tmp = [slQ tab.length k', gi x, ptN 2, .bool false, goN 0] →
    J Tryz.prog (.loop (loopOf Tryz.prog 31 2)) ac (tabH l tab e row e' row' es m k a b c d w) (told 58 [1, 2, 3, 6, 8] fun ex vs h => h = tabH l tab e row e' row' es m k a b c d w ∧ ((ex = .exit 2 ∧ allB (bdB tab w (c + a)) (Int.toNat x + 1) 0 = true) ∨ (ex = .ret ∧ allB (bdB tab w (c + a)) (Int.toNat x + 1) 0 = false ∧ ∃ y, vs = [slQ tab.length k', gi x, ptN 2, .bool false, y]))) := by
  obtain ⟨hc, hy, hw⟩ := ht
  obtain ⟨k1, k2, k3, k4, k5, k6⟩ := ctE_zero hc
  have hw : (tab.length : Int) = w + 1 := hw
  refine scan_rule _ (fun j => [slQ tab.length k', gi x, ptN 2, .bool false, goN j]) (fun j => allB (bdB tab w (c + a)) (Int.toNat x + 1) 0 = allB (bdB tab w (c + a)) (Int.toNat x + 1 - j) j) (Int.toNat x + 1) rfl _ ?_ ?_
  · intro j hj hI g
    obtain ⟨f0, m0⟩ := nA_at (L := tab) (j := j) (by omega)
    have hk : Int.toNat x + 1 - j = (Int.toNat x + 1 - (j + 1)) + 1 := by omega
    rw [hk] at hI
    obtain ⟨i1, i2, i3⟩ := bn_le (x := Int.ofNat j) hc (by simp only [Int.ofNat_eq_natCast]; omega) (by simp only [Int.ofNat_eq_natCast]; omega)
    refine execC_ok mixed orcTa1_ok askTa1_ok (noLoops _) (Eq.mpr (qb_body _ _ e row e' row' es m k _ k' j a b c d w x g _) ⟨fun _ => ⟨by rw [Nat.blt_eq]; omega, f0, i1, i2, i3, fun z => ?_, fun z => ?_⟩, fun z => ?_⟩)
    · rw [allB_f (f := bdB tab w (c + a)) (i := j) (by show (!(ilt ((w - Int.ofNat j) * (c + a)) (nA tab j))) = false; rw [show ilt ((w - Int.ofNat j) * (c + a)) (nA tab j) = true from z]; rfl)] at hI
      exact ⟨rfl, .inr ⟨rfl, hI, _, rfl⟩⟩
    · rw [allB_t (f := bdB tab w (c + a)) (i := j) (by show (!(ilt ((w - Int.ofNat j) * (c + a)) (nA tab j))) = true; rw [show ilt ((w - Int.ofNat j) * (c + a)) (nA tab j) = false from z]; rfl)] at hI
      exact ⟨hI, by rw [fwrap_nat (by omega)]; try rfl, rfl⟩
    · have z := not_t z
      rw [ilt_say] at z
      have z := of_decide_eq_true z
      simp only [Int.ofNat_eq_natCast] at z
      omega
  · intro hI g
    rw [Nat.sub_self] at hI
    refine execC_ok mixed orcTa1_ok askTa1_ok (noLoops _) (Eq.mpr (qb_body _ _ e row e' row' es m k _ k' _ a b c d w x g _) ⟨fun z => ?_, fun _ => ⟨rfl, .inl ⟨rfl, hI⟩⟩⟩)
    have z := not_f z
    rw [ilt_say] at z
    have z := of_decide_eq_false z
    simp only [Int.ofNat_eq_natCast] at z
    omega
end
end Go.Proofs.YtfkiiacbchbgdaaGreatDoor
/-! (OWN WORK. Tables of tows: which cells a table proves, as known calls.) -/
namespace Go.Proofs.YtfkiiacbchbgdaaGreatDoor
open Go Go.Am

noncomputable def pvL (l tab : List Int) (n e row e' row' m k k' : Nat) (a b c d w x : Int) : Loops Tryz.prog where
  body := fun i => loopOf Tryz.prog 69 (match i with | 0 => 0 | _ + 1 => 2)
  spec := fun i ac h q => match i with
    | 0 => entry ac 49 [(1, slQ n k'), (2, gi x), (3, ptN 2), (6, .bool false), (10, gi w), (11, goN 0)] (h = tabH l tab e row e' row' 32 m k a b c d w ∧ (tab.length = n ∧ l.length = m + 1 ∧ m + 1 ≤ 65536 ∧ tabC l tab (a, b, c, d, w)) ∧
        (allB (stB l tab a) (Int.toNat w) 0 = true → ∀ g, q (.exit 0) (stOf 49 [(1, slQ n k'), (2, gi x), (3, ptN 2), (6, .bool false)] g) (tabH l tab e row e' row' 32 m k a b c d w)) ∧
        (allB (stB l tab a) (Int.toNat w) 0 = false → ∀ g, q .ret (stOf 49 [(6, .bool false)] g) (tabH l tab e row e' row' 32 m k a b c d w)))
    | _ + 1 => entry ac 49 [(1, slQ n k'), (3, ptN 2), (6, .bool false), (36, gi (x + 1)), (37, goN 0)] (h = tabH l tab e row e' row' 32 m k a b c d w ∧ (tab.length = n ∧ l.length = m + 1 ∧ m + 1 ≤ 65536 ∧ tabC l tab (a, b, c, d, w) ∧ 0 ≤ x ∧ x ≤ w) ∧
        (allB (bdB tab w (c + a)) (Int.toNat x + 1) 0 = true → ∀ g, q (.exit 2) (stOf 49 [] g) (tabH l tab e row e' row' 32 m k a b c d w)) ∧
        (allB (bdB tab w (c + a)) (Int.toNat x + 1) 0 = false → ∀ g, q .ret (stOf 49 [(6, .bool false)] g) (tabH l tab e row e' row' 32 m k a b c d w)))
  ok := fun i ac h q p => by
    match i, p with
    | 0, p =>
      obtain ⟨h1, h2, h3, rfl, ⟨rfl, c1, c2, c3⟩, k1, k2⟩ := entry_facts p
      refine J.of_told (pa_loop (x := x) (k' := k') c1 c2 c3 ac h1 h2 ?_) ?_
      · simp only [List.map_cons, List.map_nil]
        rw [h3 (1, slQ tab.length k') (by simp), h3 (2, gi x) (by simp), h3 (3, ptN 2) (by simp), h3 (6, .bool false) (by simp), h3 (10, gi w) (by simp), h3 (11, goN 0) (by simp)]
      · rintro ex vs h' g ⟨rfl, ⟨rfl, hb, y, rfl⟩ | ⟨rfl, hb, y, z, rfl⟩⟩
        · exact k1 hb (ov [(10, gi w), (11, y)] g)
        · exact k2 hb (ov [(1, slQ tab.length k'), (2, gi x), (3, ptN 2), (10, y), (11, z)] g)
    | i + 1, p =>
      obtain ⟨h1, h2, h3, rfl, ⟨rfl, c1, c2, c3, c4, c5⟩, k1, k2⟩ := entry_facts p
      refine J.of_told (pb_loop (k' := k') c1 c2 c3 c4 c5 ac h1 h2 ?_) ?_
      · simp only [List.map_cons, List.map_nil]
        rw [h3 (1, slQ tab.length k') (by simp), h3 (3, ptN 2) (by simp), h3 (6, .bool false) (by simp), h3 (36, gi (x + 1)) (by simp), h3 (37, goN 0) (by simp)]
      · rintro ex vs h' g ⟨rfl, ⟨rfl, hb⟩ | ⟨rfl, hb, y, z, rfl⟩⟩
        · exact k1 hb (ov ([1, 3, 6, 36, 37].zip vs) g)
        · exact k2 hb (ov [(1, slQ tab.length k'), (3, ptN 2), (36, y), (37, z)] g)
noncomputable def qvL (l tab : List Int) (n e row e' row' m k k' : Nat) (a b c d w x : Int) : Loops Tryz.prog where
  body := fun i => loopOf Tryz.prog 31 (match i with | 0 => 0 | _ + 1 => 2)
  spec := fun i ac h q => match i with
    | 0 => entry ac 58 [(1, slQ n k'), (2, gi x), (3, ptN 2), (6, .bool false), (7, goN 1)] (h = tabH l tab e row e' row' 26 m k a b c d w ∧ (tab.length = n ∧ l.length = m + 1 ∧ m + 1 ≤ 65536 ∧ tabC l tab (a, b, c, d, w)) ∧
        (allB (stB l tab a) (Int.toNat w) 0 = true → ∀ g, q (.exit 0) (stOf 58 [(1, slQ n k'), (2, gi x), (3, ptN 2), (6, .bool false)] g) (tabH l tab e row e' row' 26 m k a b c d w)) ∧
        (allB (stB l tab a) (Int.toNat w) 0 = false → ∀ g, q .ret (stOf 58 [(6, .bool false)] g) (tabH l tab e row e' row' 26 m k a b c d w)))
    | _ + 1 => entry ac 58 [(1, slQ n k'), (2, gi x), (3, ptN 2), (6, .bool false), (8, goN 0)] (h = tabH l tab e row e' row' 26 m k a b c d w ∧ (tab.length = n ∧ l.length = m + 1 ∧ m + 1 ≤ 65536 ∧ tabC l tab (a, b, c, d, w) ∧ 0 ≤ x ∧ x ≤ w) ∧
        (allB (bdB tab w (c + a)) (Int.toNat x + 1) 0 = true → ∀ g, q (.exit 2) (stOf 58 [] g) (tabH l tab e row e' row' 26 m k a b c d w)) ∧
        (allB (bdB tab w (c + a)) (Int.toNat x + 1) 0 = false → ∀ g, q .ret (stOf 58 [(6, .bool false)] g) (tabH l tab e row e' row' 26 m k a b c d w)))
  ok := fun i ac h q p => by
    match i, p with
    | 0, p =>
      obtain ⟨h1, h2, h3, rfl, ⟨rfl, c1, c2, c3⟩, k1, k2⟩ := entry_facts p
      refine J.of_told (qa_loop (x := x) (k' := k') c1 c2 c3 ac h1 h2 ?_) ?_
      · simp only [List.map_cons, List.map_nil]
        rw [h3 (1, slQ tab.length k') (by simp), h3 (2, gi x) (by simp), h3 (3, ptN 2) (by simp), h3 (6, .bool false) (by simp), h3 (7, goN 1) (by simp)]
      · rintro ex vs h' g ⟨rfl, ⟨rfl, hb, y, rfl⟩ | ⟨rfl, hb, y, rfl⟩⟩
        · exact k1 hb (ov [(7, y)] g)
        · exact k2 hb (ov [(1, slQ tab.length k'), (2, gi x), (3, ptN 2), (7, y)] g)
    | i + 1, p =>
      obtain ⟨h1, h2, h3, rfl, ⟨rfl, c1, c2, c3, c4, c5⟩, k1, k2⟩ := entry_facts p
      refine J.of_told (qb_loop (k' := k') c1 c2 c3 c4 c5 ac h1 h2 ?_) ?_
      · simp only [List.map_cons, List.map_nil]
        rw [h3 (1, slQ tab.length k') (by simp), h3 (2, gi x) (by simp), h3 (3, ptN 2) (by simp), h3 (6, .bool false) (by simp), h3 (8, goN 0) (by simp)]
      · rintro ex vs h' g ⟨rfl, ⟨rfl, hb⟩ | ⟨rfl, hb, y, rfl⟩⟩
        · exact k1 hb (ov ([1, 2, 3, 6, 8].zip vs) g)
        · exact k2 hb (ov [(1, slQ tab.length k'), (2, gi x), (3, ptN 2), (8, y)] g)
theorem pv_run (l tab : List Int) (n e row e' row' m k k' : Nat) (a b c d w x : Int) (K : Value → Prop) : callC Tryz.prog (exec Tryz.prog orcTa1 10) (syOf [(36, 33)]) askTa1 (pvL l tab n e row e' row' m k k' a b c d w x) 40 69 #[towV (m + 1) k a b c d w, slQ n k', gi x] (canon Tryz.prog [(l.map gi, e, row), (tab.map gi, e', row')]) (fun v _ => K v) = ((loopOf Tryz.prog 69 0 = loopOf Tryz.prog 69 0 ∧ slQ n k' = slQ n k' ∧ gi x = gi x ∧ Value.pointer (some ⟨nG1 + 2, 0, none⟩) = ptN 2 ∧ Value.bool false = Value.bool false ∧ gi w = gi w ∧ gi 0 = goN 0 ∧ (canon Tryz.prog [Prod.mk (List.map gi l) (Prod.mk e row), Prod.mk (List.map gi tab) (Prod.mk e' row')]).push (.cells [liP (m + 1) k, gi a, gi b, gi c, gi d, gi w] 32 0 false) = tabH l tab e row e' row' 32 m k a b c d w ∧ (List.length tab = n ∧ List.length l = (m + 1) ∧ ((m + 1) : Nat) ≤ 65536 ∧ tabC l tab (Prod.mk a (Prod.mk b (Prod.mk c (Prod.mk d w))))) ∧ (allB (stB l tab a) (Int.toNat w) 0 = true → (∀ _ : Nat → Value, (inI64 (x + 1) = true ∧ loopOf Tryz.prog 69 2 = loopOf Tryz.prog 69 2 ∧ slQ n k' = slQ n k' ∧ ptN 2 = ptN 2 ∧ Value.bool false = Value.bool false ∧ gi (x + 1) = gi (x + 1) ∧ gi 0 = goN 0 ∧ tabH l tab e row e' row' 32 m k a b c d w = tabH l tab e row e' row' 32 m k a b c d w ∧ (List.length tab = n ∧ List.length l = (m + 1) ∧ ((m + 1) : Nat) ≤ 65536 ∧ tabC l tab (Prod.mk a (Prod.mk b (Prod.mk c (Prod.mk d w)))) ∧ (0 : Int) ≤ x ∧ (x : Int) ≤ w) ∧ (allB (bdB tab w (c + a)) (Int.toNat x + 1) 0 = true → (∀ _ : Nat → Value, K (Value.bool true))) ∧ (allB (bdB tab w (c + a)) (Int.toNat x + 1) 0 = false → (∀ _ : Nat → Value, K (Value.bool false)))))) ∧ (allB (stB l tab a) (Int.toNat w) 0 = false → (∀ _ : Nat → Value, K (Value.bool false))))) := by kernel_rfl
theorem qv_run (l tab : List Int) (n e row e' row' m k k' : Nat) (a b c d w x : Int) (K : Value → Prop) : callC Tryz.prog (exec Tryz.prog orcTa1 10) (syOf []) askTa1 (qvL l tab n e row e' row' m k k' a b c d w x) 40 31 #[towV (m + 1) k a b c d w, slQ n k', gi x] (canon Tryz.prog [(l.map gi, e, row), (tab.map gi, e', row')]) (fun v _ => K v) = ((loopOf Tryz.prog 31 0 = loopOf Tryz.prog 31 0 ∧ slQ n k' = slQ n k' ∧ gi x = gi x ∧ Value.pointer (some ⟨nG1 + 2, 0, none⟩) = ptN 2 ∧ Value.bool false = Value.bool false ∧ gi 1 = goN 1 ∧ (canon Tryz.prog [Prod.mk (List.map gi l) (Prod.mk e row), Prod.mk (List.map gi tab) (Prod.mk e' row')]).push (.cells [liP (m + 1) k, gi a, gi b, gi c, gi d, gi w] 26 0 false) = tabH l tab e row e' row' 26 m k a b c d w ∧ (List.length tab = n ∧ List.length l = (m + 1) ∧ ((m + 1) : Nat) ≤ 65536 ∧ tabC l tab (Prod.mk a (Prod.mk b (Prod.mk c (Prod.mk d w))))) ∧ (allB (stB l tab a) (Int.toNat w) 0 = true → (∀ _ : Nat → Value, (loopOf Tryz.prog 31 2 = loopOf Tryz.prog 31 2 ∧ slQ n k' = slQ n k' ∧ gi x = gi x ∧ ptN 2 = ptN 2 ∧ Value.bool false = Value.bool false ∧ gi 0 = goN 0 ∧ tabH l tab e row e' row' 26 m k a b c d w = tabH l tab e row e' row' 26 m k a b c d w ∧ (List.length tab = n ∧ List.length l = (m + 1) ∧ ((m + 1) : Nat) ≤ 65536 ∧ tabC l tab (Prod.mk a (Prod.mk b (Prod.mk c (Prod.mk d w)))) ∧ (0 : Int) ≤ x ∧ (x : Int) ≤ w) ∧ (allB (bdB tab w (c + a)) (Int.toNat x + 1) 0 = true → (∀ _ : Nat → Value, K (Value.bool true))) ∧ (allB (bdB tab w (c + a)) (Int.toNat x + 1) 0 = false → (∀ _ : Nat → Value, K (Value.bool false)))))) ∧ (allB (stB l tab a) (Int.toNat w) 0 = false → (∀ _ : Nat → Value, K (Value.bool false))))) := by kernel_rfl
end Go.Proofs.YtfkiiacbchbgdaaGreatDoor
/-! (OWN WORK. Tables of tows: a tow and a table, told by functions; their errors.) -/
namespace Go.Proofs.YtfkiiacbchbgdaaGreatDoor
open Go Go.Am

noncomputable def tbFY {α : Type} (z : α) (f : List Value → Nat → T5 → List Value → Nat → List Value → α) (vs : List Value) (B : List Cells) : α := match vs with
  | .agg arr :: .slice (some ⟨j, 0, none⟩) n' _ :: r => match arr.toList with
    | [.slice (some ⟨i, 0, none⟩) n _, .int .i64 a, .int .i64 b, .int .i64 c, .int .i64 d, .int .i64 w] => match B with
      | [(cs, _, _), (cs', _, _)] => match Nat.beq i Tryz.prog.globals.size && Nat.beq j (Tryz.prog.globals.size + 1) with
        | true => f cs n (a, b, c, d, w) cs' n' r
        | false => z
      | _ => z
    | _ => z
  | _ => z
abbrev TbC := List Int → T5 → List Int → List Value → Prop
abbrev TbO := List Int → T5 → List Int → List Value → Out
open Classical in
noncomputable def tbX (C : TbC) (out : TbO) (vs : List Value) (B : List Cells) : Option Out :=
  tbFY none (fun cs n t cs' n' r => if towOk cs n ∧ towOk cs' n' ∧ C (decI cs) t (decI cs') r then some (out (decI cs) t (decI cs') r) else none) vs B
noncomputable def tbY (C : TbC) (out : TbO) (vs : List Value) (B : List Cells) (K : Out → Prop) : Prop :=
  tbFY False (fun cs n t cs' n' r => towOk cs n ∧ towOk cs' n' ∧ C (decI cs) t (decI cs') r ∧ K (out (decI cs) t (decI cs') r)) vs B
theorem tbFY_some {α : Type} {f : List Value → Nat → T5 → List Value → Nat → List Value → Option α} {vs : List Value} {B : List Cells} {o : α} (h : tbFY none f vs B = some o) :
    ∃ (cs : List Value) (n k e row : Nat) (a b c d w : Int) (cs' : List Value) (n' k' e' row' : Nat) (r : List Value), vs = towV n k a b c d w :: slQ n' k' :: r ∧ B = [(cs, e, row), (cs', e', row')] ∧ f cs n (a, b, c, d, w) cs' n' r = some o := by
  unfold tbFY at h
  split at h
  · rename_i arr j n' k' r
    split at h
    · rename_i i n k a b c d w ha
      split at h
      · rename_i cs e row cs' e' row'
        split at h
        · rename_i hi
          rw [Bool.and_eq_true, Nat.beq_eq, Nat.beq_eq] at hi
          obtain ⟨rfl, rfl⟩ := hi
          exact ⟨cs, n, k, e, row, a, b, c, d, w, cs', n', k', e', row', r, by rw [agg_eq ha], rfl, h⟩
        · cases h
      · cases h
    · cases h
  · cases h
theorem tbFY_at {α : Type} {z : α} {f : List Value → Nat → T5 → List Value → Nat → List Value → α} {cs cs' : List Value} {n k e row n' k' e' row' : Nat} {a b c d w : Int} {r : List Value} : tbFY z f (towV n k a b c d w :: slQ n' k' :: r) [(cs, e, row), (cs', e', row')] = f cs n (a, b, c, d, w) cs' n' r := by
  show (match Nat.beq Tryz.prog.globals.size Tryz.prog.globals.size && Nat.beq (Tryz.prog.globals.size + 1) (Tryz.prog.globals.size + 1) with
    | true => f cs n (a, b, c, d, w) cs' n' r
    | false => z) = _
  rw [Nat.beq_refl, Nat.beq_refl]; rfl
theorem tbFY_prop {f : List Value → Nat → T5 → List Value → Nat → List Value → Prop} {vs : List Value} {B : List Cells} (h : tbFY False f vs B) :
    ∃ (cs : List Value) (n k e row : Nat) (a b c d w : Int) (cs' : List Value) (n' k' e' row' : Nat) (r : List Value), vs = towV n k a b c d w :: slQ n' k' :: r ∧ B = [(cs, e, row), (cs', e', row')] ∧ f cs n (a, b, c, d, w) cs' n' r := by
  unfold tbFY at h
  split at h
  · rename_i arr j n' k' r
    split at h
    · rename_i i n k a b c d w ha
      split at h
      · rename_i cs e row cs' e' row'
        split at h
        · rename_i hi
          rw [Bool.and_eq_true, Nat.beq_eq, Nat.beq_eq] at hi
          obtain ⟨rfl, rfl⟩ := hi
          exact ⟨cs, n, k, e, row, a, b, c, d, w, cs', n', k', e', row', r, by rw [agg_eq ha], rfl, h⟩
        · exact h.elim
      · exact h.elim
    · exact h.elim
  · exact h.elim
theorem tbY_ok {C C' : TbC} {out out' : TbO} (hC : ∀ l t l' r, C' l t l' r → C l t l' r ∧ out' l t l' r = out l t l' r) (vs : List Value) (B : List Cells) (K : Out → Prop) (h : tbY C' out' vs B K) : ∃ o, tbX C out vs B = some o ∧ K o := by
  obtain ⟨cs, n, k, e, row, a, b, c, d, w, cs', n', k', e', row', r, rfl, rfl, h1, h2, h3, h4⟩ := tbFY_prop h
  obtain ⟨q1, q2⟩ := hC _ _ _ _ h3
  refine ⟨out (decI cs) (a, b, c, d, w) (decI cs') r, ?_, by rw [← q2]; exact h4⟩
  unfold tbX
  rw [tbFY_at, if_pos ⟨h1, h2, q1⟩]
theorem tbO_ok {f : FuncId} {C : TbC} {out : TbO} {orc : Orc} (ho : OrcOk Tryz.prog orc) (hout : ∀ l t l' r, C l t l' r → (out l t l' r).Ok)
    (hk : ∀ (l l' : List Int) (m k e row m' k' e' row' : Nat) (a b c d w : Int) (r : List Value), l.length = m + 1 → m + 1 ≤ 65536 → l'.length = m' + 1 → m' + 1 ≤ 65536 → C l (a, b, c, d, w) l' r →
      CallJ Tryz.prog f (towV (m + 1) k a b c d w :: slQ (m' + 1) k' :: r).toArray (canon Tryz.prog [(l.map gi, e, row), (l'.map gi, e', row')]) (out l (a, b, c, d, w) l' r).Got) : OrcOk Tryz.prog (orElse f (anyO Tryz.prog.globals.size (tbX C out)) orc) := by
  refine anyO_ok globs_pos ho fun vs B o h _ => ?_
  obtain ⟨cs, n, k, e, row, a, b, c, d, w, cs', n', k', e', row', r, rfl, rfl, h'⟩ := tbFY_some h
  split at h'
  · rename_i hc
    cases h'
    obtain ⟨⟨h1, h2, h3, h4⟩, ⟨g1, g2, g3, g4⟩, h5⟩ := hc
    obtain ⟨m, rfl⟩ : ∃ m, n = m + 1 := ⟨n - 1, by omega⟩
    obtain ⟨m', rfl⟩ : ∃ m', n' = m' + 1 := ⟨n' - 1, by omega⟩
    refine ⟨hout _ _ _ _ h5, ?_⟩
    have q := hk (decI cs) (decI cs') m k e row m' k' e' row' a b c d w r h3 h4 g3 g4 h5
    rw [← h1, ← g1] at q
    exact q
  · cases h'
noncomputable def pvB (l tab : List Int) (t : T5) (x : Int) : Bool := allB (stB l tab t.1) (Int.toNat t.2.2.2.2) 0 && allB (bdB tab t.2.2.2.2 (t.2.2.1 + t.1)) (Int.toNat x + 1) 0
def prC (l : List Int) (t : T5) (tab : List Int) (r : List Value) : Prop := tabC l tab t ∧ r = [gi (arg0 r)] ∧ 0 ≤ arg0 r ∧ arg0 r ≤ t.2.2.2.2
noncomputable abbrev prO (l : List Int) (t : T5) (tab : List Int) (r : List Value) : Out := .plain (.bool (pvB l tab t (arg0 r)))
theorem pv_ask {K : Value → Prop} {p q : Bool} (h : K (.bool (p && q))) : (p = true → (q = true → K (.bool true)) ∧ (q = false → K (.bool false))) ∧ (p = false → K (.bool false)) := by
  cases p with
  | false => exact ⟨fun z => (by cases z), fun _ => h⟩
  | true =>
    refine ⟨fun _ => ?_, fun z => (by cases z)⟩
    cases q with
    | false => exact ⟨fun z => (by cases z), fun _ => h⟩
    | true => exact ⟨fun _ => h, fun z => (by cases z)⟩
noncomputable def orcTb1 : Orc := orElse 31 (anyO Tryz.prog.globals.size (tbX prC prO)) (orElse 69 (anyO Tryz.prog.globals.size (tbX prC prO)) orcTa1)
set_option maxRecDepth 100000 in
theorem orcTb1_ok : OrcOk Tryz.prog orcTb1 := by
  refine tbO_ok (tbO_ok orcTa1_ok (fun _ _ _ _ _ => rfl) ?_) (fun _ _ _ _ _ => rfl) ?_
  · rintro l tab m k e row m' k' e' row' a b c d w r hl h1 hl' h1' ⟨ht, hr, x0, x1⟩
    rw [hr]
    show CallJ _ _ _ _ (fun v _ => v = .bool (pvB l tab (a, b, c, d, w) (arg0 r)))
    generalize arg0 r = x at *
    have x1 : x ≤ w := x1
    obtain ⟨k1, k2, k3, k4, k5, k6⟩ := ctE_zero ht.1
    obtain ⟨q1, q2⟩ := pv_ask (K := fun v => v = .bool (pvB l tab (a, b, c, d, w) x)) (p := allB (stB l tab a) (Int.toNat w) 0) (q := allB (bdB tab w (c + a)) (Int.toNat x + 1) 0) rfl
    exact callC_ok mixed orcTa1_ok askTa1_ok (Eq.mpr (pv_run l tab (m' + 1) e row e' row' m k k' a b c d w x _) ⟨rfl, rfl, rfl, rfl, rfl, rfl, rfl, rfl, ⟨hl', hl, h1, ht⟩, fun z _ => ⟨inI64_small (by omega) (by omega), rfl, rfl, rfl, rfl, rfl, rfl, rfl, ⟨hl', hl, h1, ht, x0, x1⟩, fun z' _ => (q1 z).1 z', fun z' _ => (q1 z).2 z'⟩, fun z _ => q2 z⟩)
  · rintro l tab m k e row m' k' e' row' a b c d w r hl h1 hl' h1' ⟨ht, hr, x0, x1⟩
    rw [hr]
    show CallJ _ _ _ _ (fun v _ => v = .bool (pvB l tab (a, b, c, d, w) (arg0 r)))
    generalize arg0 r = x at *
    have x1 : x ≤ w := x1
    obtain ⟨q1, q2⟩ := pv_ask (K := fun v => v = .bool (pvB l tab (a, b, c, d, w) x)) (p := allB (stB l tab a) (Int.toNat w) 0) (q := allB (bdB tab w (c + a)) (Int.toNat x + 1) 0) rfl
    exact callC_ok mixed orcTa1_ok askTa1_ok (Eq.mpr (qv_run l tab (m' + 1) e row e' row' m k k' a b c d w x _) ⟨rfl, rfl, rfl, rfl, rfl, rfl, rfl, ⟨hl', hl, h1, ht⟩, fun z _ => ⟨rfl, rfl, rfl, rfl, rfl, rfl, rfl, ⟨hl', hl, h1, ht, x0, x1⟩, fun z' _ => (q1 z).1 z', fun z' _ => (q1 z).2 z'⟩, fun z _ => q2 z⟩)
noncomputable def askTb1 : Asks := asksV Tryz.prog.globals.size 31 (tbY prC prO) (asksV Tryz.prog.globals.size 69 (tbY prC prO) askTa1)
theorem askTb1_ok : AsksOk orcTb1 askTb1 := asksV_ok (tbY_ok fun _ _ _ _ h => ⟨h, rfl⟩) (asksV_ok (tbY_ok fun _ _ _ _ h => ⟨h, rfl⟩) askTa1_ok)
noncomputable abbrev eS (k : Nat) : Value := .slice (some ⟨0, 0, none⟩) 0 k
noncomputable abbrev eV (a b c d w : Int) (k : Nat) : Value := .agg #[eS k, gi a, gi b, gi c, gi d, gi w]
theorem cT_ff (l tab : List Int) (m k e row m' k' e' row' : Nat) (a b c d w : Int) (K : Value → Prop) : callC Tryz.prog (exec Tryz.prog orcTb1 10) (syOf [(13, 7)]) askTb1 (noLoops _) 20 67 #[towV (m + 1) k a b c d w, slQ (m' + 1) k'] (canon Tryz.prog [(l.map gi, e, row), (tab.map gi, e', row')]) (fun v _ => K v) = (((List.all (List.map gi tab) (flat 3) = true ∧ True) ∧ towOk (List.map gi tab) (m' + 1) ∧ eaC (decI (List.map gi tab)) [Value.func (.func 115) #[] #[]] ∧ K (gi (firstS [whenS (!(ieq (Int.ofNat (m' + 1)) (fwrap IntKind.i64 (w + 1)))) 2, eaE (hiOf [Value.func (.func 115) #[] #[]]) (decI (List.map gi tab))])))) := by kernel_rfl
theorem cT_fe (l : List Int) (m k e row k' : Nat) (a b c d w : Int) (K : Value → Prop) : callC Tryz.prog (exec Tryz.prog orcTb1 20) (syOf []) askTb1 (noLoops _) 30 67 #[towV (m + 1) k a b c d w, eS k'] (canon Tryz.prog [(l.map gi, e, row)]) (fun v _ => K v) = (K (gi (firstS [whenS (!(ieq 0 (fwrap IntKind.i64 (w + 1)))) 2, 0]))) := by kernel_rfl
theorem cT_ef (tab : List Int) (k m' k' e' row' : Nat) (a b c d w : Int) (K : Value → Prop) : callC Tryz.prog (exec Tryz.prog orcTb1 10) (syOf [(13, 7)]) askTb1 (noLoops _) 20 67 #[eV a b c d w k, liP (m' + 1) k'] (canon Tryz.prog [(tab.map gi, e', row')]) (fun v _ => K v) = (((List.all (List.map gi tab) (flat 3) = true ∧ True) ∧ towOk (List.map gi tab) (m' + 1) ∧ eaC (decI (List.map gi tab)) [Value.func (.func 115) #[] #[]] ∧ K (gi (firstS [whenS (!(ieq (Int.ofNat (m' + 1)) (fwrap IntKind.i64 (w + 1)))) 2, eaE (hiOf [Value.func (.func 115) #[] #[]]) (decI (List.map gi tab))])))) := by kernel_rfl
theorem cT_ee (k k' : Nat) (a b c d w : Int) (K : Value → Prop) : callC Tryz.prog (exec Tryz.prog orcTb1 20) (syOf []) askTb1 (noLoops _) 30 67 #[eV a b c d w k, eS k'] (canon Tryz.prog []) (fun v _ => K v) = (K (gi (firstS [whenS (!(ieq 0 (fwrap IntKind.i64 (w + 1)))) 2, 0]))) := by kernel_rfl
theorem cF_ff (l tab : List Int) (m k e row m' k' e' row' : Nat) (a b c d w : Int) (K : Value → Prop) : callC Tryz.prog (exec Tryz.prog orcTb1 10) (syOf [(13, 7)]) askTb1 (noLoops _) 20 29 #[towV (m + 1) k a b c d w, slQ (m' + 1) k'] (canon Tryz.prog [(l.map gi, e, row), (tab.map gi, e', row')]) (fun v _ => K v) = (((List.all (List.map gi tab) (flat 3) = true ∧ True) ∧ towOk (List.map gi tab) (m' + 1) ∧ raC (decI (List.map gi tab)) [gi 0, gi 100000000] ∧ K (gi (firstS [whenS (!(ieq (Int.ofNat (m' + 1)) (fwrap IntKind.i64 (w + 1)))) 2, raE (arg0 [gi 0, gi 100000000]) (arg1 [gi 0, gi 100000000]) (decI (List.map gi tab))])))) := by kernel_rfl
theorem cF_fe (l : List Int) (m k e row k' : Nat) (a b c d w : Int) (K : Value → Prop) : callC Tryz.prog (exec Tryz.prog orcTb1 20) (syOf []) askTb1 (noLoops _) 30 29 #[towV (m + 1) k a b c d w, eS k'] (canon Tryz.prog [(l.map gi, e, row)]) (fun v _ => K v) = (K (gi (firstS [whenS (!(ieq 0 (fwrap IntKind.i64 (w + 1)))) 2, 0]))) := by kernel_rfl
theorem cF_fn (l : List Int) (m k e row : Nat) (a b c d w : Int) (K : Value → Prop) : callC Tryz.prog (exec Tryz.prog orcTb1 20) (syOf []) askTb1 (noLoops _) 30 29 #[towV (m + 1) k a b c d w, nilS] (canon Tryz.prog [(l.map gi, e, row)]) (fun v _ => K v) = (K (gi (firstS [whenS (!(ieq 0 (fwrap IntKind.i64 (w + 1)))) 2, 0]))) := by kernel_rfl
end Go.Proofs.YtfkiiacbchbgdaaGreatDoor
