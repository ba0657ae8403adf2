/-
  OWN WORK. Stage 6: longest spans and levels.
-/
import Derived.Test.YtihnnmejkpddeaaGreatDoorLvDI
import Derived.Test.YtihnnmejkpddeaaGreatDoorSgCX
/-! (OWN WORK. Stage 6: the longest span, how many are from a level on, what is held: rounds of inner loops.) -/
namespace Go.Proofs.YtihnnmejkpddeaaGreatDoor
open Go Go.Am
noncomputable def h3 (c : List Value) (e row x y : Nat) : AHeap := canonT [] (fun _ => 0) Tryz.prog.globals.size [(c, e, row, true), ([gi 0, gi 0], 24, 0, false), ([goN x, goN y], 24, 0, false)]
theorem li_body (c : List Value) (e row n k p q x y : Nat) (v : Int) (g : Nat → Value) (Q : Exit → List Value → AHeap → Prop) : execC Tryz.prog (exec Tryz.prog orcLa 10) (syOf [(21, 1), (25, 33), (26, 2), (27, 3), (29, 1), (33, 33), (38, 33), (39, 1)]) askLa (noLoops _) 40 (loopOf Tryz.prog 97 2) (stOf 45 [(0, liP n k), (1, gi v), (4, ptN 1), (5, ptN 2), (6, goN p), (7, goN q), (9, goN n), (10, goN p)] g) (h3 c e row x y) (told 45 [0, 1, 4, 5, 6, 7, 9, 10] Q) = (((Nat.blt n q = true → Q (.exit 0) [liP n k, gi v, ptN 1, ptN 2, goN p, goN q, goN n, goN p] (h3 c e row x y)) ∧ (Nat.blt n q = false → (inI64 (Int.ofNat q - 1) = true ∧ ahasIndex (Int.ofNat q - 1) n = true ∧ c[(0 + (Int.toNat (Int.ofNat q - 1) * 1))]? = Option.some (gi (intAt c (0 + (Int.toNat (Int.ofNat q - 1) * 1)))) ∧ (ilt (intAt c (0 + (Int.toNat (Int.ofNat q - 1) * 1))) v = true → Q (.exit 1) [liP n k, gi v, ptN 1, ptN 2, goN p, goN q, goN n, goN p] (h3 c e row x y)) ∧ (ilt (intAt c (0 + (Int.toNat (Int.ofNat q - 1) * 1))) v = false → (inI64 (Int.ofNat q - Int.ofNat p) = true ∧ inI64 (Int.ofNat y - Int.ofNat x) = true ∧ (ilt (Int.ofNat y - Int.ofNat x) (Int.ofNat q - Int.ofNat p) = true → Q .normal [liP n k, gi v, ptN 1, ptN 2, goN p, gi (fwrap IntKind.i64 (Int.ofNat (q + 1))), goN n, goN p] ((h3 c e row x y).set (nG1 + 2) (.cells ([] ++ ([goN p, goN q] ++ [])) 24 0 false))) ∧ (ilt (Int.ofNat y - Int.ofNat x) (Int.ofNat q - Int.ofNat p) = false → Q .normal [liP n k, gi v, ptN 1, ptN 2, goN p, gi (fwrap IntKind.i64 (Int.ofNat (q + 1))), goN n, goN p] (h3 c e row x y)))))))) := by kernel_rfl
theorem rli_body (c : List Value) (e row n k p q x y : Nat) (v : Int) (g : Nat → Value) (Q : Exit → List Value → AHeap → Prop) : execC Tryz.prog (exec Tryz.prog orcLa 10) (syOf [(20, 1), (23, 2), (24, 3), (27, 1)]) askLa (noLoops _) 40 (loopOf Tryz.prog 32 2) (stOf 43 [(0, liP n k), (1, gi v), (4, ptN 1), (5, ptN 2), (6, goN p), (7, goN q)] g) (h3 c e row x y) (told 43 [0, 1, 4, 5, 6, 7] Q) = (((Nat.blt q n = true → (Nat.blt q n = true ∧ c[(0 + (q * 1))]? = Option.some (gi (intAt c (0 + (q * 1)))) ∧ ((!(ilt (intAt c (0 + (q * 1))) v)) = true → Q .normal [liP n k, gi v, ptN 1, ptN 2, goN p, gi (fwrap IntKind.i64 (Int.ofNat (q + 1)))] (h3 c e row x y)) ∧ ((!(ilt (intAt c (0 + (q * 1))) v)) = false → Q (.exit 2) [liP n k, gi v, ptN 1, ptN 2, goN p, goN q] (h3 c e row x y)))) ∧ (Nat.blt q n = false → ((false = true → Q .normal [liP n k, gi v, ptN 1, ptN 2, goN p, gi (fwrap IntKind.i64 (Int.ofNat (q + 1)))] (h3 c e row x y)) ∧ (false = false → Q (.exit 2) [liP n k, gi v, ptN 1, ptN 2, goN p, goN q] (h3 c e row x y)))))) := by kernel_rfl
theorem rhi_body (c : List Value) (e row n k s p q x y : Nat) (b m : Int) (g : Nat → Value) (Q : Exit → List Value → AHeap → Prop) : execC Tryz.prog (exec Tryz.prog orcLa 10) (syOf [(29, 1), (35, 2), (36, 3)]) askLa (noLoops _) 40 (loopOf Tryz.prog 34 2) (stOf 49 [(0, liP n k), (1, goN s), (5, ptN 1), (6, gi b), (7, ptN 2), (8, goN p), (9, gi m), (10, goN q)] g) (h3 c e row x y) (told 49 [0, 1, 5, 6, 7, 8, 9, 10] Q) = (((ilt (Int.ofNat q) (fwrap IntKind.i64 (Int.ofNat (p + s))) = true → (Nat.blt q n = true ∧ c[(0 + (q * 1))]? = Option.some (gi (intAt c (0 + (q * 1)))) ∧ Q .normal [liP n k, goN s, ptN 1, gi b, ptN 2, goN p, gi (if (intAt c (0 + (q * 1)) : Int) < m then intAt c (0 + (q * 1)) else m), gi (fwrap IntKind.i64 (Int.ofNat (q + 1)))] (h3 c e row x y))) ∧ (ilt (Int.ofNat q) (fwrap IntKind.i64 (Int.ofNat (p + s))) = false → Q (.exit 2) [liP n k, goN s, ptN 1, gi b, ptN 2, goN p, gi m, goN q] (h3 c e row x y)))) := by kernel_rfl
theorem rab_body (c : List Value) (e row n k p : Nat) (v w : Int) (g : Nat → Value) (Q : Exit → List Value → AHeap → Prop) : execC Tryz.prog (exec Tryz.prog orcLa 10) (syOf [(10, 1), (15, 2), (16, 3), (18, 1)]) askLa (noLoops _) 40 (loopOf Tryz.prog 33 0) (stOf 22 [(0, liP n k), (1, gi v), (5, gi w), (6, goN p)] g) (liH c e row) (told 22 [0, 1, 5, 6] Q) = (((Nat.blt p n = true → (Nat.blt p n = true ∧ c[(0 + (p * 1))]? = Option.some (gi (intAt c (0 + (p * 1)))) ∧ ((!(ilt (intAt c (0 + (p * 1))) v)) = true → Q .normal [liP n k, gi v, gi (fwrap IntKind.i64 (w + 1)), gi (fwrap IntKind.i64 (Int.ofNat (p + 1)))] (liH c e row)) ∧ ((!(ilt (intAt c (0 + (p * 1))) v)) = false → Q .normal [liP n k, gi v, gi w, gi (fwrap IntKind.i64 (Int.ofNat (p + 1)))] (liH c e row)))) ∧ (Nat.blt p n = false → Q (.exit 0) [liP n k, gi v, gi w, goN p] (liH c e row)))) := by kernel_rfl
noncomputable abbrev cAb : Value := .func (.func 99) #[] #[ptN 1]
noncomputable abbrev keB (c : List Value) (e row : Nat) (v : Int) (e' row' : Nat) : List Blk := [(c, e, row, true), ([gi v], e', row', true)]
theorem ke_A (c : List Value) (n k e row e' row' j : Nat) (v : Int) (g : Nat → Value) (Q : Exit → List Value → AHeap → Prop) : execR Tryz.prog orcLa (fun _ => syOf []) askLa 60 [syOf [(11, 1), (12, 2), (13, 3), (16, 55), (17, 0)], syOf []] none (loopOf Tryz.prog 98 0) (stOf 23 [(1, cAb), (5, nilS), (8, liP n k), (9, goN n), (10, goN j)] g) (canonT [] (fun _ => 0) Tryz.prog.globals.size (keB c e row v e' row')) (told 23 [1, 5, 8, 9, 10] Q) = (((Nat.blt j n = true → (Nat.blt j n = true ∧ c[(0 + (j * 1))]? = Option.some (gi (intAt c (0 + (j * 1)))) ∧ Bool.rec (Q .normal [cAb, nilS, liP n k, goN n, gi (fwrap IntKind.i64 (Int.ofNat (j + 1)))] (canonT [] (fun _ => 0) Tryz.prog.globals.size (keB c e row v e' row'))) (Q .normal [cAb, Value.slice (some ⟨nG1 + 3, 0, none⟩) 1 1, liP n k, goN n, gi (fwrap IntKind.i64 (Int.ofNat (j + 1)))] (((canonT [] (fun _ => 0) Tryz.prog.globals.size (keB c e row v e' row')).push (.cells [gi (intAt c (0 + (j * 1)))] 3 2 false)).push (.cells ([] ++ [gi (intAt c (0 + (j * 1)))]) 3 2 false))) (!(ilt (intAt c (0 + (j * 1))) v)))) ∧ (Nat.blt j n = false → Q (.exit 0) [cAb, nilS, liP n k, goN n, goN j] (canonT [] (fun _ => 0) Tryz.prog.globals.size (keB c e row v e' row'))))) := by kernel_rfl
end Go.Proofs.YtihnnmejkpddeaaGreatDoor
/-! (OWN WORK. Stage 6, arithmetic: the longest span from a level on; the greatest integer, and the first place that has it.) -/
namespace Go.Proofs.YtihnnmejkpddeaaGreatDoor
open Go Go.Am
noncomputable def rnN (v : Int) : List Int → Nat
 | [] => 0
 | x :: l => bif ilt x v then 0 else rnN v l + 1
theorem rnN_le (v : Int) : ∀ l : List Int, rnN v l ≤ l.length
 | [] => Nat.le_refl _
 | x :: l => by
  show (bif ilt x v then 0 else rnN v l + 1) ≤ l.length + 1
  cases ilt x v with
  | true => exact Nat.zero_le _
  | false => exact Nat.succ_le_succ (rnN_le v l)
abbrev N2 := Nat × Nat
noncomputable def upN (b : N2) (i r : Nat) : N2 := bif Nat.blt (b.2 - b.1) r then (i, i + r) else b
noncomputable def lgR (v : Int) : Nat → N2 → List Int → N2
 | _, b, [] => b
 | i, b, x :: l => lgR v (i + 1) (upN b i (rnN v (x :: l))) l
noncomputable def lgP (v : Int) : Nat → N2 → List Int → N2
 | _, b, [] => b
 | i, b, x :: l => bif Nat.beq (rnN v (x :: l)) (l.length + 1) then upN b i (rnN v (x :: l)) else lgP v (i + 1) (upN b i (rnN v (x :: l))) l
theorem upN_le (b : N2) (i r : Nat) : r ≤ (upN b i r).2 - (upN b i r).1 := by
 unfold upN
 cases h : Nat.blt (b.2 - b.1) r with
 | true => show r ≤ i + r - i; omega
 | false =>
  show r ≤ b.2 - b.1
  have : ¬ b.2 - b.1 < r := fun q => by rw [show Nat.blt (b.2 - b.1) r = true by rw [Nat.blt_eq]; exact q] at h; cases h
  omega
theorem upN_stay {b : N2} {i r : Nat} (h : r ≤ b.2 - b.1) : upN b i r = b := by
 unfold upN
 rw [show Nat.blt (b.2 - b.1) r = false by
  cases q : Nat.blt (b.2 - b.1) r with
  | false => rfl
  | true => rw [Nat.blt_eq] at q; omega]
 rfl
theorem lgR_stay (v : Int) : ∀ (l : List Int) (i : Nat) (b : N2), l.length ≤ b.2 - b.1 → lgR v i b l = b
 | [], _, _, _ => rfl
 | x :: l, i, b, h => by
  have hl : (x :: l).length = l.length + 1 := rfl
  rw [hl] at h
  show lgR v (i + 1) (upN b i (rnN v (x :: l))) l = b
  rw [upN_stay (Nat.le_trans (rnN_le v (x :: l)) (by rw [hl]; exact h))]
  exact lgR_stay v l (i + 1) b (by omega)
noncomputable def mxI : Int → List Int → Int
 | m, [] => m
 | m, x :: l => mxI (if x > m then x else m) l
noncomputable def mnI : Int → List Int → Int
 | m, [] => m
 | m, x :: l => mnI (if x < m then x else m) l
noncomputable def ixI (v : Int) : List Int → Nat → Nat
 | [], i => i
 | x :: l, i => bif ieq v x then i else ixI v l (i + 1)
noncomputable def bsI : Nat → Int → Nat → List Int → Int × Nat
 | _, m, a, [] => (m, a)
 | i, m, a, x :: l => bif ilt m x then bsI (i + 1) x i l else bsI (i + 1) m a l
theorem bsI_mx : ∀ (l : List Int) (i : Nat) (m : Int) (a : Nat), (bsI i m a l).1 = mxI m l
 | [], _, _, _ => rfl
 | x :: l, i, m, a => by
  show (bif ilt m x then bsI (i + 1) x i l else bsI (i + 1) m a l).1 = mxI (if x > m then x else m) l
  rw [ilt_say]
  by_cases h : m < x
  ·rw [decide_eq_true h, if_pos h]; exact bsI_mx l (i + 1) x i
  ·rw [decide_eq_false h, if_neg h]; exact bsI_mx l (i + 1) m a
theorem ixI_at (v : Int) : ∀ (l : List Int) (k i : Nat), l[k]? = some v → (∀ j, j < k → ∀ y, l[j]? = some y → y ≠ v) → ixI v l i = i + k
 | [], k, i, h, _ => by simp at h
 | x :: l, 0, i, h, _ => by
  have h : x = v := by simpa using h
  show (bif ieq v x then i else _) = i + 0
  rw [h, ieq_self]; rfl
 | x :: l, k + 1, i, h, hn => by
  have hx : x ≠ v := hn 0 (by omega) x rfl
  show (bif ieq v x then i else ixI v l (i + 1)) = _
  rw [ieq_ne (fun e => hx e.symm)]
  show ixI v l (i + 1) = _
  rw [ixI_at v l k (i + 1) (by simpa using h) fun j hj y hy => hn (j + 1) (by omega) y (by simpa using hy)]
  omega
theorem bsI_ix : ∀ (l pre : List Int) (m : Int) (a : Nat), pre[a]? = some m → (∀ j, j < a → ∀ y, pre[j]? = some y → y < m) → (∀ y ∈ pre, y ≤ m) →
  (pre ++ l)[(bsI pre.length m a l).2]? = some (bsI pre.length m a l).1 ∧ ∀ j, j < (bsI pre.length m a l).2 → ∀ y, (pre ++ l)[j]? = some y → y < (bsI pre.length m a l).1
 | [], pre, m, a, ha, hb, _ => by
  rw [List.append_nil]
  exact ⟨ha, hb⟩
 | x :: l, pre, m, a, ha, hb, hm => by
  have e : pre ++ x :: l = (pre ++ [x]) ++ l := by simp
  have el : (pre ++ [x]).length = pre.length + 1 := by simp
  by_cases g : m < x
  ·have q : bsI pre.length m a (x :: l) = bsI (pre ++ [x]).length x pre.length l := by
    show (bif ilt m x then bsI (pre.length + 1) x pre.length l else _) = _
    rw [ilt_say, decide_eq_true g, el]; rfl
   rw [q, e]
   refine bsI_ix l (pre ++ [x]) x pre.length (by simp) ?_ ?_
   ·intro j hj y hy
    rw [List.getElem?_append_left hj] at hy
    have := hm y (List.mem_of_getElem? hy)
    omega
   ·intro y hy
    rcases List.mem_append.1 hy with hy | hy
    ·have := hm y hy
     omega
    ·simp only [List.mem_cons, List.not_mem_nil, or_false] at hy
     omega
  ·have q : bsI pre.length m a (x :: l) = bsI (pre ++ [x]).length m a l := by
    show (bif ilt m x then _ else bsI (pre.length + 1) m a l) = _
    rw [ilt_say, decide_eq_false g, el]; rfl
   have la : a < pre.length := (List.getElem?_eq_some_iff.1 ha).1
   rw [q, e]
   refine bsI_ix l (pre ++ [x]) m a (by rw [List.getElem?_append_left la]; exact ha) ?_ ?_
   ·intro j hj y hy
    rw [List.getElem?_append_left (by omega)] at hy
    exact hb j hj y hy
   ·intro y hy
    rcases List.mem_append.1 hy with hy | hy
    ·exact hm y hy
    ·simp only [List.mem_cons, List.not_mem_nil, or_false] at hy
     omega
theorem bsI_all (x : Int) (l : List Int) : (bsI 1 x 0 l).1 = mxI x l ∧ ixI (mxI x l) (x :: l) 0 = (bsI 1 x 0 l).2 := by
 have h := bsI_ix l [x] x 0 rfl (fun j hj => absurd hj (by omega)) (fun y hy => by
  simp only [List.mem_cons, List.not_mem_nil, or_false] at hy
  omega)
 have e := bsI_mx l 1 x 0
 refine ⟨e, ?_⟩
 rw [← e]
 have := ixI_at (bsI 1 x 0 l).1 (x :: l) (bsI 1 x 0 l).2 0 h.1 fun j hj y hy hyv => by
  have := h.2 j hj y hy
  rw [hyv] at this
  exact absurd this (Int.lt_irrefl _)
 rw [this]; omega
end Go.Proofs.YtihnnmejkpddeaaGreatDoor
/-! (OWN WORK. Stage 6: the longest span, how many are from a level on, what is held: inner loops.) -/
namespace Go.Proofs.YtihnnmejkpddeaaGreatDoor
open Go Go.Am
theorem scanH_rule {P : Program} {n : Nat} {ts : List Nat} {body : Code} (H : Nat → AHeap) (V : Nat → List Value) (I : Nat → Prop) (m : Nat) (hI : I 0) (Out : Exit → List Value → AHeap → Prop)
  (step : ∀ j, j < m → I j → ∀ g, J P body (stOf n (ts.zip (V j)) g) (H j) (told n ts fun ex vs h => match ex with
   | .normal => I (j + 1) ∧ vs = V (j + 1) ∧ h = H (j + 1)
   | ex => Out ex vs h))
  (last : I m → ∀ g, J P body (stOf n (ts.zip (V m)) g) (H m) (told n ts fun ex vs h => match ex with
   | .normal => False
   | ex => Out ex vs h)) :
  ∀ a, a.n = n → a.marks = [] → ts.map a.tmp = V 0 → J P (.loop body) a (H 0) (told n ts Out) := by
 intro a ha hm hv
 refine loop_rule (fun q vs h => ∃ j, j ≤ m ∧ q = m - j ∧ I j ∧ vs = V j ∧ h = H j) Out ?_ m _ (H 0) a ⟨0, Nat.zero_le _, rfl, hI, hv, rfl⟩ ha hm rfl
 rintro q vs h g ⟨j, hj, rfl, hIj, rfl, rfl⟩
 by_cases hjm : j < m
 ·refine (step j hjm hIj g).mono fun ex a' h' q => ?_
  obtain ⟨q1, q2, q3⟩ := told_facts q
  simp only [told, q1, q2, Nat.beq_refl]
  cases ex with
  | normal => exact (⟨m - (j + 1), by omega, j + 1, by omega, rfl, q3.1, q3.2.1, q3.2.2⟩)
  | _ => simpa using q3
 ·obtain rfl : j = m := by omega
  refine (last hIj g).mono fun ex a' h' q => ?_
  obtain ⟨q1, q2, q3⟩ := told_facts q
  simp only [told, q1, q2]
  cases ex with
  | normal => exact q3.elim
  | _ => simpa using q3
theorem rn_lt (v : Int) : ∀ (l : List Int) (i : Nat), i < rnN v l → ∃ x, l[i]? = some x ∧ ilt x v = false
 | [], i, h => absurd h (Nat.not_lt_zero _)
 | x :: l, i, h => by
  have h : i < (bif ilt x v then 0 else rnN v l + 1) := h
  cases e : ilt x v with
  | true => rw [e] at h; exact absurd h (Nat.not_lt_zero _)
  | false =>
   rw [e] at h
   cases i with
   | zero => exact ⟨x, rfl, e⟩
   | succ i => exact rn_lt v l i (Nat.lt_of_succ_lt_succ h)
theorem rn_at (v : Int) : ∀ (l : List Int) (x : Int), l[rnN v l]? = some x → ilt x v = true
 | [], x, h => by cases h
 | y :: l, x, h => by
  have h : (y :: l)[bif ilt y v then 0 else rnN v l + 1]? = some x := h
  cases e : ilt y v with
  | true => rw [e] at h; cases h; exact e
  | false => rw [e] at h; exact rn_at v l x h
theorem drop_get {l : List Int} {p i : Nat} : (l.drop p)[i]? = l[p + i]? := by rw [List.getElem?_drop]
theorem cell_at {l : List Int} {q : Nat} {x : Int} (h : l[q]? = some x) : (l.map gi)[0 + q * 1]? = some (gi (intAt (l.map gi) (0 + q * 1))) ∧ intAt (l.map gi) (0 + q * 1) = x := by
 have hq := (List.getElem?_eq_some_iff.1 h)
 obtain ⟨h1, h2⟩ := hq
 obtain ⟨a, b⟩ := first_at h1
 exact ⟨a, b.trans h2⟩
theorem upN_step (b : N2) (p i : Nat) : upN b p (i + 1) = bif Nat.blt ((upN b p i).2 - (upN b p i).1) (i + 1) then (p, p + (i + 1)) else upN b p i := by
 unfold upN
 cases e : Nat.blt (b.2 - b.1) i with
 | true =>
  have := blt_true e
  rw [show Nat.blt (b.2 - b.1) (i + 1) = true by rw [Nat.blt_eq]; omega]
  show _ = bif Nat.blt (p + i - p) (i + 1) then _ else _
  rw [show Nat.blt (p + i - p) (i + 1) = true by rw [Nat.blt_eq]; omega]; rfl
 | false => rfl
theorem upN_ok {b : N2} {n p i : Nat} (hb : b.1 ≤ b.2 ∧ b.2 ≤ n) (hp : p + i ≤ n) : (upN b p i).1 ≤ (upN b p i).2 ∧ (upN b p i).2 ≤ n := by
 unfold upN
 cases Nat.blt (b.2 - b.1) i with
 | true => exact ⟨by show p ≤ p + i; omega, hp⟩
 | false => exact hb
section
variable (l : List Int) (v : Int) (n : Nat) (hn : l.length = n) (h1 : n ≤ 65536)
include hn h1
set_option maxRecDepth 100000 in
theorem rli_loop (e row k p x y : Nat) (hp : p ≤ n) : ∀ a : AAct, a.n = 43 → a.marks = [] → [0, 1, 4, 5, 6, 7].map a.tmp = [liP n k, gi v, ptN 1, ptN 2, goN p, goN p] →
  J Tryz.prog (.loop (loopOf Tryz.prog 32 2)) a (h3 (l.map gi) e row x y) (told 43 [0, 1, 4, 5, 6, 7] fun ex vs h => ex = .exit 2 ∧ vs = [liP n k, gi v, ptN 1, ptN 2, goN p, goN (p + rnN v (l.drop p))] ∧ h = h3 (l.map gi) e row x y) := by
 have rl := rnN_le v (l.drop p)
 rw [List.length_drop] at rl
 refine scan_rule _ (fun i => [liP n k, gi v, ptN 1, ptN 2, goN p, goN (p + i)]) (fun _ => True) (rnN v (l.drop p)) trivial _ ?_ ?_
 ·intro i hi _ g
  obtain ⟨z, hz, hzv⟩ := rn_lt v _ i hi
  rw [drop_get] at hz
  obtain ⟨f1, f2⟩ := cell_at hz
  refine execC_ok mixed orcLa_ok askLa_ok (noLoops _) (Eq.mpr (rli_body (l.map gi) e row n k p (p + i) x y v g _) ⟨fun hlt => ⟨hlt, f1, fun _ => ⟨trivial, ?_, rfl⟩, fun hx => ?_⟩, fun hge => absurd (blt_false hge) (by omega)⟩)
  ·rw [fwrap_nat (by omega)]; rfl
  ·rw [f2, hzv] at hx; cases hx
 ·intro _ g
  refine execC_ok mixed orcLa_ok askLa_ok (noLoops _) (Eq.mpr (rli_body (l.map gi) e row n k p (p + rnN v (l.drop p)) x y v g _) ⟨fun hlt => ?_, fun _ => ⟨fun h => (by cases h), fun _ => ⟨rfl, rfl, rfl⟩⟩⟩)
  have hlt' := blt_true hlt
  obtain ⟨z, hz⟩ : ∃ z, l[p + rnN v (l.drop p)]? = some z := ⟨_, List.getElem?_eq_getElem (by omega)⟩
  obtain ⟨f1, f2⟩ := cell_at hz
  have hzv := rn_at v (l.drop p) z (by rw [drop_get]; exact hz)
  exact ⟨hlt, f1, fun hx => (by rw [f2, hzv] at hx; cases hx), fun _ => ⟨rfl, rfl, rfl⟩⟩
set_option maxRecDepth 100000 in
theorem li_loop (e row k p : Nat) (b : N2) (hp : p < n) (hb : b.1 ≤ b.2 ∧ b.2 ≤ n) : ∀ a : AAct, a.n = 45 → a.marks = [] → [0, 1, 4, 5, 6, 7, 9, 10].map a.tmp = [liP n k, gi v, ptN 1, ptN 2, goN p, goN (p + 1), goN n, goN p] →
  J Tryz.prog (.loop (loopOf Tryz.prog 97 2)) a (h3 (l.map gi) e row b.1 b.2) (told 45 [0, 1, 4, 5, 6, 7, 9, 10] fun ex vs h => h = h3 (l.map gi) e row (upN b p (rnN v (l.drop p))).1 (upN b p (rnN v (l.drop p))).2 ∧
   (∃ q, vs = [liP n k, gi v, ptN 1, ptN 2, goN p, goN q, goN n, goN p]) ∧ ((ex = .exit 0 ∧ p + rnN v (l.drop p) = n) ∨ (ex = .exit 1 ∧ p + rnN v (l.drop p) < n))) := by
 have rl := rnN_le v (l.drop p)
 rw [List.length_drop] at rl
 intro a ha hm hv
 have u0 : upN b p 0 = b := upN_stay (Nat.zero_le _)
 have := scanH_rule (P := Tryz.prog) (fun i => h3 (l.map gi) e row (upN b p i).1 (upN b p i).2) (fun i => [liP n k, gi v, ptN 1, ptN 2, goN p, goN (p + 1 + i), goN n, goN p]) (fun _ => True) (rnN v (l.drop p)) trivial (fun ex vs h => h = h3 (l.map gi) e row (upN b p (rnN v (l.drop p))).1 (upN b p (rnN v (l.drop p))).2 ∧
   (∃ q, vs = [liP n k, gi v, ptN 1, ptN 2, goN p, goN q, goN n, goN p]) ∧ ((ex = .exit 0 ∧ p + rnN v (l.drop p) = n) ∨ (ex = .exit 1 ∧ p + rnN v (l.drop p) < n))) (n := 45) (ts := [0, 1, 4, 5, 6, 7, 9, 10]) (body := loopOf Tryz.prog 97 2) ?_ ?_ a ha hm hv
 ·rw [u0] at this; exact this
 ·intro i hi _ g
  obtain ⟨z, hz, hzv⟩ := rn_lt v _ i hi
  rw [drop_get] at hz
  obtain ⟨f1, f2⟩ := cell_at hz
  obtain ⟨o1, o2⟩ := upN_ok (n := n) (b := b) (p := p) (i := i) hb (by omega)
  have e1 : Int.ofNat (p + 1 + i) - 1 = Int.ofNat (p + i) := by simp only [Int.ofNat_eq_natCast]; omega
  have us := upN_step b p i
  generalize hu : upN b p i = u at o1 o2 us ⊢
  refine execC_ok mixed orcLa_ok askLa_ok (noLoops _) (Eq.mpr (li_body (l.map gi) e row n k p (p + 1 + i) u.1 u.2 v g _) ⟨fun hlt => absurd (blt_true hlt) (by omega), fun _ => ⟨by rw [e1]; exact inI64_nat (by omega), ?_, by rw [e1]; exact f1, fun hx => ?_, fun _ => ⟨inI64_small (by simp only [Int.ofNat_eq_natCast]; omega) (by simp only [Int.ofNat_eq_natCast]; omega), inI64_small (by simp only [Int.ofNat_eq_natCast]; omega) (by simp only [Int.ofNat_eq_natCast]; omega), fun hc => ⟨trivial, ?_, ?_⟩, fun hc => ⟨trivial, ?_, ?_⟩⟩⟩⟩)
  ·rw [e1]
   show Nat.blt (p + i) n = true
   rw [Nat.blt_eq]; omega
  ·rw [e1] at hx
   have hx : ilt (intAt (l.map gi) (0 + (p + i) * 1)) v = true := hx
   rw [f2, hzv] at hx; cases hx
  ·rw [fwrap_nat (by omega)]; rfl
  ·rw [us, show Nat.blt (u.2 - u.1) (i + 1) = true by
    rw [ilt_say] at hc
    have := of_decide_eq_true hc
    simp only [Int.ofNat_eq_natCast] at this
    rw [Nat.blt_eq]; omega, cond_true, show p + (i + 1) = p + 1 + i by omega]
   show _ = _; kernel_rfl
  ·rw [fwrap_nat (by omega)]; rfl
  ·rw [us, show Nat.blt (u.2 - u.1) (i + 1) = false by
    rw [ilt_say] at hc
    have := of_decide_eq_false hc
    simp only [Int.ofNat_eq_natCast] at this
    cases q : Nat.blt (u.2 - u.1) (i + 1) with
    | false => rfl
    | true => rw [Nat.blt_eq] at q; omega, cond_false]
 ·intro _ g
  generalize hr : rnN v (l.drop p) = r at rl ⊢
  obtain ⟨o1, o2⟩ := upN_ok (n := n) (b := b) (p := p) (i := r) hb (by omega)
  have e1 : Int.ofNat (p + 1 + r) - 1 = Int.ofNat (p + r) := by simp only [Int.ofNat_eq_natCast]; omega
  refine execC_ok mixed orcLa_ok askLa_ok (noLoops _) (Eq.mpr (li_body (l.map gi) e row n k p (p + 1 + r) (upN b p r).1 (upN b p r).2 v g _) ⟨fun hlt => ⟨rfl, ⟨_, rfl⟩, .inl ⟨rfl, by have := blt_true hlt; omega⟩⟩, fun hge => ?_⟩)
  have hge := blt_false hge
  obtain ⟨z, hz⟩ : ∃ z, l[p + r]? = some z := ⟨_, List.getElem?_eq_getElem (by omega)⟩
  obtain ⟨f1, f2⟩ := cell_at hz
  have hzv := rn_at v (l.drop p) z (by rw [drop_get, hr]; exact hz)
  refine ⟨by rw [e1]; exact inI64_nat (by omega), ?_, by rw [e1]; exact f1, fun _ => ⟨rfl, ⟨_, rfl⟩, .inr ⟨rfl, by omega⟩⟩, fun hx => ?_⟩
  ·rw [e1]
   show Nat.blt (p + r) n = true
   rw [Nat.blt_eq]; omega
  ·rw [e1] at hx
   have hx : ilt (intAt (l.map gi) (0 + (p + r) * 1)) v = false := hx
   rw [f2, hzv] at hx; cases hx
end
noncomputable def amF (c : List Value) (p : Nat) : Nat → Int
 | 0 => intAt c (0 + p * 1)
 | i + 1 => if (intAt c (0 + (p + i) * 1) : Int) < amF c p i then intAt c (0 + (p + i) * 1) else amF c p i
theorem am_mn (c : List Value) (p : Nat) : ∀ i, amF c p (i + 1) = mnJ (fnI c (0 + p * 1)) i
 | 0 => by
  show (if (intAt c (0 + (p + 0) * 1) : Int) < intAt c (0 + p * 1) then intAt c (0 + (p + 0) * 1) else intAt c (0 + p * 1)) = intAt c (0 + p * 1 + 0 * 1)
  rw [show 0 + (p + 0) * 1 = 0 + p * 1 by omega, show 0 + p * 1 + 0 * 1 = 0 + p * 1 by omega]
  rw [if_neg (by omega)]
 | i + 1 => by
  show (if (intAt c (0 + (p + (i + 1)) * 1) : Int) < amF c p (i + 1) then intAt c (0 + (p + (i + 1)) * 1) else amF c p (i + 1)) = (if (fnI c (0 + p * 1) (i + 1) : Int) < mnJ (fnI c (0 + p * 1)) i then fnI c (0 + p * 1) (i + 1) else mnJ (fnI c (0 + p * 1)) i)
  rw [am_mn c p i, show 0 + (p + (i + 1)) * 1 = 0 + p * 1 + (i + 1) * 1 by omega]
set_option maxRecDepth 100000 in
theorem rhi_loop {c : List Value} {row n k s : Nat} (C : HvC c 0 n n s) (e p x y : Nat) (b : Int) (hp : p + s ≤ n) : ∀ a : AAct, a.n = 49 → a.marks = [] → [0, 1, 5, 6, 7, 8, 9, 10].map a.tmp = [liP n k, goN s, ptN 1, gi b, ptN 2, goN p, gi (intAt c (0 + p * 1)), goN p] →
  J Tryz.prog (.loop (loopOf Tryz.prog 34 2)) a (h3 c e row x y) (told 49 [0, 1, 5, 6, 7, 8, 9, 10] fun ex vs h => ex = .exit 2 ∧ vs = [liP n k, goN s, ptN 1, gi b, ptN 2, goN p, gi (wnF c p s), goN (p + s)] ∧ h = h3 c e row x y) := by
 have hn1 := C.n1
 have hs1 := C.s1
 have wn : amF c p s = wnF c p s := by
  obtain ⟨t, rfl⟩ : ∃ t, s = t + 1 := ⟨s - 1, by omega⟩
  rw [am_mn]; rfl
 refine scan_rule _ (fun i => [liP n k, goN s, ptN 1, gi b, ptN 2, goN p, gi (amF c p i), goN (p + i)]) (fun _ => True) s trivial _ ?_ ?_
 ·intro i hi _ g
  refine execC_ok mixed orcLa_ok askLa_ok (noLoops _) (Eq.mpr (rhi_body c e row n k s p (p + i) x y b (amF c p i) g _) ⟨fun _ => ⟨by rw [Nat.blt_eq]; omega, ?_, trivial, ?_, rfl⟩, fun hx => ?_⟩)
  ·rw [show 0 + (p + i) * 1 = p + i by omega]; exact C.at_ _ (by omega)
  ·rw [fwrap_nat (by omega)]; rfl
  ·rw [fwrap_nat (by omega), ilt_say] at hx
   have := of_decide_eq_false hx
   simp only [Int.ofNat_eq_natCast] at this
   omega
 ·intro _ g
  refine execC_ok mixed orcLa_ok askLa_ok (noLoops _) (Eq.mpr (rhi_body c e row n k s p (p + s) x y b (amF c p s) g _) ⟨fun hx => ?_, fun _ => ⟨rfl, by rw [wn], rfl⟩⟩)
  rw [fwrap_nat (by omega), ilt_say] at hx
  have := of_decide_eq_true hx
  omega
end Go.Proofs.YtihnnmejkpddeaaGreatDoor
/-! (OWN WORK. Stage 6: the longest span, what is held: rounds of outer loops.) -/
namespace Go.Proofs.YtihnnmejkpddeaaGreatDoor
open Go Go.Am
noncomputable def rnD (v : Int) (l : List Int) (p : Nat) : Nat := rnN v (l.drop p)
noncomputable def upX (x y p r : Nat) : Nat := (upN (x, y) p r).1
noncomputable def upY' (x y p r : Nat) : Nat := (upN (x, y) p r).2
def liC (l : List Int) (n p x y : Nat) : Prop := l.length = n ∧ n ≤ 65536 ∧ p < n ∧ x ≤ y ∧ y ≤ n
noncomputable def liLp (l : List Int) (v : Int) (n e row k p x y : Nat) : Loops Tryz.prog where
 body := fun _ => loopOf Tryz.prog 97 2
 spec := fun _ a h q => entry a 45 [(0, liP n k), (1, gi v), (4, ptN 1), (5, ptN 2), (6, goN p), (7, goN (p + 1)), (9, goN n), (10, goN p)] (h = h3 (l.map gi) e row x y ∧ liC l n p x y ∧
  (p + rnD v l p = n → ∀ g, q (.exit 0) (stOf 45 [(0, liP n k), (1, gi v), (4, ptN 1), (5, ptN 2), (9, goN n), (10, goN p)] g) (h3 (l.map gi) e row (upX x y p (rnD v l p)) (upY' x y p (rnD v l p)))) ∧
  (p + rnD v l p < n → ∀ g, q (.exit 1) (stOf 45 [(0, liP n k), (1, gi v), (4, ptN 1), (5, ptN 2), (9, goN n), (10, goN p)] g) (h3 (l.map gi) e row (upX x y p (rnD v l p)) (upY' x y p (rnD v l p)))))
 ok := fun i a h q w => by
  obtain ⟨h1, h2, h3', rfl, ⟨hn, hn1, hp, hb1, hb2⟩, h4, h5⟩ := entry_facts w
  refine J.of_told (li_loop l v n hn hn1 e row k p (x, y) hp ⟨hb1, hb2⟩ a h1 h2 ?_) ?_
  ·simp only [List.map_cons, List.map_nil]
   rw [h3' (0, liP n k) (by simp), h3' (1, gi v) (by simp), h3' (4, ptN 1) (by simp), h3' (5, ptN 2) (by simp), h3' (6, goN p) (by simp), h3' (7, goN (p + 1)) (by simp), h3' (9, goN n) (by simp), h3' (10, goN p) (by simp)]
  ·rintro ex vs h' g ⟨rfl, ⟨z, rfl⟩, ⟨rfl, hh⟩ | ⟨rfl, hh⟩⟩
   ·exact h4 hh (ov [(6, goN p), (7, goN z)] g)
   ·exact h5 hh (ov [(6, goN p), (7, goN z)] g)
theorem lo_body (l : List Int) (e row n k p x y : Nat) (v : Int) (g : Nat → Value) (Q : Exit → List Value → AHeap → Prop) : execC Tryz.prog (exec Tryz.prog orcLa 10) (syOf [(11, 1)]) askLa (liLp l v n e row k p x y) 40 (loopOf Tryz.prog 97 0) (stOf 45 [(0, liP n k), (1, gi v), (4, ptN 1), (5, ptN 2), (9, goN n), (10, goN p)] g) (h3 (l.map gi) e row x y) (told 45 [0, 1, 4, 5, 9, 10] Q) = (((Nat.blt p n = true → (loopOf Tryz.prog 97 2 = loopOf Tryz.prog 97 2 ∧ liP n k = liP n k ∧ gi v = gi v ∧ ptN 1 = ptN 1 ∧ ptN 2 = ptN 2 ∧ goN p = goN p ∧ gi (fwrap IntKind.i64 (Int.ofNat (p + 1))) = goN (p + 1) ∧ goN n = goN n ∧ goN p = goN p ∧ h3 (List.map gi l) e row x y = h3 (List.map gi l) e row x y ∧ liC l n p x y ∧ ((p + rnD v l p) = n → (∀ _ : Nat → Value, Q (.exit 0) [liP n k, gi v, ptN 1, ptN 2, goN n, goN p] (h3 (List.map gi l) e row (upX x y p (rnD v l p)) (upY' x y p (rnD v l p))))) ∧ (((p + rnD v l p) : Nat) < n → (∀ _ : Nat → Value, Q .normal [liP n k, gi v, ptN 1, ptN 2, goN n, gi (fwrap IntKind.i64 (Int.ofNat (p + 1)))] (h3 (List.map gi l) e row (upX x y p (rnD v l p)) (upY' x y p (rnD v l p))))))) ∧ (Nat.blt p n = false → Q (.exit 0) [liP n k, gi v, ptN 1, ptN 2, goN n, goN p] (h3 (List.map gi l) e row x y)))) := by kernel_rfl
def rliC (l : List Int) (n p : Nat) : Prop := l.length = n ∧ n ≤ 65536 ∧ p ≤ n
noncomputable def rliLp (l : List Int) (v : Int) (n e row k p x y : Nat) : Loops Tryz.prog where
 body := fun _ => loopOf Tryz.prog 32 2
 spec := fun _ a h q => entry a 43 [(0, liP n k), (1, gi v), (4, ptN 1), (5, ptN 2), (6, goN p), (7, goN p)] (h = h3 (l.map gi) e row x y ∧ rliC l n p ∧
  ∀ g, q (.exit 2) (stOf 43 [(0, liP n k), (1, gi v), (4, ptN 1), (5, ptN 2), (6, goN p), (7, goN (p + rnD v l p))] g) (h3 (l.map gi) e row x y))
 ok := fun i a h q w => by
  obtain ⟨h1, h2, h3', rfl, ⟨hn, hn1, hp⟩, h5⟩ := entry_facts w
  refine J.of_told (rli_loop l v n hn hn1 e row k p x y hp a h1 h2 ?_) ?_
  ·simp only [List.map_cons, List.map_nil]
   rw [h3' (0, liP n k) (by simp), h3' (1, gi v) (by simp), h3' (4, ptN 1) (by simp), h3' (5, ptN 2) (by simp), h3' (6, goN p) (by simp), h3' (7, goN p) (by simp)]
  ·rintro ex vs h' g ⟨rfl, rfl, rfl⟩
   exact h5 g
theorem rlo_body (l : List Int) (e row n k p x y : Nat) (v : Int) (g : Nat → Value) (Q : Exit → List Value → AHeap → Prop) : execC Tryz.prog (exec Tryz.prog orcLa 10) (syOf [(12, 1), (32, 33), (37, 33), (38, 1)]) askLa (rliLp l v n e row k p x y) 40 (loopOf Tryz.prog 32 0) (stOf 43 [(0, liP n k), (1, gi v), (4, ptN 1), (5, ptN 2), (6, goN p)] g) (h3 (l.map gi) e row x y) (told 43 [0, 1, 4, 5, 6] Q) = (((Nat.blt p n = true → (loopOf Tryz.prog 32 2 = loopOf Tryz.prog 32 2 ∧ liP n k = liP n k ∧ gi v = gi v ∧ ptN 1 = ptN 1 ∧ ptN 2 = ptN 2 ∧ goN p = goN p ∧ goN p = goN p ∧ h3 (List.map gi l) e row x y = h3 (List.map gi l) e row x y ∧ rliC l n p ∧ (∀ _ : Nat → Value, (inI64 (Int.ofNat (p + rnD v l p) - Int.ofNat p) = true ∧ inI64 (Int.ofNat y - Int.ofNat x) = true ∧ (ilt (Int.ofNat y - Int.ofNat x) (Int.ofNat (p + rnD v l p) - Int.ofNat p) = true → Q .normal [liP n k, gi v, ptN 1, ptN 2, gi (fwrap IntKind.i64 (Int.ofNat (p + 1)))] ((h3 (List.map gi l) e row x y).set (nG1 + 2) (.cells ([] ++ ([goN p, goN (p + rnD v l p)] ++ [])) 24 0 false))) ∧ (ilt (Int.ofNat y - Int.ofNat x) (Int.ofNat (p + rnD v l p) - Int.ofNat p) = false → Q .normal [liP n k, gi v, ptN 1, ptN 2, gi (fwrap IntKind.i64 (Int.ofNat (p + 1)))] (h3 (List.map gi l) e row x y)))))) ∧ (Nat.blt p n = false → Q (.exit 0) [liP n k, gi v, ptN 1, ptN 2, goN p] (h3 (List.map gi l) e row x y)))) := by kernel_rfl
noncomputable def rhiLp (c : List Value) (n e row k s p x y : Nat) (b : Int) : Loops Tryz.prog where
 body := fun _ => loopOf Tryz.prog 34 2
 spec := fun _ a h q => entry a 49 [(0, liP n k), (1, goN s), (5, ptN 1), (6, gi b), (7, ptN 2), (8, goN p), (9, gi (intAt c (0 + p * 1))), (10, goN p)] (h = h3 c e row x y ∧ (HvC c 0 n n s ∧ p + s ≤ n) ∧
  ∀ g, q (.exit 2) (stOf 49 [(0, liP n k), (1, goN s), (5, ptN 1), (6, gi b), (7, ptN 2), (8, goN p), (9, gi (wnF c p s))] g) (h3 c e row x y))
 ok := fun i a h q w => by
  obtain ⟨h1, h2, h3', rfl, ⟨C, hp⟩, h5⟩ := entry_facts w
  refine J.of_told (rhi_loop (row := row) (k := k) C e p x y b hp a h1 h2 ?_) ?_
  ·simp only [List.map_cons, List.map_nil]
   rw [h3' (0, liP n k) (by simp), h3' (1, goN s) (by simp), h3' (5, ptN 1) (by simp), h3' (6, gi b) (by simp), h3' (7, ptN 2) (by simp), h3' (8, goN p) (by simp), h3' (9, gi (intAt c (0 + p * 1))) (by simp), h3' (10, goN p) (by simp)]
  ·rintro ex vs h' g ⟨rfl, rfl, rfl⟩
   exact h5 (ov [(10, goN (p + s))] g)
theorem rho_body (c : List Value) (e row n k s p x y : Nat) (b : Int) (g : Nat → Value) (Q : Exit → List Value → AHeap → Prop) : execC Tryz.prog (exec Tryz.prog orcLa 10) (syOf [(17, 1), (22, 2), (23, 3), (40, 1)]) askLa (rhiLp c n e row k s p x y b) 40 (loopOf Tryz.prog 34 0) (stOf 49 [(0, liP n k), (1, goN s), (5, ptN 1), (6, gi b), (7, ptN 2), (8, goN p)] g) (h3 c e row x y) (told 49 [0, 1, 5, 6, 7, 8] Q) = ((((!(ilt (Int.ofNat n) (fwrap IntKind.i64 (Int.ofNat (p + s))))) = true → (Nat.blt p n = true ∧ c[(0 + (p * 1))]? = Option.some (gi (intAt c (0 + (p * 1)))) ∧ loopOf Tryz.prog 34 2 = loopOf Tryz.prog 34 2 ∧ liP n k = liP n k ∧ goN s = goN s ∧ ptN 1 = ptN 1 ∧ gi b = gi b ∧ ptN 2 = ptN 2 ∧ goN p = goN p ∧ gi (intAt c (0 + (p * 1))) = gi (intAt c (0 + (p * 1))) ∧ goN p = goN p ∧ h3 c e row x y = h3 c e row x y ∧ (HvC c 0 n n s ∧ ((p + s) : Nat) ≤ n) ∧ (∀ _ : Nat → Value, ((ilt b (wnF c p s) = true → Q .normal [liP n k, goN s, ptN 1, gi (wnF c p s), ptN 2, gi (fwrap IntKind.i64 (Int.ofNat (p + 1)))] ((h3 c e row x y).set (nG1 + 2) (.cells ([] ++ ([goN p, gi (fwrap IntKind.i64 (Int.ofNat (p + s)))] ++ [])) 24 0 false))) ∧ (ilt b (wnF c p s) = false → Q .normal [liP n k, goN s, ptN 1, gi b, ptN 2, gi (fwrap IntKind.i64 (Int.ofNat (p + 1)))] (h3 c e row x y)))))) ∧ ((!(ilt (Int.ofNat n) (fwrap IntKind.i64 (Int.ofNat (p + s))))) = false → Q (.exit 0) [liP n k, goN s, ptN 1, gi b, ptN 2, goN p] (h3 c e row x y)))) := by kernel_rfl
theorem ke_D (c d : List Value) (n k e row e' row' j q : Nat) (v : Int) (g : Nat → Value) (Q : Exit → List Value → AHeap → Prop) : execR Tryz.prog orcLa (fun _ => syOf []) askLa 60 [syOf [(11, 1), (12, 2), (13, 3), (16, 55), (20, 10)], syOf []] none (loopOf Tryz.prog 98 0) (stOf 23 [(1, cAb), (5, .slice (some ⟨nG1 + 2, 0, none⟩) q q), (8, liP n k), (9, goN n), (10, goN j)] g) (gD Tryz.prog (keB c e row v e' row') d 3) (told 23 [1, 5, 8, 9, 10] Q) = (((Nat.blt j n = true → (Nat.blt j n = true ∧ c[(0 + (j * 1))]? = Option.some (gi (intAt c (0 + (j * 1)))) ∧ Bool.rec (Q .normal [cAb, Value.slice (some ⟨nG1 + 2, 0, none⟩) q q, liP n k, goN n, gi (fwrap IntKind.i64 (Int.ofNat (j + 1)))] (gD Tryz.prog (keB c e row v e' row') d 3)) (And (Eq (Nat.ble (q + 1) q) false) (And (Eq (Nat.ble (((2 * (q + 1)) + 256) * 8) 281474976710656) true) (And (Eq (q * 1) (List.length d)) (Q .normal [cAb, Value.slice (some ⟨nG1 + 4, 0, none⟩) (q + 1) (q + 1), liP n k, goN n, gi (fwrap IntKind.i64 (Int.ofNat (j + 1)))] ((((gD Tryz.prog (keB c e row v e' row') d 3).push (.cells [gi (intAt c (0 + (j * 1)))] 3 2 false)).set (nG1 + 2) (.dead)).push (.cells (d ++ [gi (intAt c (0 + (j * 1)))]) 3 2 false)))))) (!(ilt (intAt c (0 + (j * 1))) v)))) ∧ (Nat.blt j n = false → Q (.exit 0) [cAb, Value.slice (some ⟨nG1 + 2, 0, none⟩) q q, liP n k, goN n, goN j] (gD Tryz.prog (keB c e row v e' row') d 3)))) := by kernel_rfl
end Go.Proofs.YtihnnmejkpddeaaGreatDoor
/-! (OWN WORK. Stage 6: the longest span, what is held: outer loops.) -/
namespace Go.Proofs.YtihnnmejkpddeaaGreatDoor
open Go Go.Am
noncomputable def bsN (v : Int) (l : List Int) : Nat → N2
 | 0 => (0, 0)
 | j + 1 => upN (bsN v l j) j (rnD v l j)
noncomputable def lgE (v : Int) (l : List Int) : N2 := lgR v 0 (0, 0) l
theorem lgR_pref (v : Int) (l : List Int) : ∀ j, j ≤ l.length → lgR v j (bsN v l j) (l.drop j) = lgE v l
 | 0, _ => rfl
 | j + 1, h => by
  rw [← lgR_pref v l j (by omega)]
  have hj : j < l.length := by omega
  have e := List.drop_eq_getElem_cons hj
  show lgR v (j + 1) (upN (bsN v l j) j (rnN v (l.drop j))) (l.drop (j + 1)) = lgR v j (bsN v l j) (l.drop j)
  rw [e]; rfl
theorem lgR_end (v : Int) (l : List Int) : bsN v l l.length = lgE v l := by
 have := lgR_pref v l l.length (Nat.le_refl _)
 rw [List.drop_eq_nil_of_le (Nat.le_refl _)] at this
 exact this
theorem bsN_ok (v : Int) (l : List Int) : ∀ j, j ≤ l.length → (bsN v l j).1 ≤ (bsN v l j).2 ∧ (bsN v l j).2 ≤ l.length
 | 0, _ => ⟨Nat.le_refl _, Nat.zero_le _⟩
 | j + 1, h => by
  refine upN_ok (bsN_ok v l j (by omega)) ?_
  have := rnN_le v (l.drop j)
  rw [List.length_drop] at this
  show j + rnN v (l.drop j) ≤ l.length
  omega
theorem lg_stop (v : Int) (l : List Int) {j : Nat} (h : j < l.length) (hr : j + rnD v l j = l.length) : bsN v l (j + 1) = lgE v l := by
 rw [← lgR_pref v l (j + 1) (by omega)]
 symm
 refine lgR_stay v _ _ _ ?_
 have := upN_le (bsN v l j) j (rnD v l j)
 rw [List.length_drop]
 show _ ≤ (upN (bsN v l j) j (rnD v l j)).2 - (upN (bsN v l j) j (rnD v l j)).1
 omega
section
variable (l : List Int) (v : Int) (n : Nat) (hn : l.length = n) (h1 : n ≤ 65536)
include hn h1
set_option maxRecDepth 100000 in
theorem lo_loop (e row k : Nat) : ∀ a : AAct, a.n = 45 → a.marks = [] → [0, 1, 4, 5, 9, 10].map a.tmp = [liP n k, gi v, ptN 1, ptN 2, goN n, goN 0] →
  J Tryz.prog (.loop (loopOf Tryz.prog 97 0)) a (h3 (l.map gi) e row 0 0) (told 45 [0, 1, 4, 5, 9, 10] fun ex vs h => ex = .exit 0 ∧ h = h3 (l.map gi) e row (lgE v l).1 (lgE v l).2 ∧ ∃ p, vs = [liP n k, gi v, ptN 1, ptN 2, goN n, goN p]) := by
 subst hn
 refine scanH_rule (P := Tryz.prog) (fun j => h3 (l.map gi) e row (bsN v l j).1 (bsN v l j).2) (fun j => [liP l.length k, gi v, ptN 1, ptN 2, goN l.length, goN j]) (fun _ => True) l.length trivial _ ?_ ?_
 ·intro j hj _ g
  obtain ⟨b1, b2⟩ := bsN_ok v l j (by omega)
  refine execC_ok mixed orcLa_ok askLa_ok (liLp l v l.length e row k j (bsN v l j).1 (bsN v l j).2) (Eq.mpr (lo_body l e row l.length k j _ _ v g _) ⟨fun hlt => ⟨rfl, rfl, rfl, rfl, rfl, rfl, by rw [fwrap_nat (by omega)], rfl, rfl, rfl, ⟨rfl, h1, hj, b1, b2⟩, fun hh _ => ⟨rfl, ?_, j, rfl⟩, fun hh _ => ⟨trivial, ?_, rfl⟩⟩, fun hge => absurd (blt_false hge) (by omega)⟩)
  ·rw [← lg_stop v l hj hh]; rfl
  ·rw [fwrap_nat (by omega)]
 ·intro _ g
  exact execC_ok mixed orcLa_ok askLa_ok (liLp l v l.length e row k l.length (bsN v l l.length).1 (bsN v l l.length).2) (Eq.mpr (lo_body l e row l.length k l.length _ _ v g _) ⟨fun hlt => absurd (blt_true hlt) (by omega), fun _ => ⟨rfl, by rw [lgR_end], _, rfl⟩⟩)
set_option maxRecDepth 100000 in
theorem rlo_loop (e row k : Nat) : ∀ a : AAct, a.n = 43 → a.marks = [] → [0, 1, 4, 5, 6].map a.tmp = [liP n k, gi v, ptN 1, ptN 2, goN 0] →
  J Tryz.prog (.loop (loopOf Tryz.prog 32 0)) a (h3 (l.map gi) e row 0 0) (told 43 [0, 1, 4, 5, 6] fun ex vs h => ex = .exit 0 ∧ h = h3 (l.map gi) e row (lgE v l).1 (lgE v l).2 ∧ ∃ p, vs = [liP n k, gi v, ptN 1, ptN 2, goN p]) := by
 subst hn
 refine scanH_rule (P := Tryz.prog) (fun j => h3 (l.map gi) e row (bsN v l j).1 (bsN v l j).2) (fun j => [liP l.length k, gi v, ptN 1, ptN 2, goN j]) (fun _ => True) l.length trivial _ ?_ ?_
 ·intro j hj _ g
  obtain ⟨b1, b2⟩ := bsN_ok v l j (by omega)
  have rl := rnN_le v (l.drop j)
  rw [List.length_drop] at rl
  have rl : rnD v l j ≤ l.length - j := rl
  have us : bsN v l (j + 1) = upN (bsN v l j) j (rnD v l j) := rfl
  generalize hu : bsN v l j = u at b1 b2 us ⊢
  have ed : Int.ofNat (j + rnD v l j) - Int.ofNat j = Int.ofNat (rnD v l j) := by simp only [Int.ofNat_eq_natCast]; omega
  refine execC_ok mixed orcLa_ok askLa_ok (rliLp l v l.length e row k j u.1 u.2) (Eq.mpr (rlo_body l e row l.length k j _ _ v g _) ⟨fun hlt => ⟨rfl, rfl, rfl, rfl, rfl, rfl, rfl, rfl, ⟨rfl, h1, by omega⟩, fun _ => ⟨by rw [ed]; exact inI64_nat (by omega), inI64_small (by simp only [Int.ofNat_eq_natCast]; omega) (by simp only [Int.ofNat_eq_natCast]; omega), fun hc => ⟨trivial, ?_, ?_⟩, fun hc => ⟨trivial, ?_, ?_⟩⟩⟩, fun hge => absurd (blt_false hge) (by omega)⟩)
  ·rw [fwrap_nat (by omega)]
  ·rw [ed, ilt_say] at hc
   have hc := of_decide_eq_true hc
   simp only [Int.ofNat_eq_natCast] at hc
   rw [us]
   unfold upN
   rw [show Nat.blt (u.2 - u.1) (rnD v l j) = true by rw [Nat.blt_eq]; omega, cond_true]
   show _ = _; kernel_rfl
  ·rw [fwrap_nat (by omega)]
  ·rw [ed, ilt_say] at hc
   have hc := of_decide_eq_false hc
   simp only [Int.ofNat_eq_natCast] at hc
   rw [us]
   unfold upN
   rw [show Nat.blt (u.2 - u.1) (rnD v l j) = false by
    cases q : Nat.blt (u.2 - u.1) (rnD v l j) with
    | false => rfl
    | true => rw [Nat.blt_eq] at q; omega, cond_false]
 ·intro _ g
  exact execC_ok mixed orcLa_ok askLa_ok (rliLp l v l.length e row k l.length (bsN v l l.length).1 (bsN v l l.length).2) (Eq.mpr (rlo_body l e row l.length k l.length _ _ v g _) ⟨fun hlt => absurd (blt_true hlt) (by omega), fun _ => ⟨rfl, by rw [lgR_end], _, rfl⟩⟩)
end
noncomputable def rhS (c : List Value) (s : Nat) : Nat → Int × N2
 | 0 => (-16385, (0, 0))
 | j + 1 => bif ilt (rhS c s j).1 (wnF c j s) then (wnF c j s, (j, j + s)) else rhS c s j
set_option maxRecDepth 100000 in
theorem rho_loop {c : List Value} {row n k s : Nat} (C : HvC c 0 n n s) (e : Nat) (hs : s ≤ n) : ∀ a : AAct, a.n = 49 → a.marks = [] → [0, 1, 5, 6, 7, 8].map a.tmp = [liP n k, goN s, ptN 1, gi (-16385), ptN 2, goN 0] →
  J Tryz.prog (.loop (loopOf Tryz.prog 34 0)) a (h3 c e row 0 0) (told 49 [0, 1, 5, 6, 7, 8] fun ex vs h => ex = .exit 0 ∧ h = h3 c e row (rhS c s (n + 1 - s)).2.1 (rhS c s (n + 1 - s)).2.2 ∧ vs = [liP n k, goN s, ptN 1, gi (rhS c s (n + 1 - s)).1, ptN 2, goN (n + 1 - s)]) := by
 have hn1 := C.n1
 have hs1 := C.s1
 refine scanH_rule (P := Tryz.prog) (fun j => h3 c e row (rhS c s j).2.1 (rhS c s j).2.2) (fun j => [liP n k, goN s, ptN 1, gi (rhS c s j).1, ptN 2, goN j]) (fun _ => True) (n + 1 - s) trivial _ ?_ ?_
 ·intro j hj _ g
  have us : rhS c s (j + 1) = bif ilt (rhS c s j).1 (wnF c j s) then (wnF c j s, (j, j + s)) else rhS c s j := rfl
  generalize rhS c s j = u at us ⊢
  refine execC_ok mixed orcLa_ok askLa_ok (rhiLp c n e row k s j u.2.1 u.2.2 u.1) (Eq.mpr (rho_body c e row n k s j u.2.1 u.2.2 u.1 g _) ⟨fun _ => ⟨by rw [Nat.blt_eq]; omega, ?_, rfl, rfl, rfl, rfl, rfl, rfl, rfl, rfl, rfl, rfl, ⟨C, by omega⟩, fun _ => ⟨fun hc => ⟨trivial, ?_, ?_⟩, fun hc => ⟨trivial, ?_, ?_⟩⟩⟩, fun hx => ?_⟩)
  ·rw [show 0 + j * 1 = j by omega]; exact C.at_ _ (by omega)
  ·rw [us, hc, fwrap_nat (by omega)]; rfl
  ·rw [us, hc, fwrap_nat (by omega), cond_true]
   show _ = _; kernel_rfl
  ·rw [us, hc, fwrap_nat (by omega)]; rfl
  ·rw [us, hc, cond_false]
  ·have hx := not_t hx
   rw [fwrap_nat (by omega), ilt_say] at hx
   have := of_decide_eq_true hx
   simp only [Int.ofNat_eq_natCast] at this
   omega
 ·intro _ g
  refine execC_ok mixed orcLa_ok askLa_ok (rhiLp c n e row k s (n + 1 - s) (rhS c s (n + 1 - s)).2.1 (rhS c s (n + 1 - s)).2.2 (rhS c s (n + 1 - s)).1) (Eq.mpr (rho_body c e row n k s (n + 1 - s) _ _ _ g _) ⟨fun hx => ?_, fun _ => ⟨rfl, rfl, rfl⟩⟩)
  have hx := not_f hx
  rw [fwrap_nat (by omega), ilt_say] at hx
  have := of_decide_eq_false hx
  simp only [Int.ofNat_eq_natCast] at this
  omega
noncomputable def kpL (v : Int) : List Int → List Int
 | [] => []
 | x :: l => bif !(ilt x v) then x :: kpL v l else kpL v l
theorem kpL_app (v : Int) : ∀ (l m : List Int), kpL v (l ++ m) = kpL v l ++ kpL v m
 | [], _ => rfl
 | x :: l, m => by
  show (bif !(ilt x v) then x :: kpL v (l ++ m) else kpL v (l ++ m)) = (bif !(ilt x v) then x :: kpL v l else kpL v l) ++ kpL v m
  rw [kpL_app v l m]
  cases (!(ilt x v)) <;> rfl
theorem kpL_take {l : List Int} {j : Nat} (v : Int) (hj : j < l.length) : kpL v (l.take (j + 1)) = kpL v (l.take j) ++ (bif !(ilt l[j] v) then [l[j]] else []) := by
 rw [List.take_add_one, List.getElem?_eq_getElem hj, kpL_app]; rfl
theorem kpL_len (v : Int) : ∀ l : List Int, (kpL v l).length ≤ l.length
 | [] => Nat.le_refl _
 | x :: l => by
  show (bif !(ilt x v) then x :: kpL v l else kpL v l).length ≤ l.length + 1
  have := kpL_len v l
  cases (!(ilt x v)) with
  | true => exact Nat.succ_le_succ this
  | false => exact Nat.le_succ_of_le this
set_option maxRecDepth 100000 in
theorem rab_loop (l : List Int) (v : Int) (e row k : Nat) (h1 : l.length ≤ 65536) : ∀ a : AAct, a.n = 22 → a.marks = [] → [0, 1, 5, 6].map a.tmp = [liP l.length k, gi v, gi 0, goN 0] →
  J Tryz.prog (.loop (loopOf Tryz.prog 33 0)) a (liH (l.map gi) e row) (told 22 [0, 1, 5, 6] fun ex vs h => ex = .exit 0 ∧ h = liH (l.map gi) e row ∧ vs = [liP l.length k, gi v, goN (kpL v l).length, goN l.length]) := by
 refine scan_rule _ (fun j => [liP l.length k, gi v, goN (kpL v (l.take j)).length, goN j]) (fun _ => True) l.length trivial _ ?_ ?_
 ·intro j hj _ g
  obtain ⟨f1, f2⟩ := first_at hj
  have kt := kpL_take v hj
  have kl := kpL_len v (l.take j)
  rw [List.length_take, Nat.min_eq_left (by omega)] at kl
  refine execC_ok mixed orcLa_ok askLa_ok (noLoops _) (Eq.mpr (rab_body (l.map gi) e row l.length k j v (Int.ofNat (kpL v (l.take j)).length) g _) ⟨fun hlt => ⟨hlt, f1, fun hx => ⟨trivial, ?_, rfl⟩, fun hx => ⟨trivial, ?_, rfl⟩⟩, fun hge => absurd (blt_false hge) (by omega)⟩)
  ·rw [f2] at hx
   rw [kt, hx, cond_true, List.length_append, fwrap_nat (by omega)]
   rw [fwrap_mid (by simp only [Int.ofNat_eq_natCast]; omega) (by simp only [Int.ofNat_eq_natCast]; omega)]; rfl
  ·rw [f2] at hx
   rw [kt, hx, cond_false, List.append_nil, fwrap_nat (by omega)]
 ·intro _ g
  refine execC_ok mixed orcLa_ok askLa_ok (noLoops _) (Eq.mpr (rab_body (l.map gi) e row l.length k l.length v _ g _) ⟨fun hlt => absurd (blt_true hlt) (by omega), fun _ => ⟨rfl, rfl, ?_⟩⟩)
  rw [List.take_of_length_le (Nat.le_refl _)]
noncomputable def keV (n k : Nat) : Nat → Value → List Value := fun j w => [cAb, w, liP n k, goN n, goN j]
set_option maxRecDepth 100000 in
theorem ke_loop (l : List Int) (v : Int) (e row k e' row' : Nat) (h1 : l.length ≤ 65536) : ∀ (s : AAct) (h : AHeap), GrownC Tryz.prog (keB (l.map gi) e row v e' row') 3 (keV l.length k) (fun j => (kpL v (l.take j)).map gi) 0 ([1, 5, 8, 9, 10].map s.tmp) h → s.n = 23 → s.marks = [] →
  J Tryz.prog (.loop (loopOf Tryz.prog 98 0)) s h (told 23 [1, 5, 8, 9, 10] fun ex vs h' => ex = .exit 0 ∧ ((kpL v l = [] ∧ vs = keV l.length k l.length nilS) ∨ (kpL v l ≠ [] ∧ vs = keV l.length k l.length (slP 2 (kpL v l).length (kpL v l).length) ∧ h' = gD Tryz.prog (keB (l.map gi) e row v e' row') ((kpL v l).map gi) 3))) := by
 intro s h hG hs hk
 have flv : ∀ b ∈ keB (l.map gi) e row v e' row', b.1.all (flat 3) = true := fun b hb => by
  simp only [List.mem_cons, List.not_mem_nil, or_false] at hb
  rcases hb with rfl | rfl
  ·exact flat_ints _
  ·rfl
 refine growC_rule (C := keB (l.map gi) e row v e' row') (el := 3) globs_pos (by decide) (by decide) flv (keV l.length k) (fun j => (kpL v (l.take j)).map gi) l.length _ (fun j => flat_ints _) (fun j => by kernel_rfl) (fun j q d hd => by
   obtain rfl | rfl | rfl | rfl : d = 0 ∨ d = 1 ∨ d = 2 ∨ d = 3 := by omega
   all_goals kernel_rfl)
  (fun j w q hq => by
   match q, hq with
   | 0, _ => exact ⟨(8, liP l.length k), by simp [keV], by simp [named]⟩
   | 1, _ => exact ⟨(1, cAb), by simp [keV], by simp [named, namedP]⟩) (fun j b q => ⟨(5, .slice (some ⟨b, 0, none⟩) q q), by simp [keV], by simp [named]⟩) ?_ ?_ ?_ ?_ s h hG hs hk
 ·intro j hj hx g
  obtain ⟨f1, f2⟩ := first_at (l := l) (j := j) hj
  have kt := kpL_take v hj
  have hx : kpL v (l.take j) = [] := List.map_eq_nil_iff.1 hx
  rw [hx, List.nil_append] at kt
  refine J.ofR mixed orcLa_ok askLa_ok (Eq.mpr (ke_A (l.map gi) l.length k e row e' row' j v g _) ⟨fun hlt => ⟨hlt, f1, ?_⟩, fun hge => absurd (blt_false hge) (by omega)⟩)
  rw [f2, fwrap_nat (by omega)]
  cases hb : (!(ilt l[j] v)) with
  | false =>
   rw [hb, cond_false] at kt
   exact ⟨fun q b hq => gC_get hq, .inl ⟨by show List.map gi (kpL v (l.take (j + 1))) = []; rw [kt]; rfl, rfl⟩⟩
  | true =>
   rw [hb, cond_true] at kt
   refine ⟨fun q b hq => ?_, .inr ⟨nG1 + 3, 1, rfl, by omega, by show List.map gi (kpL v (l.take (j + 1))) ≠ []; rw [kt]; simp, ?_, ?_⟩⟩
   ·match q, hq with
    | 0, hq => cases hq; show _ = _; kernel_rfl
    | 1, hq => cases hq; show _ = _; kernel_rfl
   ·show _ = keV l.length k (j + 1) (.slice (some ⟨nG1 + 3, 0, none⟩) (List.map gi (kpL v (l.take (j + 1)))).length (List.map gi (kpL v (l.take (j + 1)))).length)
    rw [kt]; rfl
   ·show _ = some (AObj.cells (List.map gi (kpL v (l.take (j + 1)))) _ _ _)
    rw [kt]; show _ = _; kernel_rfl
 ·intro j hj hx g
  obtain ⟨f1, f2⟩ := first_at (l := l) (j := j) hj
  have kt := kpL_take v hj
  have kl := kpL_len v (l.take j)
  rw [List.length_take, Nat.min_eq_left (by omega)] at kl
  refine J.ofR mixed orcLa_ok askLa_ok (Eq.mpr (ke_D (l.map gi) ((kpL v (l.take j)).map gi) l.length k e row e' row' j ((kpL v (l.take j)).map gi).length v g _) ⟨fun hlt => ⟨hlt, f1, ?_⟩, fun hge => absurd (blt_false hge) (by omega)⟩)
  rw [f2, fwrap_nat (by omega)]
  cases hb : (!(ilt l[j] v)) with
  | false =>
   rw [hb, cond_false, List.append_nil] at kt
   refine ⟨fun q b hq => gD_get hq, .inr ⟨nG1 + 2, 0, rfl, by omega, by show List.map gi (kpL v (l.take (j + 1))) ≠ []; rw [kt]; exact hx, ?_, ?_⟩⟩
   ·show _ = keV l.length k (j + 1) (.slice (some ⟨nG1 + 2, 0, none⟩) (List.map gi (kpL v (l.take (j + 1)))).length (List.map gi (kpL v (l.take (j + 1)))).length)
    rw [kt]; rfl
   ·show _ = some (AObj.cells (List.map gi (kpL v (l.take (j + 1)))) _ _ _)
    rw [kt]; show _ = _; kernel_rfl
  | true =>
   rw [hb, cond_true] at kt
   refine ⟨ble_noV (by omega), by rw [Nat.ble_eq, List.length_map]; omega, by omega, fun q b hq => ?_, .inr ⟨nG1 + 4, 2, rfl, by omega, by show List.map gi (kpL v (l.take (j + 1))) ≠ []; rw [kt]; simp, ?_, ?_⟩⟩
   ·match q, hq with
    | 0, hq => cases hq; show _ = _; kernel_rfl
    | 1, hq => cases hq; show _ = _; kernel_rfl
   ·show _ = keV l.length k (j + 1) (.slice (some ⟨nG1 + 4, 0, none⟩) (List.map gi (kpL v (l.take (j + 1)))).length (List.map gi (kpL v (l.take (j + 1)))).length)
    rw [kt, List.map_append, List.length_append]; rfl
   ·show _ = some (AObj.cells (List.map gi (kpL v (l.take (j + 1)))) _ _ _)
    rw [kt, List.map_append]; show _ = _; kernel_rfl
 ·intro hx g
  have hx : kpL v (l.take l.length) = [] := List.map_eq_nil_iff.1 hx
  rw [List.take_of_length_le (Nat.le_refl _)] at hx
  exact J.ofR mixed orcLa_ok askLa_ok (Eq.mpr (ke_A (l.map gi) l.length k e row e' row' l.length v g _) ⟨fun hlt => absurd (blt_true hlt) (by omega), fun _ => ⟨rfl, .inl ⟨hx, rfl⟩⟩⟩)
 ·intro hx g
  rw [List.take_of_length_le (Nat.le_refl _)] at hx ⊢
  refine J.ofR mixed orcLa_ok askLa_ok (Eq.mpr (ke_D (l.map gi) ((kpL v l).map gi) l.length k e row e' row' l.length ((kpL v l).map gi).length v g _) ⟨fun hlt => absurd (blt_true hlt) (by omega), fun _ => ⟨rfl, .inr ⟨fun h => hx (by rw [h]; rfl), ?_, rfl⟩⟩⟩)
  rw [List.length_map]; rfl
end Go.Proofs.YtihnnmejkpddeaaGreatDoor
/-! (OWN WORK. Stage 6: the longest span, how many are from a level on, what is held: carried out.) -/
namespace Go.Proofs.YtihnnmejkpddeaaGreatDoor
open Go Go.Am
def leC (l : List Int) (n : Nat) : Prop := l.length = n ∧ n ≤ 65536
noncomputable def loLp (l : List Int) (v : Int) (n e row k : Nat) : Loops Tryz.prog where
 body := fun _ => loopOf Tryz.prog 97 0
 spec := fun _ a h q => entry a 45 [(0, liP n k), (1, gi v), (4, ptN 1), (5, ptN 2), (9, goN n), (10, goN 0)] (h = h3 (l.map gi) e row 0 0 ∧ leC l n ∧
  ∀ g, q (.exit 0) (stOf 45 [(4, ptN 1), (5, ptN 2)] g) (h3 (l.map gi) e row (lgE v l).1 (lgE v l).2))
 ok := fun i a h q w => by
  obtain ⟨h1, h2, h3', rfl, ⟨hn, hn1⟩, h5⟩ := entry_facts w
  refine J.of_told (lo_loop l v n hn hn1 e row k a h1 h2 ?_) ?_
  ·simp only [List.map_cons, List.map_nil]
   rw [h3' (0, liP n k) (by simp), h3' (1, gi v) (by simp), h3' (4, ptN 1) (by simp), h3' (5, ptN 2) (by simp), h3' (9, goN n) (by simp), h3' (10, goN 0) (by simp)]
  ·rintro ex vs h' g ⟨rfl, rfl, p, rfl⟩
   exact h5 (ov [(0, liP n k), (1, gi v), (4, ptN 1), (5, ptN 2), (9, goN n), (10, goN p)] g)
noncomputable def rloLp (l : List Int) (v : Int) (n e row k : Nat) : Loops Tryz.prog where
 body := fun _ => loopOf Tryz.prog 32 0
 spec := fun _ a h q => entry a 43 [(0, liP n k), (1, gi v), (4, ptN 1), (5, ptN 2), (6, goN 0)] (h = h3 (l.map gi) e row 0 0 ∧ leC l n ∧
  ∀ g, q (.exit 0) (stOf 43 [(4, ptN 1), (5, ptN 2)] g) (h3 (l.map gi) e row (lgE v l).1 (lgE v l).2))
 ok := fun i a h q w => by
  obtain ⟨h1, h2, h3', rfl, ⟨hn, hn1⟩, h5⟩ := entry_facts w
  refine J.of_told (rlo_loop l v n hn hn1 e row k a h1 h2 ?_) ?_
  ·simp only [List.map_cons, List.map_nil]
   rw [h3' (0, liP n k) (by simp), h3' (1, gi v) (by simp), h3' (4, ptN 1) (by simp), h3' (5, ptN 2) (by simp), h3' (6, goN 0) (by simp)]
  ·rintro ex vs h' g ⟨rfl, rfl, p, rfl⟩
   exact h5 (ov [(0, liP n k), (1, gi v), (4, ptN 1), (5, ptN 2), (6, goN p)] g)
noncomputable def rhoLp (c : List Value) (n e row k s : Nat) : Loops Tryz.prog where
 body := fun _ => loopOf Tryz.prog 34 0
 spec := fun _ a h q => entry a 49 [(0, liP n k), (1, goN s), (5, ptN 1), (6, gi (-16385)), (7, ptN 2), (8, goN 0)] (h = h3 c e row 0 0 ∧ (HvC c 0 n n s ∧ s ≤ n) ∧
  ∀ g, q (.exit 0) (stOf 49 [(5, ptN 1), (6, gi (rhS c s (n + 1 - s)).1), (7, ptN 2)] g) (h3 c e row (rhS c s (n + 1 - s)).2.1 (rhS c s (n + 1 - s)).2.2))
 ok := fun i a h q w => by
  obtain ⟨h1, h2, h3', rfl, ⟨C, hs⟩, h5⟩ := entry_facts w
  refine J.of_told (rho_loop (row := row) (k := k) C e hs a h1 h2 ?_) ?_
  ·simp only [List.map_cons, List.map_nil]
   rw [h3' (0, liP n k) (by simp), h3' (1, goN s) (by simp), h3' (5, ptN 1) (by simp), h3' (6, gi (-16385)) (by simp), h3' (7, ptN 2) (by simp), h3' (8, goN 0) (by simp)]
  ·rintro ex vs h' g ⟨rfl, rfl, rfl⟩
   exact h5 (ov [(0, liP n k), (1, goN s), (5, ptN 1), (8, goN (n + 1 - s))] g)
noncomputable def rabLp (l : List Int) (v : Int) (n e row k : Nat) : Loops Tryz.prog where
 body := fun _ => loopOf Tryz.prog 33 0
 spec := fun _ a h q => entry a 22 [(0, liP n k), (1, gi v), (5, gi 0), (6, goN 0)] (h = liH (l.map gi) e row ∧ leC l n ∧ ∀ g, q (.exit 0) (stOf 22 [(5, goN (kpL v l).length)] g) (liH (l.map gi) e row))
 ok := fun i a h q w => by
  obtain ⟨h1, h2, h3', rfl, ⟨rfl, hn1⟩, h5⟩ := entry_facts w
  refine J.of_told (rab_loop l v e row k hn1 a h1 h2 ?_) ?_
  ·simp only [List.map_cons, List.map_nil]
   rw [h3' (0, liP l.length k) (by simp), h3' (1, gi v) (by simp), h3' (5, gi 0) (by simp), h3' (6, goN 0) (by simp)]
  ·rintro ex vs h' g ⟨rfl, rfl, rfl⟩
   exact h5 (ov [(0, liP l.length k), (1, gi v), (6, goN l.length)] g)
noncomputable def keH (c : List Value) (e row : Nat) (v : Int) (e' row' : Nat) : AHeap := canonT [] (fun _ => 0) Tryz.prog.globals.size (keB c e row v e' row')
noncomputable def keLp (l : List Int) (v : Int) (n e row k e' row' : Nat) : Loops Tryz.prog where
 body := fun _ => loopOf Tryz.prog 98 0
 spec := fun _ s h q => entry s 23 [(1, cAb), (5, nilS), (8, liP n k), (9, goN n), (10, goN 0)] ((h.get (nG1 + 0) = some (.cells (l.map gi) e row true) ∧ h.get (nG1 + 1) = some (.cells [gi v] e' row' true)) ∧ leC l n ∧
  (kpL v l = [] → ∀ g h', q (.exit 0) (stOf 23 [(5, nilS)] g) h') ∧ (kpL v l ≠ [] → ∀ g, q (.exit 0) (stOf 23 [(5, slP 2 (kpL v l).length (kpL v l).length)] g) (gD Tryz.prog (keB (l.map gi) e row v e' row') ((kpL v l).map gi) 3)))
 ok := fun i s h q w => by
  obtain ⟨h1, h2, h3', ⟨g0, g1⟩, ⟨rfl, hn1⟩, h4, h5⟩ := entry_facts w
  refine J.of_told (ke_loop l v e row k e' row' hn1 s h ⟨fun q b hb => ?_, .inl ⟨rfl, ?_⟩⟩ h1 h2) ?_
  ·match q, hb with
   | 0, hb => cases hb; exact g0
   | 1, hb => cases hb; exact g1
  ·simp only [List.map_cons, List.map_nil]
   rw [h3' (1, cAb) (by simp), h3' (5, nilS) (by simp), h3' (8, liP l.length k) (by simp), h3' (9, goN l.length) (by simp), h3' (10, goN 0) (by simp)]
   rfl
  ·rintro ex vs h' g ⟨rfl, ⟨hk, rfl⟩ | ⟨hk, rfl, rfl⟩⟩
   ·exact h4 hk (ov [(1, cAb), (8, liP l.length k), (9, goN l.length), (10, goN l.length)] g) h'
   ·exact h5 hk (ov [(1, cAb), (8, liP l.length k), (9, goN l.length), (10, goN l.length)] g)
theorem rho_run (c : List Value) (m e row k s : Nat) (K : Value → Prop) : callC Tryz.prog (exec Tryz.prog orcLa 10) (syOf []) askLa (rhoLp c (m + 1) e row k s) 40 34 #[liP (m + 1) k, goN s] (liH c e row) (fun v _ => K v) = ((loopOf Tryz.prog 34 0 = loopOf Tryz.prog 34 0 ∧ liP (m + 1) k = liP (m + 1) k ∧ goN s = goN s ∧ Value.pointer (some ⟨nG1 + 1, 0, none⟩) = ptN 1 ∧ gi (-16385) = gi (-16385) ∧ Value.pointer (some ⟨nG1 + 2, 0, none⟩) = ptN 2 ∧ gi 0 = goN 0 ∧ (((liH c e row).push (.cells [gi 0, gi 0] 24 0 false)).push (.cells [gi 0, gi 0] 24 0 false)).set (nG1 + 2) (.cells ([] ++ ([gi 0, gi 0] ++ [])) 24 0 false) = h3 c e row 0 0 ∧ (HvC c 0 (m + 1) (m + 1) s ∧ (s : Nat) ≤ (m + 1)) ∧ (∀ _ : Nat → Value, K (Value.tuple #[gi (((rhS c s (m + 1 + 1 - s)).1)), Value.agg (Array.mk (List.take 2 (List.drop 0 ([] ++ ([goN (((rhS c s (m + 1 + 1 - s)).snd.1)), goN (((rhS c s (m + 1 + 1 - s)).snd.2))] ++ [])))))])))) := by kernel_rfl
end Go.Proofs.YtihnnmejkpddeaaGreatDoor
/-! (OWN WORK. Stage 6, arithmetic: the program's way and the reference's way to what a series holds meet.) -/
namespace Go.Proofs.YtihnnmejkpddeaaGreatDoor
open Go Go.Am
noncomputable def wL (c : List Value) (s : Nat) : Nat → List Int
 | 0 => []
 | j + 1 => wL c s j ++ [wnF c j s]
theorem wL_len (c : List Value) (s : Nat) : ∀ j, (wL c s j).length = j
 | 0 => rfl
 | j + 1 => by
  show (wL c s j ++ [wnF c j s]).length = j + 1
  rw [List.length_append, wL_len c s j]; rfl
theorem allL_w (c : List Value) (s n : Nat) : ∀ j, allL c s n j = wL c s (min j (n + 1 - s))
 | 0 => by rw [Nat.zero_min]; rfl
 | j + 1 => by
  show allL c s n j ++ wsL c j s (min (j + s) n + 1 - (j + s)) = _
  rw [allL_w c s n j]
  by_cases h : j + s ≤ n
  ·rw [Nat.min_eq_left h, show j + s + 1 - (j + s) = 1 by omega, Nat.min_eq_left (show j ≤ n + 1 - s by omega), Nat.min_eq_left (show j + 1 ≤ n + 1 - s by omega)]; rfl
  ·rw [show min (j + s) n + 1 - (j + s) = 0 by omega, Nat.min_eq_right (show n + 1 - s ≤ j by omega), Nat.min_eq_right (show n + 1 - s ≤ j + 1 by omega)]
   exact List.append_nil _
theorem allL_all (c : List Value) (s n : Nat) (h1 : 0 < s) : allL c s n n = wL c s (n + 1 - s) := by
 rw [allL_w, Nat.min_eq_right (by omega)]
theorem bsI_app : ∀ (l : List Int) (i : Nat) (m : Int) (a : Nat) (x : Int), bsI i m a (l ++ [x]) = bif ilt (bsI i m a l).1 x then (x, i + l.length) else bsI i m a l
 | [], i, m, a, x => by
  show (bif ilt m x then bsI (i + 1) x i [] else bsI (i + 1) m a []) = bif ilt m x then (x, i + 0) else (m, a)
  rfl
 | y :: l, i, m, a, x => by
  show (bif ilt m y then bsI (i + 1) y i (l ++ [x]) else bsI (i + 1) m a (l ++ [x])) = bif ilt (bif ilt m y then bsI (i + 1) y i l else bsI (i + 1) m a l).1 x then (x, i + (l.length + 1)) else (bif ilt m y then bsI (i + 1) y i l else bsI (i + 1) m a l)
  cases ilt m y with
  | true =>
   rw [cond_true, cond_true, bsI_app l, show i + 1 + l.length = i + (l.length + 1) by omega]
  | false =>
   rw [cond_false, cond_false, bsI_app l, show i + 1 + l.length = i + (l.length + 1) by omega]
theorem rhS_bs (c : List Value) (s : Nat) (h0 : -16385 < wnF c 0 s) : ∀ j, rhS c s (j + 1) = ((bsI 0 (-16385) 0 (wL c s (j + 1))).1, ((bsI 0 (-16385) 0 (wL c s (j + 1))).2, (bsI 0 (-16385) 0 (wL c s (j + 1))).2 + s))
 | 0 => by
  show (bif ilt (-16385) (wnF c 0 s) then (wnF c 0 s, (0, 0 + s)) else (-16385, (0, 0))) = _
  have e : bsI 0 (-16385) 0 (wL c s 1) = (wnF c 0 s, 0) := by
   show (bif ilt (-16385) (wnF c 0 s) then (wnF c 0 s, 0) else (-16385, 0)) = _
   rw [ilt_say, decide_eq_true h0]; rfl
  rw [e, ilt_say, decide_eq_true h0]; rfl
 | j + 1 => by
  have ih := rhS_bs c s h0 j
  have e : bsI 0 (-16385) 0 (wL c s (j + 2)) = bif ilt (bsI 0 (-16385) 0 (wL c s (j + 1))).1 (wnF c (j + 1) s) then (wnF c (j + 1) s, 0 + (wL c s (j + 1)).length) else bsI 0 (-16385) 0 (wL c s (j + 1)) := bsI_app _ _ _ _ _
  show (bif ilt (rhS c s (j + 1)).1 (wnF c (j + 1) s) then (wnF c (j + 1) s, (j + 1, j + 1 + s)) else rhS c s (j + 1)) = _
  rw [e, ih, wL_len, Nat.zero_add]
  cases ilt (bsI 0 (-16385) 0 (wL c s (j + 1))).1 (wnF c (j + 1) s) <;> rfl
theorem fn_get {l : List Int} {j : Nat} {x : Int} (h : l[j]? = some x) : fnI (l.map gi) 0 j = x := by
 have := (cell_at h).2
 exact this
theorem mx_list : ∀ (r pre : List Int) (x : Int) (j : Nat), pre.length = j + 1 → mxJ (fnI ((pre ++ r).map gi) 0) j = x → mxJ (fnI ((pre ++ r).map gi) 0) (j + r.length) = mxI x r
 | [], pre, x, j, hp, h => h
 | y :: r, pre, x, j, hp, h => by
  have e : pre ++ y :: r = (pre ++ [y]) ++ r := by simp
  have hy : fnI ((pre ++ y :: r).map gi) 0 (j + 1) = y := fn_get (by rw [List.getElem?_append_right (by omega), hp, Nat.sub_self]; rfl)
  have st : mxJ (fnI ((pre ++ y :: r).map gi) 0) (j + 1) = if y > x then y else x := by
   show (if (fnI ((pre ++ y :: r).map gi) 0 (j + 1) : Int) > mxJ (fnI ((pre ++ y :: r).map gi) 0) j then _ else _) = _
   rw [hy, h]
  rw [e] at st ⊢
  have := mx_list r (pre ++ [y]) (if y > x then y else x) (j + 1) (by rw [List.length_append, hp]; rfl) st
  rw [show j + (y :: r).length = j + 1 + r.length by rw [List.length_cons]; omega]
  exact this
theorem mx_same (x : Int) (r : List Int) : mxJ (fnI ((x :: r).map gi) 0) r.length = mxI x r := by
 have := mx_list r [x] x 0 rfl (show fnI (([x] ++ r).map gi) 0 0 = x from fn_get rfl)
 rw [Nat.zero_add] at this
 exact this
theorem ix_list (v : Int) : ∀ (r pre : List Int) (q : Nat), ixI v r pre.length = pre.length + q → q < r.length → ixJ (fnI ((pre ++ r).map gi) 0) v r.length pre.length = Int.ofNat (pre.length + q)
 | [], pre, q, _, h => absurd h (Nat.not_lt_zero _)
 | y :: r, pre, q, hq, hl => by
  have hy : fnI ((pre ++ y :: r).map gi) 0 pre.length = y := fn_get (by rw [List.getElem?_append_right (Nat.le_refl _), Nat.sub_self]; rfl)
  show (bif ieq v (fnI ((pre ++ y :: r).map gi) 0 pre.length) then Int.ofNat pre.length else ixJ _ v r.length (pre.length + 1)) = _
  have hq : (bif ieq v y then pre.length else ixI v r (pre.length + 1)) = pre.length + q := hq
  rw [hy]
  cases e : ieq v y with
  | true =>
   rw [e, cond_true] at hq
   rw [cond_true, ← hq]
  | false =>
   rw [e, cond_false] at hq
   rw [cond_false]
   have el : (pre ++ [y]).length = pre.length + 1 := by simp
   have e2 : pre ++ y :: r = (pre ++ [y]) ++ r := by simp
   have ge : ∀ (l : List Int) (i : Nat), i ≤ ixI v l i := by
    intro l
    induction l with
    | nil => exact fun i => Nat.le_refl _
    | cons z l ih =>
     intro i
     show i ≤ bif ieq v z then i else ixI v l (i + 1)
     cases ieq v z with
     | true => exact Nat.le_refl _
     | false => exact Nat.le_trans (Nat.le_succ i) (ih (i + 1))
   have g1 := ge r (pre.length + 1)
   obtain ⟨q', rfl⟩ : ∃ q', q = q' + 1 := ⟨q - 1, by omega⟩
   have ih := ix_list v r (pre ++ [y]) q' (by rw [el, hq]; omega) (by rw [List.length_cons] at hl; omega)
   rw [el] at ih
   rw [e2, ih, show pre.length + 1 + q' = pre.length + (q' + 1) by omega]
theorem ix_same (v x : Int) (r : List Int) {q : Nat} (h : ixI v (x :: r) 0 = q) (hl : q < (x :: r).length) : ixJ (fnI ((x :: r).map gi) 0) v (r.length + 1) 0 = Int.ofNat q := by
 have := ix_list v (x :: r) [] q (by rw [List.length_nil, Nat.zero_add]; exact h) hl
 rw [List.length_nil, Nat.zero_add] at this
 exact this
theorem bsI_lt : ∀ (l : List Int) (i : Nat) (m : Int) (a : Nat), a < i → (bsI i m a l).2 < i + l.length
 | [], i, m, a, h => h
 | x :: l, i, m, a, h => by
  show (bif ilt m x then bsI (i + 1) x i l else bsI (i + 1) m a l).2 < i + (l.length + 1)
  cases ilt m x with
  | true => have := bsI_lt l (i + 1) x i (Nat.lt_succ_self _); rw [cond_true]; omega
  | false => have := bsI_lt l (i + 1) m a (by omega); rw [cond_false]; omega
theorem held_same {c : List Value} {s n : Nat} {x : Int} {r : List Int} (h1 : 0 < s) (hs : s ≤ n) (h0 : -16385 < wnF c 0 s) (hx : allL c s n n = x :: r) :
  mxJ (fnI ((x :: r).map gi) 0) r.length = (rhS c s (n + 1 - s)).1 ∧ ixJ (fnI ((x :: r).map gi) 0) (mxJ (fnI ((x :: r).map gi) 0) r.length) (r.length + 1) 0 = Int.ofNat (rhS c s (n + 1 - s)).2.1 ∧ (rhS c s (n + 1 - s)).2.2 = (rhS c s (n + 1 - s)).2.1 + s ∧ (rhS c s (n + 1 - s)).2.1 ≤ n := by
 rw [allL_all c s n h1] at hx
 obtain ⟨t, ht⟩ : ∃ t, n + 1 - s = t + 1 := ⟨n - s, by omega⟩
 rw [ht] at hx ⊢
 have rb := rhS_bs c s h0 t
 have x0 : x = wnF c 0 s := by
  have hg : (wL c s (t + 1))[0]? = some x := by rw [hx]; rfl
  have first : ∀ j, (wL c s (j + 1))[0]? = some (wnF c 0 s) := by
   intro j
   induction j with
   | zero => rfl
   | succ j ih =>
    show (wL c s (j + 1) ++ [wnF c (j + 1) s])[0]? = _
    rw [List.getElem?_append_left (by rw [wL_len]; omega)]
    exact ih
  rw [first t] at hg
  exact (Option.some.inj hg).symm
 have b0 : bsI 0 (-16385) 0 (x :: r) = bsI 1 x 0 r := by
  show (bif ilt (-16385) x then bsI 1 x 0 r else bsI 1 (-16385) 0 r) = _
  rw [x0, ilt_say, decide_eq_true h0]; rfl
 rw [hx, b0] at rb
 obtain ⟨a1, a2⟩ := bsI_all x r
 have lt := bsI_lt r 1 x 0 (by omega)
 have lenr : r.length = t := by
  have := congrArg List.length hx
  rw [wL_len, List.length_cons] at this
  omega
 rw [rb, mx_same, ← a1]
 rw [← a1] at a2
 have ln : (bsI 1 x 0 r).2 ≤ n := by omega
 exact ⟨rfl, ix_same (q := (bsI 1 x 0 r).2) _ x r a2 (by rw [List.length_cons]; omega), rfl, ln⟩
end Go.Proofs.YtihnnmejkpddeaaGreatDoor
