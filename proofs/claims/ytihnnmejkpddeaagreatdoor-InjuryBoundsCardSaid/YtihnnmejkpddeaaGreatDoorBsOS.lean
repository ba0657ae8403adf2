/-
  OWN WORK. Stage 6: checks, worths, the best window known.
-/
import Derived.Test.YtihnnmejkpddeaaGreatDoorJcAE
import Derived.Test.YtihnnmejkpddeaaGreatDoorAmU
import Derived.Test.YtihnnmejkpddeaaGreatDoorBsHJ
import Derived.Test.YtihnnmejkpddeaaGreatDoorAm30
import Derived.Test.YtihnnmejkpddeaaGreatDoorBsKN
/-! (OWN WORK. Stage 6: checks of windows and lengths, carried out.) -/
namespace Go.Proofs.YtihnnmejkpddeaaGreatDoor
open Go Go.Am
noncomputable def ivSy (f : FuncId) : Sy := bif Nat.beq f 88 then syOf [(4, 55)] else syOf []
theorem cln_run (a b : Int) (K : Value → AHeap → Prop) : callR Tryz.prog orcJc ivSy askJc 60 88 #[.agg #[gi a, gi b]] (emp Tryz.prog) K = (([gi a, gi b][1]? = Option.some (gi b) ∧ [gi a, gi b][0]? = Option.some (gi a) ∧ [gi a, gi b][1]? = Option.some (gi b) ∧ [gi a, gi b][1]? = Option.some (gi b) ∧ [gi a, gi b][0]? = Option.some (gi a) ∧ K (gi (firstS [withinS a 1 128, withinS b 1 128, whenS (ilt b a) 11])) ((((emp Tryz.prog).push (.cells [gi a, gi b] 26 0 false)).push (.cells [gi a, gi b] 26 0 false)).push (.cells [gi (withinS a 1 128), gi (withinS b 1 128), gi (whenS (ilt b a) 11)] 33 2 false)))) := by kernel_rfl
theorem rln_run (a b : Int) (K : Value → Prop) : callC Tryz.prog (exec Tryz.prog orcJc 10) (syOf []) askJc (noLoops _) 40 22 #[.agg #[gi a, gi b]] (emp Tryz.prog) (fun v _ => K v) = (([gi a, gi b][1]? = Option.some (gi b) ∧ [gi a, gi b][0]? = Option.some (gi a) ∧ [gi a, gi b][1]? = Option.some (gi b) ∧ [gi a, gi b][1]? = Option.some (gi b) ∧ [gi a, gi b][0]? = Option.some (gi a) ∧ K (gi (firstS [withinS a 1 128, withinS b 1 128, whenS (ilt b a) 11])))) := by kernel_rfl
theorem pcw_run (n a b : Int) (K : Value → Prop) : callC Tryz.prog (exec Tryz.prog orcJc 10) (syOf [(7, 1), (13, 1), (19, 1)]) askJc (noLoops _) 40 85 #[.agg #[gi a, gi b], gi n] (emp Tryz.prog) (fun v _ => K v) = (((ilt a 0 = true → K (gi 14)) ∧ (ilt a 0 = false → (((!(ilt a b)) = true → K (gi 14)) ∧ ((!(ilt a b)) = false → ((ilt n b = true → K (gi 14)) ∧ (ilt n b = false → K (gi 0)))))))) := by kernel_rfl
theorem rcw_run (n a b : Int) (K : Value → Prop) : callC Tryz.prog (exec Tryz.prog orcJc 10) (syOf [(7, 1), (13, 1), (19, 1)]) askJc (noLoops _) 40 21 #[gi n, .agg #[gi a, gi b]] (emp Tryz.prog) (fun v _ => K v) = (((ilt a 0 = true → K (gi 14)) ∧ (ilt a 0 = false → (((!(ilt a b)) = true → K (gi 14)) ∧ ((!(ilt a b)) = false → ((ilt n b = true → K (gi 14)) ∧ (ilt n b = false → K (gi 0)))))))) := by kernel_rfl
end Go.Proofs.YtihnnmejkpddeaaGreatDoor
/-! (OWN WORK. Stage 6: the reference's worth of a window, carried out.) -/
namespace Go.Proofs.YtihnnmejkpddeaaGreatDoor
open Go Go.Am
noncomputable abbrev rwH (c : List Value) (e row p q : Nat) : AHeap := ((liH c e row).push (.cells [goN p, goN q] 24 0 false)).push (.cells [gi 0, gi 0] 28 0 false)
theorem rw_body (c : List Value) (e row n k p q i : Nat) (s : Int) (g : Nat → Value) (Q : Exit → List Value → AHeap → Prop) : execC Tryz.prog (exec Tryz.prog orcJc 10) (syOf [(12, 1), (18, 2), (19, 3)]) askJc (noLoops _) 40 (loopOf Tryz.prog 24 0) (stOf 33 [(0, liP n k), (3, ptN 1), (4, ptN 2), (5, gi s), (6, goN i)] g) (rwH c e row p q) (told 33 [0, 3, 4, 5, 6] Q) = (((Nat.blt i q = true → (Nat.blt i n = true ∧ c[(0 + (i * 1))]? = Option.some (gi (intAt c (0 + (i * 1)))) ∧ Q .normal [liP n k, ptN 1, ptN 2, gi (fwrap IntKind.i64 (s + intAt c (0 + (i * 1)))), gi (fwrap IntKind.i64 (Int.ofNat (i + 1)))] (rwH c e row p q))) ∧ (Nat.blt i q = false → Q (.exit 0) [liP n k, ptN 1, ptN 2, gi s, goN i] (rwH c e row p q)))) := by kernel_rfl
theorem rwE {c : List Value} {row n k : Nat} (C : BsOk c row n k) {p i q : Nat} (h1 : p ≤ i) (h2 : i < q) (h3 : q ≤ n) : fwrap IntKind.i64 (smC c i - smC c p + intAt c (0 + (i * 1))) = smC c (i + 1) - smC c p ∧ c[0 + i * 1]? = some (gi (intAt c (0 + i * 1))) := by
 have b1 := smB' C (j := i + 1) (by omega)
 have b2 := smB' C (j := p) (by omega)
 have e : smC c (i + 1) = smC c i + intAt c (0 + i * 1) := rfl
 refine ⟨?_, ?_⟩
 ·rw [show smC c i - smC c p + intAt c (0 + i * 1) = smC c (i + 1) - smC c p by omega]
  exact fwrap_mid (by omega) (by omega)
 ·have := (C.at_ i (by omega)).1
  rw [show 0 + i * 1 = i by omega]; exact this
set_option maxRecDepth 100000 in
theorem rw_loop {c : List Value} {row n k : Nat} (C : BsOk c row n k) (e : Nat) {p q : Nat} (hpq : p ≤ q) (hq : q ≤ n) : ∀ a : AAct, a.n = 33 → a.marks = [] → [0, 3, 4, 5, 6].map a.tmp = [liP n k, ptN 1, ptN 2, gi 0, goN p] →
  J Tryz.prog (.loop (loopOf Tryz.prog 24 0)) a (rwH c e row p q) (told 33 [0, 3, 4, 5, 6] fun ex vs h => ex = .exit 0 ∧ vs = [liP n k, ptN 1, ptN 2, gi (smC c q - smC c p), goN q] ∧ h = rwH c e row p q) := by
 intro a ha hm hv
 have hn1 := C.n1
 have z0 : smC c (p + 0) - smC c p = 0 := by rw [Nat.add_zero, Int.sub_self]
 refine scan_rule _ (fun j => [liP n k, ptN 1, ptN 2, gi (smC c (p + j) - smC c p), goN (p + j)]) (fun _ => True) (q - p) trivial _ ?_ ?_ a ha hm (by rw [hv, z0]; rfl)
 ·intro j hj _ g
  obtain ⟨e1, e2⟩ := rwE C (p := p) (i := p + j) (q := q) (by omega) (by omega) hq
  refine execC_ok mixed orcJc_ok askJc_ok (noLoops _) (Eq.mpr (rw_body c e row n k p q (p + j) _ g _) ⟨fun hlt => ⟨by rw [Nat.blt_eq]; omega, e2, trivial, ?_, rfl⟩, fun hge => absurd (blt_false hge) (by omega)⟩)
  rw [e1, fwrap_nat (by omega)]; rfl
 ·intro _ g
  refine execC_ok mixed orcJc_ok askJc_ok (noLoops _) (Eq.mpr (rw_body c e row n k p q (p + (q - p)) _ g _) ⟨fun hlt => absurd (blt_true hlt) (by omega), fun _ => ⟨rfl, ?_, rfl⟩⟩)
  rw [show p + (q - p) = q by omega]
def rwOk (c : List Value) (row n k p q : Nat) : Prop := BsOk c row n k ∧ p < q ∧ q ≤ n
noncomputable def rwLp (c : List Value) (n e row k p q : Nat) : Loops Tryz.prog where
 body := fun _ => loopOf Tryz.prog 24 0
 spec := fun _ a h x => entry a 33 [(0, liP n k), (3, ptN 1), (4, ptN 2), (5, gi 0), (6, goN p)] (h = rwH c e row p q ∧ rwOk c row n k p q ∧ ∀ g, x (.exit 0) (stOf 33 [(3, ptN 1), (4, ptN 2), (5, gi (smC c q - smC c p))] g) (rwH c e row p q))
 ok := fun i a h x y => by
  obtain ⟨h1, h2, h3, rfl, ⟨C, hpq, hq⟩, h4⟩ := entry_facts y
  refine J.of_told (rw_loop C e (Nat.le_of_lt hpq) hq a h1 h2 ?_) ?_
  ·simp only [List.map_cons, List.map_nil]
   rw [h3 (0, liP n k) (by simp), h3 (3, ptN 1) (by simp), h3 (4, ptN 2) (by simp), h3 (5, gi 0) (by simp), h3 (6, goN p) (by simp)]
  ·rintro ex vs h' g ⟨rfl, rfl, rfl⟩
   exact h4 (ov [(0, liP n k), (6, goN q)] g)
theorem rw_run1 (c : List Value) (n k e row p q : Nat) (K : Value → Prop) : callC Tryz.prog (exec Tryz.prog orcJc 20) (syOf [(22, 31)]) askJc (rwLp c n e row k p q) 40 24 #[liP n k, .agg #[goN p, goN q]] (liH c e row) (fun v _ => K v) = ((loopOf Tryz.prog 24 0 = loopOf Tryz.prog 24 0 ∧ liP n k = liP n k ∧ Value.pointer (some ⟨nG1 + 1, 0, none⟩) = ptN 1 ∧ Value.pointer (some ⟨nG1 + 2, 0, none⟩) = ptN 2 ∧ gi 0 = gi 0 ∧ goN p = goN p ∧ ((liH c e row).push (.cells [goN p, goN q] 24 0 false)).push (.cells [gi 0, gi 0] 28 0 false) = rwH c e row p q ∧ rwOk c row n k p q ∧ (∀ _ : Nat → Value, ((!(ilt 0 (smC c q - smC c p))) = true ∧ K (Value.agg (Array.mk (List.take 2 (List.drop 0 ([] ++ (List.take 2 (List.drop 0 ([] ++ ([gi 0, gi 1] ++ []))) ++ [])))))))))) := by kernel_rfl
theorem rw_run0 (c : List Value) (n k e row p q : Nat) (K : Value → Prop) : callC Tryz.prog (exec Tryz.prog orcJc 20) (syOf [(22, 32), (32, 7)]) askJc (rwLp c n e row k p q) 40 24 #[liP n k, .agg #[goN p, goN q]] (liH c e row) (fun v _ => K v) = ((loopOf Tryz.prog 24 0 = loopOf Tryz.prog 24 0 ∧ liP n k = liP n k ∧ Value.pointer (some ⟨nG1 + 1, 0, none⟩) = ptN 1 ∧ Value.pointer (some ⟨nG1 + 2, 0, none⟩) = ptN 2 ∧ gi 0 = gi 0 ∧ goN p = goN p ∧ ((liH c e row).push (.cells [goN p, goN q] 24 0 false)).push (.cells [gi 0, gi 0] 28 0 false) = rwH c e row p q ∧ rwOk c row n k p q ∧ (∀ _ : Nat → Value, ((!(ilt 0 (smC c q - smC c p))) = false ∧ dvB (fwrap IntKind.i64 ((smC c q - smC c p) * (smC c q - smC c p))) (fwrap IntKind.i64 (Int.ofNat q - Int.ofNat p)) = true ∧ K (Value.agg (Array.mk (List.take 2 (List.drop 0 ([] ++ ([gi (rqA (fwrap IntKind.i64 ((smC c q - smC c p) * (smC c q - smC c p))) (fwrap IntKind.i64 (Int.ofNat q - Int.ofNat p))), gi (rqB (fwrap IntKind.i64 ((smC c q - smC c p) * (smC c q - smC c p))) (fwrap IntKind.i64 (Int.ofNat q - Int.ofNat p)))] ++ [])))))))))) := by kernel_rfl
end Go.Proofs.YtihnnmejkpddeaaGreatDoor
/-! (OWN WORK. Stage 6: checks of windows and lengths, the reference's worth, the program's best window: known calls.) -/
namespace Go.Proofs.YtihnnmejkpddeaaGreatDoor
open Go Go.Am
noncomputable def lnE (a b : Int) : Int := firstS [withinS a 1 128, withinS b 1 128, whenS (ilt b a) 11]
noncomputable def cwE (n a b : Int) : Int := bif ilt a 0 then 14 else bif !(ilt a b) then 14 else bif ilt n b then 14 else 0
noncomputable def lnL : List Value → Option Value
 | [.agg x] => match x.toList with
  | [.int .i64 a, .int .i64 b] => some (gi (lnE a b))
  | _ => none
 | _ => none
noncomputable def pcL : List Value → Option Value
 | [.agg x, .int .i64 n] => match x.toList with
  | [.int .i64 a, .int .i64 b] => some (gi (cwE n a b))
  | _ => none
 | _ => none
noncomputable def rcL : List Value → Option Value
 | [.int .i64 n, .agg x] => match x.toList with
  | [.int .i64 a, .int .i64 b] => some (gi (cwE n a b))
  | _ => none
 | _ => none
theorem cwY {n a b : Int} {K : Value → Prop} (h : K (gi (cwE n a b))) : (ilt a 0 = true → K (gi 14)) ∧ (ilt a 0 = false → (((!(ilt a b)) = true → K (gi 14)) ∧ ((!(ilt a b)) = false → ((ilt n b = true → K (gi 14)) ∧ (ilt n b = false → K (gi 0)))))) := by
 unfold cwE at h
 refine ⟨fun h1 => ?_, fun h1 => ⟨fun h2 => ?_, fun h2 => ⟨fun h3 => ?_, fun h3 => ?_⟩⟩⟩
 ·rw [h1] at h; exact h
 ·rw [h1, h2] at h; exact h
 ·rw [h1, h2, h3] at h; exact h
 ·rw [h1, h2, h3] at h; exact h
noncomputable def ckO (o : Orc) : Orc := orElse 88 (flatSpec lnL) (orElse 22 (flatSpec lnL) (orElse 85 (flatSpec pcL) (orElse 21 (flatSpec rcL) o)))
set_option maxRecDepth 100000 in
theorem ckO_ok {o : Orc} (ho : OrcOk Tryz.prog o) : OrcOk Tryz.prog (ckO o) := by
 refine flatSpec_ok (fun l v h => ?_) (flatSpec_ok (fun l v h => ?_) (flatSpec_ok (fun l v h => ?_) (flatSpec_ok (fun l v h => ?_) ho)))
 ·unfold lnL at h
  split at h
  ·split at h
   ·rename_i a b ha
    cases h
    obtain rfl := agg_eq ha
    exact ⟨rfl, rfl, CallJ.ofR mixed orcJc_ok askJc_ok (Eq.mpr (cln_run a b _) ⟨rfl, rfl, rfl, rfl, rfl, rfl⟩)⟩
   ·cases h
  ·cases h
 ·unfold lnL at h
  split at h
  ·split at h
   ·rename_i a b ha
    cases h
    obtain rfl := agg_eq ha
    exact ⟨rfl, rfl, callC_ok mixed orcJc_ok askJc_ok (Eq.mpr (rln_run a b _) ⟨rfl, rfl, rfl, rfl, rfl, rfl⟩)⟩
   ·cases h
  ·cases h
 ·unfold pcL at h
  split at h
  ·split at h
   ·rename_i ha
    cases h
    obtain rfl := agg_eq ha
    exact ⟨rfl, rfl, callC_ok mixed orcJc_ok askJc_ok (Eq.mpr (pcw_run _ _ _ _) (cwY (K := fun u => u = gi (cwE _ _ _)) rfl))⟩
   ·cases h
  ·cases h
 ·unfold rcL at h
  split at h
  ·split at h
   ·rename_i ha
    cases h
    obtain rfl := agg_eq ha
    exact ⟨rfl, rfl, callC_ok mixed orcJc_ok askJc_ok (Eq.mpr (rcw_run _ _ _ _) (cwY (K := fun u => u = gi (cwE _ _ _)) rfl))⟩
   ·cases h
  ·cases h
noncomputable def ckA (A : Asks) : Asks := skipA 88 (skipA 22 (skipA 85 (skipA 21 A)))
theorem ckA_ok {o : Orc} {A : Asks} (h : AsksOk o A) : AsksOk (ckO o) (ckA A) := skipA_ok (skipA_ok (skipA_ok (skipA_ok h)))
noncomputable def agN : List Value → Nat × Nat
 | [.agg a] => match a.toList with
  | [.int .i64 x, .int .i64 y] => (x.toNat, y.toNat)
  | _ => (0, 0)
 | _ => (0, 0)
noncomputable abbrev agW (p q : Nat) : Value := .agg #[goN p, goN q]
theorem agN_at (p q : Nat) : agN [agW p q] = (p, q) := rfl
noncomputable abbrev rt2 (x : P2) : Value := .agg #[gi x.1, gi x.2]
def rwC (cs : List Value) (n k row : Nat) (r : List Value) : Prop := r = [agW (agN r).1 (agN r).2] ∧ rwOk cs row n k (agN r).1 (agN r).2
def beC (cs : List Value) (n k row : Nat) (r : List Value) : Prop := r = [agW (agN r).1 (agN r).2] ∧ boOk cs row n k (agN r).1 (agN r).2
open Classical in
noncomputable def hpX (C : List Value → Nat → Nat → Nat → List Value → Prop) (F : List Value → Nat → Nat → Nat → Value) (vs : List Value) (B : List Cells) : Option Out := hdY none (fun cs n k row r => if C cs n k row r then some (.plain (F cs n (agN r).1 (agN r).2)) else none) vs B
noncomputable def hpAY (D : List Value → Nat → Nat → Nat → Nat → Nat → Prop) (F : List Value → Nat → Nat → Nat → Value) (p q : Nat) (vs : List Value) (B : List Cells) (K : Out → Prop) : Prop := hdY False (fun cs n k row r => (r = [agW p q] ∧ D cs row n k p q) ∧ K (.plain (F cs n p q))) vs B
theorem hpA_ok {C : List Value → Nat → Nat → Nat → List Value → Prop} {F : List Value → Nat → Nat → Nat → Value} {D : List Value → Nat → Nat → Nat → Nat → Nat → Prop} (hC : ∀ cs n k row p q, D cs row n k p q → C cs n k row [agW p q]) (p q : Nat) (vs : List Value) (B : List Cells) (K : Out → Prop) (h : hpAY D F p q vs B K) : ∃ o, hpX C F vs B = some o ∧ K o := by
 unfold hpAY at h
 rcases hdY_inv (z := False) (f := fun cs n k row r => (r = [agW p q] ∧ D cs row n k p q) ∧ K (.plain (F cs n p q))) (vs := vs) (B := B) with x | ⟨cs, n, k, e, row, r, rfl, rfl⟩
 ·rw [x] at h; exact h.elim
 ·rw [hdY_at] at h
  obtain ⟨⟨rfl, h1⟩, h2⟩ := h
  exact ⟨.plain (F cs n p q), by unfold hpX; rw [hdY_at, if_pos (hC _ _ _ _ _ _ h1)]; rfl, h2⟩
theorem hpX_inv {C : List Value → Nat → Nat → Nat → List Value → Prop} {F : List Value → Nat → Nat → Nat → Value} {vs : List Value} {B : List Cells} {o : Out} (h : hpX C F vs B = some o) : ∃ (cs : List Value) (n k e row : Nat) (r : List Value), vs = liP n k :: r ∧ B = [(cs, e, row)] ∧ C cs n k row r ∧ o = .plain (F cs n (agN r).1 (agN r).2) := by
 rcases hdY_inv (z := (none : Option Out)) (f := fun cs n k row r => open Classical in if C cs n k row r then some (.plain (F cs n (agN r).1 (agN r).2)) else none) (vs := vs) (B := B) with x | ⟨cs, n, k, e, row, r, rfl, rfl⟩
 ·unfold hpX at h; rw [x] at h; cases h
 ·unfold hpX at h
  rw [hdY_at] at h
  split at h
  ·rename_i hc
   cases h
   exact ⟨cs, n, k, e, row, r, rfl, rfl, hc, rfl⟩
  ·cases h
noncomputable abbrev rwV (cs : List Value) (_ p q : Nat) : Value := rt2 (wtP cs p q)
noncomputable abbrev beV (cs : List Value) (n p q : Nat) : Value := v4W (bstW cs p q n)
noncomputable def orcBc : Orc := orElse 90 (anyO Tryz.prog.globals.size (hpX beC beV)) (orElse 24 (anyO Tryz.prog.globals.size (hpX rwC rwV)) (ckO orcBb))
theorem gz_zero (b : Int) (hb : 0 < b) : rqA 0 b = 0 ∧ rqB 0 b = 1 := by
 have e : gz 0 b = b := by
  unfold gz
  rw [show Nat.gcd (Int.natAbs 0) b.natAbs = b.natAbs by simp]
  show (b.natAbs : Int) = b
  omega
 unfold rqA rqB
 rw [e]
 exact ⟨Int.zero_tdiv b, Int.tdiv_self (by omega)⟩
theorem bst_mx {c : List Value} {lo hi n : Nat} {x : W4} {r : List W4} (h : alW c lo hi n n = x :: r) : mxG4 (x :: r) = bstW c lo hi n := by
 unfold bstW; rw [h]; rfl
set_option maxRecDepth 100000 in
theorem orcBc_ok : OrcOk Tryz.prog orcBc := by
 refine anyO_ok globs_pos (anyO_ok globs_pos (ckO_ok orcBb_ok) ?_) ?_
 ·intro vs B o h _
  obtain ⟨cs, n, k, e, row, r, rfl, rfl, ⟨hr, C, hpq, hq⟩, rfl⟩ := hpX_inv h
  refine ⟨rfl, ?_⟩
  rw [hr, agN_at]
  generalize (agN r).1 = p at *
  generalize (agN r).2 = q at *
  show CallJ Tryz.prog 24 #[liP n k, agW p q] (liH cs e row) (fun v _ => v = rt2 (wtP cs p q))
  have hn1 := C.n1
  have b1 := smB' C (j := p) (by omega)
  have b2 := smB' C (j := q) (by omega)
  cases hz : (!(ilt 0 (smC cs q - smC cs p))) with
  | true =>
   have h0 : sm0 cs p q = 0 := by unfold sm0; rw [not_f hz]; rfl
   have g := gz_zero (Int.ofNat (q - p)) (by simp only [Int.ofNat_eq_natCast]; omega)
   refine callC_ok mixed orcJc_ok askJc_ok (Eq.mpr (rw_run1 cs n k e row p q _) ⟨rfl, rfl, rfl, rfl, rfl, rfl, rfl, ⟨C, hpq, hq⟩, fun _ => ⟨hz, ?_⟩⟩)
   unfold wtP
   rw [h0, show (0 : Int) * 0 = 0 from rfl, g.1, g.2]; rfl
  | false =>
   have h0 : sm0 cs p q = smC cs q - smC cs p := by unfold sm0; rw [not_t hz]; rfl
   have b3 := sq_bd (sm0_bd C (Nat.le_of_lt hpq) hq).1 (sm0_bd C (Nat.le_of_lt hpq) hq).2
   rw [h0] at b3
   have e1 : fwrap IntKind.i64 ((smC cs q - smC cs p) * (smC cs q - smC cs p)) = (smC cs q - smC cs p) * (smC cs q - smC cs p) := fwrap_mid (by omega) (by omega)
   have e2 : fwrap IntKind.i64 (Int.ofNat q - Int.ofNat p) = Int.ofNat (q - p) := bvY_eq (Nat.le_of_lt hpq) (by omega)
   refine callC_ok mixed orcJc_ok askJc_ok (Eq.mpr (rw_run0 cs n k e row p q _) ⟨rfl, rfl, rfl, rfl, rfl, rfl, rfl, ⟨C, hpq, hq⟩, fun _ => ⟨hz, ?_, ?_⟩⟩)
   ·rw [e1, e2]
    exact dvB_of b3.1 (by omega) (by simp only [Int.ofNat_eq_natCast]; omega) (by simp only [Int.ofNat_eq_natCast]; omega)
   ·unfold wtP
    rw [e1, e2, h0]; rfl
 ·intro vs B o h _
  obtain ⟨cs, n, k, e, row, r, rfl, rfl, ⟨hr, O⟩, rfl⟩ := hpX_inv h
  refine ⟨rfl, ?_⟩
  rw [hr, agN_at]
  generalize (agN r).1 = lo at *
  generalize (agN r).2 = hi at *
  have C := O.1
  obtain ⟨m, rfl⟩ : ∃ m, n = m + 1 := ⟨n - 1, by have := C.n0; omega⟩
  show CallJ Tryz.prog 90 #[liP (m + 1) k, agW lo hi] (liH cs e row) (fun v _ => v = v4W (bstW cs lo hi (m + 1)))
  refine callS_ok mixed orcBb_ok askBb_ok (Eq.mpr (bst_run cs e row m k lo hi _) ⟨⟨C.cf, trivial⟩, ⟨C, rfl⟩, rfl, by kernel_rfl, O, by kernel_rfl, rfl, rfl, rfl, rfl, rfl, fun x r g hx => ⟨⟨cells4_flat _, trivial⟩, ?_, rfl, ?_⟩⟩)
  ·have len := alW_len cs lo hi (m + 1) (m + 1)
   have h1 := C.n1
   have len2 : (m + 1) * (m + 1 + 1) ≤ 128 * 129 := Nat.mul_le_mul (by omega) (by omega)
   rw [hx, List.length_cons] at len
   exact okT_of (T := t4T) (l := x :: r) rfl (Nat.succ_pos _) (by omega)
  ·rw [show t4T.dec (cells4 (x :: r)) = x :: r from dec4_cells _, bst_mx hx]
   rfl
noncomputable def askBc (p q lo hi : Nat) : Asks := asksV Tryz.prog.globals.size 90 (hpAY boOk beV lo hi) (asksV Tryz.prog.globals.size 24 (hpAY rwOk rwV p q) (ckA askBb))
theorem askBc_ok (p q lo hi : Nat) : AsksOk orcBc (askBc p q lo hi) := asksV_ok (hpA_ok (fun _ _ _ _ _ _ h => ⟨rfl, h⟩) lo hi) (asksV_ok (hpA_ok (fun _ _ _ _ _ _ h => ⟨rfl, h⟩) p q) (ckA_ok askBb_ok))
end Go.Proofs.YtihnnmejkpddeaaGreatDoor
