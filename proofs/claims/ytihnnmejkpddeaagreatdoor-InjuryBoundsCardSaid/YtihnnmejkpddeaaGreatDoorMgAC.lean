/-
  OWN WORK. Stage 6: sizes.
-/
import Derived.Test.YtihnnmejkpddeaaGreatDoorEuM
import Derived.Test.YtihnnmejkpddeaaGreatDoorLsA
import Derived.Test.YtihnnmejkpddeaaGreatDoorJcAE
/-! (OWN WORK. Stage 6: risk tables: their cells, their errors and their risks (arithmetic).) -/
namespace Go.Proofs.YtihnnmejkpddeaaGreatDoor
open Go Go.Am
abbrev P3 := Int × Int × Int
noncomputable def st3 (q : P3) : List Value := [gi q.1, gi q.2.1, gi q.2.2]
noncomputable abbrev ag3 (q : P3) : Value := .agg #[gi q.1, gi q.2.1, gi q.2.2]
noncomputable def cells3 : List P3 → List Value
 | [] => []
 | q :: l => gi q.1 :: gi q.2.1 :: gi q.2.2 :: cells3 l
theorem cells3_flat : ∀ l : List P3, (cells3 l).all (flat 3) = true
 | [] => rfl
 | _ :: l => cells3_flat l
noncomputable def dec3 : List Value → List P3
 | a :: b :: c :: r => (intOf a, intOf b, intOf c) :: dec3 r
 | _ => []
theorem dec3_cells : ∀ l : List P3, dec3 (cells3 l) = l
 | [] => rfl
 | q :: l => by
  show (q.1, q.2.1, q.2.2) :: dec3 (cells3 l) = q :: l
  rw [dec3_cells l]
noncomputable def ts3 : TellT P3 := ⟨cells3, dec3, dec3_cells, cells3_flat⟩
noncomputable def szE (a b : Int) : Int := firstS [withinS a 0 5000000000000, withinS b 1 1000000, whenS (ilt 0 b && !eqP (rqA a b, rqB a b) (a, b)) 1]
noncomputable def okI (a b : Int) : Bool := inI64 a && inI64 b
theorem okI_le {a b : Int} (h : okI a b = true) : inI64 a = true ∧ inI64 b = true := by
 unfold okI at h
 rwa [Bool.and_eq_true] at h
noncomputable abbrev frP (q : P3) : P2 := (q.1, q.2.1)
noncomputable def stA (p : P3) : Int := firstS [szE p.1 p.2.1, withinS p.2.2 0 1000]
noncomputable def stE (b p : P3) : Int := firstS [szE p.1 p.2.1, withinS p.2.2 0 1000, whenS (!(ilt 0 (cpR (frP p) (frP b))) || ilt p.2.2 b.2.2) 11]
noncomputable def rdE (b p : P3) : Int := bif ieq (stA p) 0 then whenS (!(ilt (cpR (frP b) (frP p)) 0) || ilt p.2.2 b.2.2) 11 else stA p
noncomputable def tbE : P3 → List P3 → Int
 | _, [] => 0
 | b, p :: r => bif ieq (stE b p) 0 then tbE p r else stE b p
def ordT : P3 → List P3 → Prop
 | _, [] => True
 | b, p :: r => gtR (frP p) (frP b) = true ∧ ordT p r
noncomputable def rkF (x : P2) : Int → List P3 → Int
 | a, [] => a
 | a, p :: r => rkF x (bif !(ilt 0 (cpR (frP p) x)) then p.2.2 else a) r
noncomputable def rkAt (l : List P3) : Nat → Int
 | 0 => 0
 | i + 1 => (l.getD i (0, 0, 0)).2.2
noncomputable def bY (c : Nat → Int) (K : Nat → Prop) : Nat → Nat → Nat → Prop
 | 0, i, _ => K i
 | f + 1, i, j => match Nat.blt i j with
  | true => (ilt (c ((i + j) / 2)) 0 = true → bY c K f ((i + j) / 2 + 1) j) ∧ (ilt (c ((i + j) / 2)) 0 = false → bY c K f i ((i + j) / 2))
  | false => K i
noncomputable def fY (n : Nat) (c : Nat → Int) (K : Nat → Prop) (i : Nat) : Prop := match Nat.blt i n with
 | true => (ieq (c i) 0 = true → K (i + 1)) ∧ (ieq (c i) 0 = false → K i)
 | false => (false = true → False) ∧ (false = false → K i)
noncomputable abbrev cAt (l : List P3) (x : P2) (i : Nat) : Int := cpR (frP (l.getD i (0, 0, 0))) x
theorem getD_some {l : List P3} {i : Nat} {p : P3} (h : l[i]? = some p) : l.getD i (0, 0, 0) = p := by
 rw [List.getD_eq_getElem?_getD, h]; rfl
end Go.Proofs.YtihnnmejkpddeaaGreatDoor
/-! (OWN WORK. Stage 6: sizes and bounds, carried out.) -/
namespace Go.Proofs.YtihnnmejkpddeaaGreatDoor
open Go Go.Am
theorem sz_run (a b : Int) (K : Value → Prop) : callC Tryz.prog (exec Tryz.prog orcJc 10) (syOf [(12, 1), (17, 7), (19, 15)]) askJc (noLoops _) 20 91 #[.agg #[gi a, gi b]] (emp Tryz.prog) (fun v _ => K v) = (([gi a, gi b][1]? = Option.some (gi b) ∧ [gi a, gi b][1]? = Option.some (gi b) ∧ [gi a, gi b][1]? = Option.some (gi b) ∧ (ilt 0 b = true → (ratB a b = true ∧ Value.agg #[gi a, gi b] = Value.agg #[gi a, gi b] ∧ K (gi (firstS [withinS a 0 5000000000000, withinS b 1 1000000, whenS (!(ieq (rqA a b) a && (ieq (rqB a b) b && true))) 1])))) ∧ (ilt 0 b = false → K (gi (firstS [withinS a 0 5000000000000, withinS b 1 1000000, 0]))))) := by kernel_rfl
theorem rsz_run (a b : Int) (K : Value → Prop) : callC Tryz.prog (exec Tryz.prog orcJc 10) (syOf [(13, 1), (19, 7), (21, 15)]) askJc (noLoops _) 20 23 #[.agg #[gi a, gi b]] (emp Tryz.prog) (fun v _ => K v) = (([gi a, gi b][1]? = Option.some (gi b) ∧ ((!(ieq (firstS [withinS a 0 5000000000000, withinS b 1 1000000]) 0)) = true → K (gi (firstS [withinS a 0 5000000000000, withinS b 1 1000000]))) ∧ ((!(ieq (firstS [withinS a 0 5000000000000, withinS b 1 1000000]) 0)) = false → (dvB a b = true ∧ Value.agg #[gi a, gi b] = Value.agg #[gi a, gi b] ∧ K (gi (whenS (!(ieq (rqA a b) a && (ieq (rqB a b) b && true))) 1)))))) := by kernel_rfl
theorem scp_run (a b r c d : Int) (K : Value → Prop) : callC Tryz.prog (exec Tryz.prog orcJc 10) (syOf []) askJc (noLoops _) 20 173 #[.agg #[gi a, gi b, gi r], .agg #[gi c, gi d]] (emp Tryz.prog) (fun v _ => K v) = (K (gi (cpR (Prod.mk a b) (Prod.mk c d)))) := by kernel_rfl
end Go.Proofs.YtihnnmejkpddeaaGreatDoor
/-! (OWN WORK. Stage 6: sizes as known calls; bounds, carried out.) -/
namespace Go.Proofs.YtihnnmejkpddeaaGreatDoor
open Go Go.Am
noncomputable def szL : List Value → Option (Bool × Value)
 | [.agg x] => match x.toList with
  | [.int .i64 a, .int .i64 b] => some (okI a b, gi (szE a b))
  | _ => none
 | _ => none
noncomputable def szU : List Value → Option Value
 | [.agg x] => match x.toList with
  | [.int .i64 a, .int .i64 b] => some (gi (szE a b))
  | _ => none
 | _ => none
noncomputable def scL : List Value → Option Value
 | [.agg x, .agg y] => match x.toList, y.toList with
  | [.int .i64 a, .int .i64 b, .int .i64 _], [.int .i64 c, .int .i64 d] => some (gi (cpR (a, b) (c, d)))
  | _, _ => none
 | _ => none
theorem sz_go {a b : Int} (h : ieq (firstS [withinS a 0 5000000000000, withinS b 1 1000000]) 0 = true) : szE a b = whenS (!eqP (rqA a b, rqB a b) (a, b)) 1 ∧ dvB a b = true := by
 rw [ieq_dec] at h
 have h := of_decide_eq_true h
 have h1 := firstS_none h _ (.head _)
 have h2 := firstS_none h _ (.tail _ (.head _))
 have g1 := within_zero h1
 have g2 := within_zero h2
 refine ⟨?_, dvB_of g1.1 (by omega) (by omega) (by omega)⟩
 unfold szE
 rw [h1, h2, ilt_say, decide_eq_true (by omega)]
 cases (!eqP (rqA a b, rqB a b) (a, b)) <;> rfl
theorem sz_no {a b : Int} (h : ieq (firstS [withinS a 0 5000000000000, withinS b 1 1000000]) 0 = false) : szE a b = firstS [withinS a 0 5000000000000, withinS b 1 1000000] := by
 unfold szE
 unfold firstS firstS firstS at h
 unfold firstS firstS firstS
 cases h1 : ieq (withinS a 0 5000000000000) 0 with
 | false => rfl
 | true =>
  rw [h1] at h
  cases h2 : ieq (withinS b 1 1000000) 0 with
  | false => rfl
  | true => rw [h2] at h; cases h
noncomputable def orcMa : Orc := orElse 91 (condO szL) (orElse 23 (flatSpec szU) (orElse 173 (flatSpec scL) orcJc))
set_option maxRecDepth 100000 in
theorem orcMa_ok : OrcOk Tryz.prog orcMa := by
 refine condO_ok (fun l v h => ?_) (flatSpec_ok (fun l v h => ?_) (flatSpec_ok (fun l v h => ?_) orcJc_ok))
 ·unfold szL at h
  split at h
  ·split at h
   ·rename_i a b ha
    injection h with h
    injection h with h1 h2
    obtain rfl := agg_eq ha
    obtain ⟨k1, k2⟩ := okI_le h1
    subst h2
    refine ⟨rfl, rfl, callC_ok mixed orcJc_ok askJc_ok (Eq.mpr (sz_run a b _) ⟨rfl, rfl, rfl, fun hb => ⟨ratB_of k1 k2 (by rw [ilt_say] at hb; exact of_decide_eq_true hb), rfl, ?_⟩, fun hb => ?_⟩)⟩
    ·show _ = gi (szE a b)
     unfold szE
     rw [hb]; rfl
    ·show _ = gi (szE a b)
     unfold szE
     rw [hb]; rfl
   ·cases h
  ·cases h
 ·unfold szU at h
  split at h
  ·split at h
   ·rename_i a b ha
    cases h
    obtain rfl := agg_eq ha
    refine ⟨rfl, rfl, callC_ok mixed orcJc_ok askJc_ok (Eq.mpr (rsz_run a b _) ⟨rfl, fun hz => ?_, fun hz => ?_⟩)⟩
    ·show _ = gi (szE a b)
     rw [sz_no (not_ieqT hz)]
    ·obtain ⟨e1, e2⟩ := sz_go (not_ieqF hz)
     exact ⟨e2, rfl, by show _ = gi (szE a b); rw [e1]; rfl⟩
   ·cases h
  ·cases h
 ·unfold scL at h
  split at h
  ·split at h
   ·rename_i ha hb
    cases h
    obtain rfl := agg_eq ha
    obtain rfl := agg_eq hb
    exact ⟨rfl, rfl, callC_ok mixed orcJc_ok askJc_ok (Eq.mpr (scp_run _ _ _ _ _ _) rfl)⟩
   ·cases h
  ·cases h
noncomputable def askMa : Asks := asksF 91 szL (skipA 23 (skipA 173 askJc))
theorem askMa_ok : AsksOk orcMa askMa := asksF_ok (skipA_ok (skipA_ok askJc_ok))
noncomputable abbrev bndV (a b c d : Int) (o : Bool) : Value := .agg #[gi a, gi b, gi c, gi d, .bool o]
end Go.Proofs.YtihnnmejkpddeaaGreatDoor
