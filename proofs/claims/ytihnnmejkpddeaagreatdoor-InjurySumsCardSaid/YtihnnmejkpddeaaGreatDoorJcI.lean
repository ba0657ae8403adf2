/-
  OWN WORK. Stage 6: errors of pairs, the greatest ratio and its place, as known calls.
-/
import Derived.Test.YtihnnmejkpddeaaGreatDoorJcH
namespace Go.Proofs.YtihnnmejkpddeaaGreatDoor
open Go Go.Am

noncomputable def pairE (a b : List Int) : Int := firstS [serE a, serE b, whenS (!(ieq (Int.ofNat a.length) (Int.ofNat b.length))) 2]
def one2 {α β : Type} (c : Value) (_ : List α) (_ : List β) (r : List Value) : Prop := r = [c]
noncomputable abbrev paiO (a b : List Int) (_ : List Value) : Out := .plain (gi (pairE a b))
noncomputable def mxG : List P2 → P2
  | [] => (0, 0)
  | y :: r => mxF y r
noncomputable abbrev rtV (x : P2) : Value := .agg #[gi x.1, gi x.2]
noncomputable abbrev mxfO (_ : Nat) (l : List P2) (_ : List Value) : Out := .plain (rtV (mxG l))
noncomputable def agP : List Value → P2
  | [.agg a] => match a.toList with
    | [.int .i64 x, .int .i64 y] => (x, y)
    | _ => (0, 0)
  | _ => (0, 0)
def isP (_ : List P2) (r : List Value) : Prop := r = [rtV (agP r)]
noncomputable abbrev ixfO (_ : Nat) (l : List P2) (r : List Value) : Out := .plain (gi (idxB (eqP (agP r)) l 0))
noncomputable def orcJe : Orc := orElse 162 (s1O tpT isP ixfO) (orElse 161 (s1O tpT (oneC cQc) mxfO) (orElse 104 (s2Oo tiT tiT (one2 cSe) paiO) orcJd))
set_option maxRecDepth 100000 in
theorem orcJe_ok : OrcOk Tryz.prog orcJe := by
  refine s1O_ok (s1O_ok (s2O_ok orcJd_ok (fun _ _ _ _ => rfl) ?_) (fun _ _ _ _ => rfl) ?_) (fun _ _ _ _ => rfl) ?_
  · rintro a b m k e row m' k' e' row' r hl h1 hl' h1' rfl
    refine callC_ok mixed orcJd_ok askJd_ok (Eq.mpr (cpa_run a b m e row k m' e' row' k' _) ⟨⟨flat_ints a, trivial⟩, okI hl h1, rfl, ⟨flat_ints b, trivial⟩, okI hl' h1', rfl, ?_⟩)
    rw [decT, decT]
    show _ = gi (pairE a b)
    unfold pairE; rw [hl, hl']
  · rintro l m k e row r hl h1 rfl
    match l, hl with
    | y :: r, hl =>
    have hl' : r.length = m := by simpa using hl
    exact callC_ok mixed orcJd_ok askJd_ok (Eq.mpr (mxf_run y r m e row k _) ⟨rfl, rfl, rfl, rfl, rfl, rfl, by kernel_rfl, by kernel_rfl, by kernel_rfl, ⟨by omega, h1⟩, fun _ => rfl⟩)
  · rintro l m k e row r hl h1 hr
    have hr' : r = [rtV (agP r)] := hr
    generalize agP r = x at hr' ⊢
    subst hr'
    refine callC_ok mixed orcJd_ok askJd_ok (Eq.mpr (ixf_run l x m e row k _) ⟨rfl, rfl, rfl, rfl, rfl, rfl, rfl, ⟨hl, h1⟩, fun h _ => ?_, fun _ => rfl⟩)
    show gi (-1) = gi (idxB (eqP x) l 0)
    rw [h]
noncomputable def askJe : Asks := asksV Tryz.prog.globals.size 162 (s1AY tpT isP ixfO) (asksV Tryz.prog.globals.size 161 (s1AY tpT (oneC cQc) mxfO) (asksV Tryz.prog.globals.size 104 (s2AY tiT tiT (one2 cSe) paiO) askJd))
theorem askJe_ok : AsksOk orcJe askJe := asksV_ok (s1A_ok fun _ _ _ h => ⟨h, rfl⟩) (asksV_ok (s1A_ok fun _ _ _ h => ⟨h, rfl⟩) (asksV_ok (s2A_ok fun _ _ _ h => ⟨h, rfl⟩) askJd_ok))
theorem gr_run (l : List P2) (m e row k : Nat) (K : Value → Prop) : callC Tryz.prog (exec Tryz.prog orcJe 10) (syOf [(6, 7), (9, 7)]) askJe (noLoops _) 40 106 #[liP (m + 1) k] (canon Tryz.prog [(cellsP l, e, row)]) (fun v _ => K v) = (((List.all (cellsP l) (flat 3) = true ∧ True) ∧ okT tpT (cellsP l) (m + 1) ∧ oneC cQc (TellT.dec tpT (cellsP l)) [Value.func (.func 149) #[] #[]] ∧ (List.all (cellsP l) (flat 3) = true ∧ True) ∧ okT tpT (cellsP l) (m + 1) ∧ isP (TellT.dec tpT (cellsP l)) [Value.agg (Array.mk (List.take 2 (List.drop 0 ([] ++ ([gi (((mxG (tpT.dec (cellsP l, e, row).fst)).1)), gi (((mxG (tpT.dec (cellsP l, e, row).fst)).2))] ++ [])))))] ∧ Value.agg (Array.mk (List.take 2 (List.drop 0 ([] ++ ([gi (((mxG (tpT.dec (cellsP l, e, row).fst)).1)), gi (((mxG (tpT.dec (cellsP l, e, row).fst)).2))] ++ []))))) = Value.agg (Array.mk (List.take 2 (List.drop 0 ([] ++ ([gi (((mxG (tpT.dec (cellsP l, e, row).fst)).1)), gi (((mxG (tpT.dec (cellsP l, e, row).fst)).2))] ++ []))))) ∧ K (Value.tuple #[gi (idxB (eqP (agP [Value.agg (Array.mk (List.take 2 (List.drop 0 ([] ++ ([gi (((mxG (tpT.dec (cellsP l, e, row).fst)).1)), gi (((mxG (tpT.dec (cellsP l, e, row).fst)).2))] ++ [])))))])) (TellT.dec tpT (cellsP l)) 0), Value.agg (Array.mk (List.take 2 (List.drop 0 ([] ++ (List.take 2 (List.drop 0 ([] ++ ([gi (((mxG (tpT.dec (cellsP l, e, row).fst)).1)), gi (((mxG (tpT.dec (cellsP l, e, row).fst)).2))] ++ []))) ++ [])))))]))) := by kernel_rfl
end Go.Proofs.YtihnnmejkpddeaaGreatDoor
