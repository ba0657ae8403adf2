/-
  OWN WORK. Stage 6: copies, absolute values, sums by limits and the reference's moments, as known calls.
-/
import Derived.Test.YtihnnmejkpddeaaGreatDoorJcJN
import Derived.Test.YtihnnmejkpddeaaGreatDoorJcQ
namespace Go.Proofs.YtihnnmejkpddeaaGreatDoor
open Go Go.Am
def clC (_ : List Int) (r : List Value) : Prop := r = []
noncomputable abbrev cloO (n : Nat) (l : List Int) (_ : List Value) : Out := .wide (slM n) (l.map gi) 3 2
def maC (l : List Int) (r : List Value) : Prop := r = [clF 164] ∧ l.length ≤ 40
noncomputable abbrev maO (n : Nat) (l : List Int) (_ : List Value) : Out := .wide (slM n) ((l.map abP).map gi) 3 2
def coCn (a b : List Int) (r : List Value) : Prop := r = [rtV (agP r)] ∧ a.length = b.length ∧ bd0 a ∧ bd0 b ∧ lim1 (agP r).1 ∧ lim1 (agP r).2
noncomputable abbrev coO (a b : List Int) (r : List Value) : Out := .wide (slM a.length) (cellsP (coL (agP r).1 (agP r).2 a b)) 28 3
noncomputable def inV : List Value → Int
  | [.int .i64 x] => x
  | _ => 0
def moCn (a b : List Int) (r : List Value) : Prop := r = [gi (inV r)] ∧ a.length = b.length ∧ bdU a ∧ bdU b ∧ limS (inV r)
noncomputable abbrev moO (a b : List Int) (r : List Value) : Out := .wide (slM a.length) ((moL (inV r) a b).map gi) 3 2
noncomputable def orcJg : Orc := orElse 41 (s2Oo tiT tiT moCn moO) (orElse 107 (s2Oo tiT tiT coCn coO) (orElse 163 (s1O tiT maC maO) (orElse 110 (s1O tiT clC cloO) orcJf)))
set_option maxRecDepth 100000 in
theorem orcJg_ok : OrcOk Tryz.prog orcJg := by
  refine s2O_ok (s2O_ok (s1O_ok (s1O_ok orcJf_ok (fun _ _ _ _ => ⟨names_sl _, flat_ints _⟩) ?_) (fun _ _ _ _ => ⟨names_sl _, flat_ints _⟩) ?_) (fun _ _ _ _ => ⟨names_sl _, cellsP_flat _⟩) ?_) (fun _ _ _ _ => ⟨names_sl _, flat_ints _⟩) ?_
  · rintro l m k e row r hl h1 rfl
    refine CallJ.ofR mixed orcJf_ok askJf_ok (Eq.mpr (clo_run l m e row k _) ⟨by rw [Nat.ble_eq, List.length_map]; omega, by rw [Nat.ble_eq]; omega, ?_, nG1 + 2, rfl, ?_⟩)
    · rw [List.drop_zero, List.take_of_length_le (by rw [List.length_map]; omega), List.all_eq_true]
      intro x hx
      obtain ⟨y, _, rfl⟩ := List.mem_map.1 hx
      rfl
    · rw [AHeap.get_push_eq (by kernel_rfl), List.drop_zero, List.take_of_length_le (by rw [List.length_map]; omega)]
  · rintro l m k e row r hl h1 ⟨rfl, h2⟩
    have p := ma_e l (by omega) h2 e row k (fun v o => v = .slice (some ⟨nG1 + 1, 0, none⟩) (m + 1) (m + 1) ∧ o = some (.cells ((l.map abP).map gi) 3 2 false))
    rw [hl] at p
    exact (CallJ.ofR mixed orcJe_ok askJe_ok (Eq.mpr p ⟨rfl, rfl⟩)).mono fun v h q => ⟨nG1 + 1, q.1, q.2⟩
  · rintro a b m k e row m' k' e' row' r hl h1 hl' h1' ⟨hr, h2, h3, h4, h5, h6⟩
    obtain rfl : m' = m := by omega
    generalize agP r = x at hr h5 h6 ⊢
    subst hr
    refine callC_ok mixed orcJf_ok askJf_ok (Eq.mpr (co_run a b x.1 x.2 m' e row k e' row' k' _) ⟨rfl, rfl, rfl, rfl, rfl, rfl, rfl, by kernel_rfl, by kernel_rfl, by kernel_rfl, ⟨⟨hl, hl', by omega, h1⟩, h3, h4, h5, h6⟩, fun _ => ⟨nG1 + 3, ?_, ?_⟩⟩)
    · rw [hl]; rfl
    · show _ = _; kernel_rfl
  · rintro a b m k e row m' k' e' row' r hl h1 hl' h1' ⟨hr, h2, h3, h4, h5⟩
    obtain rfl : m' = m := by omega
    generalize inV r = x at hr h5 ⊢
    subst hr
    refine callC_ok mixed orcJf_ok askJf_ok (Eq.mpr (rmo_run a b x m' e row k e' row' k' _) ⟨rfl, rfl, rfl, rfl, rfl, rfl, by kernel_rfl, by kernel_rfl, ⟨⟨hl, hl', by omega, h1⟩, h3, h4, h5⟩, fun _ => ⟨nG1 + 2, ?_, ?_⟩⟩)
    · rw [hl]; rfl
    · show _ = _; kernel_rfl
def nC2 {α β : Type} (n : Nat) (C : List α → List β → List Value → Prop) (a : List α) (b : List β) (r : List Value) : Prop := a.length = n ∧ C a b r
noncomputable def askJg (n : Nat) : Asks := asksV Tryz.prog.globals.size 41 (s2AY tiT tiT (nC2 n moCn) (fun a b r => .wide (slM n) ((moL (inV r) a b).map gi) 3 2)) (asksV Tryz.prog.globals.size 107 (s2AY tiT tiT (nC2 n coCn) (fun a b r => .wide (slM n) (cellsP (coL (agP r).1 (agP r).2 a b)) 28 3)) (asksV Tryz.prog.globals.size 163 (s1AY tiT maC maO) (asksV Tryz.prog.globals.size 110 (s1AY tiT clC cloO) askJf)))
theorem askJg_ok (n : Nat) : AsksOk orcJg (askJg n) := asksV_ok (s2A_ok fun _ _ _ h => ⟨h.2, by rw [← h.1]⟩) (asksV_ok (s2A_ok fun _ _ _ h => ⟨h.2, by rw [← h.1]⟩) (asksV_ok (s1A_ok fun _ _ _ h => ⟨h, rfl⟩) (asksV_ok (s1A_ok fun _ _ _ h => ⟨h, rfl⟩) askJf_ok)))
theorem abs_run (l : List Int) (m e row k : Nat) (K : Value → AHeap → Prop) : callC Tryz.prog (exec Tryz.prog orcJg 10) (syOf [(4, 7)]) (askJg 0) (noLoops _) 40 108 #[liP (m + 1) k] (canon Tryz.prog [(l.map gi, e, row)]) K = (((List.all (List.map gi l) (flat 3) = true ∧ True) ∧ okT tiT (List.map gi l) (m + 1) ∧ maC (TellT.dec tiT (List.map gi l)) [Value.func (.func 164) #[] #[]] ∧ K (slQ (m + 1) (m + 1)) ((canon Tryz.prog [Prod.mk (List.map gi l) (Prod.mk e row)]).push (.cells (List.map gi (List.map abP (TellT.dec tiT (List.map gi l)))) 3 2 false)))) := by kernel_rfl
noncomputable abbrev rcC (c d : List Value) (e row e' row' : Nat) (u v m1 m2 : Int) : AHeap := canonT [] (fun _ => 0) Tryz.prog.globals.size [(c, e, row, true), (d, e', row', true), ([gi u, gi v], 62, 0, false), ([gi 0, gi 0], 28, 0, false), ([gi m1, gi m2], 28, 0, false)]
theorem rco_0 (c d : List Value) (n k k' e row e' row' : Nat) (u v m1 m2 : Int) (g : Nat → Value) (Q : Exit → List Value → AHeap → Prop) : execC Tryz.prog (exec Tryz.prog orcJg 10) (syOf [(16, 1), (21, 2), (22, 3), (26, 2), (27, 3), (30, 7), (37, 1)]) (askJg 0) (noLoops _) 40 (loopOf Tryz.prog 40 0) (stOf 43 [(0, liP n k), (1, slQ n k'), (5, ptN 2), (6, ptN 3), (8, ptN 4), (9, gi 0), (10, gi 0)] g) (rcC c d e row e' row' u v m1 m2) (told 43 [0, 1, 5, 6, 8, 9, 10] Q) = (((ilt 0 (Int.ofNat n) = true → (ahasIndex 0 n = true ∧ c[0]? = Option.some (gi (intAt c 0)) ∧ ahasIndex 0 n = true ∧ d[0]? = Option.some (gi (intAt d 0)) ∧ Value.agg #[gi u, gi v] = Value.agg #[gi u, gi v] ∧ d[0]? = Option.some (gi (intAt d 0)) ∧ c[0]? = Option.some (gi (intAt c 0)) ∧ [gi 0, gi 0] = [gi 0, gi 0] ∧ Value.agg #[gi u, gi v] = Value.agg #[gi u, gi v] ∧ d[0]? = Option.some (gi (intAt d 0)) ∧ [gi 0, gi 0] = [gi 0, gi 0] ∧ Value.agg #[gi u, gi v] = Value.agg #[gi u, gi v] ∧ sumB (abR (intAt c 0)) (abR (intAt d 0)) u v = true ∧ [gi 0, gi 0] = [gi 0, gi 0] ∧ Q .normal [liP n k, slQ n k', ptN 2, ptN 3, ptN 4, gi 0, gi 1] ((((rcC c d e row e' row' u v m1 m2).push (.cells [gi 0, gi 0] 28 0 false)).set (nG1 + 5) (.cells ([] ++ ([gi (rqA ((abR (intAt c 0) * v) + (abR (intAt d 0) * u)) (u * v)), gi (rqB ((abR (intAt c 0) * v) + (abR (intAt d 0) * u)) (u * v))] ++ [])) 28 0 false)).set (nG1 + 4) (.cells ([] ++ (List.take 2 (List.drop 0 ([] ++ ([gi (rqA ((abR (intAt c 0) * v) + (abR (intAt d 0) * u)) (u * v)), gi (rqB ((abR (intAt c 0) * v) + (abR (intAt d 0) * u)) (u * v))] ++ []))) ++ [])) 28 0 false)))) ∧ (ilt 0 (Int.ofNat n) = false → Q (.exit 0) [liP n k, slQ n k', ptN 2, ptN 3, ptN 4, gi 0, gi 0] (rcC c d e row e' row' u v m1 m2)))) := by kernel_rfl
theorem rco_j (c d : List Value) (n k k' e row e' row' j : Nat) (u v m1 m2 a : Int) (g : Nat → Value) (Q : Exit → List Value → AHeap → Prop) : execC Tryz.prog (exec Tryz.prog orcJg 10) (syOf [(16, 1), (21, 2), (22, 3), (26, 2), (27, 3), (30, 7), (32, 32), (37, 0), (38, 1)]) (askJg 0) (noLoops _) 40 (loopOf Tryz.prog 40 0) (stOf 43 [(0, liP n k), (1, slQ n k'), (5, ptN 2), (6, ptN 3), (8, ptN 4), (9, gi a), (10, goN (j + 1))] g) (rcC c d e row e' row' u v m1 m2) (told 43 [0, 1, 5, 6, 8, 9, 10] Q) = (((Nat.blt (j + 1) n = true → (Nat.blt (j + 1) n = true ∧ c[(0 + ((j + 1) * 1))]? = Option.some (gi (intAt c (0 + ((j + 1) * 1)))) ∧ Nat.blt (j + 1) n = true ∧ d[(0 + ((j + 1) * 1))]? = Option.some (gi (intAt d (0 + ((j + 1) * 1)))) ∧ Value.agg #[gi u, gi v] = Value.agg #[gi u, gi v] ∧ d[(0 + ((j + 1) * 1))]? = Option.some (gi (intAt d (0 + ((j + 1) * 1)))) ∧ c[(0 + ((j + 1) * 1))]? = Option.some (gi (intAt c (0 + ((j + 1) * 1)))) ∧ [gi 0, gi 0] = [gi 0, gi 0] ∧ Value.agg #[gi u, gi v] = Value.agg #[gi u, gi v] ∧ d[(0 + ((j + 1) * 1))]? = Option.some (gi (intAt d (0 + ((j + 1) * 1)))) ∧ [gi 0, gi 0] = [gi 0, gi 0] ∧ Value.agg #[gi u, gi v] = Value.agg #[gi u, gi v] ∧ sumB (abR (intAt c (0 + ((j + 1) * 1)))) (abR (intAt d (0 + ((j + 1) * 1)))) u v = true ∧ [gi 0, gi 0] = [gi 0, gi 0] ∧ ieq (Int.ofNat (j + 1)) 0 = false ∧ (ilt 0 (cpR (Prod.mk (rqA ((abR (intAt c (0 + ((j + 1) * 1))) * v) + (abR (intAt d (0 + ((j + 1) * 1))) * u)) (u * v)) (rqB ((abR (intAt c (0 + ((j + 1) * 1))) * v) + (abR (intAt d (0 + ((j + 1) * 1))) * u)) (u * v))) (Prod.mk m1 m2)) = true → Q .normal [liP n k, slQ n k', ptN 2, ptN 3, ptN 4, goN (j + 1), gi (fwrap IntKind.i64 (Int.ofNat ((j + 1) + 1)))] ((((rcC c d e row e' row' u v m1 m2).push (.cells [gi 0, gi 0] 28 0 false)).set (nG1 + 5) (.cells ([] ++ ([gi (rqA ((abR (intAt c (0 + ((j + 1) * 1))) * v) + (abR (intAt d (0 + ((j + 1) * 1))) * u)) (u * v)), gi (rqB ((abR (intAt c (0 + ((j + 1) * 1))) * v) + (abR (intAt d (0 + ((j + 1) * 1))) * u)) (u * v))] ++ [])) 28 0 false)).set (nG1 + 4) (.cells ([] ++ (List.take 2 (List.drop 0 ([] ++ ([gi (rqA ((abR (intAt c (0 + ((j + 1) * 1))) * v) + (abR (intAt d (0 + ((j + 1) * 1))) * u)) (u * v)), gi (rqB ((abR (intAt c (0 + ((j + 1) * 1))) * v) + (abR (intAt d (0 + ((j + 1) * 1))) * u)) (u * v))] ++ []))) ++ [])) 28 0 false))) ∧ (ilt 0 (cpR (Prod.mk (rqA ((abR (intAt c (0 + ((j + 1) * 1))) * v) + (abR (intAt d (0 + ((j + 1) * 1))) * u)) (u * v)) (rqB ((abR (intAt c (0 + ((j + 1) * 1))) * v) + (abR (intAt d (0 + ((j + 1) * 1))) * u)) (u * v))) (Prod.mk m1 m2)) = false → Q .normal [liP n k, slQ n k', ptN 2, ptN 3, ptN 4, gi a, gi (fwrap IntKind.i64 (Int.ofNat ((j + 1) + 1)))] (((rcC c d e row e' row' u v m1 m2).push (.cells [gi 0, gi 0] 28 0 false)).set (nG1 + 5) (.cells ([] ++ ([gi (rqA ((abR (intAt c (0 + ((j + 1) * 1))) * v) + (abR (intAt d (0 + ((j + 1) * 1))) * u)) (u * v)), gi (rqB ((abR (intAt c (0 + ((j + 1) * 1))) * v) + (abR (intAt d (0 + ((j + 1) * 1))) * u)) (u * v))] ++ [])) 28 0 false))))) ∧ (Nat.blt (j + 1) n = false → Q (.exit 0) [liP n k, slQ n k', ptN 2, ptN 3, ptN 4, gi a, goN (j + 1)] (rcC c d e row e' row' u v m1 m2)))) := by kernel_rfl
end Go.Proofs.YtihnnmejkpddeaaGreatDoor
