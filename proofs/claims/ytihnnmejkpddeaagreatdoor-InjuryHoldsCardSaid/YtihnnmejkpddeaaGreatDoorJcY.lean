/-
  OWN WORK. Stage 6: greatest sums and moments as known calls; what the law of sums stands on.
-/
import Derived.Test.YtihnnmejkpddeaaGreatDoorJcPX
import Derived.Test.YtihnnmejkpddeaaGreatDoorJcS
namespace Go.Proofs.YtihnnmejkpddeaaGreatDoor
open Go Go.Am
noncomputable def cmE (a b : List Int) (u v : Int) : Int := firstS [pairE a b, limE u v]
noncomputable def mmE (a b : List Int) (u : Int) : Int := firstS [pairE a b, withinS u (-1000) 1000]
theorem firstE_none {α : Type} {f : α → Int} : ∀ {l : List α}, firstE f l = 0 → ∀ x ∈ l, f x = 0
  | [], _ => fun x hx => by cases hx
  | y :: l, h => by
    unfold firstE at h
    intro x hx
    cases hy : ieq (f y) 0 with
    | true =>
      rw [hy] at h
      rw [ieq_dec] at hy
      rcases List.mem_cons.1 hx with rfl | hx
      · exact of_decide_eq_true hy
      · exact firstE_none h x hx
    | false =>
      rw [hy] at h
      rw [ieq_dec] at hy
      exact absurd h (of_decide_eq_false hy)
theorem ser_zero {l : List Int} (h : serE l = 0) : bdU l ∧ l.length ≤ 128 := by
  have hs := firstS_none h
  have h1 := hs (cnE (Int.ofNat l.length) 128) (.head _)
  have h2 := hs (firstE uE l) (.tail _ (.head _))
  have k := firstS_none h1
  have k2 := k (whenS (ilt 128 (Int.ofNat l.length)) 5) (.tail _ (.head _))
  have k3 := when_none (by decide) k2
  rw [ilt_say] at k3
  have k3 := of_decide_eq_false k3
  refine ⟨fun x hx => within_zero (firstE_none h2 x hx), ?_⟩
  simp only [Int.ofNat_eq_natCast] at k3
  omega
theorem pair_zero {a b : List Int} (h : pairE a b = 0) : bdU a ∧ bdU b ∧ a.length = b.length := by
  have hs := firstS_none h
  have h1 := ser_zero (hs (serE a) (.head _))
  have h2 := ser_zero (hs (serE b) (.tail _ (.head _)))
  have h3 := when_none (by decide) (hs _ (.tail _ (.tail _ (.head _))))
  have h3 := not_t h3
  rw [ieq_dec] at h3
  have h3 := of_decide_eq_true h3
  simp only [Int.ofNat_eq_natCast] at h3
  exact ⟨h1.1, h2.1, by omega⟩
theorem mm_zero {a b : List Int} {u : Int} (h : mmE a b u = 0) : (bdU a ∧ bdU b ∧ a.length = b.length) ∧ limS u := by
  have hs := firstS_none h
  exact ⟨pair_zero (hs _ (.head _)), within_zero (hs _ (.tail _ (.head _)))⟩
noncomputable abbrev cmL (a b : List Int) (u v : Int) : List P2 := coL u v (a.map abP) (b.map abP)
noncomputable def cmV (b : Bool) (x y : List Int) (u v : Int) : Value := match b with
  | true => .tuple #[rtV (mxG (cmL x y u v)), gi (idxB (eqP (mxG (cmL x y u v))) (cmL x y u v) 0), gi 0]
  | false => .tuple #[rtV (0, 0), gi 0, gi (cmE x y u v)]
noncomputable def mmV (b : Bool) (n : Nat) (x y : List Int) (u : Int) : Out := match b with
  | true => .wide (tupM [] n [gi 0]) ((moL u x y).map gi) 3 2
  | false => .plain (.tuple #[nilS, gi (mmE x y u)])
def cmC (a b : List Int) (r : List Value) : Prop := r = [rtV (agP r)] ∧ (cmE a b (agP r).1 (agP r).2 = 0 → a.length ≤ 40)
noncomputable abbrev cmO (a b : List Int) (r : List Value) : Out := .plain (cmV (ieq (cmE a b (agP r).1 (agP r).2) 0) a b (agP r).1 (agP r).2)
def mmC (_ _ : List Int) (r : List Value) : Prop := r = [gi (inV r)]
noncomputable abbrev mmO (a b : List Int) (r : List Value) : Out := mmV (ieq (mmE a b (inV r)) 0) a.length a b (inV r)
theorem mm_fine (b : Bool) (n : Nat) (x y : List Int) (u : Int) : (mmV b n x y u).Ok := by
  cases b with
  | true => exact ⟨names_tup rfl rfl, flat_ints _⟩
  | false => exact (show flat 3 (Value.tuple #[nilS, gi (mmE x y u)]) = true from rfl)
set_option maxRecDepth 100000 in
theorem mmf_ok {orc : Orc} (ho : OrcOk Tryz.prog orc) : OrcOk Tryz.prog (orElse 37 (s2Oo tiT tiT mmC mmO) orc) := by
  refine s2O_ok ho (fun a b r _ => mm_fine _ _ _ _ _) ?_
  rintro a b m k e row m' k' e' row' r hl h1 hl' h1' hr
  have hr : r = [gi (inV r)] := hr
  generalize inV r = x at hr ⊢
  subst hr
  cases hz : ieq (mmE a b x) 0 with
  | false =>
    refine callC_ok mixed orcJh_ok (askJh_ok 0) (Eq.mpr (pm_bad a b x m e row k m' e' row' k' _) ⟨⟨flat_ints a, flat_ints b, trivial⟩, okI hl h1, okI hl' h1', rfl, ?_, ?_⟩)
    · rw [decT, decT]
      show (!(ieq (mmE a b x) 0)) = true
      rw [hz]; rfl
    · rw [decT, decT]
      show (mmV (ieq (mmE a b x) 0) a.length a b x).Got _ _
      rw [hz]; exact (rfl : Value.tuple #[nilS, gi (mmE a b x)] = _)
  | true =>
    have hzb := hz
    rw [ieq_dec] at hz
    have hz := of_decide_eq_true hz
    obtain ⟨⟨ba, bb, hab⟩, hu⟩ := mm_zero hz
    obtain rfl : m' = m := by omega
    refine callC_ok mixed orcJh_ok (askJh_ok (m' + 1)) (Eq.mpr (pm_ok a b x m' e row k e' row' k' _) ?_)
    repeat rw [decT]
    refine ⟨⟨flat_ints a, flat_ints b, trivial⟩, okI hl h1, okI hl' h1', rfl, ?_, ⟨flat_ints a, trivial⟩, okI hl h1, rfl, rfl, rfl, rfl, rfl, rfl, rfl, by kernel_rfl, by kernel_rfl, ⟨⟨hl, hl', h1⟩, ba, bb, hu⟩, fun _ => ?_⟩
    · show (!(ieq (mmE a b x) 0)) = false
      rw [hz]; rfl
    · show (mmV (ieq (mmE a b x) 0) a.length a b x).Got _ _
      rw [hzb]
      exact ⟨nG1 + 1, by rw [hl]; rfl, by show _ = _; kernel_rfl⟩
noncomputable abbrev cfO (a : List Int) (_ : List Value) : Out := .plain (.tuple #[rtV (0, 0), gi 0, gi (pairE a [])])
noncomputable abbrev ceO (b : List Int) (_ : List Value) : Out := .plain (.tuple #[rtV (0, 0), gi 0, gi (pairE [] b)])
noncomputable abbrev mfO (a : List Int) (_ : List Value) : Out := .plain (.tuple #[nilS, gi (pairE a [])])
noncomputable abbrev meO (b : List Int) (_ : List Value) : Out := .plain (.tuple #[nilS, gi (pairE [] b)])
def isR (_ : List Int) (r : List Value) : Prop := r = [rtV (agP r)]
def isI (_ : List Int) (r : List Value) : Prop := r = [gi (inV r)]
end Go.Proofs.YtihnnmejkpddeaaGreatDoor
