/-
  OWN WORK. The samples in a frame: the first error of them.
-/
import Derived.Test.YtphhcoiclkfimaaGreatDoorStL
import Derived.Test.YtphhcoiclkfimaaGreatDoorAm14
namespace Go.Proofs.YtphhcoiclkfimaaGreatDoor
open Go Go.Am

/-- A cell of a frame: an integer or a sample. -/
abbrev Cel := Int ⊕ Nat
noncomputable def eC : Cel → Value := fun c => Sum.rec gi gf c
def dC : Value → Option Cel := fun v => match v with
  | .int .i64 x => some (.inl x)
  | .float .f32 b => some (.inr b)
  | _ => none
theorem dC_some : ∀ v x, dC v = some x → v = eC x := by
  intro v x h
  unfold dC at h
  split at h
  · cases h; rfl
  · cases h; rfl
  · cases h
theorem flat_eC : ∀ x, flat 3 (eC x) = true := fun x => by cases x <;> rfl
theorem fe8_run (l : List Cel) (off k e row : Nat) (K : Value → AHeap → Prop) : callE Tryz.prog orcSl (syOf [(12, 2), (13, 3), (18, 1)]) noAsks 40 63 #[rdPo Tryz.prog off 8 k, .func (.func 64) #[] #[]] (rdH Tryz.prog (l.map eC) e row) K = ((true = true ∧ (List.map eC l)[(off + 0)]? = Option.some (gf (floatAt (List.map eC l) (off + 0))) ∧ ((!(ieq (smpE (floatAt (List.map eC l) (off + 0))) 0)) = true → K (gi (smpE (floatAt (List.map eC l) (off + 0)))) (canon Tryz.prog [Prod.mk (List.map eC l) (Prod.mk e row)])) ∧ ((!(ieq (smpE (floatAt (List.map eC l) (off + 0))) 0)) = false → (true = true ∧ (List.map eC l)[(off + 1)]? = Option.some (gf (floatAt (List.map eC l) (off + 1))) ∧ ((!(ieq (smpE (floatAt (List.map eC l) (off + 1))) 0)) = true → K (gi (smpE (floatAt (List.map eC l) (off + 1)))) (canon Tryz.prog [Prod.mk (List.map eC l) (Prod.mk e row)])) ∧ ((!(ieq (smpE (floatAt (List.map eC l) (off + 1))) 0)) = false → (true = true ∧ (List.map eC l)[(off + 2)]? = Option.some (gf (floatAt (List.map eC l) (off + 2))) ∧ ((!(ieq (smpE (floatAt (List.map eC l) (off + 2))) 0)) = true → K (gi (smpE (floatAt (List.map eC l) (off + 2)))) (canon Tryz.prog [Prod.mk (List.map eC l) (Prod.mk e row)])) ∧ ((!(ieq (smpE (floatAt (List.map eC l) (off + 2))) 0)) = false → (true = true ∧ (List.map eC l)[(off + 3)]? = Option.some (gf (floatAt (List.map eC l) (off + 3))) ∧ ((!(ieq (smpE (floatAt (List.map eC l) (off + 3))) 0)) = true → K (gi (smpE (floatAt (List.map eC l) (off + 3)))) (canon Tryz.prog [Prod.mk (List.map eC l) (Prod.mk e row)])) ∧ ((!(ieq (smpE (floatAt (List.map eC l) (off + 3))) 0)) = false → (true = true ∧ (List.map eC l)[(off + 4)]? = Option.some (gf (floatAt (List.map eC l) (off + 4))) ∧ ((!(ieq (smpE (floatAt (List.map eC l) (off + 4))) 0)) = true → K (gi (smpE (floatAt (List.map eC l) (off + 4)))) (canon Tryz.prog [Prod.mk (List.map eC l) (Prod.mk e row)])) ∧ ((!(ieq (smpE (floatAt (List.map eC l) (off + 4))) 0)) = false → (true = true ∧ (List.map eC l)[(off + 5)]? = Option.some (gf (floatAt (List.map eC l) (off + 5))) ∧ ((!(ieq (smpE (floatAt (List.map eC l) (off + 5))) 0)) = true → K (gi (smpE (floatAt (List.map eC l) (off + 5)))) (canon Tryz.prog [Prod.mk (List.map eC l) (Prod.mk e row)])) ∧ ((!(ieq (smpE (floatAt (List.map eC l) (off + 5))) 0)) = false → (true = true ∧ (List.map eC l)[(off + 6)]? = Option.some (gf (floatAt (List.map eC l) (off + 6))) ∧ ((!(ieq (smpE (floatAt (List.map eC l) (off + 6))) 0)) = true → K (gi (smpE (floatAt (List.map eC l) (off + 6)))) (canon Tryz.prog [Prod.mk (List.map eC l) (Prod.mk e row)])) ∧ ((!(ieq (smpE (floatAt (List.map eC l) (off + 6))) 0)) = false → (true = true ∧ (List.map eC l)[(off + 7)]? = Option.some (gf (floatAt (List.map eC l) (off + 7))) ∧ ((!(ieq (smpE (floatAt (List.map eC l) (off + 7))) 0)) = true → K (gi (smpE (floatAt (List.map eC l) (off + 7)))) (canon Tryz.prog [Prod.mk (List.map eC l) (Prod.mk e row)])) ∧ ((!(ieq (smpE (floatAt (List.map eC l) (off + 7))) 0)) = false → K (gi 0) (canon Tryz.prog [Prod.mk (List.map eC l) (Prod.mk e row)])))))))))))))))))) := by kernel_rfl
theorem ca8_run (l : List Cel) (off k e row : Nat) (K : Value → AHeap → Prop) : callE Tryz.prog orcSl (syOf [(13, 2), (14, 3), (17, 1)]) noAsks 40 60 #[rdPo Tryz.prog off 8 k] (rdH Tryz.prog (l.map eC) e row) K = ((true = true ∧ (List.map eC l)[(off + 0)]? = Option.some (gf (floatAt (List.map eC l) (off + 0))) ∧ ((!(ieq (smpE (floatAt (List.map eC l) (off + 0))) 0)) = true → K (gi (smpE (floatAt (List.map eC l) (off + 0)))) (canon Tryz.prog [Prod.mk (List.map eC l) (Prod.mk e row)])) ∧ ((!(ieq (smpE (floatAt (List.map eC l) (off + 0))) 0)) = false → (true = true ∧ (List.map eC l)[(off + 1)]? = Option.some (gf (floatAt (List.map eC l) (off + 1))) ∧ ((!(ieq (smpE (floatAt (List.map eC l) (off + 1))) 0)) = true → K (gi (smpE (floatAt (List.map eC l) (off + 1)))) (canon Tryz.prog [Prod.mk (List.map eC l) (Prod.mk e row)])) ∧ ((!(ieq (smpE (floatAt (List.map eC l) (off + 1))) 0)) = false → (true = true ∧ (List.map eC l)[(off + 2)]? = Option.some (gf (floatAt (List.map eC l) (off + 2))) ∧ ((!(ieq (smpE (floatAt (List.map eC l) (off + 2))) 0)) = true → K (gi (smpE (floatAt (List.map eC l) (off + 2)))) (canon Tryz.prog [Prod.mk (List.map eC l) (Prod.mk e row)])) ∧ ((!(ieq (smpE (floatAt (List.map eC l) (off + 2))) 0)) = false → (true = true ∧ (List.map eC l)[(off + 3)]? = Option.some (gf (floatAt (List.map eC l) (off + 3))) ∧ ((!(ieq (smpE (floatAt (List.map eC l) (off + 3))) 0)) = true → K (gi (smpE (floatAt (List.map eC l) (off + 3)))) (canon Tryz.prog [Prod.mk (List.map eC l) (Prod.mk e row)])) ∧ ((!(ieq (smpE (floatAt (List.map eC l) (off + 3))) 0)) = false → (true = true ∧ (List.map eC l)[(off + 4)]? = Option.some (gf (floatAt (List.map eC l) (off + 4))) ∧ ((!(ieq (smpE (floatAt (List.map eC l) (off + 4))) 0)) = true → K (gi (smpE (floatAt (List.map eC l) (off + 4)))) (canon Tryz.prog [Prod.mk (List.map eC l) (Prod.mk e row)])) ∧ ((!(ieq (smpE (floatAt (List.map eC l) (off + 4))) 0)) = false → (true = true ∧ (List.map eC l)[(off + 5)]? = Option.some (gf (floatAt (List.map eC l) (off + 5))) ∧ ((!(ieq (smpE (floatAt (List.map eC l) (off + 5))) 0)) = true → K (gi (smpE (floatAt (List.map eC l) (off + 5)))) (canon Tryz.prog [Prod.mk (List.map eC l) (Prod.mk e row)])) ∧ ((!(ieq (smpE (floatAt (List.map eC l) (off + 5))) 0)) = false → (true = true ∧ (List.map eC l)[(off + 6)]? = Option.some (gf (floatAt (List.map eC l) (off + 6))) ∧ ((!(ieq (smpE (floatAt (List.map eC l) (off + 6))) 0)) = true → K (gi (smpE (floatAt (List.map eC l) (off + 6)))) (canon Tryz.prog [Prod.mk (List.map eC l) (Prod.mk e row)])) ∧ ((!(ieq (smpE (floatAt (List.map eC l) (off + 6))) 0)) = false → (true = true ∧ (List.map eC l)[(off + 7)]? = Option.some (gf (floatAt (List.map eC l) (off + 7))) ∧ ((!(ieq (smpE (floatAt (List.map eC l) (off + 7))) 0)) = true → K (gi (smpE (floatAt (List.map eC l) (off + 7)))) (canon Tryz.prog [Prod.mk (List.map eC l) (Prod.mk e row)])) ∧ ((!(ieq (smpE (floatAt (List.map eC l) (off + 7))) 0)) = false → K (gi 0) (canon Tryz.prog [Prod.mk (List.map eC l) (Prod.mk e row)])))))))))))))))))) := by kernel_rfl
theorem firstS_at (x : Int) (l : List Int) : firstS (x :: l) = bif ieq x 0 then firstS l else x := rfl
theorem not_t {b : Bool} (h : (!b) = true) : b = false := by cases b with | true => cases h | false => rfl
theorem not_f {b : Bool} (h : (!b) = false) : b = true := by cases b with | true => rfl | false => cases h
/-- Eight samples. -/
def smp8 (l : List Cel) (k : Nat → Nat → Nat → Nat → Nat → Nat → Nat → Nat → Prop) : Prop := match l with
  | [.inr x0, .inr x1, .inr x2, .inr x3, .inr x4, .inr x5, .inr x6, .inr x7] => k x0 x1 x2 x3 x4 x5 x6 x7
  | _ => False
noncomputable def fe8 (T : List Value → Bool) : List Cel → List Value → Option Out := fun l r => match l with
  | [.inr x0, .inr x1, .inr x2, .inr x3, .inr x4, .inr x5, .inr x6, .inr x7] => match T r with
    | true => some (.plain (gi (smpsE [x0, x1, x2, x3, x4, x5, x6, x7])))
    | false => none
  | _ => none
theorem fe8_some {T : List Value → Bool} {l : List Cel} {r : List Value} {o : Out} (h : fe8 T l r = some o) : T r = true ∧ ∃ x0 x1 x2 x3 x4 x5 x6 x7, l = [.inr x0, .inr x1, .inr x2, .inr x3, .inr x4, .inr x5, .inr x6, .inr x7] ∧ o = .plain (gi (smpsE [x0, x1, x2, x3, x4, x5, x6, x7])) := by
  unfold fe8 at h
  split at h
  · rename_i x0 x1 x2 x3 x4 x5 x6 x7
    split at h
    · rename_i hT
      cases h
      exact ⟨hT, x0, x1, x2, x3, x4, x5, x6, x7, rfl, rfl⟩
    · cases h
  · cases h
theorem cel_at {l : List Cel} {off : Nat} {L : List Cel} (h : (l.drop off).take 8 = L) {i : Nat} {x : Nat} (hi : i < 8) (hx : L[i]? = some (.inr x)) : (l.map eC)[off + i]? = some (gf x) ∧ floatAt (l.map eC) (off + i) = x := by
  subst h
  rw [List.getElem?_take, if_pos hi, List.getElem?_drop] at hx
  have : (l.map eC)[off + i]? = some (gf x) := by rw [List.getElem?_map, hx]; rfl
  exact ⟨this, by unfold floatAt; rw [this]⟩
set_option maxRecDepth 100000 in
theorem fe8_call (l : List Cel) (off k e row : Nat) {x0 x1 x2 x3 x4 x5 x6 x7 : Nat} (h : (l.drop off).take 8 = [.inr x0, .inr x1, .inr x2, .inr x3, .inr x4, .inr x5, .inr x6, .inr x7]) : CallJ Tryz.prog 63 #[rdPo Tryz.prog off 8 k, .func (.func 64) #[] #[]] (rdH Tryz.prog (l.map eC) e row) (Out.plain (gi (smpsE [x0, x1, x2, x3, x4, x5, x6, x7]))).Got := by
  obtain ⟨g0, f0⟩ := cel_at h (i := 0) (by omega) rfl
  obtain ⟨g1, f1⟩ := cel_at h (i := 1) (by omega) rfl
  obtain ⟨g2, f2⟩ := cel_at h (i := 2) (by omega) rfl
  obtain ⟨g3, f3⟩ := cel_at h (i := 3) (by omega) rfl
  obtain ⟨g4, f4⟩ := cel_at h (i := 4) (by omega) rfl
  obtain ⟨g5, f5⟩ := cel_at h (i := 5) (by omega) rfl
  obtain ⟨g6, f6⟩ := cel_at h (i := 6) (by omega) rfl
  obtain ⟨g7, f7⟩ := cel_at h (i := 7) (by omega) rfl
  refine CallJ.ofE mixed orcSl_ok (noAsks_ok _) (Eq.mpr (fe8_run l off k e row _) ?_)
  simp only [f0, f1, f2, f3, f4, f5, f6, f7]
  show _ ∧ _
  refine ⟨trivial, g0, fun c0 => ?l0, fun d0 => ⟨trivial, g1, fun c1 => ?l1, fun d1 => ⟨trivial, g2, fun c2 => ?l2, fun d2 => ⟨trivial, g3, fun c3 => ?l3, fun d3 => ⟨trivial, g4, fun c4 => ?l4, fun d4 => ⟨trivial, g5, fun c5 => ?l5, fun d5 => ⟨trivial, g6, fun c6 => ?l6, fun d6 => ⟨trivial, g7, fun c7 => ?l7, fun d7 => ?l8⟩⟩⟩⟩⟩⟩⟩⟩
  case l0 =>
    show gi _ = gi _
    simp only [smpsE, List.map, firstS_at, not_t c0, cond_true, cond_false]
  case l1 =>
    show gi _ = gi _
    simp only [smpsE, List.map, firstS_at, not_f d0, not_t c1, cond_true, cond_false]
  case l2 =>
    show gi _ = gi _
    simp only [smpsE, List.map, firstS_at, not_f d0, not_f d1, not_t c2, cond_true, cond_false]
  case l3 =>
    show gi _ = gi _
    simp only [smpsE, List.map, firstS_at, not_f d0, not_f d1, not_f d2, not_t c3, cond_true, cond_false]
  case l4 =>
    show gi _ = gi _
    simp only [smpsE, List.map, firstS_at, not_f d0, not_f d1, not_f d2, not_f d3, not_t c4, cond_true, cond_false]
  case l5 =>
    show gi _ = gi _
    simp only [smpsE, List.map, firstS_at, not_f d0, not_f d1, not_f d2, not_f d3, not_f d4, not_t c5, cond_true, cond_false]
  case l6 =>
    show gi _ = gi _
    simp only [smpsE, List.map, firstS_at, not_f d0, not_f d1, not_f d2, not_f d3, not_f d4, not_f d5, not_t c6, cond_true, cond_false]
  case l7 =>
    show gi _ = gi _
    simp only [smpsE, List.map, firstS_at, not_f d0, not_f d1, not_f d2, not_f d3, not_f d4, not_f d5, not_f d6, not_t c7, cond_true, cond_false]
  case l8 =>
    show gi _ = gi _
    simp only [smpsE, List.map, firstS_at, not_f d0, not_f d1, not_f d2, not_f d3, not_f d4, not_f d5, not_f d6, not_f d7, cond_true, cond_false]
    try rfl
set_option maxRecDepth 100000 in
theorem ca8_call (l : List Cel) (off k e row : Nat) {x0 x1 x2 x3 x4 x5 x6 x7 : Nat} (h : (l.drop off).take 8 = [.inr x0, .inr x1, .inr x2, .inr x3, .inr x4, .inr x5, .inr x6, .inr x7]) : CallJ Tryz.prog 60 #[rdPo Tryz.prog off 8 k] (rdH Tryz.prog (l.map eC) e row) (Out.plain (gi (smpsE [x0, x1, x2, x3, x4, x5, x6, x7]))).Got := by
  obtain ⟨g0, f0⟩ := cel_at h (i := 0) (by omega) rfl
  obtain ⟨g1, f1⟩ := cel_at h (i := 1) (by omega) rfl
  obtain ⟨g2, f2⟩ := cel_at h (i := 2) (by omega) rfl
  obtain ⟨g3, f3⟩ := cel_at h (i := 3) (by omega) rfl
  obtain ⟨g4, f4⟩ := cel_at h (i := 4) (by omega) rfl
  obtain ⟨g5, f5⟩ := cel_at h (i := 5) (by omega) rfl
  obtain ⟨g6, f6⟩ := cel_at h (i := 6) (by omega) rfl
  obtain ⟨g7, f7⟩ := cel_at h (i := 7) (by omega) rfl
  refine CallJ.ofE mixed orcSl_ok (noAsks_ok _) (Eq.mpr (ca8_run l off k e row _) ?_)
  simp only [f0, f1, f2, f3, f4, f5, f6, f7]
  show _ ∧ _
  refine ⟨trivial, g0, fun c0 => ?l0, fun d0 => ⟨trivial, g1, fun c1 => ?l1, fun d1 => ⟨trivial, g2, fun c2 => ?l2, fun d2 => ⟨trivial, g3, fun c3 => ?l3, fun d3 => ⟨trivial, g4, fun c4 => ?l4, fun d4 => ⟨trivial, g5, fun c5 => ?l5, fun d5 => ⟨trivial, g6, fun c6 => ?l6, fun d6 => ⟨trivial, g7, fun c7 => ?l7, fun d7 => ?l8⟩⟩⟩⟩⟩⟩⟩⟩
  case l0 =>
    show gi _ = gi _
    simp only [smpsE, List.map, firstS_at, not_t c0, cond_true, cond_false]
  case l1 =>
    show gi _ = gi _
    simp only [smpsE, List.map, firstS_at, not_f d0, not_t c1, cond_true, cond_false]
  case l2 =>
    show gi _ = gi _
    simp only [smpsE, List.map, firstS_at, not_f d0, not_f d1, not_t c2, cond_true, cond_false]
  case l3 =>
    show gi _ = gi _
    simp only [smpsE, List.map, firstS_at, not_f d0, not_f d1, not_f d2, not_t c3, cond_true, cond_false]
  case l4 =>
    show gi _ = gi _
    simp only [smpsE, List.map, firstS_at, not_f d0, not_f d1, not_f d2, not_f d3, not_t c4, cond_true, cond_false]
  case l5 =>
    show gi _ = gi _
    simp only [smpsE, List.map, firstS_at, not_f d0, not_f d1, not_f d2, not_f d3, not_f d4, not_t c5, cond_true, cond_false]
  case l6 =>
    show gi _ = gi _
    simp only [smpsE, List.map, firstS_at, not_f d0, not_f d1, not_f d2, not_f d3, not_f d4, not_f d5, not_t c6, cond_true, cond_false]
  case l7 =>
    show gi _ = gi _
    simp only [smpsE, List.map, firstS_at, not_f d0, not_f d1, not_f d2, not_f d3, not_f d4, not_f d5, not_f d6, not_t c7, cond_true, cond_false]
  case l8 =>
    show gi _ = gi _
    simp only [smpsE, List.map, firstS_at, not_f d0, not_f d1, not_f d2, not_f d3, not_f d4, not_f d5, not_f d6, not_f d7, cond_true, cond_false]
    try rfl
noncomputable def orcFc : Orc := orElse 60 (genO dC 8 true (fe8 noT)) (orElse 63 (genO dC 8 true (fe8 feT)) orcSl)
set_option maxRecDepth 100000 in
theorem orcFc_ok : OrcOk Tryz.prog orcFc := by
  refine genO_ok dC_some flat_eC globs_pos (genO_ok dC_some flat_eC globs_pos orcSl_ok ?_ ?_ ?_ ?_) ?_ ?_ ?_ ?_
  · intro l r o h
    obtain ⟨_, _, _, _, _, _, _, _, _, _, rfl⟩ := fe8_some h
    rfl
  · intro r o h
    obtain ⟨_, _, _, _, _, _, _, _, _, e, _⟩ := fe8_some h
    cases e
  · intro r k o h
    obtain ⟨_, _, _, _, _, _, _, _, _, e, _⟩ := fe8_some h
    cases e
  · intro l off n r el row k o _ _ h0 h1 h2 h3 h
    obtain ⟨hT, x0, x1, x2, x3, x4, x5, x6, x7, e, rfl⟩ := fe8_some h
    obtain rfl := feT_some hT
    have : n = 8 := by
      have := congrArg List.length e
      rw [List.length_take, List.length_drop] at this
      simp only [List.length_cons, List.length_nil] at this
      omega
    subst this
    exact fe8_call l off k el row e
  · intro l r o h
    obtain ⟨_, _, _, _, _, _, _, _, _, _, rfl⟩ := fe8_some h
    rfl
  · intro r o h
    obtain ⟨_, _, _, _, _, _, _, _, _, e, _⟩ := fe8_some h
    cases e
  · intro r k o h
    obtain ⟨_, _, _, _, _, _, _, _, _, e, _⟩ := fe8_some h
    cases e
  · intro l off n r el row k o _ _ h0 h1 h2 h3 h
    obtain ⟨hT, x0, x1, x2, x3, x4, x5, x6, x7, e, rfl⟩ := fe8_some h
    obtain rfl := noT_some hT
    have : n = 8 := by
      have := congrArg List.length e
      rw [List.length_take, List.length_drop] at this
      simp only [List.length_cons, List.length_nil] at this
      omega
    subst this
    exact ca8_call l off k el row e
end Go.Proofs.YtphhcoiclkfimaaGreatDoor
