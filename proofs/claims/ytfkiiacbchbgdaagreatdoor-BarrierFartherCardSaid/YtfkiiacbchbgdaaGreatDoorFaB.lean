/-
  OWN WORK. Farther walls: the law's loop.
-/
import Derived.Test.YtfkiiacbchbgdaaGreatDoorFaA
namespace Go.Proofs.YtfkiiacbchbgdaaGreatDoor
open Go Go.Am

theorem amapM_flatF {n : Nat} {ids : List Nat} : ∀ {c : List Value}, c.all (flat 3) = true → amapM (renV n ids) c = some c
  | [], _ => rfl
  | x :: c, h => by
    rw [List.all_cons, Bool.and_eq_true] at h
    have hx : renV n ids x = some x := by unfold renV; rw [h.1]
    simp only [amapM, hx, amapM_flatF h.2, Option.map_some]
section
variable (l T : List Int) (e : TypeId) (row m k W kt : Nat) (a b c d w x y z : Int)
/-- Whether the table has proved the cell before. -/
noncomputable def pvd : Nat → Bool
  | 0 => true
  | j + 1 => ieq (kV l (T.take (W + 1)) (a, b, c, d, w) (Int.ofNat j)) 0
noncomputable abbrev faV (at_ : Nat → Nat) (j : Nat) : List Value := [ptP (at_ 0), ptP (at_ 1), slV (at_ 2) (W + 1) kt, .bool (pvd l T W a b c d w j), goN (W + 1), goN j]
noncomputable abbrev faC (at_ : Nat → Nat) : List Blk := faB l T e row m k a b c d w x y z (at_ 3)
set_option maxRecDepth 100000 in
theorem fa_loop (at₀ : Nat → Nat) (hnd : ((List.range 4).map at₀).Nodup) (hge : ∀ q, q < 4 → Tryz.prog.globals.size ≤ at₀ q)
    (hr₀ : ∀ j, amapM (renV Tryz.prog.globals.size ((List.range 4).map at₀)) (faV l T W kt a b c d w at₀ j) = some (faV l T W kt a b c d w (Tryz.prog.globals.size + ·) j))
    (hb₀ : amapM (renV Tryz.prog.globals.size ((List.range 4).map at₀)) [slV (at₀ 3) (m + 1) k, gi a, gi b, gi c, gi d, gi w] = some [slV (nG1 + 3) (m + 1) k, gi a, gi b, gi c, gi d, gi w])
    (hl : l.length = m + 1) (h1 : m + 1 ≤ 65536) (hT : W + 1 ≤ T.length) (hW : W + 1 ≤ 65536) (hp : ∀ j, j < W + 1 → ieq (kV l (T.take (W + 1)) (a, b, c, d, w) (Int.ofNat j)) 0 = true → pvd l T W a b c d w j = true) :
    ∀ (ac : AAct) (h : AHeap), Laid (faC l T e row m k a b c d w x y z at₀) at₀ h → ac.n = 253 → ac.marks = [] → [2, 3, 17, 19, 159, 160].map ac.tmp = faV l T W kt a b c d w at₀ 0 →
    J Tryz.prog (.loop (loopOf Tryz.prog 5 0)) ac h (told 253 [2, 3, 17, 19, 159, 160] fun ex vs h' => ex = .exit 0 ∧ vs = faV l T W kt a b c d w (nG1 + ·) (W + 1) ∧ Laid (faC l T e row m k a b c d w x y z (nG1 + ·)) (nG1 + ·) h') := by
  intro ac h hs ha hm hv
  refine fold_ruleR (L := 4) (C := fun at_ _ => faC l T e row m k a b c d w x y z at_) globs_pos (by decide) (by decide) (fun _ _ => rfl) (V := faV l T W kt a b c d w) (I := fun _ => True) (m := W + 1) trivial _ at₀ hnd hge
    (fun j q bb hb => ?_) (fun j q bb hb => ?_) hr₀ (fun j => by kernel_rfl) (fun at_ j q hq => ?_) ?_ ?_ ac h hs ha hm hv
  · match q, hb with
    | 0, hb => cases hb; exact ⟨_, rfl, hb₀, rfl⟩
    | 1, hb => cases hb; exact ⟨_, rfl, amapM_flatF rfl, rfl⟩
    | 2, hb => cases hb; exact ⟨_, rfl, amapM_flatF (flat_ints T), rfl⟩
    | 3, hb => cases hb; exact ⟨_, rfl, amapM_flatF (flat_ints l), rfl⟩
  · match q, hb with
    | 0, hb => cases hb; show _ = _; kernel_rfl
    | 1, hb => cases hb; exact amapM_flatF rfl
    | 2, hb => cases hb; exact amapM_flatF (flat_ints T)
    | 3, hb => cases hb; exact amapM_flatF (flat_ints l)
  · match q, hq with
    | 0, _ => exact .inl ⟨(2, ptP (at_ 0)), by simp, by simp [named]⟩
    | 1, _ => exact .inl ⟨(3, ptP (at_ 1)), by simp, by simp [named]⟩
    | 2, _ => exact .inl ⟨(17, slV (at_ 2) (W + 1) kt), by simp, by simp [named]⟩
    | 3, _ => exact .inr ⟨0, _, slV (at_ 3) (m + 1) k, by omega, rfl, by simp, by simp [named]⟩
  · intro j hj _ g
    have hf := flat_ints l
    have hfT := flat_ints T
    have hfU := flat_ints (T.take (W + 1))
    have ht : towOk (l.map gi) (m + 1) := towOk_of hl (Nat.succ_pos m) h1
    have hu : towOk ((T.take (W + 1)).map gi) (W + 1) := towOk_of (by rw [List.length_take]; omega) (Nat.succ_pos W) hW
    have hi : itC (T.map gi) (W + 1) [] := ⟨by rw [decI_map], Nat.succ_pos W, by rw [decI_map]; exact hT, hW, rfl⟩
    have hlaid : ∀ o o', Laid (faC l T e row m k a b c d w x y z (Tryz.prog.globals.size + ·)) (Tryz.prog.globals.size + ·) (((canonT [] (fun _ => 0) Tryz.prog.globals.size (faB l T e row m k a b c d w x y z (nG1 + 3))).push o).push o') := fun o o' q bb hb => by
      match q, hb with
      | 0, hb => cases hb; show _ = _; kernel_rfl
      | 1, hb => cases hb; show _ = _; kernel_rfl
      | 2, hb => cases hb; show _ = _; kernel_rfl
      | 3, hb => cases hb; show _ = _; kernel_rfl
    refine execC_ok mixed orcFa_ok (askFa_ok true) (noLoops _) (Eq.mpr (fa_body l T e row m k W kt j a b c d w x y z _ g _) ⟨fun _ => ?_, fun hge => absurd (blt_false hge) (by omega)⟩)
    repeat rw [decI_map]
    refine ⟨⟨hf, trivial⟩, ht, rfl, ⟨hfT, trivial⟩, hi, ⟨hf, hfU, trivial⟩, ht, hu, rfl, fun hz => ⟨?_, trivial, ?_, hlaid _ _⟩, fun hz => ⟨rfl, trivial, ?_, hlaid _ _⟩⟩
    · rw [hp j hj hz]; rfl
    · rw [fwrap_nat (by omega)]; rfl
    · rw [fwrap_nat (by omega)]; rfl
  · intro _ g
    refine execC_ok mixed orcFa_ok (askFa_ok true) (noLoops _) (Eq.mpr (fa_body l T e row m k W kt (W + 1) a b c d w x y z _ g _) ⟨fun hlt => absurd (blt_true hlt) (by omega), fun _ => ⟨rfl, rfl, fun q bb hb => gC_get hb⟩⟩)
end
end Go.Proofs.YtfkiiacbchbgdaaGreatDoor
