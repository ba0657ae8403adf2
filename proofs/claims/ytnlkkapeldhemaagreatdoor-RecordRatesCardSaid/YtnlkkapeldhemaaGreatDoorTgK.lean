/-
  OWN WORK. RecordTriggers on the abstract machine: it returns true, for all samples and numbers.
-/
import Derived.Test.YtnlkkapeldhemaaGreatDoorTgJ
namespace Go.Proofs.YtnlkkapeldhemaaGreatDoor
open Go Go.Am

theorem firstS_nest (c x y z : Int) : firstS [c, firstS [x, y, z]] = firstS [c, x, y, z] := by
  have key : ∀ l : List Int, firstS [firstS l] = firstS l := by
    intro l
    cases h : ieq (firstS l) 0 with
    | true =>
      have h' := h
      rw [ieq_dec] at h'
      rw [show firstS l = 0 by simpa using h']
      rfl
    | false =>
      show (bif ieq (firstS l) 0 then firstS [] else firstS l) = _
      rw [h]; rfl
  show (bif ieq c 0 then firstS [firstS [x, y, z]] else c) = _
  rw [key]
  rfl
theorem x4_same (s : X4) : (ieq s.lo s.lo && (ieq s.hi s.hi && (ieq s.la s.la && (ieq s.ha s.ha && true)))) = true := by simp [ieq_self]
theorem exE_bad {l : List Nat} (h : csE l ≠ 0) : exE l = csE l := by
  unfold exE
  show (bif ieq (csE l) 0 then _ else csE l) = _
  rw [ieq_ne h]; rfl
theorem pE_one (l : List Nat) (lv b a : Int) : firstS [csE l, trC lv b a] = pE l lv b a := firstS_nest _ _ _ _
theorem RC_of {l : List Nat} {lv b a : Int} (h1 : validL l) (h2 : trC lv b a = 0) : RC l lv b a = true := by
  unfold RC
  rw [allB_iff.2 h1, h2]; rfl
theorem pE_good {l : List Nat} {lv b a : Int} (h1 : csE l = 0) (h2 : trC lv b a = 0) : pE l lv b a = 0 := by
  rw [← pE_one, h1, h2]; rfl
theorem pE_badT {l : List Nat} {lv b a : Int} (h2 : trC lv b a ≠ 0) : pE l lv b a ≠ 0 := fun h => h2 (pE_zero h).2.1
theorem ieq_z {x : Int} (h : x = 0) : ieq x 0 = true := by rw [h]; rfl
set_option maxRecDepth 100000 in
theorem trl_full (l : List Nat) (k e : Nat) (es : Nat → TypeId) (lv b a : Int) (h0 : 0 < l.length) (h1 : l.length ≤ 9223372036854775807) (hk : l.length ≤ k) : CallJ Tryz.prog 4 #[liP l.length k, trV lv b a] (argH es (l.map gf) e) (fun v _ => v = .bool true) := by
  have ht : l.take l.length = l := List.take_length
  have hle := Nat.le_refl l.length
  have hm : (!shortB (l.take l.length).length) = false → l.length ≤ 1000000 := fun h => by rw [ht] at h; have := short_le h; omega
  by_cases hc : csE l = 0
  · obtain ⟨hva, hlen⟩ := cs_zero hc
    by_cases hT : trC lv b a = 0
    · have hp := pE_good hc hT
      by_cases hr : rE l lv b a = 0
      · refine callC_ok mixed orcTe_ok (askTe_ok true true) (Eq.mpr (trl_D l l.length k e es lv b a _) ⟨l, rfl, h0, hle, h1, hk, fun _ => rfl, fun hs => ?_⟩)
        have hm := hm hs
        refine ⟨l, rfl, h0, hle, hm, rfl, rfl, rfl, l, by rw [ht], rfl, h0, hle, hm, hle, by rw [ht]; exact ieq_z (by rw [trE_good hp, hr]), fun y4 y5 e4 e5 => ⟨l, rfl, h0, hle, hm, l, by rw [ht], rfl, h0, hle, hm, hle, fun y8 y9 e8 e9 => ?_⟩⟩
        refine ⟨l, rfl, h0, hle, hm, hk, by rw [ht]; exact ieq_z (by rw [pE_one, hp]), l, rfl, rfl, h0, hle, by omega, hk, by rw [ht]; exact RC_of hva hT, by rw [ht]; exact ieq_z hr, fun y12 y13 e12 e13 => ⟨by rw [ht]; exact ieq_z hc, l, rfl, rfl, h0, hle, by omega, hk, by rw [ht]; exact ieq_z hc, fun y15 y16 e15 e16 => ?_⟩⟩
        subst e4 e5 e8 e9 e12 e13 e15 e16
        obtain ⟨_, _, _, ⟨p5, p6⟩, p7, p8⟩ := pE_zero hp
        have hseg : 0 < (trS l lv b a).length ∧ (trS l lv b a).length ≤ 65536 := by
          have hr' := hr
          unfold rE at hr'
          split at hr'
          · cases hr'
          · rename_i i hi
            obtain ⟨_, i2, i3⟩ := tgF_some (show tgF lv b (l.map unitE) 0 = some i from hi)
            rw [List.length_map, Nat.zero_add] at i2
            unfold trS trI
            rw [hi, List.length_take, List.length_drop]
            simp only [Option.getD_some]
            omega
        have hvs : validL (trS l lv b a) := fun x hx => hva x (List.mem_of_mem_drop (List.mem_of_mem_take hx))
        refine ⟨by kernel_rfl, by rw [ht]; exact hseg.1, trS l lv b a, trS l lv b a, by rw [ht], by rw [ht], by rw [ht], by rw [ht], hseg.2, SameF.self hvs, ieq_self _, rfl, by rw [x4_same], ieq_self _, rfl⟩
      · refine callC_ok mixed orcTe_ok (askTe_ok false false) (Eq.mpr (trl_C l l.length k e es lv b a _) ⟨l, rfl, h0, hle, h1, hk, fun _ => rfl, fun hs => ?_⟩)
        have hm := hm hs
        refine ⟨l, rfl, h0, hle, hm, rfl, rfl, rfl, l, by rw [ht], rfl, h0, hle, hm, hle, by rw [ht, trE_good hp]; exact ieq_ne hr, l, rfl, h0, hle, hm, l, by rw [ht], rfl, h0, hle, hm, hle, fun y6 y7 e6 e7 => ?_⟩
        refine ⟨l, rfl, h0, hle, hm, hk, by rw [ht]; exact ieq_z (by rw [pE_one, hp]), l, rfl, rfl, h0, hle, by omega, hk, by rw [ht]; exact RC_of hva hT, by rw [ht]; exact ieq_ne hr, by rw [ht]; exact ieq_z hc, l, rfl, rfl, h0, hle, by omega, hk, by rw [ht]; exact ieq_z hc, fun y11 y12 e11 e12 => ?_⟩
        subst e6 e7 e11 e12
        exact ⟨rfl, rfl, rfl, rfl, rfl, by rw [ht, trE_good hp]; exact ieq_self _, by rw [x4_same], ieq_self _, rfl⟩
    · have hp : pE l lv b a ≠ 0 := pE_badT hT
      obtain ⟨q1, q2⟩ := trE_bad hp
      refine callC_ok mixed orcTe_ok (askTe_ok false false) (Eq.mpr (trl_B l l.length k e es lv b a _) ⟨l, rfl, h0, hle, h1, hk, fun _ => rfl, fun hs => ?_⟩)
      have hm := hm hs
      refine ⟨l, rfl, h0, hle, hm, rfl, rfl, rfl, l, by rw [ht], rfl, h0, hle, hm, hle, by rw [ht]; exact q2, l, rfl, h0, hle, hm, l, by rw [ht], rfl, h0, hle, hm, hle, fun y6 y7 e6 e7 => ?_⟩
      refine ⟨l, rfl, h0, hle, hm, hk, by rw [ht, pE_one]; exact ieq_ne hp, by rw [ht]; exact ieq_z hc, l, rfl, rfl, h0, hle, by omega, hk, by rw [ht]; exact ieq_z hc, fun y10 y11 e10 e11 => ?_⟩
      subst e6 e7 e10 e11
      exact ⟨rfl, rfl, rfl, rfl, rfl, by rw [ht, pE_one, q1]; exact ieq_self _, by rw [x4_same], ieq_self _, rfl⟩
  · have hp : pE l lv b a ≠ 0 := fun h => hc (pE_zero h).1
    obtain ⟨q1, q2⟩ := trE_bad hp
    refine callC_ok mixed orcTe_ok (askTe_ok false false) (Eq.mpr (trl_A l l.length k e es lv b a _) ⟨l, rfl, h0, hle, h1, hk, fun _ => rfl, fun hs => ?_⟩)
    have hm := hm hs
    refine ⟨l, rfl, h0, hle, hm, rfl, rfl, rfl, l, by rw [ht], rfl, h0, hle, hm, hle, by rw [ht]; exact q2, l, rfl, h0, hle, hm, l, by rw [ht], rfl, h0, hle, hm, hle, fun y6 y7 e6 e7 => ?_⟩
    rw [ht] at e6 e7
    rw [exA_bad (by rw [exE_bad hc]; exact hc)] at e6
    rw [exE_bad hc] at e7
    subst e6 e7
    exact ⟨l, rfl, h0, hle, hm, hk, by rw [ht, pE_one]; exact ieq_ne hp, by rw [ht]; exact ieq_ne hc, rfl, rfl, rfl, rfl, rfl, by rw [ht, pE_one, q1]; exact ieq_self _, rfl, by rw [ht]; exact ieq_self _, rfl⟩
set_option maxRecDepth 100000 in
theorem trl_nil (es : Nat → TypeId) (lv b a : Int) : CallJ Tryz.prog 4 #[nilS, trV lv b a] (base tabs es Tryz.prog.globals.size) (fun v _ => v = .bool true) := by
  have hn : ieq (trE [] lv b a) 0 = false := ieq_ne tr_none
  by_cases hT : trC lv b a = 0
  · have hp : pE [] lv b a = 0 := pE_good csE_nil hT
    refine callC_ok mixed orcTe_ok (askEm_ok false false) (Eq.mpr (trl_nC es lv b a _) ⟨rfl, rfl, rfl, rfl, hn, rfl, fun y1 y2 e1 e2 => ⟨by rw [hT]; rfl, rfl, rfl, RC_of (fun x hx => by cases hx) hT, rfl, rfl, rfl, rfl, fun y3 y4 e3 e4 => ?_⟩⟩)
    subst e1 e2 e3 e4
    exact ⟨rfl, rfl, rfl, rfl, rfl, by rw [trE_good hp]; exact ieq_self _, by rw [x4_same], rfl, rfl⟩
  · have hp : pE [] lv b a ≠ 0 := pE_badT hT
    have ho : firstS [0, trC lv b a] = pE [] lv b a := by rw [← pE_one, csE_nil]
    refine callC_ok mixed orcTe_ok (askEm_ok false false) (Eq.mpr (trl_nB es lv b a _) ⟨rfl, rfl, rfl, rfl, hn, rfl, fun y1 y2 e1 e2 => ⟨by rw [ho]; exact ieq_ne hp, rfl, rfl, rfl, fun y3 y4 e3 e4 => ?_⟩⟩)
    subst e1 e2 e3 e4
    exact ⟨rfl, rfl, rfl, rfl, rfl, by rw [ho, (trE_bad hp).1]; exact ieq_self _, by rw [x4_same], rfl, rfl⟩
set_option maxRecDepth 100000 in
theorem trl_emp (k : Nat) (es : Nat → TypeId) (lv b a : Int) : CallJ Tryz.prog 4 #[.slice (some ⟨Tryz.prog.globals.size, 0, none⟩) 0 k, trV lv b a] ((base tabs es Tryz.prog.globals.size).push .dead) (fun v _ => v = .bool true) := by
  have hn : ieq (trE [] lv b a) 0 = false := ieq_ne tr_none
  by_cases hT : trC lv b a = 0
  · have hp : pE [] lv b a = 0 := pE_good csE_nil hT
    refine callC_ok mixed orcTe_ok (askEm_ok false false) (Eq.mpr (trl_eC k es lv b a _) ⟨rfl, rfl, rfl, rfl, hn, rfl, fun y1 y2 e1 e2 => ⟨by rw [hT]; rfl, rfl, RC_of (fun x hx => by cases hx) hT, rfl, rfl, rfl, fun y3 y4 e3 e4 => ?_⟩⟩)
    subst e1 e2 e3 e4
    exact ⟨rfl, rfl, rfl, rfl, rfl, by rw [trE_good hp]; exact ieq_self _, by rw [x4_same], rfl, rfl⟩
  · have hp : pE [] lv b a ≠ 0 := pE_badT hT
    have ho : firstS [0, trC lv b a] = pE [] lv b a := by rw [← pE_one, csE_nil]
    refine callC_ok mixed orcTe_ok (askEm_ok false false) (Eq.mpr (trl_eB k es lv b a _) ⟨rfl, rfl, rfl, rfl, hn, rfl, fun y1 y2 e1 e2 => ⟨by rw [ho]; exact ieq_ne hp, rfl, rfl, fun y3 y4 e3 e4 => ?_⟩⟩)
    subst e1 e2 e3 e4
    exact ⟨rfl, rfl, rfl, rfl, rfl, by rw [ho, (trE_bad hp).1]; exact ieq_self _, by rw [x4_same], rfl, rfl⟩
end Go.Proofs.YtnlkkapeldhemaaGreatDoor
