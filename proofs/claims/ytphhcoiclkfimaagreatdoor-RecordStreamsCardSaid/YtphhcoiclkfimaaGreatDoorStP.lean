/-
  OWN WORK. RecordStreams on the abstract machine: it returns true, for all samples and bytes.
-/
import Derived.Test.YtphhcoiclkfimaaGreatDoorStO
import Derived.Test.YtphhcoiclkfimaaGreatDoorLw0
namespace Go.Proofs.YtphhcoiclkfimaaGreatDoor
open Go Go.Am

theorem unE_zero {s : List Int} (h : unE s = 0) : validL (unL s) ∧ (unL s).length ≤ 4096 := by
  by_cases hc : ckE s = 0
  · rw [unE_cs hc] at h
    exact cs_zero h
  · rw [unE_ck hc] at h
    exact absurd h hc
theorem unB_false {s : List Int} (h : unB s = false) : 0 < (unL s).length := by
  rw [unL_length]
  unfold unB at h
  cases hn : cntN s with
  | zero => rw [hn] at h; cases h
  | succ n => omega
theorem ieq_z' {x : Int} (h : x = 0) : ieq x 0 = true := by rw [h]; rfl
theorem stm_pos (l : List Nat) : 0 < (stmE l).length := by rw [stmE_length]; omega
set_option maxRecDepth 100000 in
theorem st_ff_1n (l : List Nat) (k e : Nat) (s : List Int) (q f : Nat) (es : Nat → TypeId) (h0 : 0 < l.length) (h1 : l.length ≤ 9223372036854775807) (hk : l.length ≤ k) (g0 : 0 < s.length) (gq : s.length ≤ q) (hb : ∀ x ∈ s, inB x) (c1 : csE l = 0) (c2 : unE s = 0) (c3 : unB s = true) : CallJ Tryz.prog 5 #[liP l.length k, slN 1 s.length q] (((base tabs es Tryz.prog.globals.size).push (.cells (l.map gf) e 0 true)).push (.cells (s.map gb) f 0 true)) (fun v _ => v = .bool true) := by
  have ht : l.take l.length = l := List.take_length
  have hs : s.take s.length = s := List.take_length
  have hB : ∀ y : Int, List.Mem y (s.take s.length) → inB y := fun y hy => hb y (List.mem_of_mem_take hy)
  have hB2 : ∀ y : Int, List.Mem y s → inB y := hb
  have e1 : ieq (csE l) 0 = true := ieq_z' c1
  have e2 : validL l := (cs_zero c1).1
  have e3 := stm_pos l
  have e4 := stmE_length l
  have e5 : ieq 0 (csE l) = true := by rw [c1]; rfl
  have u1 : ieq (unE s) 0 = true := ieq_z' c2
  refine callC_ok mixed orcSn_ok (askTFF_ok true true true) (Eq.mpr (st_FF1n l l.length k e s s.length q f es _) ?_)
  refine ⟨l, rfl, h0, Nat.le_refl _, h1, hk, fun _ => rfl, fun w1 => ?_⟩
  rw [ht] at w1
  have n1 := short_le w1
  refine ⟨fun w2 => ⟨fun _ => rfl, fun w3 => ?_⟩, fun w2 => ?_⟩
  · have n2 : s.length ≤ 400001 := by rw [ieq_dec] at w3; simp only [Bool.not_eq_false', decide_eq_true_eq, Int.ofNat_eq_natCast] at w3; omega
    clear w2 w3
    repeat' (first
      | assumption
      | omega
      | exact rfl
      | (refine ⟨_, rfl, ?_⟩)
      | (refine ⟨_, _, rfl, rfl, ?_⟩)
      | (intro y ey; subst ey)
      | exact ieq_self _
      | (with_reducible apply And.intro)
      | (simp only [ht, hs]; first | done | assumption | omega | exact ieq_self _)
      | kernel_rfl)
  · have n2 : s.length ≤ 400001 := by rw [ilt_dec] at w2; simp only [decide_eq_false_iff_not, Int.ofNat_eq_natCast] at w2; omega
    clear w2
    repeat' (first
      | assumption
      | omega
      | exact rfl
      | (refine ⟨_, rfl, ?_⟩)
      | (refine ⟨_, _, rfl, rfl, ?_⟩)
      | (intro y ey; subst ey)
      | exact ieq_self _
      | (with_reducible apply And.intro)
      | (simp only [ht, hs]; first | done | assumption | omega | exact ieq_self _)
      | kernel_rfl)
set_option maxRecDepth 100000 in
theorem st_ff_1g (l : List Nat) (k e : Nat) (s : List Int) (q f : Nat) (es : Nat → TypeId) (h0 : 0 < l.length) (h1 : l.length ≤ 9223372036854775807) (hk : l.length ≤ k) (g0 : 0 < s.length) (gq : s.length ≤ q) (hb : ∀ x ∈ s, inB x) (c1 : csE l = 0) (c2 : unE s = 0) (c3 : unB s = false) : CallJ Tryz.prog 5 #[liP l.length k, slN 1 s.length q] (((base tabs es Tryz.prog.globals.size).push (.cells (l.map gf) e 0 true)).push (.cells (s.map gb) f 0 true)) (fun v _ => v = .bool true) := by
  have ht : l.take l.length = l := List.take_length
  have hs : s.take s.length = s := List.take_length
  have hB : ∀ y : Int, List.Mem y (s.take s.length) → inB y := fun y hy => hb y (List.mem_of_mem_take hy)
  have hB2 : ∀ y : Int, List.Mem y s → inB y := hb
  have e1 : ieq (csE l) 0 = true := ieq_z' c1
  have e2 : validL l := (cs_zero c1).1
  have e3 := stm_pos l
  have e4 := stmE_length l
  have e5 : ieq 0 (csE l) = true := by rw [c1]; rfl
  have u1 : ieq (unE s) 0 = true := ieq_z' c2
  have u3 : 0 < (unL s).length := unB_false c3
  have u4 : (unL s).length ≤ 65536 := by have := (unE_zero c2).2; omega
  have u5 : SameF (unL s) (unL s) := SameF.self (unE_zero c2).1
  refine callC_ok mixed orcSn_ok (askTFF_ok true true false) (Eq.mpr (st_FF1g l l.length k e s s.length q f es _) ?_)
  refine ⟨l, rfl, h0, Nat.le_refl _, h1, hk, fun _ => rfl, fun w1 => ?_⟩
  rw [ht] at w1
  have n1 := short_le w1
  refine ⟨fun w2 => ⟨fun _ => rfl, fun w3 => ?_⟩, fun w2 => ?_⟩
  · have n2 : s.length ≤ 400001 := by rw [ieq_dec] at w3; simp only [Bool.not_eq_false', decide_eq_true_eq, Int.ofNat_eq_natCast] at w3; omega
    clear w2 w3
    repeat' (first
      | assumption
      | omega
      | exact rfl
      | (refine ⟨_, rfl, ?_⟩)
      | (refine ⟨_, _, rfl, rfl, ?_⟩)
      | (intro y ey; subst ey)
      | exact ieq_self _
      | (with_reducible apply And.intro)
      | (simp only [ht, hs]; first | done | assumption | omega | exact ieq_self _)
      | kernel_rfl)
  · have n2 : s.length ≤ 400001 := by rw [ilt_dec] at w2; simp only [decide_eq_false_iff_not, Int.ofNat_eq_natCast] at w2; omega
    clear w2
    repeat' (first
      | assumption
      | omega
      | exact rfl
      | (refine ⟨_, rfl, ?_⟩)
      | (refine ⟨_, _, rfl, rfl, ?_⟩)
      | (intro y ey; subst ey)
      | exact ieq_self _
      | (with_reducible apply And.intro)
      | (simp only [ht, hs]; first | done | assumption | omega | exact ieq_self _)
      | kernel_rfl)
set_option maxRecDepth 100000 in
theorem st_ff_1e (l : List Nat) (k e : Nat) (s : List Int) (q f : Nat) (es : Nat → TypeId) (h0 : 0 < l.length) (h1 : l.length ≤ 9223372036854775807) (hk : l.length ≤ k) (g0 : 0 < s.length) (gq : s.length ≤ q) (hb : ∀ x ∈ s, inB x) (c1 : csE l = 0) (c2 : unE s ≠ 0) : CallJ Tryz.prog 5 #[liP l.length k, slN 1 s.length q] (((base tabs es Tryz.prog.globals.size).push (.cells (l.map gf) e 0 true)).push (.cells (s.map gb) f 0 true)) (fun v _ => v = .bool true) := by
  have ht : l.take l.length = l := List.take_length
  have hs : s.take s.length = s := List.take_length
  have hB : ∀ y : Int, List.Mem y (s.take s.length) → inB y := fun y hy => hb y (List.mem_of_mem_take hy)
  have hB2 : ∀ y : Int, List.Mem y s → inB y := hb
  have e1 : ieq (csE l) 0 = true := ieq_z' c1
  have e2 : validL l := (cs_zero c1).1
  have e3 := stm_pos l
  have e4 := stmE_length l
  have e5 : ieq 0 (csE l) = true := by rw [c1]; rfl
  have u1 : ieq (unE s) 0 = false := ieq_ne' c2
  refine callC_ok mixed orcSn_ok (askTFF_ok true false false) (Eq.mpr (st_FF1e l l.length k e s s.length q f es _) ?_)
  refine ⟨l, rfl, h0, Nat.le_refl _, h1, hk, fun _ => rfl, fun w1 => ?_⟩
  rw [ht] at w1
  have n1 := short_le w1
  refine ⟨fun w2 => ⟨fun _ => rfl, fun w3 => ?_⟩, fun w2 => ?_⟩
  · have n2 : s.length ≤ 400001 := by rw [ieq_dec] at w3; simp only [Bool.not_eq_false', decide_eq_true_eq, Int.ofNat_eq_natCast] at w3; omega
    clear w2 w3
    repeat' (first
      | assumption
      | omega
      | exact rfl
      | (refine ⟨_, rfl, ?_⟩)
      | (refine ⟨_, _, rfl, rfl, ?_⟩)
      | (intro y ey; subst ey)
      | exact ieq_self _
      | (with_reducible apply And.intro)
      | (simp only [ht, hs]; first | done | assumption | omega | exact ieq_self _)
      | kernel_rfl)
  · have n2 : s.length ≤ 400001 := by rw [ilt_dec] at w2; simp only [decide_eq_false_iff_not, Int.ofNat_eq_natCast] at w2; omega
    clear w2
    repeat' (first
      | assumption
      | omega
      | exact rfl
      | (refine ⟨_, rfl, ?_⟩)
      | (refine ⟨_, _, rfl, rfl, ?_⟩)
      | (intro y ey; subst ey)
      | exact ieq_self _
      | (with_reducible apply And.intro)
      | (simp only [ht, hs]; first | done | assumption | omega | exact ieq_self _)
      | kernel_rfl)
set_option maxRecDepth 100000 in
theorem st_ff_0n (l : List Nat) (k e : Nat) (s : List Int) (q f : Nat) (es : Nat → TypeId) (h0 : 0 < l.length) (h1 : l.length ≤ 9223372036854775807) (hk : l.length ≤ k) (g0 : 0 < s.length) (gq : s.length ≤ q) (hb : ∀ x ∈ s, inB x) (c1 : csE l ≠ 0) (c2 : unE s = 0) (c3 : unB s = true) : CallJ Tryz.prog 5 #[liP l.length k, slN 1 s.length q] (((base tabs es Tryz.prog.globals.size).push (.cells (l.map gf) e 0 true)).push (.cells (s.map gb) f 0 true)) (fun v _ => v = .bool true) := by
  have ht : l.take l.length = l := List.take_length
  have hs : s.take s.length = s := List.take_length
  have hB : ∀ y : Int, List.Mem y (s.take s.length) → inB y := fun y hy => hb y (List.mem_of_mem_take hy)
  have hB2 : ∀ y : Int, List.Mem y s → inB y := hb
  have e1 : ieq (csE l) 0 = false := ieq_ne' c1
  have u1 : ieq (unE s) 0 = true := ieq_z' c2
  refine callC_ok mixed orcSn_ok (askTFF_ok false true true) (Eq.mpr (st_FF0n l l.length k e s s.length q f es _) ?_)
  refine ⟨l, rfl, h0, Nat.le_refl _, h1, hk, fun _ => rfl, fun w1 => ?_⟩
  rw [ht] at w1
  have n1 := short_le w1
  refine ⟨fun w2 => ⟨fun _ => rfl, fun w3 => ?_⟩, fun w2 => ?_⟩
  · have n2 : s.length ≤ 400001 := by rw [ieq_dec] at w3; simp only [Bool.not_eq_false', decide_eq_true_eq, Int.ofNat_eq_natCast] at w3; omega
    clear w2 w3
    repeat' (first
      | assumption
      | omega
      | exact rfl
      | (refine ⟨_, rfl, ?_⟩)
      | (refine ⟨_, _, rfl, rfl, ?_⟩)
      | (intro y ey; subst ey)
      | exact ieq_self _
      | (with_reducible apply And.intro)
      | (simp only [ht, hs]; first | done | assumption | omega | exact ieq_self _)
      | kernel_rfl)
  · have n2 : s.length ≤ 400001 := by rw [ilt_dec] at w2; simp only [decide_eq_false_iff_not, Int.ofNat_eq_natCast] at w2; omega
    clear w2
    repeat' (first
      | assumption
      | omega
      | exact rfl
      | (refine ⟨_, rfl, ?_⟩)
      | (refine ⟨_, _, rfl, rfl, ?_⟩)
      | (intro y ey; subst ey)
      | exact ieq_self _
      | (with_reducible apply And.intro)
      | (simp only [ht, hs]; first | done | assumption | omega | exact ieq_self _)
      | kernel_rfl)
set_option maxRecDepth 100000 in
theorem st_ff_0g (l : List Nat) (k e : Nat) (s : List Int) (q f : Nat) (es : Nat → TypeId) (h0 : 0 < l.length) (h1 : l.length ≤ 9223372036854775807) (hk : l.length ≤ k) (g0 : 0 < s.length) (gq : s.length ≤ q) (hb : ∀ x ∈ s, inB x) (c1 : csE l ≠ 0) (c2 : unE s = 0) (c3 : unB s = false) : CallJ Tryz.prog 5 #[liP l.length k, slN 1 s.length q] (((base tabs es Tryz.prog.globals.size).push (.cells (l.map gf) e 0 true)).push (.cells (s.map gb) f 0 true)) (fun v _ => v = .bool true) := by
  have ht : l.take l.length = l := List.take_length
  have hs : s.take s.length = s := List.take_length
  have hB : ∀ y : Int, List.Mem y (s.take s.length) → inB y := fun y hy => hb y (List.mem_of_mem_take hy)
  have hB2 : ∀ y : Int, List.Mem y s → inB y := hb
  have e1 : ieq (csE l) 0 = false := ieq_ne' c1
  have u1 : ieq (unE s) 0 = true := ieq_z' c2
  have u3 : 0 < (unL s).length := unB_false c3
  have u4 : (unL s).length ≤ 65536 := by have := (unE_zero c2).2; omega
  have u5 : SameF (unL s) (unL s) := SameF.self (unE_zero c2).1
  refine callC_ok mixed orcSn_ok (askTFF_ok false true false) (Eq.mpr (st_FF0g l l.length k e s s.length q f es _) ?_)
  refine ⟨l, rfl, h0, Nat.le_refl _, h1, hk, fun _ => rfl, fun w1 => ?_⟩
  rw [ht] at w1
  have n1 := short_le w1
  refine ⟨fun w2 => ⟨fun _ => rfl, fun w3 => ?_⟩, fun w2 => ?_⟩
  · have n2 : s.length ≤ 400001 := by rw [ieq_dec] at w3; simp only [Bool.not_eq_false', decide_eq_true_eq, Int.ofNat_eq_natCast] at w3; omega
    clear w2 w3
    repeat' (first
      | assumption
      | omega
      | exact rfl
      | (refine ⟨_, rfl, ?_⟩)
      | (refine ⟨_, _, rfl, rfl, ?_⟩)
      | (intro y ey; subst ey)
      | exact ieq_self _
      | (with_reducible apply And.intro)
      | (simp only [ht, hs]; first | done | assumption | omega | exact ieq_self _)
      | kernel_rfl)
  · have n2 : s.length ≤ 400001 := by rw [ilt_dec] at w2; simp only [decide_eq_false_iff_not, Int.ofNat_eq_natCast] at w2; omega
    clear w2
    repeat' (first
      | assumption
      | omega
      | exact rfl
      | (refine ⟨_, rfl, ?_⟩)
      | (refine ⟨_, _, rfl, rfl, ?_⟩)
      | (intro y ey; subst ey)
      | exact ieq_self _
      | (with_reducible apply And.intro)
      | (simp only [ht, hs]; first | done | assumption | omega | exact ieq_self _)
      | kernel_rfl)
set_option maxRecDepth 100000 in
theorem st_ff_0e (l : List Nat) (k e : Nat) (s : List Int) (q f : Nat) (es : Nat → TypeId) (h0 : 0 < l.length) (h1 : l.length ≤ 9223372036854775807) (hk : l.length ≤ k) (g0 : 0 < s.length) (gq : s.length ≤ q) (hb : ∀ x ∈ s, inB x) (c1 : csE l ≠ 0) (c2 : unE s ≠ 0) : CallJ Tryz.prog 5 #[liP l.length k, slN 1 s.length q] (((base tabs es Tryz.prog.globals.size).push (.cells (l.map gf) e 0 true)).push (.cells (s.map gb) f 0 true)) (fun v _ => v = .bool true) := by
  have ht : l.take l.length = l := List.take_length
  have hs : s.take s.length = s := List.take_length
  have hB : ∀ y : Int, List.Mem y (s.take s.length) → inB y := fun y hy => hb y (List.mem_of_mem_take hy)
  have hB2 : ∀ y : Int, List.Mem y s → inB y := hb
  have e1 : ieq (csE l) 0 = false := ieq_ne' c1
  have u1 : ieq (unE s) 0 = false := ieq_ne' c2
  refine callC_ok mixed orcSn_ok (askTFF_ok false false false) (Eq.mpr (st_FF0e l l.length k e s s.length q f es _) ?_)
  refine ⟨l, rfl, h0, Nat.le_refl _, h1, hk, fun _ => rfl, fun w1 => ?_⟩
  rw [ht] at w1
  have n1 := short_le w1
  refine ⟨fun w2 => ⟨fun _ => rfl, fun w3 => ?_⟩, fun w2 => ?_⟩
  · have n2 : s.length ≤ 400001 := by rw [ieq_dec] at w3; simp only [Bool.not_eq_false', decide_eq_true_eq, Int.ofNat_eq_natCast] at w3; omega
    clear w2 w3
    repeat' (first
      | assumption
      | omega
      | exact rfl
      | (refine ⟨_, rfl, ?_⟩)
      | (refine ⟨_, _, rfl, rfl, ?_⟩)
      | (intro y ey; subst ey)
      | exact ieq_self _
      | (with_reducible apply And.intro)
      | (simp only [ht, hs]; first | done | assumption | omega | exact ieq_self _)
      | kernel_rfl)
  · have n2 : s.length ≤ 400001 := by rw [ilt_dec] at w2; simp only [decide_eq_false_iff_not, Int.ofNat_eq_natCast] at w2; omega
    clear w2
    repeat' (first
      | assumption
      | omega
      | exact rfl
      | (refine ⟨_, rfl, ?_⟩)
      | (refine ⟨_, _, rfl, rfl, ?_⟩)
      | (intro y ey; subst ey)
      | exact ieq_self _
      | (with_reducible apply And.intro)
      | (simp only [ht, hs]; first | done | assumption | omega | exact ieq_self _)
      | kernel_rfl)
theorem st_ff (l : List Nat) (k e : Nat) (s : List Int) (q f : Nat) (es : Nat → TypeId) (h0 : 0 < l.length) (h1 : l.length ≤ 9223372036854775807) (hk : l.length ≤ k) (g0 : 0 < s.length) (gq : s.length ≤ q) (hb : ∀ x ∈ s, inB x) : CallJ Tryz.prog 5 #[liP l.length k, slN 1 s.length q] (((base tabs es Tryz.prog.globals.size).push (.cells (l.map gf) e 0 true)).push (.cells (s.map gb) f 0 true)) (fun v _ => v = .bool true) := by
  by_cases c1 : csE l = 0
  ·
    by_cases c2 : unE s = 0
    · cases c3 : unB s with
      | true =>
        exact st_ff_1n l k e s q f es h0 h1 hk g0 gq hb c1 c2 c3
      | false =>
        exact st_ff_1g l k e s q f es h0 h1 hk g0 gq hb c1 c2 c3
    ·
      exact st_ff_1e l k e s q f es h0 h1 hk g0 gq hb c1 c2
  ·
    by_cases c2 : unE s = 0
    · cases c3 : unB s with
      | true =>
        exact st_ff_0n l k e s q f es h0 h1 hk g0 gq hb c1 c2 c3
      | false =>
        exact st_ff_0g l k e s q f es h0 h1 hk g0 gq hb c1 c2 c3
    ·
      exact st_ff_0e l k e s q f es h0 h1 hk g0 gq hb c1 c2
set_option maxRecDepth 100000 in
theorem st_fn_1e (l : List Nat) (k e : Nat) (es : Nat → TypeId) (h0 : 0 < l.length) (h1 : l.length ≤ 9223372036854775807) (hk : l.length ≤ k) (c1 : csE l = 0) : CallJ Tryz.prog 5 #[liP l.length k, nilS] ((base tabs es Tryz.prog.globals.size).push (.cells (l.map gf) e 0 true)) (fun v _ => v = .bool true) := by
  have ht : l.take l.length = l := List.take_length
  have hB : ∀ y : Int, List.Mem y [] → inB y := fun y hy => by cases hy
  have e1 : ieq (csE l) 0 = true := ieq_z' c1
  have e2 : validL l := (cs_zero c1).1
  have e3 := stm_pos l
  have e4 := stmE_length l
  have e5 : ieq 0 (csE l) = true := by rw [c1]; rfl
  refine callC_ok mixed orcSn_ok (askTFE_ok true false false) (Eq.mpr (st_FN1e l l.length k e es _) ?_)
  refine ⟨l, rfl, h0, Nat.le_refl _, h1, hk, fun _ => rfl, fun w1 => ?_⟩
  rw [ht] at w1
  have n1 := short_le w1
  repeat' (first
    | assumption
    | omega
    | exact rfl
    | (refine ⟨_, rfl, ?_⟩)
    | (refine ⟨_, _, rfl, rfl, ?_⟩)
    | (intro y ey; subst ey)
    | exact ieq_self _
    | (with_reducible apply And.intro)
    | (simp only [ht]; first | done | assumption | omega | exact ieq_self _)
    | kernel_rfl)
set_option maxRecDepth 100000 in
theorem st_fn_0e (l : List Nat) (k e : Nat) (es : Nat → TypeId) (h0 : 0 < l.length) (h1 : l.length ≤ 9223372036854775807) (hk : l.length ≤ k) (c1 : csE l ≠ 0) : CallJ Tryz.prog 5 #[liP l.length k, nilS] ((base tabs es Tryz.prog.globals.size).push (.cells (l.map gf) e 0 true)) (fun v _ => v = .bool true) := by
  have ht : l.take l.length = l := List.take_length
  have hB : ∀ y : Int, List.Mem y [] → inB y := fun y hy => by cases hy
  have e1 : ieq (csE l) 0 = false := ieq_ne' c1
  refine callC_ok mixed orcSn_ok (askTFE_ok false false false) (Eq.mpr (st_FN0e l l.length k e es _) ?_)
  refine ⟨l, rfl, h0, Nat.le_refl _, h1, hk, fun _ => rfl, fun w1 => ?_⟩
  rw [ht] at w1
  have n1 := short_le w1
  repeat' (first
    | assumption
    | omega
    | exact rfl
    | (refine ⟨_, rfl, ?_⟩)
    | (refine ⟨_, _, rfl, rfl, ?_⟩)
    | (intro y ey; subst ey)
    | exact ieq_self _
    | (with_reducible apply And.intro)
    | (simp only [ht]; first | done | assumption | omega | exact ieq_self _)
    | kernel_rfl)
theorem st_fn (l : List Nat) (k e : Nat) (es : Nat → TypeId) (h0 : 0 < l.length) (h1 : l.length ≤ 9223372036854775807) (hk : l.length ≤ k) : CallJ Tryz.prog 5 #[liP l.length k, nilS] ((base tabs es Tryz.prog.globals.size).push (.cells (l.map gf) e 0 true)) (fun v _ => v = .bool true) := by
  by_cases c1 : csE l = 0
  ·
    exact st_fn_1e l k e es h0 h1 hk c1
  ·
    exact st_fn_0e l k e es h0 h1 hk c1
set_option maxRecDepth 100000 in
theorem st_fe_1e (l : List Nat) (k e : Nat) (q : Nat) (es : Nat → TypeId) (h0 : 0 < l.length) (h1 : l.length ≤ 9223372036854775807) (hk : l.length ≤ k) (c1 : csE l = 0) : CallJ Tryz.prog 5 #[liP l.length k, .slice (some ⟨Tryz.prog.globals.size + 1, 0, none⟩) 0 q] (((base tabs es Tryz.prog.globals.size).push (.cells (l.map gf) e 0 true)).push .dead) (fun v _ => v = .bool true) := by
  have ht : l.take l.length = l := List.take_length
  have hB : ∀ y : Int, List.Mem y [] → inB y := fun y hy => by cases hy
  have e1 : ieq (csE l) 0 = true := ieq_z' c1
  have e2 : validL l := (cs_zero c1).1
  have e3 := stm_pos l
  have e4 := stmE_length l
  have e5 : ieq 0 (csE l) = true := by rw [c1]; rfl
  refine callC_ok mixed orcSn_ok (askTFE_ok true false false) (Eq.mpr (st_FE1e l l.length k e q es _) ?_)
  refine ⟨l, rfl, h0, Nat.le_refl _, h1, hk, fun _ => rfl, fun w1 => ?_⟩
  rw [ht] at w1
  have n1 := short_le w1
  repeat' (first
    | assumption
    | omega
    | exact rfl
    | (refine ⟨_, rfl, ?_⟩)
    | (refine ⟨_, _, rfl, rfl, ?_⟩)
    | (intro y ey; subst ey)
    | exact ieq_self _
    | (with_reducible apply And.intro)
    | (simp only [ht]; first | done | assumption | omega | exact ieq_self _)
    | kernel_rfl)
set_option maxRecDepth 100000 in
theorem st_fe_0e (l : List Nat) (k e : Nat) (q : Nat) (es : Nat → TypeId) (h0 : 0 < l.length) (h1 : l.length ≤ 9223372036854775807) (hk : l.length ≤ k) (c1 : csE l ≠ 0) : CallJ Tryz.prog 5 #[liP l.length k, .slice (some ⟨Tryz.prog.globals.size + 1, 0, none⟩) 0 q] (((base tabs es Tryz.prog.globals.size).push (.cells (l.map gf) e 0 true)).push .dead) (fun v _ => v = .bool true) := by
  have ht : l.take l.length = l := List.take_length
  have hB : ∀ y : Int, List.Mem y [] → inB y := fun y hy => by cases hy
  have e1 : ieq (csE l) 0 = false := ieq_ne' c1
  refine callC_ok mixed orcSn_ok (askTFE_ok false false false) (Eq.mpr (st_FE0e l l.length k e q es _) ?_)
  refine ⟨l, rfl, h0, Nat.le_refl _, h1, hk, fun _ => rfl, fun w1 => ?_⟩
  rw [ht] at w1
  have n1 := short_le w1
  repeat' (first
    | assumption
    | omega
    | exact rfl
    | (refine ⟨_, rfl, ?_⟩)
    | (refine ⟨_, _, rfl, rfl, ?_⟩)
    | (intro y ey; subst ey)
    | exact ieq_self _
    | (with_reducible apply And.intro)
    | (simp only [ht]; first | done | assumption | omega | exact ieq_self _)
    | kernel_rfl)
theorem st_fe (l : List Nat) (k e : Nat) (q : Nat) (es : Nat → TypeId) (h0 : 0 < l.length) (h1 : l.length ≤ 9223372036854775807) (hk : l.length ≤ k) : CallJ Tryz.prog 5 #[liP l.length k, .slice (some ⟨Tryz.prog.globals.size + 1, 0, none⟩) 0 q] (((base tabs es Tryz.prog.globals.size).push (.cells (l.map gf) e 0 true)).push .dead) (fun v _ => v = .bool true) := by
  by_cases c1 : csE l = 0
  ·
    exact st_fe_1e l k e q es h0 h1 hk c1
  ·
    exact st_fe_0e l k e q es h0 h1 hk c1
set_option maxRecDepth 100000 in
theorem st_nf_1n (s : List Int) (q f : Nat) (es : Nat → TypeId) (g0 : 0 < s.length) (gq : s.length ≤ q) (hb : ∀ x ∈ s, inB x) (c2 : unE s = 0) (c3 : unB s = true) : CallJ Tryz.prog 5 #[nilS, slN 0 s.length q] ((base tabs es Tryz.prog.globals.size).push (.cells (s.map gb) f 0 true)) (fun v _ => v = .bool true) := by
  have hs : s.take s.length = s := List.take_length
  have hB : ∀ y : Int, List.Mem y (s.take s.length) → inB y := fun y hy => hb y (List.mem_of_mem_take hy)
  have hB2 : ∀ y : Int, List.Mem y s → inB y := hb
  have hv0 : validL [] := fun x hx => by cases hx
  have hp0 := stm_pos []
  have hl0 : (stmE []).length = 14 := stmE_length []
  have u1 : ieq (unE s) 0 = true := ieq_z' c2
  refine callC_ok mixed orcSn_ok (askTEF_ok true true true) (Eq.mpr (st_NF1n s s.length q f es _) ?_)
  refine ⟨fun w2 => ⟨fun _ => rfl, fun w3 => ?_⟩, fun w2 => ?_⟩
  · have n2 : s.length ≤ 400001 := by rw [ieq_dec] at w3; simp only [Bool.not_eq_false', decide_eq_true_eq, Int.ofNat_eq_natCast] at w3; omega
    clear w2 w3
    repeat' (first
      | assumption
      | omega
      | exact rfl
      | (refine ⟨_, rfl, ?_⟩)
      | (refine ⟨_, _, rfl, rfl, ?_⟩)
      | (intro y ey; subst ey)
      | exact ieq_self _
      | (with_reducible apply And.intro)
      | (simp only [hs]; first | done | assumption | omega | exact ieq_self _)
      | kernel_rfl)
  · have n2 : s.length ≤ 400001 := by rw [ilt_dec] at w2; simp only [decide_eq_false_iff_not, Int.ofNat_eq_natCast] at w2; omega
    clear w2
    repeat' (first
      | assumption
      | omega
      | exact rfl
      | (refine ⟨_, rfl, ?_⟩)
      | (refine ⟨_, _, rfl, rfl, ?_⟩)
      | (intro y ey; subst ey)
      | exact ieq_self _
      | (with_reducible apply And.intro)
      | (simp only [hs]; first | done | assumption | omega | exact ieq_self _)
      | kernel_rfl)
set_option maxRecDepth 100000 in
theorem st_nf_1g (s : List Int) (q f : Nat) (es : Nat → TypeId) (g0 : 0 < s.length) (gq : s.length ≤ q) (hb : ∀ x ∈ s, inB x) (c2 : unE s = 0) (c3 : unB s = false) : CallJ Tryz.prog 5 #[nilS, slN 0 s.length q] ((base tabs es Tryz.prog.globals.size).push (.cells (s.map gb) f 0 true)) (fun v _ => v = .bool true) := by
  have hs : s.take s.length = s := List.take_length
  have hB : ∀ y : Int, List.Mem y (s.take s.length) → inB y := fun y hy => hb y (List.mem_of_mem_take hy)
  have hB2 : ∀ y : Int, List.Mem y s → inB y := hb
  have hv0 : validL [] := fun x hx => by cases hx
  have hp0 := stm_pos []
  have hl0 : (stmE []).length = 14 := stmE_length []
  have u1 : ieq (unE s) 0 = true := ieq_z' c2
  have u3 : 0 < (unL s).length := unB_false c3
  have u4 : (unL s).length ≤ 65536 := by have := (unE_zero c2).2; omega
  have u5 : SameF (unL s) (unL s) := SameF.self (unE_zero c2).1
  refine callC_ok mixed orcSn_ok (askTEF_ok true true false) (Eq.mpr (st_NF1g s s.length q f es _) ?_)
  refine ⟨fun w2 => ⟨fun _ => rfl, fun w3 => ?_⟩, fun w2 => ?_⟩
  · have n2 : s.length ≤ 400001 := by rw [ieq_dec] at w3; simp only [Bool.not_eq_false', decide_eq_true_eq, Int.ofNat_eq_natCast] at w3; omega
    clear w2 w3
    repeat' (first
      | assumption
      | omega
      | exact rfl
      | (refine ⟨_, rfl, ?_⟩)
      | (refine ⟨_, _, rfl, rfl, ?_⟩)
      | (intro y ey; subst ey)
      | exact ieq_self _
      | (with_reducible apply And.intro)
      | (simp only [hs]; first | done | assumption | omega | exact ieq_self _)
      | kernel_rfl)
  · have n2 : s.length ≤ 400001 := by rw [ilt_dec] at w2; simp only [decide_eq_false_iff_not, Int.ofNat_eq_natCast] at w2; omega
    clear w2
    repeat' (first
      | assumption
      | omega
      | exact rfl
      | (refine ⟨_, rfl, ?_⟩)
      | (refine ⟨_, _, rfl, rfl, ?_⟩)
      | (intro y ey; subst ey)
      | exact ieq_self _
      | (with_reducible apply And.intro)
      | (simp only [hs]; first | done | assumption | omega | exact ieq_self _)
      | kernel_rfl)
set_option maxRecDepth 100000 in
theorem st_nf_1e (s : List Int) (q f : Nat) (es : Nat → TypeId) (g0 : 0 < s.length) (gq : s.length ≤ q) (hb : ∀ x ∈ s, inB x) (c2 : unE s ≠ 0) : CallJ Tryz.prog 5 #[nilS, slN 0 s.length q] ((base tabs es Tryz.prog.globals.size).push (.cells (s.map gb) f 0 true)) (fun v _ => v = .bool true) := by
  have hs : s.take s.length = s := List.take_length
  have hB : ∀ y : Int, List.Mem y (s.take s.length) → inB y := fun y hy => hb y (List.mem_of_mem_take hy)
  have hB2 : ∀ y : Int, List.Mem y s → inB y := hb
  have hv0 : validL [] := fun x hx => by cases hx
  have hp0 := stm_pos []
  have hl0 : (stmE []).length = 14 := stmE_length []
  have u1 : ieq (unE s) 0 = false := ieq_ne' c2
  refine callC_ok mixed orcSn_ok (askTEF_ok true false false) (Eq.mpr (st_NF1e s s.length q f es _) ?_)
  refine ⟨fun w2 => ⟨fun _ => rfl, fun w3 => ?_⟩, fun w2 => ?_⟩
  · have n2 : s.length ≤ 400001 := by rw [ieq_dec] at w3; simp only [Bool.not_eq_false', decide_eq_true_eq, Int.ofNat_eq_natCast] at w3; omega
    clear w2 w3
    repeat' (first
      | assumption
      | omega
      | exact rfl
      | (refine ⟨_, rfl, ?_⟩)
      | (refine ⟨_, _, rfl, rfl, ?_⟩)
      | (intro y ey; subst ey)
      | exact ieq_self _
      | (with_reducible apply And.intro)
      | (simp only [hs]; first | done | assumption | omega | exact ieq_self _)
      | kernel_rfl)
  · have n2 : s.length ≤ 400001 := by rw [ilt_dec] at w2; simp only [decide_eq_false_iff_not, Int.ofNat_eq_natCast] at w2; omega
    clear w2
    repeat' (first
      | assumption
      | omega
      | exact rfl
      | (refine ⟨_, rfl, ?_⟩)
      | (refine ⟨_, _, rfl, rfl, ?_⟩)
      | (intro y ey; subst ey)
      | exact ieq_self _
      | (with_reducible apply And.intro)
      | (simp only [hs]; first | done | assumption | omega | exact ieq_self _)
      | kernel_rfl)
theorem st_nf (s : List Int) (q f : Nat) (es : Nat → TypeId) (g0 : 0 < s.length) (gq : s.length ≤ q) (hb : ∀ x ∈ s, inB x) : CallJ Tryz.prog 5 #[nilS, slN 0 s.length q] ((base tabs es Tryz.prog.globals.size).push (.cells (s.map gb) f 0 true)) (fun v _ => v = .bool true) := by
  by_cases c2 : unE s = 0
  · cases c3 : unB s with
    | true =>
      exact st_nf_1n s q f es g0 gq hb c2 c3
    | false =>
      exact st_nf_1g s q f es g0 gq hb c2 c3
  ·
    exact st_nf_1e s q f es g0 gq hb c2
set_option maxRecDepth 100000 in
theorem st_nn_1e (es : Nat → TypeId) : CallJ Tryz.prog 5 #[nilS, nilS] (base tabs es Tryz.prog.globals.size) (fun v _ => v = .bool true) := by
  have hB : ∀ y : Int, List.Mem y [] → inB y := fun y hy => by cases hy
  have hv0 : validL [] := fun x hx => by cases hx
  have hp0 := stm_pos []
  have hl0 : (stmE []).length = 14 := stmE_length []
  refine callC_ok mixed orcSn_ok (askTEE_ok true false false) (Eq.mpr (st_NN1e es _) ?_)
  repeat' (first
    | assumption
    | omega
    | exact rfl
    | (refine ⟨_, rfl, ?_⟩)
    | (refine ⟨_, _, rfl, rfl, ?_⟩)
    | (intro y ey; subst ey)
    | exact ieq_self _
    | (with_reducible apply And.intro)
    | (simp only [List.length_nil]; first | done | assumption | omega | exact ieq_self _)
    | kernel_rfl)
theorem st_nn (es : Nat → TypeId) : CallJ Tryz.prog 5 #[nilS, nilS] (base tabs es Tryz.prog.globals.size) (fun v _ => v = .bool true) := by
  exact st_nn_1e es
set_option maxRecDepth 100000 in
theorem st_ne_1e (q : Nat) (es : Nat → TypeId) : CallJ Tryz.prog 5 #[nilS, .slice (some ⟨Tryz.prog.globals.size + 0, 0, none⟩) 0 q] ((base tabs es Tryz.prog.globals.size).push .dead) (fun v _ => v = .bool true) := by
  have hB : ∀ y : Int, List.Mem y [] → inB y := fun y hy => by cases hy
  have hv0 : validL [] := fun x hx => by cases hx
  have hp0 := stm_pos []
  have hl0 : (stmE []).length = 14 := stmE_length []
  refine callC_ok mixed orcSn_ok (askTEE_ok true false false) (Eq.mpr (st_NE1e q es _) ?_)
  repeat' (first
    | assumption
    | omega
    | exact rfl
    | (refine ⟨_, rfl, ?_⟩)
    | (refine ⟨_, _, rfl, rfl, ?_⟩)
    | (intro y ey; subst ey)
    | exact ieq_self _
    | (with_reducible apply And.intro)
    | (simp only [List.length_nil]; first | done | assumption | omega | exact ieq_self _)
    | kernel_rfl)
theorem st_ne (q : Nat) (es : Nat → TypeId) : CallJ Tryz.prog 5 #[nilS, .slice (some ⟨Tryz.prog.globals.size + 0, 0, none⟩) 0 q] ((base tabs es Tryz.prog.globals.size).push .dead) (fun v _ => v = .bool true) := by
  exact st_ne_1e q es
set_option maxRecDepth 100000 in
theorem st_ef_1n (k : Nat) (s : List Int) (q f : Nat) (es : Nat → TypeId) (g0 : 0 < s.length) (gq : s.length ≤ q) (hb : ∀ x ∈ s, inB x) (c2 : unE s = 0) (c3 : unB s = true) : CallJ Tryz.prog 5 #[.slice (some ⟨Tryz.prog.globals.size, 0, none⟩) 0 k, slN 1 s.length q] (((base tabs es Tryz.prog.globals.size).push .dead).push (.cells (s.map gb) f 0 true)) (fun v _ => v = .bool true) := by
  have hs : s.take s.length = s := List.take_length
  have hB : ∀ y : Int, List.Mem y (s.take s.length) → inB y := fun y hy => hb y (List.mem_of_mem_take hy)
  have hB2 : ∀ y : Int, List.Mem y s → inB y := hb
  have hv0 : validL [] := fun x hx => by cases hx
  have hp0 := stm_pos []
  have hl0 : (stmE []).length = 14 := stmE_length []
  have u1 : ieq (unE s) 0 = true := ieq_z' c2
  refine callC_ok mixed orcSn_ok (askTEF_ok true true true) (Eq.mpr (st_EF1n k s s.length q f es _) ?_)
  refine ⟨fun w2 => ⟨fun _ => rfl, fun w3 => ?_⟩, fun w2 => ?_⟩
  · have n2 : s.length ≤ 400001 := by rw [ieq_dec] at w3; simp only [Bool.not_eq_false', decide_eq_true_eq, Int.ofNat_eq_natCast] at w3; omega
    clear w2 w3
    repeat' (first
      | assumption
      | omega
      | exact rfl
      | (refine ⟨_, rfl, ?_⟩)
      | (refine ⟨_, _, rfl, rfl, ?_⟩)
      | (intro y ey; subst ey)
      | exact ieq_self _
      | (with_reducible apply And.intro)
      | (simp only [hs]; first | done | assumption | omega | exact ieq_self _)
      | kernel_rfl)
  · have n2 : s.length ≤ 400001 := by rw [ilt_dec] at w2; simp only [decide_eq_false_iff_not, Int.ofNat_eq_natCast] at w2; omega
    clear w2
    repeat' (first
      | assumption
      | omega
      | exact rfl
      | (refine ⟨_, rfl, ?_⟩)
      | (refine ⟨_, _, rfl, rfl, ?_⟩)
      | (intro y ey; subst ey)
      | exact ieq_self _
      | (with_reducible apply And.intro)
      | (simp only [hs]; first | done | assumption | omega | exact ieq_self _)
      | kernel_rfl)
set_option maxRecDepth 100000 in
theorem st_ef_1g (k : Nat) (s : List Int) (q f : Nat) (es : Nat → TypeId) (g0 : 0 < s.length) (gq : s.length ≤ q) (hb : ∀ x ∈ s, inB x) (c2 : unE s = 0) (c3 : unB s = false) : CallJ Tryz.prog 5 #[.slice (some ⟨Tryz.prog.globals.size, 0, none⟩) 0 k, slN 1 s.length q] (((base tabs es Tryz.prog.globals.size).push .dead).push (.cells (s.map gb) f 0 true)) (fun v _ => v = .bool true) := by
  have hs : s.take s.length = s := List.take_length
  have hB : ∀ y : Int, List.Mem y (s.take s.length) → inB y := fun y hy => hb y (List.mem_of_mem_take hy)
  have hB2 : ∀ y : Int, List.Mem y s → inB y := hb
  have hv0 : validL [] := fun x hx => by cases hx
  have hp0 := stm_pos []
  have hl0 : (stmE []).length = 14 := stmE_length []
  have u1 : ieq (unE s) 0 = true := ieq_z' c2
  have u3 : 0 < (unL s).length := unB_false c3
  have u4 : (unL s).length ≤ 65536 := by have := (unE_zero c2).2; omega
  have u5 : SameF (unL s) (unL s) := SameF.self (unE_zero c2).1
  refine callC_ok mixed orcSn_ok (askTEF_ok true true false) (Eq.mpr (st_EF1g k s s.length q f es _) ?_)
  refine ⟨fun w2 => ⟨fun _ => rfl, fun w3 => ?_⟩, fun w2 => ?_⟩
  · have n2 : s.length ≤ 400001 := by rw [ieq_dec] at w3; simp only [Bool.not_eq_false', decide_eq_true_eq, Int.ofNat_eq_natCast] at w3; omega
    clear w2 w3
    repeat' (first
      | assumption
      | omega
      | exact rfl
      | (refine ⟨_, rfl, ?_⟩)
      | (refine ⟨_, _, rfl, rfl, ?_⟩)
      | (intro y ey; subst ey)
      | exact ieq_self _
      | (with_reducible apply And.intro)
      | (simp only [hs]; first | done | assumption | omega | exact ieq_self _)
      | kernel_rfl)
  · have n2 : s.length ≤ 400001 := by rw [ilt_dec] at w2; simp only [decide_eq_false_iff_not, Int.ofNat_eq_natCast] at w2; omega
    clear w2
    repeat' (first
      | assumption
      | omega
      | exact rfl
      | (refine ⟨_, rfl, ?_⟩)
      | (refine ⟨_, _, rfl, rfl, ?_⟩)
      | (intro y ey; subst ey)
      | exact ieq_self _
      | (with_reducible apply And.intro)
      | (simp only [hs]; first | done | assumption | omega | exact ieq_self _)
      | kernel_rfl)
set_option maxRecDepth 100000 in
theorem st_ef_1e (k : Nat) (s : List Int) (q f : Nat) (es : Nat → TypeId) (g0 : 0 < s.length) (gq : s.length ≤ q) (hb : ∀ x ∈ s, inB x) (c2 : unE s ≠ 0) : CallJ Tryz.prog 5 #[.slice (some ⟨Tryz.prog.globals.size, 0, none⟩) 0 k, slN 1 s.length q] (((base tabs es Tryz.prog.globals.size).push .dead).push (.cells (s.map gb) f 0 true)) (fun v _ => v = .bool true) := by
  have hs : s.take s.length = s := List.take_length
  have hB : ∀ y : Int, List.Mem y (s.take s.length) → inB y := fun y hy => hb y (List.mem_of_mem_take hy)
  have hB2 : ∀ y : Int, List.Mem y s → inB y := hb
  have hv0 : validL [] := fun x hx => by cases hx
  have hp0 := stm_pos []
  have hl0 : (stmE []).length = 14 := stmE_length []
  have u1 : ieq (unE s) 0 = false := ieq_ne' c2
  refine callC_ok mixed orcSn_ok (askTEF_ok true false false) (Eq.mpr (st_EF1e k s s.length q f es _) ?_)
  refine ⟨fun w2 => ⟨fun _ => rfl, fun w3 => ?_⟩, fun w2 => ?_⟩
  · have n2 : s.length ≤ 400001 := by rw [ieq_dec] at w3; simp only [Bool.not_eq_false', decide_eq_true_eq, Int.ofNat_eq_natCast] at w3; omega
    clear w2 w3
    repeat' (first
      | assumption
      | omega
      | exact rfl
      | (refine ⟨_, rfl, ?_⟩)
      | (refine ⟨_, _, rfl, rfl, ?_⟩)
      | (intro y ey; subst ey)
      | exact ieq_self _
      | (with_reducible apply And.intro)
      | (simp only [hs]; first | done | assumption | omega | exact ieq_self _)
      | kernel_rfl)
  · have n2 : s.length ≤ 400001 := by rw [ilt_dec] at w2; simp only [decide_eq_false_iff_not, Int.ofNat_eq_natCast] at w2; omega
    clear w2
    repeat' (first
      | assumption
      | omega
      | exact rfl
      | (refine ⟨_, rfl, ?_⟩)
      | (refine ⟨_, _, rfl, rfl, ?_⟩)
      | (intro y ey; subst ey)
      | exact ieq_self _
      | (with_reducible apply And.intro)
      | (simp only [hs]; first | done | assumption | omega | exact ieq_self _)
      | kernel_rfl)
theorem st_ef (k : Nat) (s : List Int) (q f : Nat) (es : Nat → TypeId) (g0 : 0 < s.length) (gq : s.length ≤ q) (hb : ∀ x ∈ s, inB x) : CallJ Tryz.prog 5 #[.slice (some ⟨Tryz.prog.globals.size, 0, none⟩) 0 k, slN 1 s.length q] (((base tabs es Tryz.prog.globals.size).push .dead).push (.cells (s.map gb) f 0 true)) (fun v _ => v = .bool true) := by
  by_cases c2 : unE s = 0
  · cases c3 : unB s with
    | true =>
      exact st_ef_1n k s q f es g0 gq hb c2 c3
    | false =>
      exact st_ef_1g k s q f es g0 gq hb c2 c3
  ·
    exact st_ef_1e k s q f es g0 gq hb c2
set_option maxRecDepth 100000 in
theorem st_en_1e (k : Nat) (es : Nat → TypeId) : CallJ Tryz.prog 5 #[.slice (some ⟨Tryz.prog.globals.size, 0, none⟩) 0 k, nilS] ((base tabs es Tryz.prog.globals.size).push .dead) (fun v _ => v = .bool true) := by
  have hB : ∀ y : Int, List.Mem y [] → inB y := fun y hy => by cases hy
  have hv0 : validL [] := fun x hx => by cases hx
  have hp0 := stm_pos []
  have hl0 : (stmE []).length = 14 := stmE_length []
  refine callC_ok mixed orcSn_ok (askTEE_ok true false false) (Eq.mpr (st_EN1e k es _) ?_)
  repeat' (first
    | assumption
    | omega
    | exact rfl
    | (refine ⟨_, rfl, ?_⟩)
    | (refine ⟨_, _, rfl, rfl, ?_⟩)
    | (intro y ey; subst ey)
    | exact ieq_self _
    | (with_reducible apply And.intro)
    | (simp only [List.length_nil]; first | done | assumption | omega | exact ieq_self _)
    | kernel_rfl)
theorem st_en (k : Nat) (es : Nat → TypeId) : CallJ Tryz.prog 5 #[.slice (some ⟨Tryz.prog.globals.size, 0, none⟩) 0 k, nilS] ((base tabs es Tryz.prog.globals.size).push .dead) (fun v _ => v = .bool true) := by
  exact st_en_1e k es
set_option maxRecDepth 100000 in
theorem st_ee_1e (k : Nat) (q : Nat) (es : Nat → TypeId) : CallJ Tryz.prog 5 #[.slice (some ⟨Tryz.prog.globals.size, 0, none⟩) 0 k, .slice (some ⟨Tryz.prog.globals.size + 1, 0, none⟩) 0 q] (((base tabs es Tryz.prog.globals.size).push .dead).push .dead) (fun v _ => v = .bool true) := by
  have hB : ∀ y : Int, List.Mem y [] → inB y := fun y hy => by cases hy
  have hv0 : validL [] := fun x hx => by cases hx
  have hp0 := stm_pos []
  have hl0 : (stmE []).length = 14 := stmE_length []
  refine callC_ok mixed orcSn_ok (askTEE_ok true false false) (Eq.mpr (st_EE1e k q es _) ?_)
  repeat' (first
    | assumption
    | omega
    | exact rfl
    | (refine ⟨_, rfl, ?_⟩)
    | (refine ⟨_, _, rfl, rfl, ?_⟩)
    | (intro y ey; subst ey)
    | exact ieq_self _
    | (with_reducible apply And.intro)
    | (simp only [List.length_nil]; first | done | assumption | omega | exact ieq_self _)
    | kernel_rfl)
theorem st_ee (k : Nat) (q : Nat) (es : Nat → TypeId) : CallJ Tryz.prog 5 #[.slice (some ⟨Tryz.prog.globals.size, 0, none⟩) 0 k, .slice (some ⟨Tryz.prog.globals.size + 1, 0, none⟩) 0 q] (((base tabs es Tryz.prog.globals.size).push .dead).push .dead) (fun v _ => v = .bool true) := by
  exact st_ee_1e k q es
end Go.Proofs.YtphhcoiclkfimaaGreatDoor
