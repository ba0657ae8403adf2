/-
  OWN WORK. RecordRings on the abstract machine: it returns true, for rings with samples.
-/
import Derived.Test.YtgomacijdadjpaaGreatDoorRgW
import Derived.Test.YtgomacijdadjpaaGreatDoorRgX
namespace Go.Proofs.YtgomacijdadjpaaGreatDoor
open Go Go.Am

theorem sh_le {n : Nat} (h : (!(shR n)) = false) : n ≤ 12 ∨ n = 257 := by
  unfold shR at h
  rw [ilt_dec, ieq_dec] at h
  simp at h
  omega
theorem uL_mem {l : List Nat} {x : Nat} {fu : Bool} {y : Nat} (h : y ∈ uL l x fu) : y ∈ l := by
  unfold uL at h
  rcases List.mem_append.1 h with h | h
  · cases fu with
    | true => exact List.mem_of_mem_drop h
    | false => cases h
  · exact List.mem_of_mem_take h
theorem uL_len (l : List Nat) (x : Nat) (fu : Bool) : (uL l x fu).length ≤ 2 * l.length := by
  unfold uL
  cases fu with
  | true => simp only [cond_true, List.length_append, List.length_drop, List.length_take]; omega
  | false => simp only [cond_false, List.nil_append, List.length_take]; omega
theorem wrF_val {n : Nat} : ∀ (L : List Nat) {s : WSt}, validL s.1 → validL L → validL (wrF n s L).1
  | [], _, hs, _ => hs
  | v :: L, s, hs, hL => by
    show validL (wrF n (wrS n s v) L).1
    refine wrF_val L (fun y hy => ?_) fun y hy => hL y (.tail _ hy)
    rcases List.mem_or_eq_of_mem_set hy with h | rfl
    · exact hs y h
    · exact hL _ (.head _)
theorem smps_val {l : List Nat} (h : smpsE l = 0) : validL l := fun x hx => firstS_zero (l := l.map smpE) h _ (List.mem_map.2 ⟨x, hx, rfl⟩)
theorem ieq_z1 {x : Int} (h : x = 0) : ieq x 0 = true := by rw [h]; rfl
theorem ieq_n1 {x : Int} (h : x ≠ 0) : ieq x 0 = false := by rw [ieq_dec]; exact decide_eq_false h
theorem ieq_0r {x : Int} (h : x = 0) : ieq 0 x = true := by rw [h]; rfl
theorem fs_zero {a b : Int} (h : a = 0) (g : b = 0) : firstS [a, b] = 0 := by rw [h, g]; rfl
theorem fs_nl {a b : Int} (h : a ≠ 0) : firstS [a, b] ≠ 0 := fun e => h (firstS_zero e _ (.head _))
theorem fs_nr {a b : Int} (h : b ≠ 0) : firstS [a, b] ≠ 0 := fun e => h (firstS_zero e _ (.tail _ (.head _)))
theorem ck_ok1 {l : List Nat} {nx : Int} {fu : Bool} (h : ckR l nx fu = 0) : validL l ∧ ∃ x : Nat, nx = Int.ofNat x ∧ x < l.length ∧ l.length ≤ 256 := by
  rw [ckR_eq] at h
  cases hb : ieq (ckB l nx) 0 with
  | true =>
    rw [ieq_dec] at hb
    obtain ⟨a, b, c, x, rfl, hx⟩ := ckB_zero (of_decide_eq_true hb)
    exact ⟨smps_val c, x, rfl, hx, b⟩
  | false =>
    rw [hb] at h
    rw [ieq_dec] at hb
    exact absurd h (of_decide_eq_false hb)
theorem csE_nil : csE [] = 0 := by kernel_rfl
set_option maxRecDepth 100000 in
theorem rg_FFA (l : List Nat) (k e : Nat) (nx : Int) (fu : Bool) (L : List Nat) (m q f : Nat) (es : Nat → TypeId) (h0 : 0 < l.length) (h1 : l.length ≤ 9223372036854775807) (hk : l.length ≤ k) (g1 : L.length = m + 1) (g2 : m + 1 ≤ 9223372036854775807) (gq : m + 1 ≤ q) (c1 : ckR l nx fu ≠ 0) : CallJ Tryz.prog 3 #[rgV Tryz.prog.globals.size l.length k nx fu, .slice (some ⟨Tryz.prog.globals.size + 1, 0, none⟩) (m + 1) q] (((base tabs es Tryz.prog.globals.size).push (.cells (l.map gf) e 0 true)).push (.cells (L.map gf) f 0 true)) (fun v _ => v = .bool true) := by
  have hT : l.take l.length = l := List.take_length
  have hL : L.take (m + 1) = L := by rw [← g1]; exact List.take_length
  have e0 : ieq (ckR l nx fu) 0 = false := ieq_n1 c1
  have e1 : ieq (wrE l nx fu L) 0 = false := ieq_n1 (fs_nl c1)
  have e2 : ieq (firstS [(ckR l nx fu), (csE L)]) 0 = false := ieq_n1 (fs_nl c1)
  have e4 : ieq (wrE l nx fu L) (firstS [(ckR l nx fu), (csE L)]) = true := ieq_self _
  have hh := rr_FFA l l.length k e nx fu L m q f es (fun v => v = .bool true)
  refine callC_ok mixed orcRgW_ok (askRgW_ok false false false) (Eq.mpr hh ?_)
  clear hh
  refine ⟨⟨flat_floats l, trivial⟩, rfl, fun _ => rfl, fun v1 => ?_⟩
  have n1 := sh_le v1
  clear v1
  refine ⟨L, rfl, Nat.succ_pos _, Nat.le_of_eq g1.symm, g2, gq, fun _ => rfl, fun v2 => ?_⟩
  rw [hL] at v2
  have n3 := short_le v2
  clear v2
  ·
    repeat' (first
      | assumption
      | omega
      | exact rfl
      | exact trivial
      | exact flat_floats _
      | (refine ⟨_, rfl, ?_⟩)
      | (refine ⟨_, _, rfl, rfl, ?_⟩)
      | (intro c x' f hc hx' hf; subst hc hx' hf)
      | (intro y ey; subst ey)
      | exact ieq_self _
      | exact beq_self_eq_true _
      | (with_reducible apply And.intro)
      | (simp only [hT, hL]; first | done | assumption | omega | exact ieq_self _ | exact beq_self_eq_true _)
      | kernel_rfl)
set_option maxRecDepth 100000 in
theorem rg_FFB0 (l : List Nat) (k e : Nat) (x : Nat) (fu : Bool) (L : List Nat) (m q f : Nat) (es : Nat → TypeId) (h0 : 0 < l.length) (h1 : l.length ≤ 9223372036854775807) (hk : l.length ≤ k) (g1 : L.length = m + 1) (g2 : m + 1 ≤ 9223372036854775807) (gq : m + 1 ≤ q) (c1 : ckR l (Int.ofNat x) fu = 0) (c2 : csE L ≠ 0) (c3 : (uL l x fu).isEmpty = false) (hv : validL l) (hx : x < l.length) : CallJ Tryz.prog 3 #[rgV Tryz.prog.globals.size l.length k (Int.ofNat x) fu, .slice (some ⟨Tryz.prog.globals.size + 1, 0, none⟩) (m + 1) q] (((base tabs es Tryz.prog.globals.size).push (.cells (l.map gf) e 0 true)).push (.cells (L.map gf) f 0 true)) (fun v _ => v = .bool true) := by
  have hT : l.take l.length = l := List.take_length
  have hL : L.take (m + 1) = L := by rw [← g1]; exact List.take_length
  have hJ : Int.toNat (Int.ofNat x) = x := rfl
  have e0 : ieq (ckR l (Int.ofNat x) fu) 0 = true := ieq_z1 c1
  have e00 : ieq 0 (ckR l (Int.ofNat x) fu) = true := ieq_0r c1
  have u1 := uL_len l x fu
  have sfu : SameF (uL l x fu) (uL l x fu) := SameF.self fun y hy => hv y (uL_mem hy)
  have u2 : 0 < (uL l x fu).length := by cases hu : uL l x fu with | nil => rw [hu] at c3; cases c3 | cons => exact Nat.succ_pos _
  have e1 : ieq (wrE l (Int.ofNat x) fu L) 0 = false := ieq_n1 (fs_nr c2)
  have e2 : ieq (firstS [(ckR l (Int.ofNat x) fu), csE L]) 0 = false := ieq_n1 (fs_nr c2)
  have e4 : ieq (wrE l (Int.ofNat x) fu L) (firstS [(ckR l (Int.ofNat x) fu), csE L]) = true := ieq_self _
  have hh := rr_FFB0 l l.length k e (Int.ofNat x) fu L m q f es (fun v => v = .bool true)
  refine callC_ok mixed orcRgW_ok (askRgW_ok false true false) (Eq.mpr hh ?_)
  clear hh
  refine ⟨⟨flat_floats l, trivial⟩, rfl, fun _ => rfl, fun v1 => ?_⟩
  have n1 := sh_le v1
  clear v1
  have n2 : l.length ≤ 12 := by have := ck_ok1 c1; obtain ⟨_, _, _, _, h6⟩ := this; omega
  refine ⟨L, rfl, Nat.succ_pos _, Nat.le_of_eq g1.symm, g2, gq, fun _ => rfl, fun v2 => ?_⟩
  rw [hL] at v2
  have n3 := short_le v2
  clear v2
  ·
    repeat' (first
      | assumption
      | omega
      | exact rfl
      | exact trivial
      | exact flat_floats _
      | (refine ⟨_, rfl, ?_⟩)
      | (refine ⟨_, _, rfl, rfl, ?_⟩)
      | (intro c x' f hc hx' hf; subst hc hx' hf)
      | (intro y ey; subst ey)
      | exact ieq_self _
      | exact beq_self_eq_true _
      | (with_reducible apply And.intro)
      | (simp only [hT, hJ, hL]; first | done | assumption | omega | exact ieq_self _ | exact beq_self_eq_true _)
      | kernel_rfl)
set_option maxRecDepth 100000 in
theorem rg_FFB1 (l : List Nat) (k e : Nat) (x : Nat) (fu : Bool) (L : List Nat) (m q f : Nat) (es : Nat → TypeId) (h0 : 0 < l.length) (h1 : l.length ≤ 9223372036854775807) (hk : l.length ≤ k) (g1 : L.length = m + 1) (g2 : m + 1 ≤ 9223372036854775807) (gq : m + 1 ≤ q) (c1 : ckR l (Int.ofNat x) fu = 0) (c2 : csE L ≠ 0) (c3 : (uL l x fu).isEmpty = true) (hv : validL l) (hx : x < l.length) : CallJ Tryz.prog 3 #[rgV Tryz.prog.globals.size l.length k (Int.ofNat x) fu, .slice (some ⟨Tryz.prog.globals.size + 1, 0, none⟩) (m + 1) q] (((base tabs es Tryz.prog.globals.size).push (.cells (l.map gf) e 0 true)).push (.cells (L.map gf) f 0 true)) (fun v _ => v = .bool true) := by
  have hT : l.take l.length = l := List.take_length
  have hL : L.take (m + 1) = L := by rw [← g1]; exact List.take_length
  have hJ : Int.toNat (Int.ofNat x) = x := rfl
  have e0 : ieq (ckR l (Int.ofNat x) fu) 0 = true := ieq_z1 c1
  have e00 : ieq 0 (ckR l (Int.ofNat x) fu) = true := ieq_0r c1
  have u1 := uL_len l x fu
  have sfu : SameF (uL l x fu) (uL l x fu) := SameF.self fun y hy => hv y (uL_mem hy)
  have u2 : (uL l x fu).length = 0 := by rw [List.isEmpty_iff.1 c3]; rfl
  have e1 : ieq (wrE l (Int.ofNat x) fu L) 0 = false := ieq_n1 (fs_nr c2)
  have e2 : ieq (firstS [(ckR l (Int.ofNat x) fu), csE L]) 0 = false := ieq_n1 (fs_nr c2)
  have e4 : ieq (wrE l (Int.ofNat x) fu L) (firstS [(ckR l (Int.ofNat x) fu), csE L]) = true := ieq_self _
  have hh := rr_FFB1 l l.length k e (Int.ofNat x) fu L m q f es (fun v => v = .bool true)
  refine callC_ok mixed orcRgW_ok (askRgW_ok false true true) (Eq.mpr hh ?_)
  clear hh
  refine ⟨⟨flat_floats l, trivial⟩, rfl, fun _ => rfl, fun v1 => ?_⟩
  have n1 := sh_le v1
  clear v1
  have n2 : l.length ≤ 12 := by have := ck_ok1 c1; obtain ⟨_, _, _, _, h6⟩ := this; omega
  refine ⟨L, rfl, Nat.succ_pos _, Nat.le_of_eq g1.symm, g2, gq, fun _ => rfl, fun v2 => ?_⟩
  rw [hL] at v2
  have n3 := short_le v2
  clear v2
  ·
    repeat' (first
      | assumption
      | omega
      | exact rfl
      | exact trivial
      | exact flat_floats _
      | (refine ⟨_, rfl, ?_⟩)
      | (refine ⟨_, _, rfl, rfl, ?_⟩)
      | (intro c x' f hc hx' hf; subst hc hx' hf)
      | (intro y ey; subst ey)
      | exact ieq_self _
      | exact beq_self_eq_true _
      | (with_reducible apply And.intro)
      | (simp only [hT, hJ, hL]; first | done | assumption | omega | exact ieq_self _ | exact beq_self_eq_true _)
      | kernel_rfl)
set_option maxRecDepth 100000 in
theorem rg_FFC0 (l : List Nat) (k e : Nat) (x : Nat) (fu : Bool) (L : List Nat) (m q f : Nat) (es : Nat → TypeId) (h0 : 0 < l.length) (h1 : l.length ≤ 9223372036854775807) (hk : l.length ≤ k) (g1 : L.length = m + 1) (g2 : m + 1 ≤ 9223372036854775807) (gq : m + 1 ≤ q) (c1 : ckR l (Int.ofNat x) fu = 0) (c2 : csE L = 0) (c3 : (uL l x fu).isEmpty = false) (hv : validL l) (hx : x < l.length) : CallJ Tryz.prog 3 #[rgV Tryz.prog.globals.size l.length k (Int.ofNat x) fu, .slice (some ⟨Tryz.prog.globals.size + 1, 0, none⟩) (m + 1) q] (((base tabs es Tryz.prog.globals.size).push (.cells (l.map gf) e 0 true)).push (.cells (L.map gf) f 0 true)) (fun v _ => v = .bool true) := by
  have hT : l.take l.length = l := List.take_length
  have hL : L.take (m + 1) = L := by rw [← g1]; exact List.take_length
  have hJ : Int.toNat (Int.ofNat x) = x := rfl
  have e0 : ieq (ckR l (Int.ofNat x) fu) 0 = true := ieq_z1 c1
  have e00 : ieq 0 (ckR l (Int.ofNat x) fu) = true := ieq_0r c1
  have u1 := uL_len l x fu
  have sfu : SameF (uL l x fu) (uL l x fu) := SameF.self fun y hy => hv y (uL_mem hy)
  have u2 : 0 < (uL l x fu).length := by cases hu : uL l x fu with | nil => rw [hu] at c3; cases c3 | cons => exact Nat.succ_pos _
  have e1 : ieq (wrE l (Int.ofNat x) fu L) 0 = true := ieq_z1 (fs_zero c1 c2)
  have e2 : ieq (firstS [(ckR l (Int.ofNat x) fu), (csE L)]) 0 = true := ieq_z1 (fs_zero c1 c2)
  have e20 : ieq 0 (firstS [(ckR l (Int.ofNat x) fu), (csE L)]) = true := ieq_0r (fs_zero c1 c2)
  have w1 : l.length = (wC (wrZ l (Int.ofNat x) fu L)).length := (wrF_ok L (s := (l, x, fu)) ⟨rfl, hx⟩).1.symm
  have sfw : SameF (wC (wrZ l (Int.ofNat x) fu L)) (wC (wrZ l (Int.ofNat x) fu L)) := SameF.self (wrF_val L hv (cs_zero c2).1)
  have hh := rr_FFC0 l l.length k e (Int.ofNat x) fu L m q f es (fun v => v = .bool true)
  refine callC_ok mixed orcRgW_ok (askRgX_ok true true false) (Eq.mpr hh ?_)
  clear hh
  refine ⟨⟨flat_floats l, trivial⟩, rfl, fun _ => rfl, fun v1 => ?_⟩
  have n1 := sh_le v1
  clear v1
  have n2 : l.length ≤ 12 := by have := ck_ok1 c1; obtain ⟨_, _, _, _, h6⟩ := this; omega
  refine ⟨L, rfl, Nat.succ_pos _, Nat.le_of_eq g1.symm, g2, gq, fun _ => rfl, fun v2 => ?_⟩
  rw [hL] at v2
  have n3 := short_le v2
  clear v2
  ·
    repeat' (first
      | assumption
      | omega
      | exact rfl
      | exact trivial
      | exact flat_floats _
      | (refine ⟨_, rfl, ?_⟩)
      | (refine ⟨_, _, rfl, rfl, ?_⟩)
      | (intro c x' f hc hx' hf; subst hc hx' hf)
      | (intro y ey; subst ey)
      | exact ieq_self _
      | exact beq_self_eq_true _
      | (with_reducible apply And.intro)
      | (simp only [hT, hJ, hL]; first | done | assumption | omega | exact ieq_self _ | exact beq_self_eq_true _)
      | kernel_rfl)
set_option maxRecDepth 100000 in
theorem rg_FFC1 (l : List Nat) (k e : Nat) (x : Nat) (fu : Bool) (L : List Nat) (m q f : Nat) (es : Nat → TypeId) (h0 : 0 < l.length) (h1 : l.length ≤ 9223372036854775807) (hk : l.length ≤ k) (g1 : L.length = m + 1) (g2 : m + 1 ≤ 9223372036854775807) (gq : m + 1 ≤ q) (c1 : ckR l (Int.ofNat x) fu = 0) (c2 : csE L = 0) (c3 : (uL l x fu).isEmpty = true) (hv : validL l) (hx : x < l.length) : CallJ Tryz.prog 3 #[rgV Tryz.prog.globals.size l.length k (Int.ofNat x) fu, .slice (some ⟨Tryz.prog.globals.size + 1, 0, none⟩) (m + 1) q] (((base tabs es Tryz.prog.globals.size).push (.cells (l.map gf) e 0 true)).push (.cells (L.map gf) f 0 true)) (fun v _ => v = .bool true) := by
  have hT : l.take l.length = l := List.take_length
  have hL : L.take (m + 1) = L := by rw [← g1]; exact List.take_length
  have hJ : Int.toNat (Int.ofNat x) = x := rfl
  have e0 : ieq (ckR l (Int.ofNat x) fu) 0 = true := ieq_z1 c1
  have e00 : ieq 0 (ckR l (Int.ofNat x) fu) = true := ieq_0r c1
  have u1 := uL_len l x fu
  have sfu : SameF (uL l x fu) (uL l x fu) := SameF.self fun y hy => hv y (uL_mem hy)
  have u2 : (uL l x fu).length = 0 := by rw [List.isEmpty_iff.1 c3]; rfl
  have e1 : ieq (wrE l (Int.ofNat x) fu L) 0 = true := ieq_z1 (fs_zero c1 c2)
  have e2 : ieq (firstS [(ckR l (Int.ofNat x) fu), (csE L)]) 0 = true := ieq_z1 (fs_zero c1 c2)
  have e20 : ieq 0 (firstS [(ckR l (Int.ofNat x) fu), (csE L)]) = true := ieq_0r (fs_zero c1 c2)
  have w1 : l.length = (wC (wrZ l (Int.ofNat x) fu L)).length := (wrF_ok L (s := (l, x, fu)) ⟨rfl, hx⟩).1.symm
  have sfw : SameF (wC (wrZ l (Int.ofNat x) fu L)) (wC (wrZ l (Int.ofNat x) fu L)) := SameF.self (wrF_val L hv (cs_zero c2).1)
  have hh := rr_FFC1 l l.length k e (Int.ofNat x) fu L m q f es (fun v => v = .bool true)
  refine callC_ok mixed orcRgW_ok (askRgX_ok true true true) (Eq.mpr hh ?_)
  clear hh
  refine ⟨⟨flat_floats l, trivial⟩, rfl, fun _ => rfl, fun v1 => ?_⟩
  have n1 := sh_le v1
  clear v1
  have n2 : l.length ≤ 12 := by have := ck_ok1 c1; obtain ⟨_, _, _, _, h6⟩ := this; omega
  refine ⟨L, rfl, Nat.succ_pos _, Nat.le_of_eq g1.symm, g2, gq, fun _ => rfl, fun v2 => ?_⟩
  rw [hL] at v2
  have n3 := short_le v2
  clear v2
  ·
    repeat' (first
      | assumption
      | omega
      | exact rfl
      | exact trivial
      | exact flat_floats _
      | (refine ⟨_, rfl, ?_⟩)
      | (refine ⟨_, _, rfl, rfl, ?_⟩)
      | (intro c x' f hc hx' hf; subst hc hx' hf)
      | (intro y ey; subst ey)
      | exact ieq_self _
      | exact beq_self_eq_true _
      | (with_reducible apply And.intro)
      | (simp only [hT, hJ, hL]; first | done | assumption | omega | exact ieq_self _ | exact beq_self_eq_true _)
      | kernel_rfl)
set_option maxRecDepth 100000 in
theorem rg_FNA (l : List Nat) (k e : Nat) (nx : Int) (fu : Bool) (es : Nat → TypeId) (h0 : 0 < l.length) (h1 : l.length ≤ 9223372036854775807) (hk : l.length ≤ k) (c1 : ckR l nx fu ≠ 0) : CallJ Tryz.prog 3 #[rgV Tryz.prog.globals.size l.length k nx fu, nilS] ((base tabs es Tryz.prog.globals.size).push (.cells (l.map gf) e 0 true)) (fun v _ => v = .bool true) := by
  have hT : l.take l.length = l := List.take_length
  have e0 : ieq (ckR l nx fu) 0 = false := ieq_n1 c1
  have e1 : ieq (wrE l nx fu []) 0 = false := ieq_n1 (fs_nl c1)
  have e2 : ieq (firstS [(ckR l nx fu), 0]) 0 = false := ieq_n1 (fs_nl c1)
  have e4 : ieq (wrE l nx fu []) (firstS [(ckR l nx fu), 0]) = true := by unfold wrE; rw [csE_nil]; exact ieq_self _
  have hh := rr_FNA l l.length k e nx fu es (fun v => v = .bool true)
  refine callC_ok mixed orcRgW_ok (askRgW_ok false false false) (Eq.mpr hh ?_)
  clear hh
  refine ⟨⟨flat_floats l, trivial⟩, rfl, fun _ => rfl, fun v1 => ?_⟩
  have n1 := sh_le v1
  clear v1
  ·
    repeat' (first
      | assumption
      | omega
      | exact rfl
      | exact trivial
      | exact flat_floats _
      | (refine ⟨_, rfl, ?_⟩)
      | (refine ⟨_, _, rfl, rfl, ?_⟩)
      | (intro c x' f hc hx' hf; subst hc hx' hf)
      | (intro y ey; subst ey)
      | exact ieq_self _
      | exact beq_self_eq_true _
      | (with_reducible apply And.intro)
      | (simp only [hT]; first | done | assumption | omega | exact ieq_self _ | exact beq_self_eq_true _)
      | kernel_rfl)
set_option maxRecDepth 100000 in
theorem rg_FNC0 (l : List Nat) (k e : Nat) (x : Nat) (fu : Bool) (es : Nat → TypeId) (h0 : 0 < l.length) (h1 : l.length ≤ 9223372036854775807) (hk : l.length ≤ k) (c1 : ckR l (Int.ofNat x) fu = 0) (c3 : (uL l x fu).isEmpty = false) (hv : validL l) (hx : x < l.length) : CallJ Tryz.prog 3 #[rgV Tryz.prog.globals.size l.length k (Int.ofNat x) fu, nilS] ((base tabs es Tryz.prog.globals.size).push (.cells (l.map gf) e 0 true)) (fun v _ => v = .bool true) := by
  have hT : l.take l.length = l := List.take_length
  have hJ : Int.toNat (Int.ofNat x) = x := rfl
  have e0 : ieq (ckR l (Int.ofNat x) fu) 0 = true := ieq_z1 c1
  have e00 : ieq 0 (ckR l (Int.ofNat x) fu) = true := ieq_0r c1
  have u1 := uL_len l x fu
  have sfu : SameF (uL l x fu) (uL l x fu) := SameF.self fun y hy => hv y (uL_mem hy)
  have u2 : 0 < (uL l x fu).length := by cases hu : uL l x fu with | nil => rw [hu] at c3; cases c3 | cons => exact Nat.succ_pos _
  have e1 : ieq (wrE l (Int.ofNat x) fu []) 0 = true := ieq_z1 (fs_zero c1 csE_nil)
  have e2 : ieq (firstS [(ckR l (Int.ofNat x) fu), 0]) 0 = true := ieq_z1 (fs_zero c1 rfl)
  have e20 : ieq 0 (firstS [(ckR l (Int.ofNat x) fu), 0]) = true := ieq_0r (fs_zero c1 rfl)
  have w1 : l.length = (wC (wrZ l (Int.ofNat x) fu [])).length := (wrF_ok [] (s := (l, x, fu)) ⟨rfl, hx⟩).1.symm
  have sfw : SameF (wC (wrZ l (Int.ofNat x) fu [])) (wC (wrZ l (Int.ofNat x) fu [])) := SameF.self (wrF_val [] hv (fun y hy => by cases hy))
  have hh := rr_FNC0 l l.length k e (Int.ofNat x) fu es (fun v => v = .bool true)
  refine callC_ok mixed orcRgW_ok (askRgX_ok true true false) (Eq.mpr hh ?_)
  clear hh
  refine ⟨⟨flat_floats l, trivial⟩, rfl, fun _ => rfl, fun v1 => ?_⟩
  have n1 := sh_le v1
  clear v1
  have n2 : l.length ≤ 12 := by have := ck_ok1 c1; obtain ⟨_, _, _, _, h6⟩ := this; omega
  ·
    repeat' (first
      | assumption
      | omega
      | exact rfl
      | exact trivial
      | exact flat_floats _
      | (refine ⟨_, rfl, ?_⟩)
      | (refine ⟨_, _, rfl, rfl, ?_⟩)
      | (intro c x' f hc hx' hf; subst hc hx' hf)
      | (intro y ey; subst ey)
      | exact ieq_self _
      | exact beq_self_eq_true _
      | (with_reducible apply And.intro)
      | (simp only [hT, hJ]; first | done | assumption | omega | exact ieq_self _ | exact beq_self_eq_true _)
      | kernel_rfl)
set_option maxRecDepth 100000 in
theorem rg_FNC1 (l : List Nat) (k e : Nat) (x : Nat) (fu : Bool) (es : Nat → TypeId) (h0 : 0 < l.length) (h1 : l.length ≤ 9223372036854775807) (hk : l.length ≤ k) (c1 : ckR l (Int.ofNat x) fu = 0) (c3 : (uL l x fu).isEmpty = true) (hv : validL l) (hx : x < l.length) : CallJ Tryz.prog 3 #[rgV Tryz.prog.globals.size l.length k (Int.ofNat x) fu, nilS] ((base tabs es Tryz.prog.globals.size).push (.cells (l.map gf) e 0 true)) (fun v _ => v = .bool true) := by
  have hT : l.take l.length = l := List.take_length
  have hJ : Int.toNat (Int.ofNat x) = x := rfl
  have e0 : ieq (ckR l (Int.ofNat x) fu) 0 = true := ieq_z1 c1
  have e00 : ieq 0 (ckR l (Int.ofNat x) fu) = true := ieq_0r c1
  have u1 := uL_len l x fu
  have sfu : SameF (uL l x fu) (uL l x fu) := SameF.self fun y hy => hv y (uL_mem hy)
  have u2 : (uL l x fu).length = 0 := by rw [List.isEmpty_iff.1 c3]; rfl
  have e1 : ieq (wrE l (Int.ofNat x) fu []) 0 = true := ieq_z1 (fs_zero c1 csE_nil)
  have e2 : ieq (firstS [(ckR l (Int.ofNat x) fu), 0]) 0 = true := ieq_z1 (fs_zero c1 rfl)
  have e20 : ieq 0 (firstS [(ckR l (Int.ofNat x) fu), 0]) = true := ieq_0r (fs_zero c1 rfl)
  have w1 : l.length = (wC (wrZ l (Int.ofNat x) fu [])).length := (wrF_ok [] (s := (l, x, fu)) ⟨rfl, hx⟩).1.symm
  have sfw : SameF (wC (wrZ l (Int.ofNat x) fu [])) (wC (wrZ l (Int.ofNat x) fu [])) := SameF.self (wrF_val [] hv (fun y hy => by cases hy))
  have hh := rr_FNC1 l l.length k e (Int.ofNat x) fu es (fun v => v = .bool true)
  refine callC_ok mixed orcRgW_ok (askRgX_ok true true true) (Eq.mpr hh ?_)
  clear hh
  refine ⟨⟨flat_floats l, trivial⟩, rfl, fun _ => rfl, fun v1 => ?_⟩
  have n1 := sh_le v1
  clear v1
  have n2 : l.length ≤ 12 := by have := ck_ok1 c1; obtain ⟨_, _, _, _, h6⟩ := this; omega
  ·
    repeat' (first
      | assumption
      | omega
      | exact rfl
      | exact trivial
      | exact flat_floats _
      | (refine ⟨_, rfl, ?_⟩)
      | (refine ⟨_, _, rfl, rfl, ?_⟩)
      | (intro c x' f hc hx' hf; subst hc hx' hf)
      | (intro y ey; subst ey)
      | exact ieq_self _
      | exact beq_self_eq_true _
      | (with_reducible apply And.intro)
      | (simp only [hT, hJ]; first | done | assumption | omega | exact ieq_self _ | exact beq_self_eq_true _)
      | kernel_rfl)
set_option maxRecDepth 100000 in
theorem rg_FEA (l : List Nat) (k e : Nat) (nx : Int) (fu : Bool) (q : Nat) (es : Nat → TypeId) (h0 : 0 < l.length) (h1 : l.length ≤ 9223372036854775807) (hk : l.length ≤ k) (c1 : ckR l nx fu ≠ 0) : CallJ Tryz.prog 3 #[rgV Tryz.prog.globals.size l.length k nx fu, .slice (some ⟨Tryz.prog.globals.size + 1, 0, none⟩) 0 q] (((base tabs es Tryz.prog.globals.size).push (.cells (l.map gf) e 0 true)).push .dead) (fun v _ => v = .bool true) := by
  have hT : l.take l.length = l := List.take_length
  have e0 : ieq (ckR l nx fu) 0 = false := ieq_n1 c1
  have e1 : ieq (wrE l nx fu []) 0 = false := ieq_n1 (fs_nl c1)
  have e2 : ieq (firstS [(ckR l nx fu), 0]) 0 = false := ieq_n1 (fs_nl c1)
  have e4 : ieq (wrE l nx fu []) (firstS [(ckR l nx fu), 0]) = true := by unfold wrE; rw [csE_nil]; exact ieq_self _
  have hh := rr_FEA l l.length k e nx fu q es (fun v => v = .bool true)
  refine callC_ok mixed orcRgW_ok (askRgW_ok false false false) (Eq.mpr hh ?_)
  clear hh
  refine ⟨⟨flat_floats l, trivial⟩, rfl, fun _ => rfl, fun v1 => ?_⟩
  have n1 := sh_le v1
  clear v1
  ·
    repeat' (first
      | assumption
      | omega
      | exact rfl
      | exact trivial
      | exact flat_floats _
      | (refine ⟨_, rfl, ?_⟩)
      | (refine ⟨_, _, rfl, rfl, ?_⟩)
      | (intro c x' f hc hx' hf; subst hc hx' hf)
      | (intro y ey; subst ey)
      | exact ieq_self _
      | exact beq_self_eq_true _
      | (with_reducible apply And.intro)
      | (simp only [hT]; first | done | assumption | omega | exact ieq_self _ | exact beq_self_eq_true _)
      | kernel_rfl)
set_option maxRecDepth 100000 in
theorem rg_FEC0 (l : List Nat) (k e : Nat) (x : Nat) (fu : Bool) (q : Nat) (es : Nat → TypeId) (h0 : 0 < l.length) (h1 : l.length ≤ 9223372036854775807) (hk : l.length ≤ k) (c1 : ckR l (Int.ofNat x) fu = 0) (c3 : (uL l x fu).isEmpty = false) (hv : validL l) (hx : x < l.length) : CallJ Tryz.prog 3 #[rgV Tryz.prog.globals.size l.length k (Int.ofNat x) fu, .slice (some ⟨Tryz.prog.globals.size + 1, 0, none⟩) 0 q] (((base tabs es Tryz.prog.globals.size).push (.cells (l.map gf) e 0 true)).push .dead) (fun v _ => v = .bool true) := by
  have hT : l.take l.length = l := List.take_length
  have hJ : Int.toNat (Int.ofNat x) = x := rfl
  have e0 : ieq (ckR l (Int.ofNat x) fu) 0 = true := ieq_z1 c1
  have e00 : ieq 0 (ckR l (Int.ofNat x) fu) = true := ieq_0r c1
  have u1 := uL_len l x fu
  have sfu : SameF (uL l x fu) (uL l x fu) := SameF.self fun y hy => hv y (uL_mem hy)
  have u2 : 0 < (uL l x fu).length := by cases hu : uL l x fu with | nil => rw [hu] at c3; cases c3 | cons => exact Nat.succ_pos _
  have e1 : ieq (wrE l (Int.ofNat x) fu []) 0 = true := ieq_z1 (fs_zero c1 csE_nil)
  have e2 : ieq (firstS [(ckR l (Int.ofNat x) fu), 0]) 0 = true := ieq_z1 (fs_zero c1 rfl)
  have e20 : ieq 0 (firstS [(ckR l (Int.ofNat x) fu), 0]) = true := ieq_0r (fs_zero c1 rfl)
  have w1 : l.length = (wC (wrZ l (Int.ofNat x) fu [])).length := (wrF_ok [] (s := (l, x, fu)) ⟨rfl, hx⟩).1.symm
  have sfw : SameF (wC (wrZ l (Int.ofNat x) fu [])) (wC (wrZ l (Int.ofNat x) fu [])) := SameF.self (wrF_val [] hv (fun y hy => by cases hy))
  have hh := rr_FEC0 l l.length k e (Int.ofNat x) fu q es (fun v => v = .bool true)
  refine callC_ok mixed orcRgW_ok (askRgX_ok true true false) (Eq.mpr hh ?_)
  clear hh
  refine ⟨⟨flat_floats l, trivial⟩, rfl, fun _ => rfl, fun v1 => ?_⟩
  have n1 := sh_le v1
  clear v1
  have n2 : l.length ≤ 12 := by have := ck_ok1 c1; obtain ⟨_, _, _, _, h6⟩ := this; omega
  ·
    repeat' (first
      | assumption
      | omega
      | exact rfl
      | exact trivial
      | exact flat_floats _
      | (refine ⟨_, rfl, ?_⟩)
      | (refine ⟨_, _, rfl, rfl, ?_⟩)
      | (intro c x' f hc hx' hf; subst hc hx' hf)
      | (intro y ey; subst ey)
      | exact ieq_self _
      | exact beq_self_eq_true _
      | (with_reducible apply And.intro)
      | (simp only [hT, hJ]; first | done | assumption | omega | exact ieq_self _ | exact beq_self_eq_true _)
      | kernel_rfl)
set_option maxRecDepth 100000 in
theorem rg_FEC1 (l : List Nat) (k e : Nat) (x : Nat) (fu : Bool) (q : Nat) (es : Nat → TypeId) (h0 : 0 < l.length) (h1 : l.length ≤ 9223372036854775807) (hk : l.length ≤ k) (c1 : ckR l (Int.ofNat x) fu = 0) (c3 : (uL l x fu).isEmpty = true) (hv : validL l) (hx : x < l.length) : CallJ Tryz.prog 3 #[rgV Tryz.prog.globals.size l.length k (Int.ofNat x) fu, .slice (some ⟨Tryz.prog.globals.size + 1, 0, none⟩) 0 q] (((base tabs es Tryz.prog.globals.size).push (.cells (l.map gf) e 0 true)).push .dead) (fun v _ => v = .bool true) := by
  have hT : l.take l.length = l := List.take_length
  have hJ : Int.toNat (Int.ofNat x) = x := rfl
  have e0 : ieq (ckR l (Int.ofNat x) fu) 0 = true := ieq_z1 c1
  have e00 : ieq 0 (ckR l (Int.ofNat x) fu) = true := ieq_0r c1
  have u1 := uL_len l x fu
  have sfu : SameF (uL l x fu) (uL l x fu) := SameF.self fun y hy => hv y (uL_mem hy)
  have u2 : (uL l x fu).length = 0 := by rw [List.isEmpty_iff.1 c3]; rfl
  have e1 : ieq (wrE l (Int.ofNat x) fu []) 0 = true := ieq_z1 (fs_zero c1 csE_nil)
  have e2 : ieq (firstS [(ckR l (Int.ofNat x) fu), 0]) 0 = true := ieq_z1 (fs_zero c1 rfl)
  have e20 : ieq 0 (firstS [(ckR l (Int.ofNat x) fu), 0]) = true := ieq_0r (fs_zero c1 rfl)
  have w1 : l.length = (wC (wrZ l (Int.ofNat x) fu [])).length := (wrF_ok [] (s := (l, x, fu)) ⟨rfl, hx⟩).1.symm
  have sfw : SameF (wC (wrZ l (Int.ofNat x) fu [])) (wC (wrZ l (Int.ofNat x) fu [])) := SameF.self (wrF_val [] hv (fun y hy => by cases hy))
  have hh := rr_FEC1 l l.length k e (Int.ofNat x) fu q es (fun v => v = .bool true)
  refine callC_ok mixed orcRgW_ok (askRgX_ok true true true) (Eq.mpr hh ?_)
  clear hh
  refine ⟨⟨flat_floats l, trivial⟩, rfl, fun _ => rfl, fun v1 => ?_⟩
  have n1 := sh_le v1
  clear v1
  have n2 : l.length ≤ 12 := by have := ck_ok1 c1; obtain ⟨_, _, _, _, h6⟩ := this; omega
  ·
    repeat' (first
      | assumption
      | omega
      | exact rfl
      | exact trivial
      | exact flat_floats _
      | (refine ⟨_, rfl, ?_⟩)
      | (refine ⟨_, _, rfl, rfl, ?_⟩)
      | (intro c x' f hc hx' hf; subst hc hx' hf)
      | (intro y ey; subst ey)
      | exact ieq_self _
      | exact beq_self_eq_true _
      | (with_reducible apply And.intro)
      | (simp only [hT, hJ]; first | done | assumption | omega | exact ieq_self _ | exact beq_self_eq_true _)
      | kernel_rfl)
end Go.Proofs.YtgomacijdadjpaaGreatDoor
