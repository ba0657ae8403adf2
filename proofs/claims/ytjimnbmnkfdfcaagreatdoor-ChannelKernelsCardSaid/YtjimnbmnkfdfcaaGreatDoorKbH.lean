/-
  OWN WORK. Kernels: the law on the abstract machine: true for all samples and weights.
-/
import Derived.Test.YtjimnbmnkfdfcaaGreatDoorKbG
namespace Go.Proofs.YtjimnbmnkfdfcaaGreatDoor
open Go Go.Am
theorem sample_fin' {u : Int} (h : okU u) : fin32 (sampleE u) := by
  have hb := okU_iff.1 h
  unfold Bd at hb
  obtain ⟨b, hb, hf, _⟩ := smI_some (u := u) (by omega) (by omega)
  unfold sampleE
  rw [hb]; exact hf
noncomputable def smB (L : List Int) : List Nat := L.map sampleE
theorem smB_mdP (L : List Int) : mdP L L.length = (smB L).map gf := by
  rw [mdP_end]
  unfold smB
  rw [List.map_map]; rfl
theorem smB_dstF (f : Nat → Int) (n : Nat) : dstF f n n = (smB ((List.range n).map f)).map gf := by
  unfold dstF smB
  rw [Nat.sub_self, List.replicate_zero, List.append_nil, List.map_map, List.map_map]; rfl
theorem smB_fin {L : List Int} (h : ∀ x ∈ L, okU x) (y : Nat) (hy : List.Mem y (smB L)) : Nat.le (y % 2147483648 + 1) 2139095040 := by
  obtain ⟨x, hx, rfl⟩ := List.mem_map.1 (show y ∈ L.map sampleE from hy)
  exact sample_fin' (h x hx)
theorem filt_same {l : List Nat} {kl W : List Int} {v : Int} {f : List Nat → List Int → Nat → Int} (hf : ∀ j, f l kl j = valU (l.map unitE) l.length W (1 - (kl.length : Int)) v j) :
    dstF (valU (l.map unitE) l.length W (1 - (kl.length : Int)) v) l.length l.length = (smB (rL f l kl)).map gf ∧ (okAll (l.map unitE) W (1 - (kl.length : Int)) v l.length ↔ ∀ x ∈ rL f l kl, okU x) := by
  have hL : rL f l kl = (List.range l.length).map (valU (l.map unitE) l.length W (1 - (kl.length : Int)) v) := List.map_congr_left fun j _ => hf j
  refine ⟨by rw [smB_dstF, ← hL], ?_⟩
  rw [hL]
  constructor
  · intro h x hx
    obtain ⟨i, hi, rfl⟩ := List.mem_map.1 hx
    exact h i (List.mem_range.1 hi)
  · intro h i hi
    exact h _ (List.mem_map.2 ⟨i, List.mem_range.2 hi, rfl⟩)
theorem short_or {n : Nat} (h : (!shortB n) = false) : n ≤ 40 ∨ n = 4097 := by
  unfold shortB at h
  rw [ilt_say, ieq_dec] at h
  simp at h
  omega
theorem sk_le {n : Nat} (h : (!(!(ilt 8 (Int.ofNat n)))) = false) : n ≤ 8 := by
  rw [ilt_say] at h
  simp at h
  omega
theorem ble_self (n : Nat) : Nat.ble n n = true := by rw [Nat.ble_eq]; exact Nat.le_refl n
theorem ieq_z0 {a : Int} (h : a = 0) : ieq a 0 = true := by rw [h]; rfl
theorem ieq_0z {a : Int} (h : a = 0) : ieq 0 a = true := by rw [h]; rfl
theorem ieq_eq {a b : Int} (h : a = b) : ieq a b = true := by rw [h]; exact ieq_self b
theorem er_nil0 (kl : List Int) : erE [] kl = firstS [0, keE kl] := by
  show firstS [csE [], keE kl] = _
  rw [csE_nil]
set_option maxRecDepth 100000 in
theorem kern_nnx (es : Nat → TypeId) : CallJ Tryz.prog 3 #[nilS, nilS] (base tabs2 es Tryz.prog.globals.size) (fun v _ => v = .bool true) := by
  refine callC_ok mixed orcKz_ok (askLz_ok 0 0 false) (Eq.mpr (kr_nnx es _) ?_)
  repeat' (first
    | (assumption)
    | (exact trivial)
    | (exact ieq_self _)
    | (exact ble_self _)
    | (exact fun _ => rfl)
    | (exact fun h => absurd h (by decide))
    | (exact fun y hy => by cases hy)
    | (refine ⟨_, rfl, ?_⟩)
    | (with_reducible apply And.intro)
    | (omega)
    | (exact rfl)
    )
set_option maxRecDepth 100000 in
theorem kern_nex (es : Nat → TypeId) (j : Nat) : CallJ Tryz.prog 3 #[nilS, .slice (some ⟨Tryz.prog.globals.size, 0, none⟩) 0 j] ((base tabs2 es Tryz.prog.globals.size).push .dead) (fun v _ => v = .bool true) := by
  refine callC_ok mixed orcKz_ok (askLz_ok 0 0 false) (Eq.mpr (kr_nex es j _) ?_)
  repeat' (first
    | (assumption)
    | (exact trivial)
    | (exact ieq_self _)
    | (exact ble_self _)
    | (exact fun _ => rfl)
    | (exact fun h => absurd h (by decide))
    | (exact fun y hy => by cases hy)
    | (refine ⟨_, rfl, ?_⟩)
    | (with_reducible apply And.intro)
    | (omega)
    | (exact rfl)
    )
set_option maxRecDepth 100000 in
theorem kern_nfx (es : Nat → TypeId) (kl : List Int) (m' k' e' : Nat) (hkl : kl.length = m' + 1) (g1 : m' + 1 ≤ 9223372036854775807) (gk : m' + 1 ≤ k') (hke : keE kl ≠ 0) : CallJ Tryz.prog 3 #[nilS, slX Tryz.prog.globals.size (m' + 1) k'] ((base tabs2 es Tryz.prog.globals.size).push (.cells (kl.map gi) e' 0 true)) (fun v _ => v = .bool true) := by
  have hkt : List.take (m' + 1) kl = kl := List.take_of_length_le (by omega)
  have htk : List.map gi (List.take (m' + 1) kl) = List.map gi kl := by rw [hkt]
  have hb' : Nat.ble (m' + 1) k' = true := by rw [Nat.ble_eq]; exact gk
  have q0 : firstS [0, keE kl] = erE [] kl := (er_nil0 kl).symm
  have he : erE [] kl ≠ 0 := by rw [erE_nil]; exact hke
  have q1 : ieq (firstS [0, keE kl]) 0 = false := by rw [q0]; exact ieq_ne he
  have q2 : ieq (erE [] kl) (firstS [0, keE kl]) = true := by rw [q0]; exact ieq_self _
  have q3 : ieq (keE kl) 0 = false := ieq_ne hke
  refine callC_ok mixed orcKz_ok (askLz_ok 0 0 false) (Eq.mpr (kr_nfx es kl m' k' e' _) ?_)
  repeat' (first
    | (assumption)
    | (exact trivial)
    | (exact ieq_self _)
    | (exact flat_ints _)
    | (exact ⟨kl, rfl⟩)
    | (exact ble_self _)
    | (exact fun _ => rfl)
    | (exact fun h => absurd h (by decide))
    | (exact fun y hy => by cases hy)
    | (refine ⟨kl, htk, ?_⟩)
    | (refine ⟨_, rfl, ?_⟩)
    | (with_reducible apply And.intro)
    | (intro gs; have gs1 := sk_le gs)
    | (omega)
    | (exact rfl)
    )
set_option maxRecDepth 100000 in
theorem kern_nfv (es : Nat → TypeId) (kl : List Int) (m' k' e' : Nat) (hkl : kl.length = m' + 1) (g1 : m' + 1 ≤ 9223372036854775807) (gk : m' + 1 ≤ k') (hke : keE kl = 0) : CallJ Tryz.prog 3 #[nilS, slX Tryz.prog.globals.size (m' + 1) k'] ((base tabs2 es Tryz.prog.globals.size).push (.cells (kl.map gi) e' 0 true)) (fun v _ => v = .bool true) := by
  have hkt : List.take (m' + 1) kl = kl := List.take_of_length_le (by omega)
  have htk : List.map gi (List.take (m' + 1) kl) = List.map gi kl := by rw [hkt]
  have hb' : Nat.ble (m' + 1) k' = true := by rw [Nat.ble_eq]; exact gk
  have q0 : firstS [0, keE kl] = erE [] kl := (er_nil0 kl).symm
  have he : erE [] kl = 0 := by rw [erE_nil]; exact hke
  have q1 : ieq (firstS [0, keE kl]) 0 = true := by rw [q0]; exact ieq_z0 he
  have q3 : ieq (keE kl) 0 = true := ieq_z0 hke
  have q4 : ieq 0 (keE kl) = true := ieq_0z hke
  have hw : (wtsE kl).length = 2 * m' + 1 := by rw [wts_length, hkl]; omega
  refine callC_ok mixed orcKz_ok (askLz_ok 3 3 true) (Eq.mpr (kr_nfv es kl m' k' e' _) ?_)
  repeat' (first
    | (assumption)
    | (exact trivial)
    | (exact ieq_self _)
    | (exact flat_floats _)
    | (exact flat_ints _)
    | (exact ⟨kl, rfl⟩)
    | (exact ble_self _)
    | (exact fun _ => rfl)
    | (exact fun h => absurd h (by decide))
    | (exact fun y hy => by cases hy)
    | (refine ⟨kl, htk, ?_⟩)
    | (refine ⟨m', hkl, ?_⟩)
    | (refine ⟨_, rfl, ?_⟩)
    | (with_reducible apply And.intro)
    | (intro gs; have gs1 := sk_le gs)
    | (omega)
    | (exact rfl)
    )
set_option maxRecDepth 100000 in
theorem kern_enx (es : Nat → TypeId) (i : Nat) : CallJ Tryz.prog 3 #[.slice (some ⟨Tryz.prog.globals.size, 0, none⟩) 0 i, nilS] ((base tabs2 es Tryz.prog.globals.size).push .dead) (fun v _ => v = .bool true) := by
  refine callC_ok mixed orcKz_ok (askLz_ok 0 0 false) (Eq.mpr (kr_enx es i _) ?_)
  repeat' (first
    | (assumption)
    | (exact trivial)
    | (exact ieq_self _)
    | (exact ble_self _)
    | (exact fun _ => rfl)
    | (exact fun h => absurd h (by decide))
    | (exact fun y hy => by cases hy)
    | (refine ⟨_, rfl, ?_⟩)
    | (with_reducible apply And.intro)
    | (omega)
    | (exact rfl)
    )
set_option maxRecDepth 100000 in
theorem kern_eex (es : Nat → TypeId) (i : Nat) (j : Nat) : CallJ Tryz.prog 3 #[.slice (some ⟨Tryz.prog.globals.size, 0, none⟩) 0 i, .slice (some ⟨(Tryz.prog.globals.size + 1), 0, none⟩) 0 j] (((base tabs2 es Tryz.prog.globals.size).push .dead).push .dead) (fun v _ => v = .bool true) := by
  refine callC_ok mixed orcKz_ok (askLz_ok 0 0 false) (Eq.mpr (kr_eex es i j _) ?_)
  repeat' (first
    | (assumption)
    | (exact trivial)
    | (exact ieq_self _)
    | (exact ble_self _)
    | (exact fun _ => rfl)
    | (exact fun h => absurd h (by decide))
    | (exact fun y hy => by cases hy)
    | (refine ⟨_, rfl, ?_⟩)
    | (with_reducible apply And.intro)
    | (omega)
    | (exact rfl)
    )
set_option maxRecDepth 100000 in
theorem kern_efx (es : Nat → TypeId) (i : Nat) (kl : List Int) (m' k' e' : Nat) (hkl : kl.length = m' + 1) (g1 : m' + 1 ≤ 9223372036854775807) (gk : m' + 1 ≤ k') (hke : keE kl ≠ 0) : CallJ Tryz.prog 3 #[.slice (some ⟨Tryz.prog.globals.size, 0, none⟩) 0 i, slX (Tryz.prog.globals.size + 1) (m' + 1) k'] (((base tabs2 es Tryz.prog.globals.size).push .dead).push (.cells (kl.map gi) e' 0 true)) (fun v _ => v = .bool true) := by
  have hkt : List.take (m' + 1) kl = kl := List.take_of_length_le (by omega)
  have htk : List.map gi (List.take (m' + 1) kl) = List.map gi kl := by rw [hkt]
  have hb' : Nat.ble (m' + 1) k' = true := by rw [Nat.ble_eq]; exact gk
  have q0 : firstS [0, keE kl] = erE [] kl := (er_nil0 kl).symm
  have he : erE [] kl ≠ 0 := by rw [erE_nil]; exact hke
  have q1 : ieq (firstS [0, keE kl]) 0 = false := by rw [q0]; exact ieq_ne he
  have q2 : ieq (erE [] kl) (firstS [0, keE kl]) = true := by rw [q0]; exact ieq_self _
  have q3 : ieq (keE kl) 0 = false := ieq_ne hke
  refine callC_ok mixed orcKz_ok (askLz_ok 0 0 false) (Eq.mpr (kr_efx es i kl m' k' e' _) ?_)
  repeat' (first
    | (assumption)
    | (exact trivial)
    | (exact ieq_self _)
    | (exact flat_ints _)
    | (exact ⟨kl, rfl⟩)
    | (exact ble_self _)
    | (exact fun _ => rfl)
    | (exact fun h => absurd h (by decide))
    | (exact fun y hy => by cases hy)
    | (refine ⟨kl, htk, ?_⟩)
    | (refine ⟨_, rfl, ?_⟩)
    | (with_reducible apply And.intro)
    | (intro gs; have gs1 := sk_le gs)
    | (omega)
    | (exact rfl)
    )
set_option maxRecDepth 100000 in
theorem kern_efv (es : Nat → TypeId) (i : Nat) (kl : List Int) (m' k' e' : Nat) (hkl : kl.length = m' + 1) (g1 : m' + 1 ≤ 9223372036854775807) (gk : m' + 1 ≤ k') (hke : keE kl = 0) : CallJ Tryz.prog 3 #[.slice (some ⟨Tryz.prog.globals.size, 0, none⟩) 0 i, slX (Tryz.prog.globals.size + 1) (m' + 1) k'] (((base tabs2 es Tryz.prog.globals.size).push .dead).push (.cells (kl.map gi) e' 0 true)) (fun v _ => v = .bool true) := by
  have hkt : List.take (m' + 1) kl = kl := List.take_of_length_le (by omega)
  have htk : List.map gi (List.take (m' + 1) kl) = List.map gi kl := by rw [hkt]
  have hb' : Nat.ble (m' + 1) k' = true := by rw [Nat.ble_eq]; exact gk
  have q0 : firstS [0, keE kl] = erE [] kl := (er_nil0 kl).symm
  have he : erE [] kl = 0 := by rw [erE_nil]; exact hke
  have q1 : ieq (firstS [0, keE kl]) 0 = true := by rw [q0]; exact ieq_z0 he
  have q3 : ieq (keE kl) 0 = true := ieq_z0 hke
  have q4 : ieq 0 (keE kl) = true := ieq_0z hke
  have hw : (wtsE kl).length = 2 * m' + 1 := by rw [wts_length, hkl]; omega
  refine callC_ok mixed orcKz_ok (askLz_ok 3 3 true) (Eq.mpr (kr_efv es i kl m' k' e' _) ?_)
  repeat' (first
    | (assumption)
    | (exact trivial)
    | (exact ieq_self _)
    | (exact flat_floats _)
    | (exact flat_ints _)
    | (exact ⟨kl, rfl⟩)
    | (exact ble_self _)
    | (exact fun _ => rfl)
    | (exact fun h => absurd h (by decide))
    | (exact fun y hy => by cases hy)
    | (refine ⟨kl, htk, ?_⟩)
    | (refine ⟨m', hkl, ?_⟩)
    | (refine ⟨_, rfl, ?_⟩)
    | (with_reducible apply And.intro)
    | (intro gs; have gs1 := sk_le gs)
    | (omega)
    | (exact rfl)
    )
set_option maxRecDepth 100000 in
theorem kern_fnx (es : Nat → TypeId) (l : List Nat) (m k e : Nat) (hl : l.length = m + 1) (h1 : m + 1 ≤ 9223372036854775807) (hk : m + 1 ≤ k) : CallJ Tryz.prog 3 #[slX Tryz.prog.globals.size (m + 1) k, nilS] ((base tabs2 es Tryz.prog.globals.size).push (.cells (l.map gf) e 0 true)) (fun v _ => v = .bool true) := by
  have ht : List.take (m + 1) l = l := List.take_of_length_le (by omega)
  have htl : List.map gf (List.take (m + 1) l) = List.map gf l := by rw [ht]
  have hb : Nat.ble (m + 1) k = true := by rw [Nat.ble_eq]; exact hk
  have he : erE l [] ≠ 0 := er_k0 l
  have hq : firstS [csE (List.take (m + 1) l), 12] = erE l [] := by rw [ht]; show _ = firstS [csE l, keE []]; rw [keE_nil]
  have q1 : ieq (firstS [csE (List.take (m + 1) l), 12]) 0 = false := by rw [hq]; exact ieq_ne he
  have q2 : ieq (erE l []) (firstS [csE (List.take (m + 1) l), 12]) = true := by rw [hq]; exact ieq_self _
  refine callC_ok mixed orcKz_ok (askLz_ok 0 0 false) (Eq.mpr (kr_fnx es l m k e _) ?_)
  repeat' (first
    | (assumption)
    | (exact trivial)
    | (exact ieq_self _)
    | (exact flat_floats _)
    | (exact ⟨l, rfl⟩)
    | (exact ble_self _)
    | (exact fun _ => rfl)
    | (exact fun h => absurd h (by decide))
    | (exact fun y hy => by cases hy)
    | (refine ⟨l, htl, ?_⟩)
    | (refine ⟨_, rfl, ?_⟩)
    | (with_reducible apply And.intro)
    | (intro hs; have hs1 := short_or hs; rw [ht, hl] at hs1)
    | (omega)
    | (exact rfl)
    )
set_option maxRecDepth 100000 in
theorem kern_fex (es : Nat → TypeId) (l : List Nat) (m k e : Nat) (j : Nat) (hl : l.length = m + 1) (h1 : m + 1 ≤ 9223372036854775807) (hk : m + 1 ≤ k) : CallJ Tryz.prog 3 #[slX Tryz.prog.globals.size (m + 1) k, .slice (some ⟨(Tryz.prog.globals.size + 1), 0, none⟩) 0 j] (((base tabs2 es Tryz.prog.globals.size).push (.cells (l.map gf) e 0 true)).push .dead) (fun v _ => v = .bool true) := by
  have ht : List.take (m + 1) l = l := List.take_of_length_le (by omega)
  have htl : List.map gf (List.take (m + 1) l) = List.map gf l := by rw [ht]
  have hb : Nat.ble (m + 1) k = true := by rw [Nat.ble_eq]; exact hk
  have he : erE l [] ≠ 0 := er_k0 l
  have hq : firstS [csE (List.take (m + 1) l), 12] = erE l [] := by rw [ht]; show _ = firstS [csE l, keE []]; rw [keE_nil]
  have q1 : ieq (firstS [csE (List.take (m + 1) l), 12]) 0 = false := by rw [hq]; exact ieq_ne he
  have q2 : ieq (erE l []) (firstS [csE (List.take (m + 1) l), 12]) = true := by rw [hq]; exact ieq_self _
  refine callC_ok mixed orcKz_ok (askLz_ok 0 0 false) (Eq.mpr (kr_fex es l m k e j _) ?_)
  repeat' (first
    | (assumption)
    | (exact trivial)
    | (exact ieq_self _)
    | (exact flat_floats _)
    | (exact ⟨l, rfl⟩)
    | (exact ble_self _)
    | (exact fun _ => rfl)
    | (exact fun h => absurd h (by decide))
    | (exact fun y hy => by cases hy)
    | (refine ⟨l, htl, ?_⟩)
    | (refine ⟨_, rfl, ?_⟩)
    | (with_reducible apply And.intro)
    | (intro hs; have hs1 := short_or hs; rw [ht, hl] at hs1)
    | (omega)
    | (exact rfl)
    )
set_option maxRecDepth 100000 in
theorem kern_ffx (es : Nat → TypeId) (l : List Nat) (m k e : Nat) (kl : List Int) (m' k' e' : Nat) (hl : l.length = m + 1) (h1 : m + 1 ≤ 9223372036854775807) (hk : m + 1 ≤ k) (hkl : kl.length = m' + 1) (g1 : m' + 1 ≤ 9223372036854775807) (gk : m' + 1 ≤ k') (hke : keE kl ≠ 0) (he : erE l kl ≠ 0) : CallJ Tryz.prog 3 #[slX Tryz.prog.globals.size (m + 1) k, slX (Tryz.prog.globals.size + 1) (m' + 1) k'] (((base tabs2 es Tryz.prog.globals.size).push (.cells (l.map gf) e 0 true)).push (.cells (kl.map gi) e' 0 true)) (fun v _ => v = .bool true) := by
  have ht : List.take (m + 1) l = l := List.take_of_length_le (by omega)
  have htl : List.map gf (List.take (m + 1) l) = List.map gf l := by rw [ht]
  have hb : Nat.ble (m + 1) k = true := by rw [Nat.ble_eq]; exact hk
  have hkt : List.take (m' + 1) kl = kl := List.take_of_length_le (by omega)
  have htk : List.map gi (List.take (m' + 1) kl) = List.map gi kl := by rw [hkt]
  have hb' : Nat.ble (m' + 1) k' = true := by rw [Nat.ble_eq]; exact gk
  have hq : firstS [csE (List.take (m + 1) l), keE kl] = erE l kl := by rw [ht]
  have q2 : ieq (erE l kl) (firstS [csE (List.take (m + 1) l), keE kl]) = true := by rw [hq]; exact ieq_self _
  have q1 : ieq (firstS [csE (List.take (m + 1) l), keE kl]) 0 = false := by rw [hq]; exact ieq_ne he
  have q3 : ieq (keE kl) 0 = false := ieq_ne hke
  refine callC_ok mixed orcKz_ok (askLz_ok 0 0 false) (Eq.mpr (kr_ffx es l m k e kl m' k' e' _) ?_)
  repeat' (first
    | (assumption)
    | (exact trivial)
    | (exact ieq_self _)
    | (exact flat_floats _)
    | (exact flat_ints _)
    | (exact ⟨l, rfl⟩)
    | (exact ⟨kl, rfl⟩)
    | (exact ble_self _)
    | (exact fun _ => rfl)
    | (exact fun h => absurd h (by decide))
    | (exact fun y hy => by cases hy)
    | (refine ⟨l, htl, ?_⟩)
    | (refine ⟨kl, htk, ?_⟩)
    | (refine ⟨_, rfl, ?_⟩)
    | (with_reducible apply And.intro)
    | (intro hs; have hs1 := short_or hs; rw [ht, hl] at hs1)
    | (intro gs; have gs1 := sk_le gs)
    | (omega)
    | (exact rfl)
    )
set_option maxRecDepth 100000 in
theorem kern_ffy (es : Nat → TypeId) (l : List Nat) (m k e : Nat) (kl : List Int) (m' k' e' : Nat) (hl : l.length = m + 1) (h1 : m + 1 ≤ 9223372036854775807) (hk : m + 1 ≤ k) (hkl : kl.length = m' + 1) (g1 : m' + 1 ≤ 9223372036854775807) (gk : m' + 1 ≤ k') (hke : keE kl = 0) (he : erE l kl ≠ 0) : CallJ Tryz.prog 3 #[slX Tryz.prog.globals.size (m + 1) k, slX (Tryz.prog.globals.size + 1) (m' + 1) k'] (((base tabs2 es Tryz.prog.globals.size).push (.cells (l.map gf) e 0 true)).push (.cells (kl.map gi) e' 0 true)) (fun v _ => v = .bool true) := by
  have ht : List.take (m + 1) l = l := List.take_of_length_le (by omega)
  have htl : List.map gf (List.take (m + 1) l) = List.map gf l := by rw [ht]
  have hb : Nat.ble (m + 1) k = true := by rw [Nat.ble_eq]; exact hk
  have hkt : List.take (m' + 1) kl = kl := List.take_of_length_le (by omega)
  have htk : List.map gi (List.take (m' + 1) kl) = List.map gi kl := by rw [hkt]
  have hb' : Nat.ble (m' + 1) k' = true := by rw [Nat.ble_eq]; exact gk
  have hq : firstS [csE (List.take (m + 1) l), keE kl] = erE l kl := by rw [ht]
  have q2 : ieq (erE l kl) (firstS [csE (List.take (m + 1) l), keE kl]) = true := by rw [hq]; exact ieq_self _
  have q1 : ieq (firstS [csE (List.take (m + 1) l), keE kl]) 0 = false := by rw [hq]; exact ieq_ne he
  have q3 : ieq (keE kl) 0 = true := ieq_z0 hke
  have q4 : ieq 0 (keE kl) = true := ieq_0z hke
  have hw : (wtsE kl).length = 2 * m' + 1 := by rw [wts_length, hkl]; omega
  refine callC_ok mixed orcKz_ok (askLz_ok 0 0 true) (Eq.mpr (kr_ffy es l m k e kl m' k' e' _) ?_)
  repeat' (first
    | (assumption)
    | (exact trivial)
    | (exact ieq_self _)
    | (exact flat_floats _)
    | (exact flat_ints _)
    | (exact ⟨l, rfl⟩)
    | (exact ⟨kl, rfl⟩)
    | (exact ble_self _)
    | (exact fun _ => rfl)
    | (exact fun h => absurd h (by decide))
    | (exact fun y hy => by cases hy)
    | (refine ⟨l, htl, ?_⟩)
    | (refine ⟨kl, htk, ?_⟩)
    | (refine ⟨m', hkl, ?_⟩)
    | (refine ⟨_, rfl, ?_⟩)
    | (with_reducible apply And.intro)
    | (intro hs; have hs1 := short_or hs; rw [ht, hl] at hs1)
    | (intro gs; have gs1 := sk_le gs)
    | (omega)
    | (exact rfl)
    )
set_option maxRecDepth 100000 in
theorem kern_ffv11 (es : Nat → TypeId) (l : List Nat) (m k e : Nat) (kl : List Int) (m' k' e' : Nat) (hl : l.length = m + 1) (h1 : m + 1 ≤ 9223372036854775807) (hk : m + 1 ≤ k) (hkl : kl.length = m' + 1) (g1 : m' + 1 ≤ 9223372036854775807) (gk : m' + 1 ≤ k') (hke : keE kl = 0) (he : erE l kl = 0) (o1 : ∀ x ∈ rL refF1 l kl, okU x) (o2 : ∀ x ∈ rL refF2 l kl, okU x) : CallJ Tryz.prog 3 #[slX Tryz.prog.globals.size (m + 1) k, slX (Tryz.prog.globals.size + 1) (m' + 1) k'] (((base tabs2 es Tryz.prog.globals.size).push (.cells (l.map gf) e 0 true)).push (.cells (kl.map gi) e' 0 true)) (fun v _ => v = .bool true) := by
  have ht : List.take (m + 1) l = l := List.take_of_length_le (by omega)
  have htl : List.map gf (List.take (m + 1) l) = List.map gf l := by rw [ht]
  have hb : Nat.ble (m + 1) k = true := by rw [Nat.ble_eq]; exact hk
  have hkt : List.take (m' + 1) kl = kl := List.take_of_length_le (by omega)
  have htk : List.map gi (List.take (m' + 1) kl) = List.map gi kl := by rw [hkt]
  have hb' : Nat.ble (m' + 1) k' = true := by rw [Nat.ble_eq]; exact gk
  have hq : firstS [csE (List.take (m + 1) l), keE kl] = erE l kl := by rw [ht]
  have q2 : ieq (erE l kl) (firstS [csE (List.take (m + 1) l), keE kl]) = true := by rw [hq]; exact ieq_self _
  have q3 : ieq (keE kl) 0 = true := ieq_z0 hke
  have q4 : ieq 0 (keE kl) = true := ieq_0z hke
  have hw : (wtsE kl).length = 2 * m' + 1 := by rw [wts_length, hkl]; omega
  have q1 : ieq (firstS [csE (List.take (m + 1) l), keE kl]) 0 = true := by rw [hq]; exact ieq_z0 he
  have hle := (cs_zero (er_zero he).1).2
  have hn : l ≠ [] := fun h => by rw [h] at hl; simp at hl
  obtain ⟨hd1, ho1⟩ := filt_same (same1 (l := l) (by omega) hke)
  obtain ⟨hd2, ho2⟩ := filt_same (same2 (l := l) (by omega) hke)
  have hm1 := smB_mdP (rL refF1 l kl)
  have hs1 : (smB (rL refF1 l kl)).length = m + 1 := by simp [smB, hl]
  have hf1 := smB_fin o1
  have a1 := ho1.2 o1
  have fl1 := congrArg (fun c => List.all c (flat 3)) hd1
  have fl1 := fl1.trans (flat_floats _)
  have fm1 := (congrArg (fun c => List.all c (flat 3)) hm1).trans (flat_floats _)
  have hm2 := smB_mdP (rL refF2 l kl)
  have hs2 : (smB (rL refF2 l kl)).length = m + 1 := by simp [smB, hl]
  have hf2 := smB_fin o2
  have a2 := ho2.2 o2
  have fl2 := congrArg (fun c => List.all c (flat 3)) hd2
  have fl2 := fl2.trans (flat_floats _)
  have fm2 := (congrArg (fun c => List.all c (flat 3)) hm2).trans (flat_floats _)
  refine callC_ok mixed orcKz_ok (askLz_ok 1 1 true) (Eq.mpr (kr_ffv11 es l m k e kl m' k' e' _) ?_)
  repeat' (first
    | (assumption)
    | (exact trivial)
    | (exact ieq_self _)
    | (exact flat_floats _)
    | (exact flat_ints _)
    | (exact ⟨l, rfl⟩)
    | (exact ⟨kl, rfl⟩)
    | (exact ble_self _)
    | (exact fun _ => rfl)
    | (exact fun h => absurd h (by decide))
    | (exact fun y hy => by cases hy)
    | (refine ⟨l, htl, ?_⟩)
    | (refine ⟨kl, htk, ?_⟩)
    | (refine ⟨m, hl, ?_⟩)
    | (refine ⟨m', hkl, ?_⟩)
    | (refine ⟨_, hd1, ?_⟩)
    | (refine ⟨_, hm1, ?_⟩)
    | (refine ⟨_, hd2, ?_⟩)
    | (refine ⟨_, hm2, ?_⟩)
    | (refine ⟨_, rfl, ?_⟩)
    | (with_reducible apply And.intro)
    | (intro hs; have hs1 := short_or hs; rw [ht, hl] at hs1)
    | (intro gs; have gs1 := sk_le gs)
    | (omega)
    | (exact rfl)
    )
set_option maxRecDepth 100000 in
theorem kern_ffv12 (es : Nat → TypeId) (l : List Nat) (m k e : Nat) (kl : List Int) (m' k' e' : Nat) (hl : l.length = m + 1) (h1 : m + 1 ≤ 9223372036854775807) (hk : m + 1 ≤ k) (hkl : kl.length = m' + 1) (g1 : m' + 1 ≤ 9223372036854775807) (gk : m' + 1 ≤ k') (hke : keE kl = 0) (he : erE l kl = 0) (o1 : ∀ x ∈ rL refF1 l kl, okU x) (o2 : ¬ ∀ x ∈ rL refF2 l kl, okU x) : CallJ Tryz.prog 3 #[slX Tryz.prog.globals.size (m + 1) k, slX (Tryz.prog.globals.size + 1) (m' + 1) k'] (((base tabs2 es Tryz.prog.globals.size).push (.cells (l.map gf) e 0 true)).push (.cells (kl.map gi) e' 0 true)) (fun v _ => v = .bool true) := by
  have ht : List.take (m + 1) l = l := List.take_of_length_le (by omega)
  have htl : List.map gf (List.take (m + 1) l) = List.map gf l := by rw [ht]
  have hb : Nat.ble (m + 1) k = true := by rw [Nat.ble_eq]; exact hk
  have hkt : List.take (m' + 1) kl = kl := List.take_of_length_le (by omega)
  have htk : List.map gi (List.take (m' + 1) kl) = List.map gi kl := by rw [hkt]
  have hb' : Nat.ble (m' + 1) k' = true := by rw [Nat.ble_eq]; exact gk
  have hq : firstS [csE (List.take (m + 1) l), keE kl] = erE l kl := by rw [ht]
  have q2 : ieq (erE l kl) (firstS [csE (List.take (m + 1) l), keE kl]) = true := by rw [hq]; exact ieq_self _
  have q3 : ieq (keE kl) 0 = true := ieq_z0 hke
  have q4 : ieq 0 (keE kl) = true := ieq_0z hke
  have hw : (wtsE kl).length = 2 * m' + 1 := by rw [wts_length, hkl]; omega
  have q1 : ieq (firstS [csE (List.take (m + 1) l), keE kl]) 0 = true := by rw [hq]; exact ieq_z0 he
  have hle := (cs_zero (er_zero he).1).2
  have hn : l ≠ [] := fun h => by rw [h] at hl; simp at hl
  obtain ⟨hd1, ho1⟩ := filt_same (same1 (l := l) (by omega) hke)
  obtain ⟨hd2, ho2⟩ := filt_same (same2 (l := l) (by omega) hke)
  have hm1 := smB_mdP (rL refF1 l kl)
  have hs1 : (smB (rL refF1 l kl)).length = m + 1 := by simp [smB, hl]
  have hf1 := smB_fin o1
  have a1 := ho1.2 o1
  have fl1 := congrArg (fun c => List.all c (flat 3)) hd1
  have fl1 := fl1.trans (flat_floats _)
  have fm1 := (congrArg (fun c => List.all c (flat 3)) hm1).trans (flat_floats _)
  have a2 := fun h => o2 (ho2.1 h)
  refine callC_ok mixed orcKz_ok (askLz_ok 1 2 true) (Eq.mpr (kr_ffv12 es l m k e kl m' k' e' _) ?_)
  repeat' (first
    | (assumption)
    | (exact trivial)
    | (exact ieq_self _)
    | (exact flat_floats _)
    | (exact flat_ints _)
    | (exact ⟨l, rfl⟩)
    | (exact ⟨kl, rfl⟩)
    | (exact ble_self _)
    | (exact fun _ => rfl)
    | (exact fun h => absurd h (by decide))
    | (exact fun y hy => by cases hy)
    | (refine ⟨l, htl, ?_⟩)
    | (refine ⟨kl, htk, ?_⟩)
    | (refine ⟨m, hl, ?_⟩)
    | (refine ⟨m', hkl, ?_⟩)
    | (refine ⟨_, hd1, ?_⟩)
    | (refine ⟨_, hm1, ?_⟩)
    | (refine ⟨_, rfl, ?_⟩)
    | (with_reducible apply And.intro)
    | (intro hs; have hs1 := short_or hs; rw [ht, hl] at hs1)
    | (intro gs; have gs1 := sk_le gs)
    | (omega)
    | (exact rfl)
    )
set_option maxRecDepth 100000 in
theorem kern_ffv21 (es : Nat → TypeId) (l : List Nat) (m k e : Nat) (kl : List Int) (m' k' e' : Nat) (hl : l.length = m + 1) (h1 : m + 1 ≤ 9223372036854775807) (hk : m + 1 ≤ k) (hkl : kl.length = m' + 1) (g1 : m' + 1 ≤ 9223372036854775807) (gk : m' + 1 ≤ k') (hke : keE kl = 0) (he : erE l kl = 0) (o1 : ¬ ∀ x ∈ rL refF1 l kl, okU x) (o2 : ∀ x ∈ rL refF2 l kl, okU x) : CallJ Tryz.prog 3 #[slX Tryz.prog.globals.size (m + 1) k, slX (Tryz.prog.globals.size + 1) (m' + 1) k'] (((base tabs2 es Tryz.prog.globals.size).push (.cells (l.map gf) e 0 true)).push (.cells (kl.map gi) e' 0 true)) (fun v _ => v = .bool true) := by
  have ht : List.take (m + 1) l = l := List.take_of_length_le (by omega)
  have htl : List.map gf (List.take (m + 1) l) = List.map gf l := by rw [ht]
  have hb : Nat.ble (m + 1) k = true := by rw [Nat.ble_eq]; exact hk
  have hkt : List.take (m' + 1) kl = kl := List.take_of_length_le (by omega)
  have htk : List.map gi (List.take (m' + 1) kl) = List.map gi kl := by rw [hkt]
  have hb' : Nat.ble (m' + 1) k' = true := by rw [Nat.ble_eq]; exact gk
  have hq : firstS [csE (List.take (m + 1) l), keE kl] = erE l kl := by rw [ht]
  have q2 : ieq (erE l kl) (firstS [csE (List.take (m + 1) l), keE kl]) = true := by rw [hq]; exact ieq_self _
  have q3 : ieq (keE kl) 0 = true := ieq_z0 hke
  have q4 : ieq 0 (keE kl) = true := ieq_0z hke
  have hw : (wtsE kl).length = 2 * m' + 1 := by rw [wts_length, hkl]; omega
  have q1 : ieq (firstS [csE (List.take (m + 1) l), keE kl]) 0 = true := by rw [hq]; exact ieq_z0 he
  have hle := (cs_zero (er_zero he).1).2
  have hn : l ≠ [] := fun h => by rw [h] at hl; simp at hl
  obtain ⟨hd1, ho1⟩ := filt_same (same1 (l := l) (by omega) hke)
  obtain ⟨hd2, ho2⟩ := filt_same (same2 (l := l) (by omega) hke)
  have a1 := fun h => o1 (ho1.1 h)
  have hm2 := smB_mdP (rL refF2 l kl)
  have hs2 : (smB (rL refF2 l kl)).length = m + 1 := by simp [smB, hl]
  have hf2 := smB_fin o2
  have a2 := ho2.2 o2
  have fl2 := congrArg (fun c => List.all c (flat 3)) hd2
  have fl2 := fl2.trans (flat_floats _)
  have fm2 := (congrArg (fun c => List.all c (flat 3)) hm2).trans (flat_floats _)
  refine callC_ok mixed orcKz_ok (askLz_ok 2 1 true) (Eq.mpr (kr_ffv21 es l m k e kl m' k' e' _) ?_)
  repeat' (first
    | (assumption)
    | (exact trivial)
    | (exact ieq_self _)
    | (exact flat_floats _)
    | (exact flat_ints _)
    | (exact ⟨l, rfl⟩)
    | (exact ⟨kl, rfl⟩)
    | (exact ble_self _)
    | (exact fun _ => rfl)
    | (exact fun h => absurd h (by decide))
    | (exact fun y hy => by cases hy)
    | (refine ⟨l, htl, ?_⟩)
    | (refine ⟨kl, htk, ?_⟩)
    | (refine ⟨m, hl, ?_⟩)
    | (refine ⟨m', hkl, ?_⟩)
    | (refine ⟨_, hd2, ?_⟩)
    | (refine ⟨_, hm2, ?_⟩)
    | (refine ⟨_, rfl, ?_⟩)
    | (with_reducible apply And.intro)
    | (intro hs; have hs1 := short_or hs; rw [ht, hl] at hs1)
    | (intro gs; have gs1 := sk_le gs)
    | (omega)
    | (exact rfl)
    )
set_option maxRecDepth 100000 in
theorem kern_ffv22 (es : Nat → TypeId) (l : List Nat) (m k e : Nat) (kl : List Int) (m' k' e' : Nat) (hl : l.length = m + 1) (h1 : m + 1 ≤ 9223372036854775807) (hk : m + 1 ≤ k) (hkl : kl.length = m' + 1) (g1 : m' + 1 ≤ 9223372036854775807) (gk : m' + 1 ≤ k') (hke : keE kl = 0) (he : erE l kl = 0) (o1 : ¬ ∀ x ∈ rL refF1 l kl, okU x) (o2 : ¬ ∀ x ∈ rL refF2 l kl, okU x) : CallJ Tryz.prog 3 #[slX Tryz.prog.globals.size (m + 1) k, slX (Tryz.prog.globals.size + 1) (m' + 1) k'] (((base tabs2 es Tryz.prog.globals.size).push (.cells (l.map gf) e 0 true)).push (.cells (kl.map gi) e' 0 true)) (fun v _ => v = .bool true) := by
  have ht : List.take (m + 1) l = l := List.take_of_length_le (by omega)
  have htl : List.map gf (List.take (m + 1) l) = List.map gf l := by rw [ht]
  have hb : Nat.ble (m + 1) k = true := by rw [Nat.ble_eq]; exact hk
  have hkt : List.take (m' + 1) kl = kl := List.take_of_length_le (by omega)
  have htk : List.map gi (List.take (m' + 1) kl) = List.map gi kl := by rw [hkt]
  have hb' : Nat.ble (m' + 1) k' = true := by rw [Nat.ble_eq]; exact gk
  have hq : firstS [csE (List.take (m + 1) l), keE kl] = erE l kl := by rw [ht]
  have q2 : ieq (erE l kl) (firstS [csE (List.take (m + 1) l), keE kl]) = true := by rw [hq]; exact ieq_self _
  have q3 : ieq (keE kl) 0 = true := ieq_z0 hke
  have q4 : ieq 0 (keE kl) = true := ieq_0z hke
  have hw : (wtsE kl).length = 2 * m' + 1 := by rw [wts_length, hkl]; omega
  have q1 : ieq (firstS [csE (List.take (m + 1) l), keE kl]) 0 = true := by rw [hq]; exact ieq_z0 he
  have hle := (cs_zero (er_zero he).1).2
  have hn : l ≠ [] := fun h => by rw [h] at hl; simp at hl
  obtain ⟨hd1, ho1⟩ := filt_same (same1 (l := l) (by omega) hke)
  obtain ⟨hd2, ho2⟩ := filt_same (same2 (l := l) (by omega) hke)
  have a1 := fun h => o1 (ho1.1 h)
  have a2 := fun h => o2 (ho2.1 h)
  refine callC_ok mixed orcKz_ok (askLz_ok 2 2 true) (Eq.mpr (kr_ffv22 es l m k e kl m' k' e' _) ?_)
  repeat' (first
    | (assumption)
    | (exact trivial)
    | (exact ieq_self _)
    | (exact flat_floats _)
    | (exact flat_ints _)
    | (exact ⟨l, rfl⟩)
    | (exact ⟨kl, rfl⟩)
    | (exact ble_self _)
    | (exact fun _ => rfl)
    | (exact fun h => absurd h (by decide))
    | (exact fun y hy => by cases hy)
    | (refine ⟨l, htl, ?_⟩)
    | (refine ⟨kl, htk, ?_⟩)
    | (refine ⟨m, hl, ?_⟩)
    | (refine ⟨m', hkl, ?_⟩)
    | (refine ⟨_, rfl, ?_⟩)
    | (with_reducible apply And.intro)
    | (intro hs; have hs1 := short_or hs; rw [ht, hl] at hs1)
    | (intro gs; have gs1 := sk_le gs)
    | (omega)
    | (exact rfl)
    )
theorem kern_nn (es : Nat → TypeId) : CallJ Tryz.prog 3 #[nilS, nilS] (base tabs2 es Tryz.prog.globals.size) (fun v _ => v = .bool true) := kern_nnx es
theorem kern_ne (es : Nat → TypeId) (j : Nat) : CallJ Tryz.prog 3 #[nilS, .slice (some ⟨Tryz.prog.globals.size, 0, none⟩) 0 j] ((base tabs2 es Tryz.prog.globals.size).push .dead) (fun v _ => v = .bool true) := kern_nex es j
theorem kern_nf (es : Nat → TypeId) (kl : List Int) (k' e' : Nat) (g0 : 0 < kl.length) (g1 : kl.length ≤ 9223372036854775807) (gk : kl.length ≤ k') : CallJ Tryz.prog 3 #[nilS, slX Tryz.prog.globals.size kl.length k'] ((base tabs2 es Tryz.prog.globals.size).push (.cells (kl.map gi) e' 0 true)) (fun v _ => v = .bool true) := by
  obtain ⟨m', hkl⟩ : ∃ m', kl.length = m' + 1 := ⟨kl.length - 1, by omega⟩
  rw [hkl] at g1 gk ⊢
  by_cases hke : keE kl = 0
  · exact kern_nfv es kl m' k' e' hkl g1 gk hke
  · exact kern_nfx es kl m' k' e' hkl g1 gk hke
theorem kern_en (es : Nat → TypeId) (i : Nat) : CallJ Tryz.prog 3 #[.slice (some ⟨Tryz.prog.globals.size, 0, none⟩) 0 i, nilS] ((base tabs2 es Tryz.prog.globals.size).push .dead) (fun v _ => v = .bool true) := kern_enx es i
theorem kern_ee (es : Nat → TypeId) (i j : Nat) : CallJ Tryz.prog 3 #[.slice (some ⟨Tryz.prog.globals.size, 0, none⟩) 0 i, .slice (some ⟨Tryz.prog.globals.size + 1, 0, none⟩) 0 j] (((base tabs2 es Tryz.prog.globals.size).push .dead).push .dead) (fun v _ => v = .bool true) := kern_eex es i j
theorem kern_ef (es : Nat → TypeId) (kl : List Int) (i k' e' : Nat) (g0 : 0 < kl.length) (g1 : kl.length ≤ 9223372036854775807) (gk : kl.length ≤ k') : CallJ Tryz.prog 3 #[.slice (some ⟨Tryz.prog.globals.size, 0, none⟩) 0 i, slX (Tryz.prog.globals.size + 1) kl.length k'] (((base tabs2 es Tryz.prog.globals.size).push .dead).push (.cells (kl.map gi) e' 0 true)) (fun v _ => v = .bool true) := by
  obtain ⟨m', hkl⟩ : ∃ m', kl.length = m' + 1 := ⟨kl.length - 1, by omega⟩
  rw [hkl] at g1 gk ⊢
  by_cases hke : keE kl = 0
  · exact kern_efv es i kl m' k' e' hkl g1 gk hke
  · exact kern_efx es i kl m' k' e' hkl g1 gk hke
theorem kern_fn (es : Nat → TypeId) (l : List Nat) (k e : Nat) (h0 : 0 < l.length) (h1 : l.length ≤ 9223372036854775807) (hk : l.length ≤ k) : CallJ Tryz.prog 3 #[slX Tryz.prog.globals.size l.length k, nilS] ((base tabs2 es Tryz.prog.globals.size).push (.cells (l.map gf) e 0 true)) (fun v _ => v = .bool true) := by
  obtain ⟨m, hl⟩ : ∃ m, l.length = m + 1 := ⟨l.length - 1, by omega⟩
  rw [hl] at h1 hk ⊢
  exact kern_fnx es l m k e hl h1 hk
theorem kern_fe (es : Nat → TypeId) (l : List Nat) (k e j : Nat) (h0 : 0 < l.length) (h1 : l.length ≤ 9223372036854775807) (hk : l.length ≤ k) : CallJ Tryz.prog 3 #[slX Tryz.prog.globals.size l.length k, .slice (some ⟨Tryz.prog.globals.size + 1, 0, none⟩) 0 j] (((base tabs2 es Tryz.prog.globals.size).push (.cells (l.map gf) e 0 true)).push .dead) (fun v _ => v = .bool true) := by
  obtain ⟨m, hl⟩ : ∃ m, l.length = m + 1 := ⟨l.length - 1, by omega⟩
  rw [hl] at h1 hk ⊢
  exact kern_fex es l m k e j hl h1 hk
theorem kern_ff (es : Nat → TypeId) (l : List Nat) (kl : List Int) (k k' e e' : Nat) (h0 : 0 < l.length) (h1 : l.length ≤ 9223372036854775807) (hk : l.length ≤ k) (g0 : 0 < kl.length) (g1 : kl.length ≤ 9223372036854775807) (gk : kl.length ≤ k') :
    CallJ Tryz.prog 3 #[slX Tryz.prog.globals.size l.length k, slX (Tryz.prog.globals.size + 1) kl.length k'] (((base tabs2 es Tryz.prog.globals.size).push (.cells (l.map gf) e 0 true)).push (.cells (kl.map gi) e' 0 true)) (fun v _ => v = .bool true) := by
  obtain ⟨m, hl⟩ : ∃ m, l.length = m + 1 := ⟨l.length - 1, by omega⟩
  obtain ⟨m', hkl⟩ : ∃ m', kl.length = m' + 1 := ⟨kl.length - 1, by omega⟩
  rw [hl] at h1 hk ⊢
  rw [hkl] at g1 gk ⊢
  by_cases hke : keE kl = 0
  · by_cases he : erE l kl = 0
    · by_cases o1 : ∀ x ∈ rL refF1 l kl, okU x
      · by_cases o2 : ∀ x ∈ rL refF2 l kl, okU x
        · exact kern_ffv11 es l m k e kl m' k' e' hl h1 hk hkl g1 gk hke he o1 o2
        · exact kern_ffv12 es l m k e kl m' k' e' hl h1 hk hkl g1 gk hke he o1 o2
      · by_cases o2 : ∀ x ∈ rL refF2 l kl, okU x
        · exact kern_ffv21 es l m k e kl m' k' e' hl h1 hk hkl g1 gk hke he o1 o2
        · exact kern_ffv22 es l m k e kl m' k' e' hl h1 hk hkl g1 gk hke he o1 o2
    · exact kern_ffy es l m k e kl m' k' e' hl h1 hk hkl g1 gk hke he
  · exact kern_ffx es l m k e kl m' k' e' hl h1 hk hkl g1 gk hke fun h => hke (er_zero h).2
end Go.Proofs.YtjimnbmnkfdfcaaGreatDoor
