/-
  OWN WORK. RecordRings on the abstract machine: it returns true, for all rings and samples.
-/
import Derived.Test.YtgomacijdadjpaaGreatDoorRgZ
import Derived.Test.YtgomacijdadjpaaGreatDoorRgY
namespace Go.Proofs.YtgomacijdadjpaaGreatDoor
open Go Go.Am

theorem ckN (nx : Int) : firstS [12, 0, 0, withinS nx 0 (-1), 0] = 12 := by kernel_rfl
theorem cqN (nx : Int) : firstS [12, 0, 0, withinS nx 0 (-1)] = 12 := by kernel_rfl
theorem fs12 (y : Int) : firstS [12, y] = 12 := by kernel_rfl
set_option maxRecDepth 100000 in
theorem rg_NFt (nx : Int) (L : List Nat) (m q f : Nat) (es : Nat → TypeId) (g1 : L.length = m + 1) (g2 : m + 1 ≤ 9223372036854775807) (gq : m + 1 ≤ q) : CallJ Tryz.prog 3 #[.agg #[nilS, gi nx, .bool true], .slice (some ⟨Tryz.prog.globals.size + 0, 0, none⟩) (m + 1) q] ((base tabs es Tryz.prog.globals.size).push (.cells (L.map gf) f 0 true)) (fun v _ => v = .bool true) := by
  have hL : L.take (m + 1) = L := by rw [← g1]; exact List.take_length
  refine callC_ok mixed orcRgN_ok askRgN_ok (Eq.mpr (rr_NFt nx L m q f es (fun v => v = .bool true)) ?_)
  refine ⟨L, rfl, Nat.succ_pos _, Nat.le_of_eq g1.symm, g2, gq, fun _ => rfl, fun v2 => ?_⟩
  rw [hL] at v2
  have n3 := short_le v2
  clear v2
  repeat' (first
    | assumption
    | omega
    | exact rfl
    | (refine ⟨_, rfl, ?_⟩)
    | (with_reducible apply And.intro)
    | (simp only [ckN, cqN, fs12, hL]; first | done | assumption | omega | exact rfl | kernel_rfl)
    | kernel_rfl)
set_option maxRecDepth 100000 in
theorem rg_NFf (nx : Int) (L : List Nat) (m q f : Nat) (es : Nat → TypeId) (g1 : L.length = m + 1) (g2 : m + 1 ≤ 9223372036854775807) (gq : m + 1 ≤ q) : CallJ Tryz.prog 3 #[.agg #[nilS, gi nx, .bool false], .slice (some ⟨Tryz.prog.globals.size + 0, 0, none⟩) (m + 1) q] ((base tabs es Tryz.prog.globals.size).push (.cells (L.map gf) f 0 true)) (fun v _ => v = .bool true) := by
  have hL : L.take (m + 1) = L := by rw [← g1]; exact List.take_length
  refine callC_ok mixed orcRgN_ok askRgN_ok (Eq.mpr (rr_NFf nx L m q f es (fun v => v = .bool true)) ?_)
  refine ⟨L, rfl, Nat.succ_pos _, Nat.le_of_eq g1.symm, g2, gq, fun _ => rfl, fun v2 => ?_⟩
  rw [hL] at v2
  have n3 := short_le v2
  clear v2
  repeat' (first
    | assumption
    | omega
    | exact rfl
    | (refine ⟨_, rfl, ?_⟩)
    | (with_reducible apply And.intro)
    | (simp only [ckN, cqN, fs12, hL]; first | done | assumption | omega | exact rfl | kernel_rfl)
    | kernel_rfl)
set_option maxRecDepth 100000 in
theorem rg_NNt (nx : Int) (es : Nat → TypeId) : CallJ Tryz.prog 3 #[.agg #[nilS, gi nx, .bool true], nilS] (base tabs es Tryz.prog.globals.size) (fun v _ => v = .bool true) := by
  refine callC_ok mixed orcRgN_ok askRgNo_ok (Eq.mpr (rr_NNt nx es (fun v => v = .bool true)) ?_)
  repeat' (first
    | assumption
    | omega
    | exact rfl
    | (refine ⟨_, rfl, ?_⟩)
    | (with_reducible apply And.intro)
    | (simp only [ckN, cqN, fs12]; first | done | assumption | omega | exact rfl | kernel_rfl)
    | kernel_rfl)
set_option maxRecDepth 100000 in
theorem rg_NNf (nx : Int) (es : Nat → TypeId) : CallJ Tryz.prog 3 #[.agg #[nilS, gi nx, .bool false], nilS] (base tabs es Tryz.prog.globals.size) (fun v _ => v = .bool true) := by
  refine callC_ok mixed orcRgN_ok askRgNo_ok (Eq.mpr (rr_NNf nx es (fun v => v = .bool true)) ?_)
  repeat' (first
    | assumption
    | omega
    | exact rfl
    | (refine ⟨_, rfl, ?_⟩)
    | (with_reducible apply And.intro)
    | (simp only [ckN, cqN, fs12]; first | done | assumption | omega | exact rfl | kernel_rfl)
    | kernel_rfl)
set_option maxRecDepth 100000 in
theorem rg_NEt (nx : Int) (q : Nat) (es : Nat → TypeId) : CallJ Tryz.prog 3 #[.agg #[nilS, gi nx, .bool true], .slice (some ⟨Tryz.prog.globals.size + 0, 0, none⟩) 0 q] ((base tabs es Tryz.prog.globals.size).push .dead) (fun v _ => v = .bool true) := by
  refine callC_ok mixed orcRgN_ok askRgNo_ok (Eq.mpr (rr_NEt nx q es (fun v => v = .bool true)) ?_)
  repeat' (first
    | assumption
    | omega
    | exact rfl
    | (refine ⟨_, rfl, ?_⟩)
    | (with_reducible apply And.intro)
    | (simp only [ckN, cqN, fs12]; first | done | assumption | omega | exact rfl | kernel_rfl)
    | kernel_rfl)
set_option maxRecDepth 100000 in
theorem rg_NEf (nx : Int) (q : Nat) (es : Nat → TypeId) : CallJ Tryz.prog 3 #[.agg #[nilS, gi nx, .bool false], .slice (some ⟨Tryz.prog.globals.size + 0, 0, none⟩) 0 q] ((base tabs es Tryz.prog.globals.size).push .dead) (fun v _ => v = .bool true) := by
  refine callC_ok mixed orcRgN_ok askRgNo_ok (Eq.mpr (rr_NEf nx q es (fun v => v = .bool true)) ?_)
  repeat' (first
    | assumption
    | omega
    | exact rfl
    | (refine ⟨_, rfl, ?_⟩)
    | (with_reducible apply And.intro)
    | (simp only [ckN, cqN, fs12]; first | done | assumption | omega | exact rfl | kernel_rfl)
    | kernel_rfl)
set_option maxRecDepth 100000 in
theorem rg_EFt (nx : Int) (k : Nat) (L : List Nat) (m q f : Nat) (es : Nat → TypeId) (g1 : L.length = m + 1) (g2 : m + 1 ≤ 9223372036854775807) (gq : m + 1 ≤ q) : CallJ Tryz.prog 3 #[.agg #[.slice (some ⟨Tryz.prog.globals.size, 0, none⟩) 0 k, gi nx, .bool true], .slice (some ⟨Tryz.prog.globals.size + 1, 0, none⟩) (m + 1) q] (((base tabs es Tryz.prog.globals.size).push .dead).push (.cells (L.map gf) f 0 true)) (fun v _ => v = .bool true) := by
  have hL : L.take (m + 1) = L := by rw [← g1]; exact List.take_length
  refine callC_ok mixed orcRgN_ok askRgN_ok (Eq.mpr (rr_EFt nx k L m q f es (fun v => v = .bool true)) ?_)
  refine ⟨L, rfl, Nat.succ_pos _, Nat.le_of_eq g1.symm, g2, gq, fun _ => rfl, fun v2 => ?_⟩
  rw [hL] at v2
  have n3 := short_le v2
  clear v2
  repeat' (first
    | assumption
    | omega
    | exact rfl
    | (refine ⟨_, rfl, ?_⟩)
    | (with_reducible apply And.intro)
    | (simp only [ckN, cqN, fs12, hL]; first | done | assumption | omega | exact rfl | kernel_rfl)
    | kernel_rfl)
set_option maxRecDepth 100000 in
theorem rg_EFf (nx : Int) (k : Nat) (L : List Nat) (m q f : Nat) (es : Nat → TypeId) (g1 : L.length = m + 1) (g2 : m + 1 ≤ 9223372036854775807) (gq : m + 1 ≤ q) : CallJ Tryz.prog 3 #[.agg #[.slice (some ⟨Tryz.prog.globals.size, 0, none⟩) 0 k, gi nx, .bool false], .slice (some ⟨Tryz.prog.globals.size + 1, 0, none⟩) (m + 1) q] (((base tabs es Tryz.prog.globals.size).push .dead).push (.cells (L.map gf) f 0 true)) (fun v _ => v = .bool true) := by
  have hL : L.take (m + 1) = L := by rw [← g1]; exact List.take_length
  refine callC_ok mixed orcRgN_ok askRgN_ok (Eq.mpr (rr_EFf nx k L m q f es (fun v => v = .bool true)) ?_)
  refine ⟨L, rfl, Nat.succ_pos _, Nat.le_of_eq g1.symm, g2, gq, fun _ => rfl, fun v2 => ?_⟩
  rw [hL] at v2
  have n3 := short_le v2
  clear v2
  repeat' (first
    | assumption
    | omega
    | exact rfl
    | (refine ⟨_, rfl, ?_⟩)
    | (with_reducible apply And.intro)
    | (simp only [ckN, cqN, fs12, hL]; first | done | assumption | omega | exact rfl | kernel_rfl)
    | kernel_rfl)
set_option maxRecDepth 100000 in
theorem rg_ENt (nx : Int) (k : Nat) (es : Nat → TypeId) : CallJ Tryz.prog 3 #[.agg #[.slice (some ⟨Tryz.prog.globals.size, 0, none⟩) 0 k, gi nx, .bool true], nilS] ((base tabs es Tryz.prog.globals.size).push .dead) (fun v _ => v = .bool true) := by
  refine callC_ok mixed orcRgN_ok askRgNo_ok (Eq.mpr (rr_ENt nx k es (fun v => v = .bool true)) ?_)
  repeat' (first
    | assumption
    | omega
    | exact rfl
    | (refine ⟨_, rfl, ?_⟩)
    | (with_reducible apply And.intro)
    | (simp only [ckN, cqN, fs12]; first | done | assumption | omega | exact rfl | kernel_rfl)
    | kernel_rfl)
set_option maxRecDepth 100000 in
theorem rg_ENf (nx : Int) (k : Nat) (es : Nat → TypeId) : CallJ Tryz.prog 3 #[.agg #[.slice (some ⟨Tryz.prog.globals.size, 0, none⟩) 0 k, gi nx, .bool false], nilS] ((base tabs es Tryz.prog.globals.size).push .dead) (fun v _ => v = .bool true) := by
  refine callC_ok mixed orcRgN_ok askRgNo_ok (Eq.mpr (rr_ENf nx k es (fun v => v = .bool true)) ?_)
  repeat' (first
    | assumption
    | omega
    | exact rfl
    | (refine ⟨_, rfl, ?_⟩)
    | (with_reducible apply And.intro)
    | (simp only [ckN, cqN, fs12]; first | done | assumption | omega | exact rfl | kernel_rfl)
    | kernel_rfl)
set_option maxRecDepth 100000 in
theorem rg_EEt (nx : Int) (k : Nat) (q : Nat) (es : Nat → TypeId) : CallJ Tryz.prog 3 #[.agg #[.slice (some ⟨Tryz.prog.globals.size, 0, none⟩) 0 k, gi nx, .bool true], .slice (some ⟨Tryz.prog.globals.size + 1, 0, none⟩) 0 q] (((base tabs es Tryz.prog.globals.size).push .dead).push .dead) (fun v _ => v = .bool true) := by
  refine callC_ok mixed orcRgN_ok askRgNo_ok (Eq.mpr (rr_EEt nx k q es (fun v => v = .bool true)) ?_)
  repeat' (first
    | assumption
    | omega
    | exact rfl
    | (refine ⟨_, rfl, ?_⟩)
    | (with_reducible apply And.intro)
    | (simp only [ckN, cqN, fs12]; first | done | assumption | omega | exact rfl | kernel_rfl)
    | kernel_rfl)
set_option maxRecDepth 100000 in
theorem rg_EEf (nx : Int) (k : Nat) (q : Nat) (es : Nat → TypeId) : CallJ Tryz.prog 3 #[.agg #[.slice (some ⟨Tryz.prog.globals.size, 0, none⟩) 0 k, gi nx, .bool false], .slice (some ⟨Tryz.prog.globals.size + 1, 0, none⟩) 0 q] (((base tabs es Tryz.prog.globals.size).push .dead).push .dead) (fun v _ => v = .bool true) := by
  refine callC_ok mixed orcRgN_ok askRgNo_ok (Eq.mpr (rr_EEf nx k q es (fun v => v = .bool true)) ?_)
  repeat' (first
    | assumption
    | omega
    | exact rfl
    | (refine ⟨_, rfl, ?_⟩)
    | (with_reducible apply And.intro)
    | (simp only [ckN, cqN, fs12]; first | done | assumption | omega | exact rfl | kernel_rfl)
    | kernel_rfl)
theorem rings_FF (fu : Bool) (nx : Int) (l : List Nat) (k e : Nat) (L : List Nat) (q f : Nat) (es : Nat → TypeId) (h0 : 0 < l.length) (h1 : l.length ≤ 9223372036854775807) (hk : l.length ≤ k) (g0 : 0 < L.length) (g2 : L.length ≤ 9223372036854775807) (gq : L.length ≤ q) : CallJ Tryz.prog 3 #[.agg #[liP l.length k, gi nx, .bool fu], .slice (some ⟨Tryz.prog.globals.size + 1, 0, none⟩) L.length q] (((base tabs es Tryz.prog.globals.size).push (.cells (l.map gf) e 0 true)).push (.cells (L.map gf) f 0 true)) (fun v _ => v = .bool true) := by
  obtain ⟨m, hm⟩ : ∃ m, L.length = m + 1 := ⟨L.length - 1, by omega⟩
  rw [hm] at g2 gq ⊢
  by_cases c1 : ckR l nx fu = 0
  · obtain ⟨hv, x, rfl, hx, _⟩ := ck_ok1 c1
    by_cases c2 : csE L = 0
    ·
      cases c3 : (uL l x fu).isEmpty with
      | true => exact rg_FFC1 l k e x fu L m q f es h0 h1 hk hm g2 gq c1 c2 c3 hv hx
      | false => exact rg_FFC0 l k e x fu L m q f es h0 h1 hk hm g2 gq c1 c2 c3 hv hx
    ·
      cases c3 : (uL l x fu).isEmpty with
      | true => exact rg_FFB1 l k e x fu L m q f es h0 h1 hk hm g2 gq c1 c2 c3 hv hx
      | false => exact rg_FFB0 l k e x fu L m q f es h0 h1 hk hm g2 gq c1 c2 c3 hv hx
  · exact rg_FFA l k e nx fu L m q f es h0 h1 hk hm g2 gq c1
theorem rings_FN (fu : Bool) (nx : Int) (l : List Nat) (k e : Nat) (es : Nat → TypeId) (h0 : 0 < l.length) (h1 : l.length ≤ 9223372036854775807) (hk : l.length ≤ k) : CallJ Tryz.prog 3 #[.agg #[liP l.length k, gi nx, .bool fu], nilS] ((base tabs es Tryz.prog.globals.size).push (.cells (l.map gf) e 0 true)) (fun v _ => v = .bool true) := by
  by_cases c1 : ckR l nx fu = 0
  · obtain ⟨hv, x, rfl, hx, _⟩ := ck_ok1 c1
    cases c3 : (uL l x fu).isEmpty with
    | true => exact rg_FNC1 l k e x fu es h0 h1 hk c1 c3 hv hx
    | false => exact rg_FNC0 l k e x fu es h0 h1 hk c1 c3 hv hx
  · exact rg_FNA l k e nx fu es h0 h1 hk c1
theorem rings_FE (fu : Bool) (nx : Int) (l : List Nat) (k e : Nat) (q : Nat) (es : Nat → TypeId) (h0 : 0 < l.length) (h1 : l.length ≤ 9223372036854775807) (hk : l.length ≤ k) : CallJ Tryz.prog 3 #[.agg #[liP l.length k, gi nx, .bool fu], .slice (some ⟨Tryz.prog.globals.size + 1, 0, none⟩) 0 q] (((base tabs es Tryz.prog.globals.size).push (.cells (l.map gf) e 0 true)).push .dead) (fun v _ => v = .bool true) := by
  by_cases c1 : ckR l nx fu = 0
  · obtain ⟨hv, x, rfl, hx, _⟩ := ck_ok1 c1
    cases c3 : (uL l x fu).isEmpty with
    | true => exact rg_FEC1 l k e x fu q es h0 h1 hk c1 c3 hv hx
    | false => exact rg_FEC0 l k e x fu q es h0 h1 hk c1 c3 hv hx
  · exact rg_FEA l k e nx fu q es h0 h1 hk c1
theorem rings_NF (fu : Bool) (nx : Int) (L : List Nat) (q f : Nat) (es : Nat → TypeId) (g0 : 0 < L.length) (g2 : L.length ≤ 9223372036854775807) (gq : L.length ≤ q) : CallJ Tryz.prog 3 #[.agg #[nilS, gi nx, .bool fu], .slice (some ⟨Tryz.prog.globals.size + 0, 0, none⟩) L.length q] ((base tabs es Tryz.prog.globals.size).push (.cells (L.map gf) f 0 true)) (fun v _ => v = .bool true) := by
  obtain ⟨m, hm⟩ : ∃ m, L.length = m + 1 := ⟨L.length - 1, by omega⟩
  rw [hm] at g2 gq ⊢
  cases fu with
  | true => exact rg_NFt nx L m q f es hm g2 gq
  | false => exact rg_NFf nx L m q f es hm g2 gq
theorem rings_NN (fu : Bool) (nx : Int) (es : Nat → TypeId) : CallJ Tryz.prog 3 #[.agg #[nilS, gi nx, .bool fu], nilS] (base tabs es Tryz.prog.globals.size) (fun v _ => v = .bool true) := by
  cases fu with
  | true => exact rg_NNt nx es
  | false => exact rg_NNf nx es
theorem rings_NE (fu : Bool) (nx : Int) (q : Nat) (es : Nat → TypeId) : CallJ Tryz.prog 3 #[.agg #[nilS, gi nx, .bool fu], .slice (some ⟨Tryz.prog.globals.size + 0, 0, none⟩) 0 q] ((base tabs es Tryz.prog.globals.size).push .dead) (fun v _ => v = .bool true) := by
  cases fu with
  | true => exact rg_NEt nx q es
  | false => exact rg_NEf nx q es
theorem rings_EF (fu : Bool) (nx : Int) (k : Nat) (L : List Nat) (q f : Nat) (es : Nat → TypeId) (g0 : 0 < L.length) (g2 : L.length ≤ 9223372036854775807) (gq : L.length ≤ q) : CallJ Tryz.prog 3 #[.agg #[.slice (some ⟨Tryz.prog.globals.size, 0, none⟩) 0 k, gi nx, .bool fu], .slice (some ⟨Tryz.prog.globals.size + 1, 0, none⟩) L.length q] (((base tabs es Tryz.prog.globals.size).push .dead).push (.cells (L.map gf) f 0 true)) (fun v _ => v = .bool true) := by
  obtain ⟨m, hm⟩ : ∃ m, L.length = m + 1 := ⟨L.length - 1, by omega⟩
  rw [hm] at g2 gq ⊢
  cases fu with
  | true => exact rg_EFt nx k L m q f es hm g2 gq
  | false => exact rg_EFf nx k L m q f es hm g2 gq
theorem rings_EN (fu : Bool) (nx : Int) (k : Nat) (es : Nat → TypeId) : CallJ Tryz.prog 3 #[.agg #[.slice (some ⟨Tryz.prog.globals.size, 0, none⟩) 0 k, gi nx, .bool fu], nilS] ((base tabs es Tryz.prog.globals.size).push .dead) (fun v _ => v = .bool true) := by
  cases fu with
  | true => exact rg_ENt nx k es
  | false => exact rg_ENf nx k es
theorem rings_EE (fu : Bool) (nx : Int) (k : Nat) (q : Nat) (es : Nat → TypeId) : CallJ Tryz.prog 3 #[.agg #[.slice (some ⟨Tryz.prog.globals.size, 0, none⟩) 0 k, gi nx, .bool fu], .slice (some ⟨Tryz.prog.globals.size + 1, 0, none⟩) 0 q] (((base tabs es Tryz.prog.globals.size).push .dead).push .dead) (fun v _ => v = .bool true) := by
  cases fu with
  | true => exact rg_EEt nx k q es
  | false => exact rg_EEf nx k q es
end Go.Proofs.YtgomacijdadjpaaGreatDoor
