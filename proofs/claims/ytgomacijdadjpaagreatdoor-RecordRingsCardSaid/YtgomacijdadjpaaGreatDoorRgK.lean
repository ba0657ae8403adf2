/-
  OWN WORK. Rings: samples are written, by the reference: known.
-/
import Derived.Test.YtgomacijdadjpaaGreatDoorRgJ
namespace Go.Proofs.YtgomacijdadjpaaGreatDoor
open Go Go.Am

noncomputable def wROut (l : List Nat) (x : Nat) (fu : Bool) (L : List Nat) : Out := .fresh (mkG l.length (Int.ofNat (wX (wrZ l (Int.ofNat x) fu L))) (wB (wrZ l (Int.ofNat x) fu L))) ((wC (wrZ l (Int.ofNat x) fu L)).map gf) 49
set_option maxRecDepth 100000 in
theorem wR_full1 (x0 : Nat) (m : List Nat) (e row k p qq el rl x : Nat) (fu : Bool) (hx : x < 1) (g1 : p ≤ m.length) (g2 : p ≤ 1000000) : CallJ Tryz.prog 15 #[rgV N1 1 k (Int.ofNat x) fu, slA' p qq] (twoH ([x0].map gf) e row (m.map gf) el rl) (wROut [x0] x fu (m.take p)).Got := by
  refine callC_ok mixed orcRgG_ok (noAsks_ok _) (Eq.mpr (wR_run1 x0 e row k el rl (Int.ofNat x) fu m p qq x _) ⟨rfl, rfl, rfl, rfl, rfl, rfl, by kernel_rfl, fun _ => ⟨rfl, rfl, rfl, rfl, rfl, rfl, rfl, rfl, ⟨g1, g2, hx⟩, fun _ => ⟨N1 + 6, rfl, ?_⟩⟩⟩)
  rw [AHeap.get_set_neB (by kernel_rfl), AHeap.get_push_eq (by kernel_rfl)]; rfl
set_option maxRecDepth 100000 in
theorem wR_none1 (x0 : Nat) (e row k x : Nat) (fu : Bool) : CallJ Tryz.prog 15 #[rgV N1 1 k (Int.ofNat x) fu, nilS] (rdH Tryz.prog ([x0].map gf) e row) (wROut [x0] x fu []).Got := by
  refine CallJ.ofE mixed orcRgG_ok (noAsks_ok _) (Eq.mpr (wR_nil1 x0 e row k (Int.ofNat x) fu _) ⟨rfl, rfl, rfl, N1 + 5, rfl, ?_⟩)
  rw [AHeap.get_set_neB (by kernel_rfl), AHeap.get_set_neB (by kernel_rfl), AHeap.get_push_eq (by kernel_rfl)]; rfl
set_option maxRecDepth 100000 in
theorem wR_empty1 (x0 : Nat) (e row k qq x : Nat) (fu : Bool) : CallJ Tryz.prog 15 #[rgV N1 1 k (Int.ofNat x) fu, .slice (some ⟨0, 0, none⟩) 0 qq] (rdH Tryz.prog ([x0].map gf) e row) (wROut [x0] x fu []).Got := by
  refine CallJ.ofE mixed orcRgG_ok (noAsks_ok _) (Eq.mpr (wR_emp1 x0 e row k qq (Int.ofNat x) fu _) ⟨rfl, rfl, rfl, N1 + 5, rfl, ?_⟩)
  rw [AHeap.get_set_neB (by kernel_rfl), AHeap.get_set_neB (by kernel_rfl), AHeap.get_push_eq (by kernel_rfl)]; rfl
set_option maxRecDepth 100000 in
theorem wR_full2 (x0 x1 : Nat) (m : List Nat) (e row k p qq el rl x : Nat) (fu : Bool) (hx : x < 2) (g1 : p ≤ m.length) (g2 : p ≤ 1000000) : CallJ Tryz.prog 15 #[rgV N1 2 k (Int.ofNat x) fu, slA' p qq] (twoH ([x0, x1].map gf) e row (m.map gf) el rl) (wROut [x0, x1] x fu (m.take p)).Got := by
  refine callC_ok mixed orcRgG_ok (noAsks_ok _) (Eq.mpr (wR_run2 x0 x1 e row k el rl (Int.ofNat x) fu m p qq x _) ⟨rfl, rfl, rfl, rfl, rfl, rfl, by kernel_rfl, fun _ => ⟨rfl, rfl, rfl, rfl, rfl, rfl, rfl, rfl, ⟨g1, g2, hx⟩, fun _ => ⟨N1 + 8, rfl, ?_⟩⟩⟩)
  rw [AHeap.get_set_neB (by kernel_rfl), AHeap.get_push_eq (by kernel_rfl)]; rfl
set_option maxRecDepth 100000 in
theorem wR_none2 (x0 x1 : Nat) (e row k x : Nat) (fu : Bool) : CallJ Tryz.prog 15 #[rgV N1 2 k (Int.ofNat x) fu, nilS] (rdH Tryz.prog ([x0, x1].map gf) e row) (wROut [x0, x1] x fu []).Got := by
  refine CallJ.ofE mixed orcRgG_ok (noAsks_ok _) (Eq.mpr (wR_nil2 x0 x1 e row k (Int.ofNat x) fu _) ⟨rfl, rfl, rfl, rfl, rfl, rfl, N1 + 7, rfl, ?_⟩)
  rw [AHeap.get_set_neB (by kernel_rfl), AHeap.get_set_neB (by kernel_rfl), AHeap.get_push_eq (by kernel_rfl)]; rfl
set_option maxRecDepth 100000 in
theorem wR_empty2 (x0 x1 : Nat) (e row k qq x : Nat) (fu : Bool) : CallJ Tryz.prog 15 #[rgV N1 2 k (Int.ofNat x) fu, .slice (some ⟨0, 0, none⟩) 0 qq] (rdH Tryz.prog ([x0, x1].map gf) e row) (wROut [x0, x1] x fu []).Got := by
  refine CallJ.ofE mixed orcRgG_ok (noAsks_ok _) (Eq.mpr (wR_emp2 x0 x1 e row k qq (Int.ofNat x) fu _) ⟨rfl, rfl, rfl, rfl, rfl, rfl, N1 + 7, rfl, ?_⟩)
  rw [AHeap.get_set_neB (by kernel_rfl), AHeap.get_set_neB (by kernel_rfl), AHeap.get_push_eq (by kernel_rfl)]; rfl
set_option maxRecDepth 100000 in
theorem wR_full3 (x0 x1 x2 : Nat) (m : List Nat) (e row k p qq el rl x : Nat) (fu : Bool) (hx : x < 3) (g1 : p ≤ m.length) (g2 : p ≤ 1000000) : CallJ Tryz.prog 15 #[rgV N1 3 k (Int.ofNat x) fu, slA' p qq] (twoH ([x0, x1, x2].map gf) e row (m.map gf) el rl) (wROut [x0, x1, x2] x fu (m.take p)).Got := by
  refine callC_ok mixed orcRgG_ok (noAsks_ok _) (Eq.mpr (wR_run3 x0 x1 x2 e row k el rl (Int.ofNat x) fu m p qq x _) ⟨rfl, rfl, rfl, rfl, rfl, rfl, by kernel_rfl, fun _ => ⟨rfl, rfl, rfl, rfl, rfl, rfl, rfl, rfl, ⟨g1, g2, hx⟩, fun _ => ⟨N1 + 10, rfl, ?_⟩⟩⟩)
  rw [AHeap.get_set_neB (by kernel_rfl), AHeap.get_push_eq (by kernel_rfl)]; rfl
set_option maxRecDepth 100000 in
theorem wR_none3 (x0 x1 x2 : Nat) (e row k x : Nat) (fu : Bool) : CallJ Tryz.prog 15 #[rgV N1 3 k (Int.ofNat x) fu, nilS] (rdH Tryz.prog ([x0, x1, x2].map gf) e row) (wROut [x0, x1, x2] x fu []).Got := by
  refine CallJ.ofE mixed orcRgG_ok (noAsks_ok _) (Eq.mpr (wR_nil3 x0 x1 x2 e row k (Int.ofNat x) fu _) ⟨rfl, rfl, rfl, rfl, rfl, rfl, rfl, rfl, rfl, N1 + 9, rfl, ?_⟩)
  rw [AHeap.get_set_neB (by kernel_rfl), AHeap.get_set_neB (by kernel_rfl), AHeap.get_push_eq (by kernel_rfl)]; rfl
set_option maxRecDepth 100000 in
theorem wR_empty3 (x0 x1 x2 : Nat) (e row k qq x : Nat) (fu : Bool) : CallJ Tryz.prog 15 #[rgV N1 3 k (Int.ofNat x) fu, .slice (some ⟨0, 0, none⟩) 0 qq] (rdH Tryz.prog ([x0, x1, x2].map gf) e row) (wROut [x0, x1, x2] x fu []).Got := by
  refine CallJ.ofE mixed orcRgG_ok (noAsks_ok _) (Eq.mpr (wR_emp3 x0 x1 x2 e row k qq (Int.ofNat x) fu _) ⟨rfl, rfl, rfl, rfl, rfl, rfl, rfl, rfl, rfl, N1 + 9, rfl, ?_⟩)
  rw [AHeap.get_set_neB (by kernel_rfl), AHeap.get_set_neB (by kernel_rfl), AHeap.get_push_eq (by kernel_rfl)]; rfl
set_option maxRecDepth 100000 in
theorem wR_full4 (x0 x1 x2 x3 : Nat) (m : List Nat) (e row k p qq el rl x : Nat) (fu : Bool) (hx : x < 4) (g1 : p ≤ m.length) (g2 : p ≤ 1000000) : CallJ Tryz.prog 15 #[rgV N1 4 k (Int.ofNat x) fu, slA' p qq] (twoH ([x0, x1, x2, x3].map gf) e row (m.map gf) el rl) (wROut [x0, x1, x2, x3] x fu (m.take p)).Got := by
  refine callC_ok mixed orcRgG_ok (noAsks_ok _) (Eq.mpr (wR_run4 x0 x1 x2 x3 e row k el rl (Int.ofNat x) fu m p qq x _) ⟨rfl, rfl, rfl, rfl, rfl, rfl, by kernel_rfl, fun _ => ⟨rfl, rfl, rfl, rfl, rfl, rfl, rfl, rfl, ⟨g1, g2, hx⟩, fun _ => ⟨N1 + 12, rfl, ?_⟩⟩⟩)
  rw [AHeap.get_set_neB (by kernel_rfl), AHeap.get_push_eq (by kernel_rfl)]; rfl
set_option maxRecDepth 100000 in
theorem wR_none4 (x0 x1 x2 x3 : Nat) (e row k x : Nat) (fu : Bool) : CallJ Tryz.prog 15 #[rgV N1 4 k (Int.ofNat x) fu, nilS] (rdH Tryz.prog ([x0, x1, x2, x3].map gf) e row) (wROut [x0, x1, x2, x3] x fu []).Got := by
  refine CallJ.ofE mixed orcRgG_ok (noAsks_ok _) (Eq.mpr (wR_nil4 x0 x1 x2 x3 e row k (Int.ofNat x) fu _) ⟨rfl, rfl, rfl, rfl, rfl, rfl, rfl, rfl, rfl, rfl, rfl, rfl, N1 + 11, rfl, ?_⟩)
  rw [AHeap.get_set_neB (by kernel_rfl), AHeap.get_set_neB (by kernel_rfl), AHeap.get_push_eq (by kernel_rfl)]; rfl
set_option maxRecDepth 100000 in
theorem wR_empty4 (x0 x1 x2 x3 : Nat) (e row k qq x : Nat) (fu : Bool) : CallJ Tryz.prog 15 #[rgV N1 4 k (Int.ofNat x) fu, .slice (some ⟨0, 0, none⟩) 0 qq] (rdH Tryz.prog ([x0, x1, x2, x3].map gf) e row) (wROut [x0, x1, x2, x3] x fu []).Got := by
  refine CallJ.ofE mixed orcRgG_ok (noAsks_ok _) (Eq.mpr (wR_emp4 x0 x1 x2 x3 e row k qq (Int.ofNat x) fu _) ⟨rfl, rfl, rfl, rfl, rfl, rfl, rfl, rfl, rfl, rfl, rfl, rfl, N1 + 11, rfl, ?_⟩)
  rw [AHeap.get_set_neB (by kernel_rfl), AHeap.get_set_neB (by kernel_rfl), AHeap.get_push_eq (by kernel_rfl)]; rfl
set_option maxRecDepth 100000 in
theorem wR_full5 (x0 x1 x2 x3 x4 : Nat) (m : List Nat) (e row k p qq el rl x : Nat) (fu : Bool) (hx : x < 5) (g1 : p ≤ m.length) (g2 : p ≤ 1000000) : CallJ Tryz.prog 15 #[rgV N1 5 k (Int.ofNat x) fu, slA' p qq] (twoH ([x0, x1, x2, x3, x4].map gf) e row (m.map gf) el rl) (wROut [x0, x1, x2, x3, x4] x fu (m.take p)).Got := by
  refine callC_ok mixed orcRgG_ok (noAsks_ok _) (Eq.mpr (wR_run5 x0 x1 x2 x3 x4 e row k el rl (Int.ofNat x) fu m p qq x _) ⟨rfl, rfl, rfl, rfl, rfl, rfl, by kernel_rfl, fun _ => ⟨rfl, rfl, rfl, rfl, rfl, rfl, rfl, rfl, ⟨g1, g2, hx⟩, fun _ => ⟨N1 + 14, rfl, ?_⟩⟩⟩)
  rw [AHeap.get_set_neB (by kernel_rfl), AHeap.get_push_eq (by kernel_rfl)]; rfl
set_option maxRecDepth 100000 in
theorem wR_none5 (x0 x1 x2 x3 x4 : Nat) (e row k x : Nat) (fu : Bool) : CallJ Tryz.prog 15 #[rgV N1 5 k (Int.ofNat x) fu, nilS] (rdH Tryz.prog ([x0, x1, x2, x3, x4].map gf) e row) (wROut [x0, x1, x2, x3, x4] x fu []).Got := by
  refine CallJ.ofE mixed orcRgG_ok (noAsks_ok _) (Eq.mpr (wR_nil5 x0 x1 x2 x3 x4 e row k (Int.ofNat x) fu _) ⟨rfl, rfl, rfl, rfl, rfl, rfl, rfl, rfl, rfl, rfl, rfl, rfl, rfl, rfl, rfl, N1 + 13, rfl, ?_⟩)
  rw [AHeap.get_set_neB (by kernel_rfl), AHeap.get_set_neB (by kernel_rfl), AHeap.get_push_eq (by kernel_rfl)]; rfl
set_option maxRecDepth 100000 in
theorem wR_empty5 (x0 x1 x2 x3 x4 : Nat) (e row k qq x : Nat) (fu : Bool) : CallJ Tryz.prog 15 #[rgV N1 5 k (Int.ofNat x) fu, .slice (some ⟨0, 0, none⟩) 0 qq] (rdH Tryz.prog ([x0, x1, x2, x3, x4].map gf) e row) (wROut [x0, x1, x2, x3, x4] x fu []).Got := by
  refine CallJ.ofE mixed orcRgG_ok (noAsks_ok _) (Eq.mpr (wR_emp5 x0 x1 x2 x3 x4 e row k qq (Int.ofNat x) fu _) ⟨rfl, rfl, rfl, rfl, rfl, rfl, rfl, rfl, rfl, rfl, rfl, rfl, rfl, rfl, rfl, N1 + 13, rfl, ?_⟩)
  rw [AHeap.get_set_neB (by kernel_rfl), AHeap.get_set_neB (by kernel_rfl), AHeap.get_push_eq (by kernel_rfl)]; rfl
set_option maxRecDepth 100000 in
theorem wR_full6 (x0 x1 x2 x3 x4 x5 : Nat) (m : List Nat) (e row k p qq el rl x : Nat) (fu : Bool) (hx : x < 6) (g1 : p ≤ m.length) (g2 : p ≤ 1000000) : CallJ Tryz.prog 15 #[rgV N1 6 k (Int.ofNat x) fu, slA' p qq] (twoH ([x0, x1, x2, x3, x4, x5].map gf) e row (m.map gf) el rl) (wROut [x0, x1, x2, x3, x4, x5] x fu (m.take p)).Got := by
  refine callC_ok mixed orcRgG_ok (noAsks_ok _) (Eq.mpr (wR_run6 x0 x1 x2 x3 x4 x5 e row k el rl (Int.ofNat x) fu m p qq x _) ⟨rfl, rfl, rfl, rfl, rfl, rfl, by kernel_rfl, fun _ => ⟨rfl, rfl, rfl, rfl, rfl, rfl, rfl, rfl, ⟨g1, g2, hx⟩, fun _ => ⟨N1 + 16, rfl, ?_⟩⟩⟩)
  rw [AHeap.get_set_neB (by kernel_rfl), AHeap.get_push_eq (by kernel_rfl)]; rfl
set_option maxRecDepth 100000 in
theorem wR_none6 (x0 x1 x2 x3 x4 x5 : Nat) (e row k x : Nat) (fu : Bool) : CallJ Tryz.prog 15 #[rgV N1 6 k (Int.ofNat x) fu, nilS] (rdH Tryz.prog ([x0, x1, x2, x3, x4, x5].map gf) e row) (wROut [x0, x1, x2, x3, x4, x5] x fu []).Got := by
  refine CallJ.ofE mixed orcRgG_ok (noAsks_ok _) (Eq.mpr (wR_nil6 x0 x1 x2 x3 x4 x5 e row k (Int.ofNat x) fu _) ⟨rfl, rfl, rfl, rfl, rfl, rfl, rfl, rfl, rfl, rfl, rfl, rfl, rfl, rfl, rfl, rfl, rfl, rfl, N1 + 15, rfl, ?_⟩)
  rw [AHeap.get_set_neB (by kernel_rfl), AHeap.get_set_neB (by kernel_rfl), AHeap.get_push_eq (by kernel_rfl)]; rfl
set_option maxRecDepth 100000 in
theorem wR_empty6 (x0 x1 x2 x3 x4 x5 : Nat) (e row k qq x : Nat) (fu : Bool) : CallJ Tryz.prog 15 #[rgV N1 6 k (Int.ofNat x) fu, .slice (some ⟨0, 0, none⟩) 0 qq] (rdH Tryz.prog ([x0, x1, x2, x3, x4, x5].map gf) e row) (wROut [x0, x1, x2, x3, x4, x5] x fu []).Got := by
  refine CallJ.ofE mixed orcRgG_ok (noAsks_ok _) (Eq.mpr (wR_emp6 x0 x1 x2 x3 x4 x5 e row k qq (Int.ofNat x) fu _) ⟨rfl, rfl, rfl, rfl, rfl, rfl, rfl, rfl, rfl, rfl, rfl, rfl, rfl, rfl, rfl, rfl, rfl, rfl, N1 + 15, rfl, ?_⟩)
  rw [AHeap.get_set_neB (by kernel_rfl), AHeap.get_set_neB (by kernel_rfl), AHeap.get_push_eq (by kernel_rfl)]; rfl
set_option maxRecDepth 100000 in
theorem wR_full7 (x0 x1 x2 x3 x4 x5 x6 : Nat) (m : List Nat) (e row k p qq el rl x : Nat) (fu : Bool) (hx : x < 7) (g1 : p ≤ m.length) (g2 : p ≤ 1000000) : CallJ Tryz.prog 15 #[rgV N1 7 k (Int.ofNat x) fu, slA' p qq] (twoH ([x0, x1, x2, x3, x4, x5, x6].map gf) e row (m.map gf) el rl) (wROut [x0, x1, x2, x3, x4, x5, x6] x fu (m.take p)).Got := by
  refine callC_ok mixed orcRgG_ok (noAsks_ok _) (Eq.mpr (wR_run7 x0 x1 x2 x3 x4 x5 x6 e row k el rl (Int.ofNat x) fu m p qq x _) ⟨rfl, rfl, rfl, rfl, rfl, rfl, by kernel_rfl, fun _ => ⟨rfl, rfl, rfl, rfl, rfl, rfl, rfl, rfl, ⟨g1, g2, hx⟩, fun _ => ⟨N1 + 18, rfl, ?_⟩⟩⟩)
  rw [AHeap.get_set_neB (by kernel_rfl), AHeap.get_push_eq (by kernel_rfl)]; rfl
set_option maxRecDepth 100000 in
theorem wR_none7 (x0 x1 x2 x3 x4 x5 x6 : Nat) (e row k x : Nat) (fu : Bool) : CallJ Tryz.prog 15 #[rgV N1 7 k (Int.ofNat x) fu, nilS] (rdH Tryz.prog ([x0, x1, x2, x3, x4, x5, x6].map gf) e row) (wROut [x0, x1, x2, x3, x4, x5, x6] x fu []).Got := by
  refine CallJ.ofE mixed orcRgG_ok (noAsks_ok _) (Eq.mpr (wR_nil7 x0 x1 x2 x3 x4 x5 x6 e row k (Int.ofNat x) fu _) ⟨rfl, rfl, rfl, rfl, rfl, rfl, rfl, rfl, rfl, rfl, rfl, rfl, rfl, rfl, rfl, rfl, rfl, rfl, rfl, rfl, rfl, N1 + 17, rfl, ?_⟩)
  rw [AHeap.get_set_neB (by kernel_rfl), AHeap.get_set_neB (by kernel_rfl), AHeap.get_push_eq (by kernel_rfl)]; rfl
set_option maxRecDepth 100000 in
theorem wR_empty7 (x0 x1 x2 x3 x4 x5 x6 : Nat) (e row k qq x : Nat) (fu : Bool) : CallJ Tryz.prog 15 #[rgV N1 7 k (Int.ofNat x) fu, .slice (some ⟨0, 0, none⟩) 0 qq] (rdH Tryz.prog ([x0, x1, x2, x3, x4, x5, x6].map gf) e row) (wROut [x0, x1, x2, x3, x4, x5, x6] x fu []).Got := by
  refine CallJ.ofE mixed orcRgG_ok (noAsks_ok _) (Eq.mpr (wR_emp7 x0 x1 x2 x3 x4 x5 x6 e row k qq (Int.ofNat x) fu _) ⟨rfl, rfl, rfl, rfl, rfl, rfl, rfl, rfl, rfl, rfl, rfl, rfl, rfl, rfl, rfl, rfl, rfl, rfl, rfl, rfl, rfl, N1 + 17, rfl, ?_⟩)
  rw [AHeap.get_set_neB (by kernel_rfl), AHeap.get_set_neB (by kernel_rfl), AHeap.get_push_eq (by kernel_rfl)]; rfl
set_option maxRecDepth 100000 in
theorem wR_full8 (x0 x1 x2 x3 x4 x5 x6 x7 : Nat) (m : List Nat) (e row k p qq el rl x : Nat) (fu : Bool) (hx : x < 8) (g1 : p ≤ m.length) (g2 : p ≤ 1000000) : CallJ Tryz.prog 15 #[rgV N1 8 k (Int.ofNat x) fu, slA' p qq] (twoH ([x0, x1, x2, x3, x4, x5, x6, x7].map gf) e row (m.map gf) el rl) (wROut [x0, x1, x2, x3, x4, x5, x6, x7] x fu (m.take p)).Got := by
  refine callC_ok mixed orcRgG_ok (noAsks_ok _) (Eq.mpr (wR_run8 x0 x1 x2 x3 x4 x5 x6 x7 e row k el rl (Int.ofNat x) fu m p qq x _) ⟨rfl, rfl, rfl, rfl, rfl, rfl, by kernel_rfl, fun _ => ⟨rfl, rfl, rfl, rfl, rfl, rfl, rfl, rfl, ⟨g1, g2, hx⟩, fun _ => ⟨N1 + 20, rfl, ?_⟩⟩⟩)
  rw [AHeap.get_set_neB (by kernel_rfl), AHeap.get_push_eq (by kernel_rfl)]; rfl
set_option maxRecDepth 100000 in
theorem wR_none8 (x0 x1 x2 x3 x4 x5 x6 x7 : Nat) (e row k x : Nat) (fu : Bool) : CallJ Tryz.prog 15 #[rgV N1 8 k (Int.ofNat x) fu, nilS] (rdH Tryz.prog ([x0, x1, x2, x3, x4, x5, x6, x7].map gf) e row) (wROut [x0, x1, x2, x3, x4, x5, x6, x7] x fu []).Got := by
  refine CallJ.ofE mixed orcRgG_ok (noAsks_ok _) (Eq.mpr (wR_nil8 x0 x1 x2 x3 x4 x5 x6 x7 e row k (Int.ofNat x) fu _) ⟨rfl, rfl, rfl, rfl, rfl, rfl, rfl, rfl, rfl, rfl, rfl, rfl, rfl, rfl, rfl, rfl, rfl, rfl, rfl, rfl, rfl, rfl, rfl, rfl, N1 + 19, rfl, ?_⟩)
  rw [AHeap.get_set_neB (by kernel_rfl), AHeap.get_set_neB (by kernel_rfl), AHeap.get_push_eq (by kernel_rfl)]; rfl
set_option maxRecDepth 100000 in
theorem wR_empty8 (x0 x1 x2 x3 x4 x5 x6 x7 : Nat) (e row k qq x : Nat) (fu : Bool) : CallJ Tryz.prog 15 #[rgV N1 8 k (Int.ofNat x) fu, .slice (some ⟨0, 0, none⟩) 0 qq] (rdH Tryz.prog ([x0, x1, x2, x3, x4, x5, x6, x7].map gf) e row) (wROut [x0, x1, x2, x3, x4, x5, x6, x7] x fu []).Got := by
  refine CallJ.ofE mixed orcRgG_ok (noAsks_ok _) (Eq.mpr (wR_emp8 x0 x1 x2 x3 x4 x5 x6 x7 e row k qq (Int.ofNat x) fu _) ⟨rfl, rfl, rfl, rfl, rfl, rfl, rfl, rfl, rfl, rfl, rfl, rfl, rfl, rfl, rfl, rfl, rfl, rfl, rfl, rfl, rfl, rfl, rfl, rfl, N1 + 19, rfl, ?_⟩)
  rw [AHeap.get_set_neB (by kernel_rfl), AHeap.get_set_neB (by kernel_rfl), AHeap.get_push_eq (by kernel_rfl)]; rfl
set_option maxRecDepth 100000 in
theorem wR_full9 (x0 x1 x2 x3 x4 x5 x6 x7 x8 : Nat) (m : List Nat) (e row k p qq el rl x : Nat) (fu : Bool) (hx : x < 9) (g1 : p ≤ m.length) (g2 : p ≤ 1000000) : CallJ Tryz.prog 15 #[rgV N1 9 k (Int.ofNat x) fu, slA' p qq] (twoH ([x0, x1, x2, x3, x4, x5, x6, x7, x8].map gf) e row (m.map gf) el rl) (wROut [x0, x1, x2, x3, x4, x5, x6, x7, x8] x fu (m.take p)).Got := by
  refine callC_ok mixed orcRgG_ok (noAsks_ok _) (Eq.mpr (wR_run9 x0 x1 x2 x3 x4 x5 x6 x7 x8 e row k el rl (Int.ofNat x) fu m p qq x _) ⟨rfl, rfl, rfl, rfl, rfl, rfl, by kernel_rfl, fun _ => ⟨rfl, rfl, rfl, rfl, rfl, rfl, rfl, rfl, ⟨g1, g2, hx⟩, fun _ => ⟨N1 + 22, rfl, ?_⟩⟩⟩)
  rw [AHeap.get_set_neB (by kernel_rfl), AHeap.get_push_eq (by kernel_rfl)]; rfl
set_option maxRecDepth 100000 in
theorem wR_none9 (x0 x1 x2 x3 x4 x5 x6 x7 x8 : Nat) (e row k x : Nat) (fu : Bool) : CallJ Tryz.prog 15 #[rgV N1 9 k (Int.ofNat x) fu, nilS] (rdH Tryz.prog ([x0, x1, x2, x3, x4, x5, x6, x7, x8].map gf) e row) (wROut [x0, x1, x2, x3, x4, x5, x6, x7, x8] x fu []).Got := by
  refine CallJ.ofE mixed orcRgG_ok (noAsks_ok _) (Eq.mpr (wR_nil9 x0 x1 x2 x3 x4 x5 x6 x7 x8 e row k (Int.ofNat x) fu _) ⟨rfl, rfl, rfl, rfl, rfl, rfl, rfl, rfl, rfl, rfl, rfl, rfl, rfl, rfl, rfl, rfl, rfl, rfl, rfl, rfl, rfl, rfl, rfl, rfl, rfl, rfl, rfl, N1 + 21, rfl, ?_⟩)
  rw [AHeap.get_set_neB (by kernel_rfl), AHeap.get_set_neB (by kernel_rfl), AHeap.get_push_eq (by kernel_rfl)]; rfl
set_option maxRecDepth 100000 in
theorem wR_empty9 (x0 x1 x2 x3 x4 x5 x6 x7 x8 : Nat) (e row k qq x : Nat) (fu : Bool) : CallJ Tryz.prog 15 #[rgV N1 9 k (Int.ofNat x) fu, .slice (some ⟨0, 0, none⟩) 0 qq] (rdH Tryz.prog ([x0, x1, x2, x3, x4, x5, x6, x7, x8].map gf) e row) (wROut [x0, x1, x2, x3, x4, x5, x6, x7, x8] x fu []).Got := by
  refine CallJ.ofE mixed orcRgG_ok (noAsks_ok _) (Eq.mpr (wR_emp9 x0 x1 x2 x3 x4 x5 x6 x7 x8 e row k qq (Int.ofNat x) fu _) ⟨rfl, rfl, rfl, rfl, rfl, rfl, rfl, rfl, rfl, rfl, rfl, rfl, rfl, rfl, rfl, rfl, rfl, rfl, rfl, rfl, rfl, rfl, rfl, rfl, rfl, rfl, rfl, N1 + 21, rfl, ?_⟩)
  rw [AHeap.get_set_neB (by kernel_rfl), AHeap.get_set_neB (by kernel_rfl), AHeap.get_push_eq (by kernel_rfl)]; rfl
set_option maxRecDepth 100000 in
theorem wR_full10 (x0 x1 x2 x3 x4 x5 x6 x7 x8 x9 : Nat) (m : List Nat) (e row k p qq el rl x : Nat) (fu : Bool) (hx : x < 10) (g1 : p ≤ m.length) (g2 : p ≤ 1000000) : CallJ Tryz.prog 15 #[rgV N1 10 k (Int.ofNat x) fu, slA' p qq] (twoH ([x0, x1, x2, x3, x4, x5, x6, x7, x8, x9].map gf) e row (m.map gf) el rl) (wROut [x0, x1, x2, x3, x4, x5, x6, x7, x8, x9] x fu (m.take p)).Got := by
  refine callC_ok mixed orcRgG_ok (noAsks_ok _) (Eq.mpr (wR_run10 x0 x1 x2 x3 x4 x5 x6 x7 x8 x9 e row k el rl (Int.ofNat x) fu m p qq x _) ⟨rfl, rfl, rfl, rfl, rfl, rfl, by kernel_rfl, fun _ => ⟨rfl, rfl, rfl, rfl, rfl, rfl, rfl, rfl, ⟨g1, g2, hx⟩, fun _ => ⟨N1 + 24, rfl, ?_⟩⟩⟩)
  rw [AHeap.get_set_neB (by kernel_rfl), AHeap.get_push_eq (by kernel_rfl)]; rfl
set_option maxRecDepth 100000 in
theorem wR_none10 (x0 x1 x2 x3 x4 x5 x6 x7 x8 x9 : Nat) (e row k x : Nat) (fu : Bool) : CallJ Tryz.prog 15 #[rgV N1 10 k (Int.ofNat x) fu, nilS] (rdH Tryz.prog ([x0, x1, x2, x3, x4, x5, x6, x7, x8, x9].map gf) e row) (wROut [x0, x1, x2, x3, x4, x5, x6, x7, x8, x9] x fu []).Got := by
  refine CallJ.ofE mixed orcRgG_ok (noAsks_ok _) (Eq.mpr (wR_nil10 x0 x1 x2 x3 x4 x5 x6 x7 x8 x9 e row k (Int.ofNat x) fu _) ⟨rfl, rfl, rfl, rfl, rfl, rfl, rfl, rfl, rfl, rfl, rfl, rfl, rfl, rfl, rfl, rfl, rfl, rfl, rfl, rfl, rfl, rfl, rfl, rfl, rfl, rfl, rfl, rfl, rfl, rfl, N1 + 23, rfl, ?_⟩)
  rw [AHeap.get_set_neB (by kernel_rfl), AHeap.get_set_neB (by kernel_rfl), AHeap.get_push_eq (by kernel_rfl)]; rfl
set_option maxRecDepth 100000 in
theorem wR_empty10 (x0 x1 x2 x3 x4 x5 x6 x7 x8 x9 : Nat) (e row k qq x : Nat) (fu : Bool) : CallJ Tryz.prog 15 #[rgV N1 10 k (Int.ofNat x) fu, .slice (some ⟨0, 0, none⟩) 0 qq] (rdH Tryz.prog ([x0, x1, x2, x3, x4, x5, x6, x7, x8, x9].map gf) e row) (wROut [x0, x1, x2, x3, x4, x5, x6, x7, x8, x9] x fu []).Got := by
  refine CallJ.ofE mixed orcRgG_ok (noAsks_ok _) (Eq.mpr (wR_emp10 x0 x1 x2 x3 x4 x5 x6 x7 x8 x9 e row k qq (Int.ofNat x) fu _) ⟨rfl, rfl, rfl, rfl, rfl, rfl, rfl, rfl, rfl, rfl, rfl, rfl, rfl, rfl, rfl, rfl, rfl, rfl, rfl, rfl, rfl, rfl, rfl, rfl, rfl, rfl, rfl, rfl, rfl, rfl, N1 + 23, rfl, ?_⟩)
  rw [AHeap.get_set_neB (by kernel_rfl), AHeap.get_set_neB (by kernel_rfl), AHeap.get_push_eq (by kernel_rfl)]; rfl
set_option maxRecDepth 100000 in
theorem wR_full11 (x0 x1 x2 x3 x4 x5 x6 x7 x8 x9 x10 : Nat) (m : List Nat) (e row k p qq el rl x : Nat) (fu : Bool) (hx : x < 11) (g1 : p ≤ m.length) (g2 : p ≤ 1000000) : CallJ Tryz.prog 15 #[rgV N1 11 k (Int.ofNat x) fu, slA' p qq] (twoH ([x0, x1, x2, x3, x4, x5, x6, x7, x8, x9, x10].map gf) e row (m.map gf) el rl) (wROut [x0, x1, x2, x3, x4, x5, x6, x7, x8, x9, x10] x fu (m.take p)).Got := by
  refine callC_ok mixed orcRgG_ok (noAsks_ok _) (Eq.mpr (wR_run11 x0 x1 x2 x3 x4 x5 x6 x7 x8 x9 x10 e row k el rl (Int.ofNat x) fu m p qq x _) ⟨rfl, rfl, rfl, rfl, rfl, rfl, by kernel_rfl, fun _ => ⟨rfl, rfl, rfl, rfl, rfl, rfl, rfl, rfl, ⟨g1, g2, hx⟩, fun _ => ⟨N1 + 26, rfl, ?_⟩⟩⟩)
  rw [AHeap.get_set_neB (by kernel_rfl), AHeap.get_push_eq (by kernel_rfl)]; rfl
set_option maxRecDepth 100000 in
theorem wR_none11 (x0 x1 x2 x3 x4 x5 x6 x7 x8 x9 x10 : Nat) (e row k x : Nat) (fu : Bool) : CallJ Tryz.prog 15 #[rgV N1 11 k (Int.ofNat x) fu, nilS] (rdH Tryz.prog ([x0, x1, x2, x3, x4, x5, x6, x7, x8, x9, x10].map gf) e row) (wROut [x0, x1, x2, x3, x4, x5, x6, x7, x8, x9, x10] x fu []).Got := by
  refine CallJ.ofE mixed orcRgG_ok (noAsks_ok _) (Eq.mpr (wR_nil11 x0 x1 x2 x3 x4 x5 x6 x7 x8 x9 x10 e row k (Int.ofNat x) fu _) ⟨rfl, rfl, rfl, rfl, rfl, rfl, rfl, rfl, rfl, rfl, rfl, rfl, rfl, rfl, rfl, rfl, rfl, rfl, rfl, rfl, rfl, rfl, rfl, rfl, rfl, rfl, rfl, rfl, rfl, rfl, rfl, rfl, rfl, N1 + 25, rfl, ?_⟩)
  rw [AHeap.get_set_neB (by kernel_rfl), AHeap.get_set_neB (by kernel_rfl), AHeap.get_push_eq (by kernel_rfl)]; rfl
set_option maxRecDepth 100000 in
theorem wR_empty11 (x0 x1 x2 x3 x4 x5 x6 x7 x8 x9 x10 : Nat) (e row k qq x : Nat) (fu : Bool) : CallJ Tryz.prog 15 #[rgV N1 11 k (Int.ofNat x) fu, .slice (some ⟨0, 0, none⟩) 0 qq] (rdH Tryz.prog ([x0, x1, x2, x3, x4, x5, x6, x7, x8, x9, x10].map gf) e row) (wROut [x0, x1, x2, x3, x4, x5, x6, x7, x8, x9, x10] x fu []).Got := by
  refine CallJ.ofE mixed orcRgG_ok (noAsks_ok _) (Eq.mpr (wR_emp11 x0 x1 x2 x3 x4 x5 x6 x7 x8 x9 x10 e row k qq (Int.ofNat x) fu _) ⟨rfl, rfl, rfl, rfl, rfl, rfl, rfl, rfl, rfl, rfl, rfl, rfl, rfl, rfl, rfl, rfl, rfl, rfl, rfl, rfl, rfl, rfl, rfl, rfl, rfl, rfl, rfl, rfl, rfl, rfl, rfl, rfl, rfl, N1 + 25, rfl, ?_⟩)
  rw [AHeap.get_set_neB (by kernel_rfl), AHeap.get_set_neB (by kernel_rfl), AHeap.get_push_eq (by kernel_rfl)]; rfl
set_option maxRecDepth 100000 in
theorem wR_full12 (x0 x1 x2 x3 x4 x5 x6 x7 x8 x9 x10 x11 : Nat) (m : List Nat) (e row k p qq el rl x : Nat) (fu : Bool) (hx : x < 12) (g1 : p ≤ m.length) (g2 : p ≤ 1000000) : CallJ Tryz.prog 15 #[rgV N1 12 k (Int.ofNat x) fu, slA' p qq] (twoH ([x0, x1, x2, x3, x4, x5, x6, x7, x8, x9, x10, x11].map gf) e row (m.map gf) el rl) (wROut [x0, x1, x2, x3, x4, x5, x6, x7, x8, x9, x10, x11] x fu (m.take p)).Got := by
  refine callC_ok mixed orcRgG_ok (noAsks_ok _) (Eq.mpr (wR_run12 x0 x1 x2 x3 x4 x5 x6 x7 x8 x9 x10 x11 e row k el rl (Int.ofNat x) fu m p qq x _) ⟨rfl, rfl, rfl, rfl, rfl, rfl, by kernel_rfl, fun _ => ⟨rfl, rfl, rfl, rfl, rfl, rfl, rfl, rfl, ⟨g1, g2, hx⟩, fun _ => ⟨N1 + 28, rfl, ?_⟩⟩⟩)
  rw [AHeap.get_set_neB (by kernel_rfl), AHeap.get_push_eq (by kernel_rfl)]; rfl
set_option maxRecDepth 100000 in
theorem wR_none12 (x0 x1 x2 x3 x4 x5 x6 x7 x8 x9 x10 x11 : Nat) (e row k x : Nat) (fu : Bool) : CallJ Tryz.prog 15 #[rgV N1 12 k (Int.ofNat x) fu, nilS] (rdH Tryz.prog ([x0, x1, x2, x3, x4, x5, x6, x7, x8, x9, x10, x11].map gf) e row) (wROut [x0, x1, x2, x3, x4, x5, x6, x7, x8, x9, x10, x11] x fu []).Got := by
  refine CallJ.ofE mixed orcRgG_ok (noAsks_ok _) (Eq.mpr (wR_nil12 x0 x1 x2 x3 x4 x5 x6 x7 x8 x9 x10 x11 e row k (Int.ofNat x) fu _) ⟨rfl, rfl, rfl, rfl, rfl, rfl, rfl, rfl, rfl, rfl, rfl, rfl, rfl, rfl, rfl, rfl, rfl, rfl, rfl, rfl, rfl, rfl, rfl, rfl, rfl, rfl, rfl, rfl, rfl, rfl, rfl, rfl, rfl, rfl, rfl, rfl, N1 + 27, rfl, ?_⟩)
  rw [AHeap.get_set_neB (by kernel_rfl), AHeap.get_set_neB (by kernel_rfl), AHeap.get_push_eq (by kernel_rfl)]; rfl
set_option maxRecDepth 100000 in
theorem wR_empty12 (x0 x1 x2 x3 x4 x5 x6 x7 x8 x9 x10 x11 : Nat) (e row k qq x : Nat) (fu : Bool) : CallJ Tryz.prog 15 #[rgV N1 12 k (Int.ofNat x) fu, .slice (some ⟨0, 0, none⟩) 0 qq] (rdH Tryz.prog ([x0, x1, x2, x3, x4, x5, x6, x7, x8, x9, x10, x11].map gf) e row) (wROut [x0, x1, x2, x3, x4, x5, x6, x7, x8, x9, x10, x11] x fu []).Got := by
  refine CallJ.ofE mixed orcRgG_ok (noAsks_ok _) (Eq.mpr (wR_emp12 x0 x1 x2 x3 x4 x5 x6 x7 x8 x9 x10 x11 e row k qq (Int.ofNat x) fu _) ⟨rfl, rfl, rfl, rfl, rfl, rfl, rfl, rfl, rfl, rfl, rfl, rfl, rfl, rfl, rfl, rfl, rfl, rfl, rfl, rfl, rfl, rfl, rfl, rfl, rfl, rfl, rfl, rfl, rfl, rfl, rfl, rfl, rfl, rfl, rfl, rfl, N1 + 27, rfl, ?_⟩)
  rw [AHeap.get_set_neB (by kernel_rfl), AHeap.get_set_neB (by kernel_rfl), AHeap.get_push_eq (by kernel_rfl)]; rfl
theorem wR_call (l L : List Nat) (k e row x : Nat) (fu : Bool) (v2 : List Value) (B2 : List Cells) (hS : Second v2 B2 L) (h1 : l.length ≤ 12) (hx : x < l.length) : CallJ Tryz.prog 15 (rgV N1 l.length k (Int.ofNat x) fu :: v2).toArray (canon Tryz.prog ((l.map gf, e, row) :: B2)) (wROut l x fu L).Got := by
  match l with
  | [] => exact absurd hx (by simp)
  | [x0] => cases hS with
    | nil => exact wR_none1 x0 e row k x fu
    | emp q => exact wR_empty1 x0 e row k q x fu
    | full m p q el rl g0 g1 g2 g3 => exact wR_full1 x0 m e row k p q el rl x fu hx g1 g2
  | [x0, x1] => cases hS with
    | nil => exact wR_none2 x0 x1 e row k x fu
    | emp q => exact wR_empty2 x0 x1 e row k q x fu
    | full m p q el rl g0 g1 g2 g3 => exact wR_full2 x0 x1 m e row k p q el rl x fu hx g1 g2
  | [x0, x1, x2] => cases hS with
    | nil => exact wR_none3 x0 x1 x2 e row k x fu
    | emp q => exact wR_empty3 x0 x1 x2 e row k q x fu
    | full m p q el rl g0 g1 g2 g3 => exact wR_full3 x0 x1 x2 m e row k p q el rl x fu hx g1 g2
  | [x0, x1, x2, x3] => cases hS with
    | nil => exact wR_none4 x0 x1 x2 x3 e row k x fu
    | emp q => exact wR_empty4 x0 x1 x2 x3 e row k q x fu
    | full m p q el rl g0 g1 g2 g3 => exact wR_full4 x0 x1 x2 x3 m e row k p q el rl x fu hx g1 g2
  | [x0, x1, x2, x3, x4] => cases hS with
    | nil => exact wR_none5 x0 x1 x2 x3 x4 e row k x fu
    | emp q => exact wR_empty5 x0 x1 x2 x3 x4 e row k q x fu
    | full m p q el rl g0 g1 g2 g3 => exact wR_full5 x0 x1 x2 x3 x4 m e row k p q el rl x fu hx g1 g2
  | [x0, x1, x2, x3, x4, x5] => cases hS with
    | nil => exact wR_none6 x0 x1 x2 x3 x4 x5 e row k x fu
    | emp q => exact wR_empty6 x0 x1 x2 x3 x4 x5 e row k q x fu
    | full m p q el rl g0 g1 g2 g3 => exact wR_full6 x0 x1 x2 x3 x4 x5 m e row k p q el rl x fu hx g1 g2
  | [x0, x1, x2, x3, x4, x5, x6] => cases hS with
    | nil => exact wR_none7 x0 x1 x2 x3 x4 x5 x6 e row k x fu
    | emp q => exact wR_empty7 x0 x1 x2 x3 x4 x5 x6 e row k q x fu
    | full m p q el rl g0 g1 g2 g3 => exact wR_full7 x0 x1 x2 x3 x4 x5 x6 m e row k p q el rl x fu hx g1 g2
  | [x0, x1, x2, x3, x4, x5, x6, x7] => cases hS with
    | nil => exact wR_none8 x0 x1 x2 x3 x4 x5 x6 x7 e row k x fu
    | emp q => exact wR_empty8 x0 x1 x2 x3 x4 x5 x6 x7 e row k q x fu
    | full m p q el rl g0 g1 g2 g3 => exact wR_full8 x0 x1 x2 x3 x4 x5 x6 x7 m e row k p q el rl x fu hx g1 g2
  | [x0, x1, x2, x3, x4, x5, x6, x7, x8] => cases hS with
    | nil => exact wR_none9 x0 x1 x2 x3 x4 x5 x6 x7 x8 e row k x fu
    | emp q => exact wR_empty9 x0 x1 x2 x3 x4 x5 x6 x7 x8 e row k q x fu
    | full m p q el rl g0 g1 g2 g3 => exact wR_full9 x0 x1 x2 x3 x4 x5 x6 x7 x8 m e row k p q el rl x fu hx g1 g2
  | [x0, x1, x2, x3, x4, x5, x6, x7, x8, x9] => cases hS with
    | nil => exact wR_none10 x0 x1 x2 x3 x4 x5 x6 x7 x8 x9 e row k x fu
    | emp q => exact wR_empty10 x0 x1 x2 x3 x4 x5 x6 x7 x8 x9 e row k q x fu
    | full m p q el rl g0 g1 g2 g3 => exact wR_full10 x0 x1 x2 x3 x4 x5 x6 x7 x8 x9 m e row k p q el rl x fu hx g1 g2
  | [x0, x1, x2, x3, x4, x5, x6, x7, x8, x9, x10] => cases hS with
    | nil => exact wR_none11 x0 x1 x2 x3 x4 x5 x6 x7 x8 x9 x10 e row k x fu
    | emp q => exact wR_empty11 x0 x1 x2 x3 x4 x5 x6 x7 x8 x9 x10 e row k q x fu
    | full m p q el rl g0 g1 g2 g3 => exact wR_full11 x0 x1 x2 x3 x4 x5 x6 x7 x8 x9 x10 m e row k p q el rl x fu hx g1 g2
  | [x0, x1, x2, x3, x4, x5, x6, x7, x8, x9, x10, x11] => cases hS with
    | nil => exact wR_none12 x0 x1 x2 x3 x4 x5 x6 x7 x8 x9 x10 x11 e row k x fu
    | emp q => exact wR_empty12 x0 x1 x2 x3 x4 x5 x6 x7 x8 x9 x10 x11 e row k q x fu
    | full m p q el rl g0 g1 g2 g3 => exact wR_full12 x0 x1 x2 x3 x4 x5 x6 x7 x8 x9 x10 x11 m e row k p q el rl x fu hx g1 g2
  | _ :: _ :: _ :: _ :: _ :: _ :: _ :: _ :: _ :: _ :: _ :: _ :: _ :: r => exact absurd h1 (by simp only [List.length_cons]; omega)
open Classical in
noncomputable def wRFn : List Nat → Int → Bool → List Nat → Option Out := fun l nx fu L => if l.length ≤ 12 ∧ nx = Int.ofNat nx.toNat ∧ nx.toNat < l.length then some (wROut l nx.toNat fu L) else none
theorem wROut_ok (l : List Nat) (x : Nat) (fu : Bool) (L : List Nat) : (wROut l x fu L).Ok := ⟨names_G _ _ _, flat_floats _⟩
noncomputable def orcRgH : Orc := orElse 15 (anyO Tryz.prog.globals.size (ring2X wRFn)) orcRgG
set_option maxRecDepth 100000 in
theorem orcRgH_ok : OrcOk Tryz.prog orcRgH := by
  refine anyO_ok globs_pos orcRgG_ok fun vs B o h _ => ?_
  obtain ⟨l, n, k, e, row, nx, fu, v2, B2, L, rfl, rfl, hS, h0, h1, h2, h3, hw, h⟩ := ring2X_some h
  subst h1
  rw [List.take_length] at h
  unfold wRFn at h
  split at h
  · rename_i hc
    cases h
    refine ⟨wROut_ok _ _ _ _, ?_⟩
    rw [hc.2.1]
    exact wR_call l L k e row nx.toNat fu v2 B2 hS hc.1 hc.2.2
  · cases h
noncomputable def wRY : List Nat → Int → Bool → List Nat → (Out → Prop) → Prop := fun l nx fu L K => l.length ≤ 12 ∧ nx = Int.ofNat nx.toNat ∧ nx.toNat < l.length ∧
  ∀ (c : List Nat) (x : Nat) (f : Bool), c = wC (wrZ l (Int.ofNat nx.toNat) fu L) → x = wX (wrZ l (Int.ofNat nx.toNat) fu L) → f = wB (wrZ l (Int.ofNat nx.toNat) fu L) → K (.fresh (mkG l.length (Int.ofNat x) f) (c.map gf) 49)
theorem wRY_ok (l : List Nat) (nx : Int) (fu : Bool) (L : List Nat) (K : Out → Prop) (h : wRY l nx fu L K) : ∃ o, wRFn l nx fu L = some o ∧ K o :=
  ⟨_, if_pos ⟨h.1, h.2.1, h.2.2.1⟩, h.2.2.2 _ _ _ rfl rfl rfl⟩
end Go.Proofs.YtgomacijdadjpaaGreatDoor
