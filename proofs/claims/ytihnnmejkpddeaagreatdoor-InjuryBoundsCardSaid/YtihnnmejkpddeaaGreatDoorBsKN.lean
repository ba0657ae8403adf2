/-
  OWN WORK. Stage 6: the best window, carried out.
-/
import Derived.Test.YtihnnmejkpddeaaGreatDoorBsHJ
import Derived.Test.YtihnnmejkpddeaaGreatDoorAmV
import Derived.Test.YtihnnmejkpddeaaGreatDoorAmU
/-! (OWN WORK. Stage 6: all windows with their worths: the iterator's outer loop.) -/
namespace Go.Proofs.YtihnnmejkpddeaaGreatDoor
open Go Go.Am
noncomputable def alS : List W4 → Value
 | [] => nilS
 | x :: r => slP 10 (x :: r).length (x :: r).length
noncomputable def arW : List W4 → AObj
 | [] => .dead
 | x :: r => .cells (cells4 (x :: r)) 151 5 false
theorem bvT_eq (c : List Value) (e row n lo hi : Nat) (L : List W4) (g : Nat → Value) : bvT c e row n lo hi L g = bvH c e row n lo hi (alS L) (arW L) g := by
 cases L <;> rfl
def biOk (c : List Value) (row n k lo p la : Nat) (L₀ : List W4) : Prop := BsOk c row n k ∧ 0 < lo ∧ p + lo ≤ 65536 ∧ la ≤ n ∧ L₀.length ≤ 1000000
noncomputable def biK (c : List Value) (e row n k lo hi p la : Nat) (al : Value) (arr : AObj) : LoopsK (szM + 10) Tryz.prog where
 body := fun _ => loopOf Tryz.prog 182 2
 spec := fun _ a h q => entry a 33 [(0, yW), (1, ptN 6), (2, ptN 7), (4, goN p), (5, goN la), (6, goN (p + lo)), (7, goN n), (8, goN p)] (∃ (L₀ : List W4) (g₂ : Nat → Value), al = alS L₀ ∧ arr = arW L₀ ∧ h = bvH c e row n lo hi al arr g₂ ∧ biOk c row n k lo p la L₀ ∧
  ∀ g g₂, q (.exit 2) (stOf 33 [(0, yW), (1, ptN 6), (2, ptN 7), (7, goN n), (8, goN p)] g) (bvH c e row n lo hi (alS (L₀ ++ rwL c p (p + lo) (la + 1 - (p + lo)))) (arW (L₀ ++ rwL c p (p + lo) (la + 1 - (p + lo)))) g₂))
 ok := fun i a h q x => by
  obtain ⟨h1, h2, h3, L₀, g₂, rfl, rfl, rfl, ⟨C, h0, hp, hla, hL⟩, h5⟩ := entry_facts x
  refine JK.toJ (JK.of_told (bi_loop C e lo hi p la L₀ h0 hp hla hL a _ ?_ h1 h2) ?_)
  ·rw [← bvT_eq]
   simp only [List.map_cons, List.map_nil]
   rw [h3 (0, yW) (by simp), h3 (1, ptN 6) (by simp), h3 (2, ptN 7) (by simp), h3 (4, goN p) (by simp), h3 (5, goN la) (by simp), h3 (6, goN (p + lo)) (by simp), h3 (7, goN n) (by simp), h3 (8, goN p) (by simp)]
   exact see_selfW C.cf (biV_ok n p la (p + lo)) (.head _)
  ·rintro ex vs h' g ⟨rfl, rfl, g₂, rfl⟩
   rw [bvT_eq]
   exact h5 (ov [(4, goN p), (5, goN la), (6, goN (p + lo + (la + 1 - (p + lo))))] g) g₂
 okK := fun i a h q x => by
  obtain ⟨h1, h2, h3, L₀, g₂, rfl, rfl, rfl, ⟨C, h0, hp, hla, hL⟩, h5⟩ := entry_facts x
  refine JK.of_told (bi_loop C e lo hi p la L₀ h0 hp hla hL a _ ?_ h1 h2) ?_
  ·rw [← bvT_eq]
   simp only [List.map_cons, List.map_nil]
   rw [h3 (0, yW) (by simp), h3 (1, ptN 6) (by simp), h3 (2, ptN 7) (by simp), h3 (4, goN p) (by simp), h3 (5, goN la) (by simp), h3 (6, goN (p + lo)) (by simp), h3 (7, goN n) (by simp), h3 (8, goN p) (by simp)]
   exact see_selfW C.cf (biV_ok n p la (p + lo)) (.head _)
  ·rintro ex vs h' g ⟨rfl, rfl, g₂, rfl⟩
   rw [bvT_eq]
   exact h5 (ov [(4, goN p), (5, goN la), (6, goN (p + lo + (la + 1 - (p + lo))))] g) g₂
 rokK := fun i c a h k _ q => q.elim
 rfokK := fun c a h k q => q.elim
theorem bo_body (c : List Value) (e row n k lo hi p la : Nat) (al : Value) (arr : AObj) (g g₂ : Nat → Value) (Q : Exit → List Value → AHeap → Prop) : execC Tryz.prog (exec Tryz.prog orcBb 10) (syOf [(9, 1)]) askBb (biK c e row n k lo hi p la al arr).toLoops 40 (loopOf Tryz.prog 182 0) (stOf 33 [(0, yW), (1, ptN 6), (2, ptN 7), (7, goN n), (8, goN p)] g) (bvH c e row n lo hi al arr g₂) (told 33 [0, 1, 2, 7, 8] Q) = (((Nat.blt p n = true → (loopOf Tryz.prog 182 2 = loopOf Tryz.prog 182 2 ∧ yW = yW ∧ ptN 6 = ptN 6 ∧ ptN 7 = ptN 7 ∧ goN p = goN p ∧ gi (if (Int.ofNat n : Int) < fwrap IntKind.i64 (Int.ofNat (p + hi)) then Int.ofNat n else fwrap IntKind.i64 (Int.ofNat (p + hi))) = goN la ∧ gi (fwrap IntKind.i64 (Int.ofNat (p + lo))) = goN (p + lo) ∧ goN n = goN n ∧ goN p = goN p ∧ (∃ x1 : List W4, (∃ x2 : Nat → Value, (al = alS x1 ∧ arr = arW x1 ∧ bvH c e row n lo hi al arr g₂ = bvH c e row n lo hi al arr x2 ∧ biOk c row n k lo p la x1 ∧ (∀ _ : Nat → Value, (∀ y4 : Nat → Value, Q .normal [yW, ptN 6, ptN 7, goN n, gi (fwrap IntKind.i64 (Int.ofNat (p + 1)))] (bvH c e row n lo hi (alS (x1 ++ rwL c p (p + lo) ((la + 1) - (p + lo)))) (arW (x1 ++ rwL c p (p + lo) ((la + 1) - (p + lo)))) y4)))))))) ∧ (Nat.blt p n = false → Q (.exit 0) [yW, ptN 6, ptN 7, goN n, goN p] (bvH c e row n lo hi al arr g₂)))) := by kernel_rfl
end Go.Proofs.YtihnnmejkpddeaaGreatDoor
/-! (OWN WORK. Stage 6: all windows with their worths: all of them are visited.) -/
namespace Go.Proofs.YtihnnmejkpddeaaGreatDoor
open Go Go.Am
noncomputable abbrev boV (n p : Nat) : List Value := [yW, ptN 6, ptN 7, goN n, goN p]
theorem boV_ok (n p : Nat) : ∀ v ∈ boV n p, okTW v := by
 intro v hv
 simp only [List.mem_cons, List.not_mem_nil, or_false] at hv
 rcases hv with rfl | rfl | rfl | rfl | rfl
 ·exact .inr (.inl rfl)
 ·exact .inr (.inr ⟨6, by omega, rfl⟩)
 ·exact .inr (.inr ⟨7, by omega, rfl⟩)
 all_goals exact .inl rfl
theorem min_goW {n x : Nat} (hx : x ≤ 1000000) : gi (if (Int.ofNat n : Int) < fwrap .i64 (Int.ofNat x) then Int.ofNat n else fwrap .i64 (Int.ofNat x)) = goN (min x n) := by
 rw [fwrap_nat (by omega)]
 show gi _ = gi (Int.ofNat (min x n))
 by_cases h : n < x
 ·rw [if_pos (by simp only [Int.ofNat_eq_natCast]; omega), Nat.min_eq_right (by omega)]
 ·rw [if_neg (by simp only [Int.ofNat_eq_natCast]; omega), Nat.min_eq_left (by omega)]
section
variable {c : List Value} {row n k : Nat} (C : BsOk c row n k)
include C
set_option maxRecDepth 100000 in
theorem bo_loop (e lo hi : Nat) (h0 : 0 < lo) (hl : lo ≤ 1000) (hh : hi ≤ 1000) : ∀ (a : AAct) (h : AHeap), See (szM + 10) (szM + 9) h ([0, 1, 2, 7, 8].map a.tmp) (boV n 0) (bvT c e row n lo hi []) → a.n = 33 → a.marks = [] →
  JK (szM + 10) Tryz.prog (.loop (loopOf Tryz.prog 182 0)) a h (told 33 [0, 1, 2, 7, 8] fun ex _ h' => ex = .exit 0 ∧ ∃ g₂, h' = bvT c e row n lo hi (alW c lo hi n n) g₂) := by
 have hn1 := C.n1
 refine JK.foldL (by show szM ≤ szM + 10; omega) (fun j => boV n j) (fun j => bvT c e row n lo hi (alW c lo hi n j)) (fun _ => True) n trivial _ ?_ ?_
 ·intro j hj _ g g₂
  have len := alW_len c lo hi n j
  have len2 : j * (n + 1) ≤ 128 * 129 := Nat.mul_le_mul (by omega) (by omega)
  show JK _ _ _ _ (bvT c e row n lo hi (alW c lo hi n j) g₂) _
  rw [bvT_eq]
  refine execK_ok mixed orcBb_ok askBb_ok (biK c e row n k lo hi j (min (j + hi) n) (alS (alW c lo hi n j)) (arW (alW c lo hi n j))) (Eq.mpr (bo_body c e row n k lo hi j (min (j + hi) n) _ _ g g₂ _) ⟨fun hlt => ⟨rfl, rfl, rfl, rfl, rfl, min_goW (by omega), by rw [fwrap_nat (by omega)], rfl, rfl, alW c lo hi n j, g₂, rfl, rfl, rfl, ⟨C, h0, by omega, Nat.min_le_right _ _, by omega⟩, fun _ g₃ => ⟨trivial, ?_⟩⟩, fun hge => absurd (blt_false hge) (by omega)⟩)
  rw [fwrap_nat (by omega), ← bvT_eq]
  exact see_selfW C.cf (boV_ok n (j + 1)) (.head _)
 ·intro _ g g₂
  show JK _ _ _ _ (bvT c e row n lo hi (alW c lo hi n n) g₂) _
  rw [bvT_eq]
  refine execK_ok mixed orcBb_ok askBb_ok (biK c e row n k lo hi n n (alS (alW c lo hi n n)) (arW (alW c lo hi n n))) (Eq.mpr (bo_body c e row n k lo hi n n _ _ g g₂ _) ⟨fun hlt => absurd (blt_true hlt) (by omega), fun _ => ⟨rfl, g₂, (bvT_eq c e row n lo hi _ g₂).symm⟩⟩)
end
end Go.Proofs.YtihnnmejkpddeaaGreatDoor
/-! (OWN WORK. Stage 6: the best window, carried out.) -/
namespace Go.Proofs.YtihnnmejkpddeaaGreatDoor
open Go Go.Am
noncomputable def bvQ (c : List Value) (e row m lo hi : Nat) : AHeap := (((((((liH c e row).push (.cells [goN lo, goN hi] 26 0 false)).push (.cells [gi 0, gi 0, gi 0, gi 0] 151 0 false)).push (AObj.map (mpE c (m + 1)) ((m + 1) + 1))).push (.cells [Value.map Option.none] 145 0 false)).set (nG1 + 4) (.cells ([] ++ ([Value.map (Option.some ((((liH c e row).push (.cells [goN lo, goN hi] 26 0 false)).push (.cells [gi 0, gi 0, gi 0, gi 0] 151 0 false)).n))] ++ [])) 145 0 false)).push (.cells [nilS] 209 0 false)).push (.cells [goN (m + 1)] 3 0 false) |>.push (.cells [goN lo, goN hi] 26 0 false)
noncomputable def bvR (c : List Value) (e row m lo hi : Nat) (b : AAct) : AHeap := ((bvQ c e row m lo hi).push .defd).push (bvL b)
theorem lowM_liH (c : List Value) (e row : Nat) : LowM (liH c e row) := fun i hi => by
 rw [canon_get, if_neg (by omega)]
def bOkW (b : AAct) : Prop := b.n = 25 ∧ b.tmp 4 = ptN 2 ∧ b.tmp 5 = ptN 4 ∧ b.tmp 6 = ptN 5
theorem bvF_R (c : List Value) (e row m lo hi : Nat) (b : AAct) (hb : bOkW b) : BvF c e row (m + 1) lo hi (bvR c e row m lo hi b) b :=
 ⟨by
  unfold bvR bvQ
  (repeat' (first | with_reducible apply LowM.set | with_reducible apply LowM.push)) <;> first | exact lowM_liH _ _ _ | exact of_decide_eq_true (by kernel_rfl), by kernel_rfl, by kernel_rfl, by kernel_rfl, by kernel_rfl, by kernel_rfl, by kernel_rfl, by kernel_rfl, by kernel_rfl, by kernel_rfl, hb.1, hb.2.1, hb.2.2.1, hb.2.2.2⟩
def boOk (c : List Value) (row n k lo hi : Nat) : Prop := BsOk c row n k ∧ 0 < lo ∧ lo ≤ hi ∧ lo ≤ n ∧ hi ≤ 1000
noncomputable def boK (c : List Value) (e row m k lo hi : Nat) (b : AAct) : LoopsK (szM + 10) Tryz.prog where
 body := fun _ => loopOf Tryz.prog 182 0
 spec := fun _ a h q => entry a 33 [(0, yW), (1, ptN 6), (2, ptN 7), (7, goN (m + 1)), (8, goN 0)] (h = bvR c e row m lo hi b ∧ (boOk c row (m + 1) k lo hi ∧ bOkW b) ∧ ∀ g g₂, q (.exit 0) (stOf 33 [] g) (bvT c e row (m + 1) lo hi (alW c lo hi (m + 1) (m + 1)) g₂))
 ok := fun i a h q x => by
  obtain ⟨h1, h2, h3, rfl, ⟨⟨C, h0, hl, _, hh⟩, hb⟩, h5⟩ := entry_facts x
  refine JK.toJ (JK.of_told (bo_loop C e lo hi h0 (by omega) hh a _ ?_ h1 h2) ?_)
  ·simp only [List.map_cons, List.map_nil]
   rw [h3 (0, yW) (by simp), h3 (1, ptN 6) (by simp), h3 (2, ptN 7) (by simp), h3 (7, goN (m + 1)) (by simp), h3 (8, goN 0) (by simp)]
   exact seeW_A (bvF_R c e row m lo hi b hb) C.cf (by kernel_rfl) (boV_ok (m + 1) 0)
  ·rintro ex vs h' g ⟨rfl, g₂, rfl⟩
   exact h5 (ov ([0, 1, 2, 7, 8].zip vs) g) g₂
 okK := fun i a h q x => by
  obtain ⟨h1, h2, h3, rfl, ⟨⟨C, h0, hl, _, hh⟩, hb⟩, h5⟩ := entry_facts x
  refine JK.of_told (bo_loop C e lo hi h0 (by omega) hh a _ ?_ h1 h2) ?_
  ·simp only [List.map_cons, List.map_nil]
   rw [h3 (0, yW) (by simp), h3 (1, ptN 6) (by simp), h3 (2, ptN 7) (by simp), h3 (7, goN (m + 1)) (by simp), h3 (8, goN 0) (by simp)]
   exact seeW_A (bvF_R c e row m lo hi b hb) C.cf (by kernel_rfl) (boV_ok (m + 1) 0)
  ·rintro ex vs h' g ⟨rfl, g₂, rfl⟩
   exact h5 (ov ([0, 1, 2, 7, 8].zip vs) g) g₂
 rokK := fun i c a h k _ q => q.elim
 rfokK := fun c a h k q => q.elim
theorem bw_run (c : List Value) (e row m k lo hi : Nat) (b : AAct) (K : Value → AHeap → Prop) : callC Tryz.prog (exec Tryz.prog orcBb 10) (syOf []) askBb (boK c e row m k lo hi b).toLoops 40 182 #[yW, ptN 6, ptN 7] (bvR c e row m lo hi b) K = ((loopOf Tryz.prog 182 0 = loopOf Tryz.prog 182 0 ∧ yW = yW ∧ ptN 6 = ptN 6 ∧ ptN 7 = ptN 7 ∧ goN (m + 1) = goN (m + 1) ∧ gi 0 = goN 0 ∧ bvR c e row m lo hi b = bvR c e row m lo hi b ∧ (boOk c row (m + 1) k lo hi ∧ bOkW b) ∧ (∀ _ : Nat → Value, (∀ y2 : Nat → Value, K (Value.tuple #[]) (bvT c e row (m + 1) lo hi (alW c lo hi (m + 1) (m + 1)) y2))))) := by kernel_rfl
end Go.Proofs.YtihnnmejkpddeaaGreatDoor
/-! (OWN WORK. Stage 6: the best window of a series, carried out: the range over all windows, and what comes behind it.) -/
namespace Go.Proofs.YtihnnmejkpddeaaGreatDoor
open Go Go.Am
noncomputable abbrev bvXo (g : Nat → Value) : AObj := .loop .exhausted none (bvA g) #[14] bvAs bvBd (Tryz.prog.globals.size + 8)
noncomputable def bvE (c : List Value) (e row m lo hi : Nat) (x : W4) (r : List W4) (g : Nat → Value) : AHeap := (bvH c e row (m + 1) lo hi (slP 10 (r.length + 1) (r.length + 1)) (.cells (cells4 (x :: r)) 151 5 false) g).set (Tryz.prog.globals.size + 9) (bvXo g)
set_option maxRecDepth 100000 in
theorem rangeW_ok {c : List Value} {e row m k lo hi : Nat} {a : AAct} {q : Post} (O : boOk c row (m + 1) k lo hi) (hf : fval a (.tmp 13) = .func (.func 182) #[] #[ptN 6, ptN 7]) (hm : a.marks = []) (hb : bOkW a)
  (hk : ∀ x r g₂, alW c lo hi (m + 1) (m + 1) = x :: r → q .normal { n := a.n, t := a.t, marks := [Tryz.prog.globals.size + 8] } (bvE c e row m lo hi x r g₂)) : J Tryz.prog (.rangeFunc (.tmp 13) #[14] bvAs bvBd) a (bvQ c e row m lo hi) q := by
 have hn : (bvQ c e row m lo hi).n = szM + 8 := by kernel_rfl
 refine J.rangeK (fn := Tryz.f182) hf (by kernel_rfl) (by kernel_rfl) ?_
 rw [hn, hm]
 refine callK_ok (L := boK c e row m k lo hi a) mixed orcBb_ok askBb_ok (m := 10) (n := 40) (sy := syOf []) (Eq.mpr (bw_run c e row m k lo hi a _) ⟨rfl, rfl, rfl, rfl, rfl, rfl, rfl, ⟨O, hb⟩, fun _ g₂ => ?_⟩)
 obtain ⟨x, r, hxr⟩ := alW_ne (c := c) O.2.1 O.2.2.1 O.2.2.2.1
 rw [hxr]
 exact ⟨.ready, bvA g₂, #[14], bvAs, bvBd, szM + 8, by kernel_rfl, by simp, hk x r g₂ hxr⟩
noncomputable def brL (c : List Value) (e row m k lo hi : Nat) : Loops Tryz.prog where
 body := fun _ => .skip
 spec := fun _ _ _ _ => False
 ok := fun _ _ _ _ h => h.elim
 rf := fun cd a h q => cd = .rangeFunc (.tmp 13) #[14] bvAs bvBd ∧ h = bvQ c e row m lo hi ∧ boOk c row (m + 1) k lo hi ∧ fval a (.tmp 13) = .func (.func 182) #[] #[ptN 6, ptN 7] ∧ a.marks = [] ∧ a.n = 25 ∧ a.tmp 4 = ptN 2 ∧ a.tmp 5 = ptN 4 ∧ a.tmp 6 = ptN 5 ∧
  ∀ x r g₂, alW c lo hi (m + 1) (m + 1) = x :: r → q .normal { n := a.n, t := a.t, marks := [Tryz.prog.globals.size + 8] } (bvE c e row m lo hi x r g₂)
 rfok := fun cd a h q x => by
  obtain ⟨rfl, rfl, O, hf, hm, bn, b4, b5, b6, hk⟩ := x
  exact rangeW_ok O hf hm ⟨bn, b4, b5, b6⟩ hk
theorem bst_run (c : List Value) (e row m k lo hi : Nat) (K : Value → Prop) : callS Tryz.prog (exec Tryz.prog orcBb 40) (syOf [(9, 7), (24, 7)]) askBb (brL c e row m k lo hi) 60 90 #[liP (m + 1) k, .agg #[goN lo, goN hi]] (liH c e row) (fun v _ => K v) = (((List.all c (flat 3) = true ∧ True) ∧ (BsOk c row (m + 1) k ∧ noR []) ∧ Code.rangeFunc (Operand.tmp 13) #[14] bvAs bvBd = Code.rangeFunc (Operand.tmp 13) #[14] bvAs bvBd ∧ ((((((((liH c e row).push (.cells [goN lo, goN hi] 26 0 false)).push (.cells [gi 0, gi 0, gi 0, gi 0] 151 0 false)).push (AObj.map (mpE c (m + 1)) ((m + 1) + 1))).push (.cells [Value.map Option.none] 145 0 false)).set (nG1 + 4) (.cells ([] ++ ([Value.map (Option.some ((((liH c e row).push (.cells [goN lo, goN hi] 26 0 false)).push (.cells [gi 0, gi 0, gi 0, gi 0] 151 0 false)).n))] ++ [])) 145 0 false)).push (.cells [nilS] 209 0 false)).push (.cells [goN (m + 1)] 3 0 false)).push (.cells [goN lo, goN hi] 26 0 false) = bvQ c e row m lo hi ∧ boOk c row (m + 1) k lo hi ∧ Value.func (.func 182) #[] #[Value.pointer (Option.some (Addr.mk ((((((((liH c e row).push (.cells [goN lo, goN hi] 26 0 false)).push (.cells [gi 0, gi 0, gi 0, gi 0] 151 0 false)).push (AObj.map (mpE c (m + 1)) ((m + 1) + 1))).push (.cells [Value.map Option.none] 145 0 false)).set (nG1 + 4) (.cells ([] ++ ([Value.map (Option.some ((((liH c e row).push (.cells [goN lo, goN hi] 26 0 false)).push (.cells [gi 0, gi 0, gi 0, gi 0] 151 0 false)).n))] ++ [])) 145 0 false)).push (.cells [nilS] 209 0 false)).n) 0 Option.none)), Value.pointer (Option.some (Addr.mk (((((((((liH c e row).push (.cells [goN lo, goN hi] 26 0 false)).push (.cells [gi 0, gi 0, gi 0, gi 0] 151 0 false)).push (AObj.map (mpE c (m + 1)) ((m + 1) + 1))).push (.cells [Value.map Option.none] 145 0 false)).set (nG1 + 4) (.cells ([] ++ ([Value.map (Option.some ((((liH c e row).push (.cells [goN lo, goN hi] 26 0 false)).push (.cells [gi 0, gi 0, gi 0, gi 0] 151 0 false)).n))] ++ [])) 145 0 false)).push (.cells [nilS] 209 0 false)).push (.cells [goN (m + 1)] 3 0 false)).n) 0 Option.none))] = Value.func (.func 182) #[] #[ptN 6, ptN 7] ∧ ([] : List Nat) = [] ∧ 25 = 25 ∧ Value.pointer (some ⟨nG1 + 2, 0, none⟩) = ptN 2 ∧ Value.pointer (some ⟨nG1 + 4, 0, none⟩) = ptN 4 ∧ Value.pointer (some ⟨nG1 + 5, 0, none⟩) = ptN 5 ∧ (∀ y1 : W4, (∀ y2 : List W4, (∀ _ : Nat → Value, (alW c lo hi (m + 1) (m + 1) = (y1 :: y2) → ((List.all (cells4 (y1 :: y2)) (flat 3) = true ∧ True) ∧ okT t4T (cells4 (y1 :: y2)) (List.length y2 + 1) ∧ oneC cWc (TellT.dec t4T (cells4 (y1 :: y2))) [Value.func (.func 157) #[] #[]] ∧ K (Value.agg (Array.mk (List.take 4 (List.drop 0 (splice (w4 z4) 0 [gi (((mxG4 (t4T.dec (cells4 (y1 :: y2)))).1)), gi (((mxG4 (t4T.dec (cells4 (y1 :: y2)))).snd.1)), gi (((mxG4 (t4T.dec (cells4 (y1 :: y2)))).snd.snd.1)), gi (((mxG4 (t4T.dec (cells4 (y1 :: y2)))).snd.snd.2))])))))))))))) := by kernel_rfl
end Go.Proofs.YtihnnmejkpddeaaGreatDoor
