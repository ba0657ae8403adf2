/-
  OWN WORK. The seal of bytes, by the program and by the reference.
-/
import Derived.Test.YtphhcoiclkfimaaGreatDoorSmB
import Derived.Test.YtphhcoiclkfimaaGreatDoorAm11
/-! (OWN WORK. The seal of bytes, by the program: its inner loop.) -/
namespace Go.Proofs.YtphhcoiclkfimaaGreatDoor
open Go Go.Am

noncomputable def askSl : Asks := noAsks
theorem askSl_ok : AsksOk orcSm askSl := noAsks_ok _
noncomputable abbrev gb (x : Int) : Value := .int .u8 x
theorem flat_bytes (l : List Int) : (l.map gb).all (flat 3) = true := by
  rw [List.all_eq_true]
  intro y hy
  obtain ⟨z, _, rfl⟩ := List.mem_map.1 hy
  rfl
theorem byte_at {l : List Int} {j : Nat} (h : j < l.length) : (l.map gb)[0 + j * 1]? = some (gb (intAt (l.map gb) (0 + j * 1))) ∧ intAt (l.map gb) (0 + j * 1) = l[j] := by
  have h1 : (l.map gb)[0 + j * 1]? = some (gb l[j]) := by rw [Nat.mul_one, Nat.zero_add, List.getElem?_map, List.getElem?_eq_getElem h]; rfl
  have h2 : intAt (l.map gb) (0 + j * 1) = l[j] := by unfold intAt; rw [h1]
  exact ⟨by rw [h2]; exact h1, h2⟩
noncomputable abbrev SH (c : List Value) (e row : Nat) (kc zc : List Value) : AHeap := canonT [] (fun _ => 0) Tryz.prog.globals.size [(c, e, row, true), (kc, 47, 0, false), (zc, 47, 0, false)]
noncomputable abbrev pt1 : Value := .pointer (some ⟨Tryz.prog.globals.size + 1, 0, none⟩)
noncomputable abbrev pt2 : Value := .pointer (some ⟨Tryz.prog.globals.size + 2, 0, none⟩)
theorem si_body (c kc zc : List Value) (n k e row i j : Nat) (A B x : Int) (g : Nat → Value) (Q : Exit → List Value → AHeap → Prop) : execC Tryz.prog (exec Tryz.prog orcSm 10) (syOf [(28, 1), (29, 2), (30, 3)]) askSl (noLoops _) 40 (loopOf Tryz.prog 69 2) (stOf 44 [(1, liP n k), (2, pt1), (4, pt2), (5, goN i), (6, gb A), (7, gb B), (8, gb x), (11, goN i), (25, liP n k), (26, goN n), (27, goN j)] g) (SH c e row kc zc) (told 44 [1, 2, 4, 5, 6, 7, 8, 11, 25, 26, 27] Q) = (((Nat.blt j n = true → (Nat.blt j n = true ∧ c[(0 + (j * 1))]? = Option.some (Value.int .u8 (intAt c (0 + (j * 1)))) ∧ Q .normal [liP n k, pt1, pt2, goN i, gb A, gb B, Value.int .u8 (fwrap IntKind.u8 (fwrap IntKind.u8 (fwrap IntKind.u8 (A * x) + intAt c (0 + (j * 1))) + B)), goN i, liP n k, goN n, gi (fwrap IntKind.i64 (Int.ofNat (j + 1)))] (SH c e row kc zc))) ∧ (Nat.blt j n = false → Q (.exit 2) [liP n k, pt1, pt2, goN i, gb A, gb B, gb x, goN i, liP n k, goN n, goN j] (SH c e row kc zc)))) := by kernel_rfl
noncomputable def slS (A B x b : Int) : Int := fwrap IntKind.u8 (fwrap IntKind.u8 (fwrap IntKind.u8 (A * x) + b) + B)
/-- A byte of a seal, after bytes. -/
noncomputable def slF (A B : Int) : Int → List Int → Int
  | x, [] => x
  | x, b :: l => slF A B (slS A B x b) l
theorem slF_drop {A B x : Int} {l : List Int} {j : Nat} (hj : j < l.length) : slF A B x (l.drop j) = slF A B (slS A B x l[j]) (l.drop (j + 1)) := by
  rw [List.drop_eq_getElem_cons hj]; rfl
set_option maxRecDepth 100000 in
theorem si_loop (l : List Int) (kc zc : List Value) (n k e row i : Nat) (A B x : Int) (hn : n ≤ l.length) (hl : n ≤ 1000000) : ∀ a : AAct, a.n = 44 → a.marks = [] → [1, 2, 4, 5, 6, 7, 8, 11, 25, 26, 27].map a.tmp = [liP n k, pt1, pt2, goN i, gb A, gb B, gb x, goN i, liP n k, goN n, goN 0] →
    J Tryz.prog (.loop (loopOf Tryz.prog 69 2)) a (SH (l.map gb) e row kc zc) (told 44 [1, 2, 4, 5, 6, 7, 8, 11, 25, 26, 27] fun ex vs h => ex = .exit 2 ∧ h = SH (l.map gb) e row kc zc ∧ vs = [liP n k, pt1, pt2, goN i, gb A, gb B, gb (slF A B x (l.take n)), goN i, liP n k, goN n, goN n]) := by
  intro a hn' hm hv
  refine loop_rule (fun m vs h => ∃ j y, j ≤ n ∧ m = n - j ∧ vs = [liP n k, pt1, pt2, goN i, gb A, gb B, gb y, goN i, liP n k, goN n, goN j] ∧ h = SH (l.map gb) e row kc zc ∧ slF A B x (l.take n) = slF A B y ((l.take n).drop j)) _ ?_ n _ _ a ⟨0, x, Nat.zero_le _, rfl, rfl, rfl, rfl⟩ hn' hm hv
  rintro m vs h g ⟨j, y, hj, rfl, rfl, rfl, hf⟩
  refine execC_ok mixed orcSm_ok askSl_ok (noLoops _) (Eq.mpr (si_body _ kc zc n k e row i j A B y g _) ⟨fun hlt => ?_, fun hge => ?_⟩)
  · have hj' := blt_true hlt
    have hjl : j < l.length := by omega
    obtain ⟨h1, h2⟩ := byte_at hjl
    have hd := slF_drop (A := A) (B := B) (x := y) (l := l.take n) (j := j) (by rw [List.length_take]; omega)
    rw [List.getElem_take] at hd
    rw [h2]
    refine ⟨hlt, h2 ▸ h1, n - (j + 1), by omega, j + 1, slS A B y l[j], hj', rfl, ?_, rfl, by rw [hf, hd]⟩
    rw [fwrap_nat (by omega)]; rfl
  · have hge := blt_false hge
    obtain rfl : j = n := by omega
    refine ⟨rfl, rfl, ?_⟩
    rw [hf, List.drop_eq_nil_of_le (by rw [List.length_take]; omega)]; rfl
noncomputable def siLoops (l : List Int) (kc zc : List Value) (n k e row i : Nat) (A B x : Int) : Loops Tryz.prog where
  body := fun _ => loopOf Tryz.prog 69 2
  spec := fun _ a h c => entry a 44 [(1, liP n k), (2, pt1), (4, pt2), (5, goN i), (6, gb A), (7, gb B), (8, gb x), (11, goN i), (25, liP n k), (26, goN n), (27, goN 0)] (h = SH (l.map gb) e row kc zc ∧ (n ≤ l.length ∧ n ≤ 1000000) ∧
    ∀ g, c (.exit 2) (stOf 44 [(1, liP n k), (2, pt1), (4, pt2), (5, goN i), (8, gb (slF A B x (l.take n))), (11, goN i)] g) (SH (l.map gb) e row kc zc))
  ok := fun i' a h c q => by
    obtain ⟨h1, h2, h3, rfl, ⟨hs1, hs2⟩, h4⟩ := entry_facts q
    refine J.of_told (si_loop l kc zc n k e row i A B x hs1 hs2 a h1 h2 ?_) ?_
    · simp only [List.map_cons, List.map_nil]
      rw [h3 (1, liP n k) (by simp), h3 (2, pt1) (by simp), h3 (4, pt2) (by simp), h3 (5, goN i) (by simp), h3 (6, gb A) (by simp), h3 (7, gb B) (by simp), h3 (8, gb x) (by simp), h3 (11, goN i) (by simp), h3 (25, liP n k) (by simp), h3 (26, goN n) (by simp), h3 (27, goN 0) (by simp)]
    · rintro ex vs h' g ⟨rfl, rfl, rfl⟩
      refine cast ?_ (h4 (ov [(6, gb A), (7, gb B), (25, liP n k), (26, goN n), (27, goN n)] g))
      congr 1
theorem sl_end (l : List Int) (kc : List Value) (n k e row : Nat) (g : Nat → Value) (Q : Exit → List Value → AHeap → Prop) : execC Tryz.prog (exec Tryz.prog orcSm 10) (syOf []) askSl (noLoops _) 40 (loopOf Tryz.prog 69 0) (stOf 44 [(1, liP n k), (2, pt1), (4, pt2), (11, goN 8)] g) (SH (l.map gb) e row kc (List.replicate 8 (gb 0))) (told 44 [1, 2, 4, 11] Q) = (Q (.exit 0) [liP n k, pt1, pt2, goN 8] (SH (List.map gb l) e row kc (List.replicate 8 (gb 0)))) := by kernel_rfl
theorem sl_body0 (l : List Int) (n k e row : Nat) (x0 x1 x2 x3 x4 x5 x6 x7 : Int) (g : Nat → Value) (Q : Exit → List Value → AHeap → Prop) : execC Tryz.prog (exec Tryz.prog orcSm 10) (syOf []) askSl (siLoops l ([x0, x1, x2, x3, x4, x5, x6, x7].map gb) (List.replicate 8 (gb 0)) n k e row 0 5 3 x0) 40 (loopOf Tryz.prog 69 0) (stOf 44 [(1, liP n k), (2, pt1), (4, pt2), (11, goN 0)] g) (SH (l.map gb) e row ([x0, x1, x2, x3, x4, x5, x6, x7].map gb) (List.replicate 8 (gb 0))) (told 44 [1, 2, 4, 11] Q) = ((loopOf Tryz.prog 69 2 = loopOf Tryz.prog 69 2 ∧ liP n k = liP n k ∧ pt1 = pt1 ∧ pt2 = pt2 ∧ goN 0 = goN 0 ∧ Value.int .u8 5 = gb 5 ∧ Value.int .u8 3 = gb 3 ∧ gb x0 = gb x0 ∧ goN 0 = goN 0 ∧ liP n k = liP n k ∧ goN n = goN n ∧ gi 0 = goN 0 ∧ SH (List.map gb l) e row [gb x0, gb x1, gb x2, gb x3, gb x4, gb x5, gb x6, gb x7] (List.replicate 8 (gb 0)) = SH (List.map gb l) e row [gb x0, gb x1, gb x2, gb x3, gb x4, gb x5, gb x6, gb x7] (List.replicate 8 (gb 0)) ∧ ((n : Nat) ≤ List.length l ∧ (n : Nat) ≤ 1000000) ∧ (∀ _ : Nat → Value, Q .normal [liP n k, pt1, pt2, gi 1] ((SH (List.map gb l) e row [gb x0, gb x1, gb x2, gb x3, gb x4, gb x5, gb x6, gb x7] (List.replicate 8 (gb 0))).set (N1 + 1) (.cells ([] ++ ([gb (slF 5 3 x0 (List.take n l))] ++ [gb x1, gb x2, gb x3, gb x4, gb x5, gb x6, gb x7])) 47 0 false))))) := by kernel_rfl
theorem sl_body1 (l : List Int) (n k e row : Nat) (x0 x1 x2 x3 x4 x5 x6 x7 : Int) (g : Nat → Value) (Q : Exit → List Value → AHeap → Prop) : execC Tryz.prog (exec Tryz.prog orcSm 10) (syOf []) askSl (siLoops l ([x0, x1, x2, x3, x4, x5, x6, x7].map gb) (List.replicate 8 (gb 0)) n k e row 1 11 10 x1) 40 (loopOf Tryz.prog 69 0) (stOf 44 [(1, liP n k), (2, pt1), (4, pt2), (11, goN 1)] g) (SH (l.map gb) e row ([x0, x1, x2, x3, x4, x5, x6, x7].map gb) (List.replicate 8 (gb 0))) (told 44 [1, 2, 4, 11] Q) = ((loopOf Tryz.prog 69 2 = loopOf Tryz.prog 69 2 ∧ liP n k = liP n k ∧ pt1 = pt1 ∧ pt2 = pt2 ∧ goN 1 = goN 1 ∧ Value.int .u8 11 = gb 11 ∧ Value.int .u8 10 = gb 10 ∧ gb x1 = gb x1 ∧ goN 1 = goN 1 ∧ liP n k = liP n k ∧ goN n = goN n ∧ gi 0 = goN 0 ∧ SH (List.map gb l) e row [gb x0, gb x1, gb x2, gb x3, gb x4, gb x5, gb x6, gb x7] (List.replicate 8 (gb 0)) = SH (List.map gb l) e row [gb x0, gb x1, gb x2, gb x3, gb x4, gb x5, gb x6, gb x7] (List.replicate 8 (gb 0)) ∧ ((n : Nat) ≤ List.length l ∧ (n : Nat) ≤ 1000000) ∧ (∀ _ : Nat → Value, Q .normal [liP n k, pt1, pt2, gi 2] ((SH (List.map gb l) e row [gb x0, gb x1, gb x2, gb x3, gb x4, gb x5, gb x6, gb x7] (List.replicate 8 (gb 0))).set (N1 + 1) (.cells ([gb x0] ++ ([gb (slF 11 10 x1 (List.take n l))] ++ [gb x2, gb x3, gb x4, gb x5, gb x6, gb x7])) 47 0 false))))) := by kernel_rfl
theorem sl_body2 (l : List Int) (n k e row : Nat) (x0 x1 x2 x3 x4 x5 x6 x7 : Int) (g : Nat → Value) (Q : Exit → List Value → AHeap → Prop) : execC Tryz.prog (exec Tryz.prog orcSm 10) (syOf []) askSl (siLoops l ([x0, x1, x2, x3, x4, x5, x6, x7].map gb) (List.replicate 8 (gb 0)) n k e row 2 17 17 x2) 40 (loopOf Tryz.prog 69 0) (stOf 44 [(1, liP n k), (2, pt1), (4, pt2), (11, goN 2)] g) (SH (l.map gb) e row ([x0, x1, x2, x3, x4, x5, x6, x7].map gb) (List.replicate 8 (gb 0))) (told 44 [1, 2, 4, 11] Q) = ((loopOf Tryz.prog 69 2 = loopOf Tryz.prog 69 2 ∧ liP n k = liP n k ∧ pt1 = pt1 ∧ pt2 = pt2 ∧ goN 2 = goN 2 ∧ Value.int .u8 17 = gb 17 ∧ Value.int .u8 17 = gb 17 ∧ gb x2 = gb x2 ∧ goN 2 = goN 2 ∧ liP n k = liP n k ∧ goN n = goN n ∧ gi 0 = goN 0 ∧ SH (List.map gb l) e row [gb x0, gb x1, gb x2, gb x3, gb x4, gb x5, gb x6, gb x7] (List.replicate 8 (gb 0)) = SH (List.map gb l) e row [gb x0, gb x1, gb x2, gb x3, gb x4, gb x5, gb x6, gb x7] (List.replicate 8 (gb 0)) ∧ ((n : Nat) ≤ List.length l ∧ (n : Nat) ≤ 1000000) ∧ (∀ _ : Nat → Value, Q .normal [liP n k, pt1, pt2, gi 3] ((SH (List.map gb l) e row [gb x0, gb x1, gb x2, gb x3, gb x4, gb x5, gb x6, gb x7] (List.replicate 8 (gb 0))).set (N1 + 1) (.cells ([gb x0, gb x1] ++ ([gb (slF 17 17 x2 (List.take n l))] ++ [gb x3, gb x4, gb x5, gb x6, gb x7])) 47 0 false))))) := by kernel_rfl
theorem sl_body3 (l : List Int) (n k e row : Nat) (x0 x1 x2 x3 x4 x5 x6 x7 : Int) (g : Nat → Value) (Q : Exit → List Value → AHeap → Prop) : execC Tryz.prog (exec Tryz.prog orcSm 10) (syOf []) askSl (siLoops l ([x0, x1, x2, x3, x4, x5, x6, x7].map gb) (List.replicate 8 (gb 0)) n k e row 3 23 24 x3) 40 (loopOf Tryz.prog 69 0) (stOf 44 [(1, liP n k), (2, pt1), (4, pt2), (11, goN 3)] g) (SH (l.map gb) e row ([x0, x1, x2, x3, x4, x5, x6, x7].map gb) (List.replicate 8 (gb 0))) (told 44 [1, 2, 4, 11] Q) = ((loopOf Tryz.prog 69 2 = loopOf Tryz.prog 69 2 ∧ liP n k = liP n k ∧ pt1 = pt1 ∧ pt2 = pt2 ∧ goN 3 = goN 3 ∧ Value.int .u8 23 = gb 23 ∧ Value.int .u8 24 = gb 24 ∧ gb x3 = gb x3 ∧ goN 3 = goN 3 ∧ liP n k = liP n k ∧ goN n = goN n ∧ gi 0 = goN 0 ∧ SH (List.map gb l) e row [gb x0, gb x1, gb x2, gb x3, gb x4, gb x5, gb x6, gb x7] (List.replicate 8 (gb 0)) = SH (List.map gb l) e row [gb x0, gb x1, gb x2, gb x3, gb x4, gb x5, gb x6, gb x7] (List.replicate 8 (gb 0)) ∧ ((n : Nat) ≤ List.length l ∧ (n : Nat) ≤ 1000000) ∧ (∀ _ : Nat → Value, Q .normal [liP n k, pt1, pt2, gi 4] ((SH (List.map gb l) e row [gb x0, gb x1, gb x2, gb x3, gb x4, gb x5, gb x6, gb x7] (List.replicate 8 (gb 0))).set (N1 + 1) (.cells ([gb x0, gb x1, gb x2] ++ ([gb (slF 23 24 x3 (List.take n l))] ++ [gb x4, gb x5, gb x6, gb x7])) 47 0 false))))) := by kernel_rfl
theorem sl_body4 (l : List Int) (n k e row : Nat) (x0 x1 x2 x3 x4 x5 x6 x7 : Int) (g : Nat → Value) (Q : Exit → List Value → AHeap → Prop) : execC Tryz.prog (exec Tryz.prog orcSm 10) (syOf []) askSl (siLoops l ([x0, x1, x2, x3, x4, x5, x6, x7].map gb) (List.replicate 8 (gb 0)) n k e row 4 29 31 x4) 40 (loopOf Tryz.prog 69 0) (stOf 44 [(1, liP n k), (2, pt1), (4, pt2), (11, goN 4)] g) (SH (l.map gb) e row ([x0, x1, x2, x3, x4, x5, x6, x7].map gb) (List.replicate 8 (gb 0))) (told 44 [1, 2, 4, 11] Q) = ((loopOf Tryz.prog 69 2 = loopOf Tryz.prog 69 2 ∧ liP n k = liP n k ∧ pt1 = pt1 ∧ pt2 = pt2 ∧ goN 4 = goN 4 ∧ Value.int .u8 29 = gb 29 ∧ Value.int .u8 31 = gb 31 ∧ gb x4 = gb x4 ∧ goN 4 = goN 4 ∧ liP n k = liP n k ∧ goN n = goN n ∧ gi 0 = goN 0 ∧ SH (List.map gb l) e row [gb x0, gb x1, gb x2, gb x3, gb x4, gb x5, gb x6, gb x7] (List.replicate 8 (gb 0)) = SH (List.map gb l) e row [gb x0, gb x1, gb x2, gb x3, gb x4, gb x5, gb x6, gb x7] (List.replicate 8 (gb 0)) ∧ ((n : Nat) ≤ List.length l ∧ (n : Nat) ≤ 1000000) ∧ (∀ _ : Nat → Value, Q .normal [liP n k, pt1, pt2, gi 5] ((SH (List.map gb l) e row [gb x0, gb x1, gb x2, gb x3, gb x4, gb x5, gb x6, gb x7] (List.replicate 8 (gb 0))).set (N1 + 1) (.cells ([gb x0, gb x1, gb x2, gb x3] ++ ([gb (slF 29 31 x4 (List.take n l))] ++ [gb x5, gb x6, gb x7])) 47 0 false))))) := by kernel_rfl
theorem sl_body5 (l : List Int) (n k e row : Nat) (x0 x1 x2 x3 x4 x5 x6 x7 : Int) (g : Nat → Value) (Q : Exit → List Value → AHeap → Prop) : execC Tryz.prog (exec Tryz.prog orcSm 10) (syOf []) askSl (siLoops l ([x0, x1, x2, x3, x4, x5, x6, x7].map gb) (List.replicate 8 (gb 0)) n k e row 5 35 38 x5) 40 (loopOf Tryz.prog 69 0) (stOf 44 [(1, liP n k), (2, pt1), (4, pt2), (11, goN 5)] g) (SH (l.map gb) e row ([x0, x1, x2, x3, x4, x5, x6, x7].map gb) (List.replicate 8 (gb 0))) (told 44 [1, 2, 4, 11] Q) = ((loopOf Tryz.prog 69 2 = loopOf Tryz.prog 69 2 ∧ liP n k = liP n k ∧ pt1 = pt1 ∧ pt2 = pt2 ∧ goN 5 = goN 5 ∧ Value.int .u8 35 = gb 35 ∧ Value.int .u8 38 = gb 38 ∧ gb x5 = gb x5 ∧ goN 5 = goN 5 ∧ liP n k = liP n k ∧ goN n = goN n ∧ gi 0 = goN 0 ∧ SH (List.map gb l) e row [gb x0, gb x1, gb x2, gb x3, gb x4, gb x5, gb x6, gb x7] (List.replicate 8 (gb 0)) = SH (List.map gb l) e row [gb x0, gb x1, gb x2, gb x3, gb x4, gb x5, gb x6, gb x7] (List.replicate 8 (gb 0)) ∧ ((n : Nat) ≤ List.length l ∧ (n : Nat) ≤ 1000000) ∧ (∀ _ : Nat → Value, Q .normal [liP n k, pt1, pt2, gi 6] ((SH (List.map gb l) e row [gb x0, gb x1, gb x2, gb x3, gb x4, gb x5, gb x6, gb x7] (List.replicate 8 (gb 0))).set (N1 + 1) (.cells ([gb x0, gb x1, gb x2, gb x3, gb x4] ++ ([gb (slF 35 38 x5 (List.take n l))] ++ [gb x6, gb x7])) 47 0 false))))) := by kernel_rfl
theorem sl_body6 (l : List Int) (n k e row : Nat) (x0 x1 x2 x3 x4 x5 x6 x7 : Int) (g : Nat → Value) (Q : Exit → List Value → AHeap → Prop) : execC Tryz.prog (exec Tryz.prog orcSm 10) (syOf []) askSl (siLoops l ([x0, x1, x2, x3, x4, x5, x6, x7].map gb) (List.replicate 8 (gb 0)) n k e row 6 41 45 x6) 40 (loopOf Tryz.prog 69 0) (stOf 44 [(1, liP n k), (2, pt1), (4, pt2), (11, goN 6)] g) (SH (l.map gb) e row ([x0, x1, x2, x3, x4, x5, x6, x7].map gb) (List.replicate 8 (gb 0))) (told 44 [1, 2, 4, 11] Q) = ((loopOf Tryz.prog 69 2 = loopOf Tryz.prog 69 2 ∧ liP n k = liP n k ∧ pt1 = pt1 ∧ pt2 = pt2 ∧ goN 6 = goN 6 ∧ Value.int .u8 41 = gb 41 ∧ Value.int .u8 45 = gb 45 ∧ gb x6 = gb x6 ∧ goN 6 = goN 6 ∧ liP n k = liP n k ∧ goN n = goN n ∧ gi 0 = goN 0 ∧ SH (List.map gb l) e row [gb x0, gb x1, gb x2, gb x3, gb x4, gb x5, gb x6, gb x7] (List.replicate 8 (gb 0)) = SH (List.map gb l) e row [gb x0, gb x1, gb x2, gb x3, gb x4, gb x5, gb x6, gb x7] (List.replicate 8 (gb 0)) ∧ ((n : Nat) ≤ List.length l ∧ (n : Nat) ≤ 1000000) ∧ (∀ _ : Nat → Value, Q .normal [liP n k, pt1, pt2, gi 7] ((SH (List.map gb l) e row [gb x0, gb x1, gb x2, gb x3, gb x4, gb x5, gb x6, gb x7] (List.replicate 8 (gb 0))).set (N1 + 1) (.cells ([gb x0, gb x1, gb x2, gb x3, gb x4, gb x5] ++ ([gb (slF 41 45 x6 (List.take n l))] ++ [gb x7])) 47 0 false))))) := by kernel_rfl
theorem sl_body7 (l : List Int) (n k e row : Nat) (x0 x1 x2 x3 x4 x5 x6 x7 : Int) (g : Nat → Value) (Q : Exit → List Value → AHeap → Prop) : execC Tryz.prog (exec Tryz.prog orcSm 10) (syOf []) askSl (siLoops l ([x0, x1, x2, x3, x4, x5, x6, x7].map gb) (List.replicate 8 (gb 0)) n k e row 7 47 52 x7) 40 (loopOf Tryz.prog 69 0) (stOf 44 [(1, liP n k), (2, pt1), (4, pt2), (11, goN 7)] g) (SH (l.map gb) e row ([x0, x1, x2, x3, x4, x5, x6, x7].map gb) (List.replicate 8 (gb 0))) (told 44 [1, 2, 4, 11] Q) = ((loopOf Tryz.prog 69 2 = loopOf Tryz.prog 69 2 ∧ liP n k = liP n k ∧ pt1 = pt1 ∧ pt2 = pt2 ∧ goN 7 = goN 7 ∧ Value.int .u8 47 = gb 47 ∧ Value.int .u8 52 = gb 52 ∧ gb x7 = gb x7 ∧ goN 7 = goN 7 ∧ liP n k = liP n k ∧ goN n = goN n ∧ gi 0 = goN 0 ∧ SH (List.map gb l) e row [gb x0, gb x1, gb x2, gb x3, gb x4, gb x5, gb x6, gb x7] (List.replicate 8 (gb 0)) = SH (List.map gb l) e row [gb x0, gb x1, gb x2, gb x3, gb x4, gb x5, gb x6, gb x7] (List.replicate 8 (gb 0)) ∧ ((n : Nat) ≤ List.length l ∧ (n : Nat) ≤ 1000000) ∧ (∀ _ : Nat → Value, Q .normal [liP n k, pt1, pt2, gi 8] ((SH (List.map gb l) e row [gb x0, gb x1, gb x2, gb x3, gb x4, gb x5, gb x6, gb x7] (List.replicate 8 (gb 0))).set (N1 + 1) (.cells ([gb x0, gb x1, gb x2, gb x3, gb x4, gb x5, gb x6] ++ ([gb (slF 47 52 x7 (List.take n l))] ++ [])) 47 0 false))))) := by kernel_rfl
end Go.Proofs.YtphhcoiclkfimaaGreatDoor
/-! (OWN WORK. The seal of bytes, by the program: its outer loop.) -/
namespace Go.Proofs.YtphhcoiclkfimaaGreatDoor
open Go Go.Am

/-- The bytes of a key of which the first j are those of the seal. -/
noncomputable def slP (l : List Int) (j : Nat) : Nat → List Int → List Int
  | _, [] => []
  | i, x :: ks => (match Nat.blt i j with
    | true => slF (Int.ofNat (6 * i + 5)) (Int.ofNat (7 * i + 3)) x l
    | false => x) :: slP l j (i + 1) ks
noncomputable abbrev z8 : List Value := List.replicate 8 (gb 0)
theorem SH_get0 (c : List Value) (e row : Nat) (kc zc : List Value) : (SH c e row kc zc).get N1 = some (.cells c e row true) := by
  rw [canonT_get (T := []) rfl, if_pos (Nat.le_refl _), Nat.sub_self]; rfl
theorem SH_get1 (c : List Value) (e row : Nat) (kc zc : List Value) : (SH c e row kc zc).get (N1 + 1) = some (.cells kc 47 0 false) := by
  rw [canonT_get (T := []) rfl, if_pos (Nat.le_succ _), show N1 + 1 - Tryz.prog.globals.size = 1 by unfold N1; omega]; rfl
theorem SH_get2 (c : List Value) (e row : Nat) (kc zc : List Value) : (SH c e row kc zc).get (N1 + 2) = some (.cells zc 47 0 false) := by
  rw [canonT_get (T := []) rfl, if_pos (by unfold N1; omega), show N1 + 2 - Tryz.prog.globals.size = 2 by unfold N1; omega]; rfl
set_option maxRecDepth 100000 in
theorem sl_loop (l : List Int) (n e row k : Nat) (x0 x1 x2 x3 x4 x5 x6 x7 : Int) (hn : n ≤ l.length) (hl : n ≤ 1000000) (h₀ : AHeap) (hs : h₀.get N1 = some (.cells (l.map gb) e row true)) (hk : h₀.get (N1 + 1) = some (.cells ([x0, x1, x2, x3, x4, x5, x6, x7].map gb) 47 0 false)) (hz : h₀.get (N1 + 2) = some (.cells z8 47 0 false)) : ∀ a : AAct, a.n = 44 → a.marks = [] → [1, 2, 4, 11].map a.tmp = [liP n k, pt1, pt2, goN 0] →
    J Tryz.prog (.loop (loopOf Tryz.prog 69 0)) a h₀ (told 44 [1, 2, 4, 11] fun ex vs h => ex = .exit 0 ∧ vs = [liP n k, pt1, pt2, goN 8] ∧ h.get (N1 + 1) = some (.cells ((slP (l.take n) 8 0 [x0, x1, x2, x3, x4, x5, x6, x7]).map gb) 47 0 false) ∧ h.get (N1 + 2) = some (.cells z8 47 0 false)) := by
  intro a ha hm hv
  refine loop_rule (fun m vs h => ∃ j, j ≤ 8 ∧ m = 8 - j ∧ vs = [liP n k, pt1, pt2, goN j] ∧ h.get N1 = some (.cells (l.map gb) e row true) ∧ h.get (N1 + 1) = some (.cells ((slP (l.take n) j 0 [x0, x1, x2, x3, x4, x5, x6, x7]).map gb) 47 0 false) ∧ h.get (N1 + 2) = some (.cells z8 47 0 false)) _ ?_ 8 _ _ a ⟨0, by omega, rfl, rfl, hs, hk, hz⟩ ha hm hv
  rintro m vs h g ⟨j, hj, rfl, rfl, hs, hk, hz⟩
  refine J.reheap (es := fun _ => 0) (vs₂ := [liP n k, pt1, pt2, goN j]) (B := [(l.map gb, e, row, true), ((slP (l.take n) j 0 [x0, x1, x2, x3, x4, x5, x6, x7]).map gb, 47, 0, false), (z8, 47, 0, false)]) (ids := [N1, N1 + 1, N1 + 2]) globs_pos (by decide) (by decide) rfl (by simp) (by simp) ?_ (by kernel_rfl) ?_ fun g' => ?_
  · intro q b i hb hi
    match q, hb, hi with
    | 0, hb, hi => cases hb; cases hi; exact ⟨hs, flat_bytes l⟩
    | 1, hb, hi => cases hb; cases hi; exact ⟨hk, flat_bytes _⟩
    | 2, hb, hi => cases hb; cases hi; exact ⟨hz, rfl⟩
  · intro i hi
    simp only [List.mem_cons, List.not_mem_nil, or_false] at hi
    rcases hi with rfl | rfl | rfl
    · exact ⟨(1, liP n k), by simp, by simp [named]⟩
    · exact ⟨(2, pt1), by simp, by simp [named]⟩
    · exact ⟨(4, pt2), by simp, by simp [named]⟩
  · match j, hj with
    | 0, _ =>
      refine execC_ok mixed orcSm_ok askSl_ok (siLoops l ([x0, x1, x2, x3, x4, x5, x6, x7].map gb) z8 n k e row 0 5 3 x0) (Eq.mpr (sl_body0 l n k e row x0 x1 x2 x3 x4 x5 x6 x7 g' _) ⟨rfl, rfl, rfl, rfl, rfl, rfl, rfl, rfl, rfl, rfl, rfl, rfl, rfl, ⟨hn, hl⟩, fun _ => ⟨8 - 1, by omega, 1, by omega, rfl, rfl, ?_, ?_, ?_⟩⟩)
      · rw [AHeap.get_set_neB (by kernel_rfl)]; exact SH_get0 _ _ _ _ _
      · rw [AHeap.get_set_eqB (by kernel_rfl)]; rfl
      · rw [AHeap.get_set_neB (by kernel_rfl)]; exact SH_get2 _ _ _ _ _
    | 1, _ =>
      refine execC_ok mixed orcSm_ok askSl_ok (siLoops l ([slF 5 3 x0 (l.take n), x1, x2, x3, x4, x5, x6, x7].map gb) z8 n k e row 1 11 10 x1) (Eq.mpr (sl_body1 l n k e row (slF 5 3 x0 (l.take n)) x1 x2 x3 x4 x5 x6 x7 g' _) ⟨rfl, rfl, rfl, rfl, rfl, rfl, rfl, rfl, rfl, rfl, rfl, rfl, rfl, ⟨hn, hl⟩, fun _ => ⟨8 - 2, by omega, 2, by omega, rfl, rfl, ?_, ?_, ?_⟩⟩)
      · rw [AHeap.get_set_neB (by kernel_rfl)]; exact SH_get0 _ _ _ _ _
      · rw [AHeap.get_set_eqB (by kernel_rfl)]; rfl
      · rw [AHeap.get_set_neB (by kernel_rfl)]; exact SH_get2 _ _ _ _ _
    | 2, _ =>
      refine execC_ok mixed orcSm_ok askSl_ok (siLoops l ([slF 5 3 x0 (l.take n), slF 11 10 x1 (l.take n), x2, x3, x4, x5, x6, x7].map gb) z8 n k e row 2 17 17 x2) (Eq.mpr (sl_body2 l n k e row (slF 5 3 x0 (l.take n)) (slF 11 10 x1 (l.take n)) x2 x3 x4 x5 x6 x7 g' _) ⟨rfl, rfl, rfl, rfl, rfl, rfl, rfl, rfl, rfl, rfl, rfl, rfl, rfl, ⟨hn, hl⟩, fun _ => ⟨8 - 3, by omega, 3, by omega, rfl, rfl, ?_, ?_, ?_⟩⟩)
      · rw [AHeap.get_set_neB (by kernel_rfl)]; exact SH_get0 _ _ _ _ _
      · rw [AHeap.get_set_eqB (by kernel_rfl)]; rfl
      · rw [AHeap.get_set_neB (by kernel_rfl)]; exact SH_get2 _ _ _ _ _
    | 3, _ =>
      refine execC_ok mixed orcSm_ok askSl_ok (siLoops l ([slF 5 3 x0 (l.take n), slF 11 10 x1 (l.take n), slF 17 17 x2 (l.take n), x3, x4, x5, x6, x7].map gb) z8 n k e row 3 23 24 x3) (Eq.mpr (sl_body3 l n k e row (slF 5 3 x0 (l.take n)) (slF 11 10 x1 (l.take n)) (slF 17 17 x2 (l.take n)) x3 x4 x5 x6 x7 g' _) ⟨rfl, rfl, rfl, rfl, rfl, rfl, rfl, rfl, rfl, rfl, rfl, rfl, rfl, ⟨hn, hl⟩, fun _ => ⟨8 - 4, by omega, 4, by omega, rfl, rfl, ?_, ?_, ?_⟩⟩)
      · rw [AHeap.get_set_neB (by kernel_rfl)]; exact SH_get0 _ _ _ _ _
      · rw [AHeap.get_set_eqB (by kernel_rfl)]; rfl
      · rw [AHeap.get_set_neB (by kernel_rfl)]; exact SH_get2 _ _ _ _ _
    | 4, _ =>
      refine execC_ok mixed orcSm_ok askSl_ok (siLoops l ([slF 5 3 x0 (l.take n), slF 11 10 x1 (l.take n), slF 17 17 x2 (l.take n), slF 23 24 x3 (l.take n), x4, x5, x6, x7].map gb) z8 n k e row 4 29 31 x4) (Eq.mpr (sl_body4 l n k e row (slF 5 3 x0 (l.take n)) (slF 11 10 x1 (l.take n)) (slF 17 17 x2 (l.take n)) (slF 23 24 x3 (l.take n)) x4 x5 x6 x7 g' _) ⟨rfl, rfl, rfl, rfl, rfl, rfl, rfl, rfl, rfl, rfl, rfl, rfl, rfl, ⟨hn, hl⟩, fun _ => ⟨8 - 5, by omega, 5, by omega, rfl, rfl, ?_, ?_, ?_⟩⟩)
      · rw [AHeap.get_set_neB (by kernel_rfl)]; exact SH_get0 _ _ _ _ _
      · rw [AHeap.get_set_eqB (by kernel_rfl)]; rfl
      · rw [AHeap.get_set_neB (by kernel_rfl)]; exact SH_get2 _ _ _ _ _
    | 5, _ =>
      refine execC_ok mixed orcSm_ok askSl_ok (siLoops l ([slF 5 3 x0 (l.take n), slF 11 10 x1 (l.take n), slF 17 17 x2 (l.take n), slF 23 24 x3 (l.take n), slF 29 31 x4 (l.take n), x5, x6, x7].map gb) z8 n k e row 5 35 38 x5) (Eq.mpr (sl_body5 l n k e row (slF 5 3 x0 (l.take n)) (slF 11 10 x1 (l.take n)) (slF 17 17 x2 (l.take n)) (slF 23 24 x3 (l.take n)) (slF 29 31 x4 (l.take n)) x5 x6 x7 g' _) ⟨rfl, rfl, rfl, rfl, rfl, rfl, rfl, rfl, rfl, rfl, rfl, rfl, rfl, ⟨hn, hl⟩, fun _ => ⟨8 - 6, by omega, 6, by omega, rfl, rfl, ?_, ?_, ?_⟩⟩)
      · rw [AHeap.get_set_neB (by kernel_rfl)]; exact SH_get0 _ _ _ _ _
      · rw [AHeap.get_set_eqB (by kernel_rfl)]; rfl
      · rw [AHeap.get_set_neB (by kernel_rfl)]; exact SH_get2 _ _ _ _ _
    | 6, _ =>
      refine execC_ok mixed orcSm_ok askSl_ok (siLoops l ([slF 5 3 x0 (l.take n), slF 11 10 x1 (l.take n), slF 17 17 x2 (l.take n), slF 23 24 x3 (l.take n), slF 29 31 x4 (l.take n), slF 35 38 x5 (l.take n), x6, x7].map gb) z8 n k e row 6 41 45 x6) (Eq.mpr (sl_body6 l n k e row (slF 5 3 x0 (l.take n)) (slF 11 10 x1 (l.take n)) (slF 17 17 x2 (l.take n)) (slF 23 24 x3 (l.take n)) (slF 29 31 x4 (l.take n)) (slF 35 38 x5 (l.take n)) x6 x7 g' _) ⟨rfl, rfl, rfl, rfl, rfl, rfl, rfl, rfl, rfl, rfl, rfl, rfl, rfl, ⟨hn, hl⟩, fun _ => ⟨8 - 7, by omega, 7, by omega, rfl, rfl, ?_, ?_, ?_⟩⟩)
      · rw [AHeap.get_set_neB (by kernel_rfl)]; exact SH_get0 _ _ _ _ _
      · rw [AHeap.get_set_eqB (by kernel_rfl)]; rfl
      · rw [AHeap.get_set_neB (by kernel_rfl)]; exact SH_get2 _ _ _ _ _
    | 7, _ =>
      refine execC_ok mixed orcSm_ok askSl_ok (siLoops l ([slF 5 3 x0 (l.take n), slF 11 10 x1 (l.take n), slF 17 17 x2 (l.take n), slF 23 24 x3 (l.take n), slF 29 31 x4 (l.take n), slF 35 38 x5 (l.take n), slF 41 45 x6 (l.take n), x7].map gb) z8 n k e row 7 47 52 x7) (Eq.mpr (sl_body7 l n k e row (slF 5 3 x0 (l.take n)) (slF 11 10 x1 (l.take n)) (slF 17 17 x2 (l.take n)) (slF 23 24 x3 (l.take n)) (slF 29 31 x4 (l.take n)) (slF 35 38 x5 (l.take n)) (slF 41 45 x6 (l.take n)) x7 g' _) ⟨rfl, rfl, rfl, rfl, rfl, rfl, rfl, rfl, rfl, rfl, rfl, rfl, rfl, ⟨hn, hl⟩, fun _ => ⟨8 - 8, by omega, 8, by omega, rfl, rfl, ?_, ?_, ?_⟩⟩)
      · rw [AHeap.get_set_neB (by kernel_rfl)]; exact SH_get0 _ _ _ _ _
      · rw [AHeap.get_set_eqB (by kernel_rfl)]; rfl
      · rw [AHeap.get_set_neB (by kernel_rfl)]; exact SH_get2 _ _ _ _ _
    | 8, _ => exact execC_ok mixed orcSm_ok askSl_ok (noLoops _) (Eq.mpr (sl_end l _ n k e row g' _) ⟨rfl, rfl, SH_get1 _ _ _ _ _, SH_get2 _ _ _ _ _⟩)
end Go.Proofs.YtphhcoiclkfimaaGreatDoor
/-! (OWN WORK. The seal of bytes, by the program: known for all bytes that lie in a block.) -/
namespace Go.Proofs.YtphhcoiclkfimaaGreatDoor
open Go Go.Am

noncomputable abbrev qt0 : Value := .pointer (some ⟨Tryz.prog.globals.size, 0, none⟩)
noncomputable abbrev KH (t : Nat) (kc zc : List Value) : AHeap := canonT [] (fun _ => 0) Tryz.prog.globals.size [(kc, t, 0, false), (zc, t, 0, false)]
noncomputable def slK (l : List Int) (x0 x1 x2 x3 x4 x5 x6 x7 : Int) : List Int := [slF 5 3 x0 l, slF 11 10 x1 l, slF 17 17 x2 l, slF 23 24 x3 l, slF 29 31 x4 l, slF 35 38 x5 l, slF 41 45 x6 l, slF 47 52 x7 l]
set_option maxRecDepth 100000 in
noncomputable def slLoops (l : List Int) (n e row k : Nat) (x0 x1 x2 x3 x4 x5 x6 x7 : Int) : Loops Tryz.prog where
  body := fun _ => loopOf Tryz.prog 69 0
  spec := fun _ a h c => entry a 44 [(1, liP n k), (2, pt1), (4, pt2), (11, goN 0)] (h.get N1 = some (.cells (l.map gb) e row true) ∧ h.get (N1 + 1) = some (.cells ([x0, x1, x2, x3, x4, x5, x6, x7].map gb) 47 0 false) ∧ h.get (N1 + 2) = some (.cells z8 47 0 false) ∧ (n ≤ l.length ∧ n ≤ 1000000) ∧
    ∀ g y0 y1 y2 y3 y4 y5 y6 y7, [y0, y1, y2, y3, y4, y5, y6, y7] = slK (l.take n) x0 x1 x2 x3 x4 x5 x6 x7 → c (.exit 0) (stOf 44 [(2, qt0), (4, pt1)] g) (KH 47 [gb y0, gb y1, gb y2, gb y3, gb y4, gb y5, gb y6, gb y7] z8))
  ok := fun i' a h c q => by
    obtain ⟨h1, h2, h3, g0, g1, g2, ⟨hs1, hs2⟩, h4⟩ := entry_facts q
    refine J.of_toldR globs_pos (sl_loop l n e row k x0 x1 x2 x3 x4 x5 x6 x7 hs1 hs2 h g0 g1 g2 a h1 h2 ?_) ?_
    · simp only [List.map_cons, List.map_nil]
      rw [h3 (1, liP n k) (by simp), h3 (2, pt1) (by simp), h3 (4, pt2) (by simp), h3 (11, goN 0) (by simp)]
    · rintro ex vs h' ⟨rfl, rfl, k1, k2⟩
      refine ⟨[2, 4], [pt1, pt2], [qt0, pt1], [((slK (l.take n) x0 x1 x2 x3 x4 x5 x6 x7).map gb, 47, 0, false), (z8, 47, 0, false)], [N1 + 1, N1 + 2], by simp, rfl, by simp, by simp, ?_, by kernel_rfl, ?_, fun g => h4 g _ _ _ _ _ _ _ _ rfl⟩
      · intro q b' i hb hi
        match q, hb, hi with
        | 0, hb, hi => cases hb; cases hi; exact ⟨k1, flat_bytes _⟩
        | 1, hb, hi => cases hb; cases hi; exact ⟨k2, rfl⟩
      · intro i hi
        simp only [List.mem_cons, List.not_mem_nil, or_false] at hi
        rcases hi with rfl | rfl
        · exact ⟨(2, pt1), by simp, by simp [named]⟩
        · exact ⟨(4, pt2), by simp, by simp [named]⟩
theorem sealed_run (l : List Int) (n k e row : Nat) (x0 x1 x2 x3 x4 x5 x6 x7 : Int) (K : Value → Prop) : callC Tryz.prog (exec Tryz.prog orcSm 10) (syOf []) askSl (slLoops l n e row k x0 x1 x2 x3 x4 x5 x6 x7) 40 69 #[.agg #[gb x0, gb x1, gb x2, gb x3, gb x4, gb x5, gb x6, gb x7], liP n k] (liH (l.map gb) e row) (fun v _ => K v) = ((loopOf Tryz.prog 69 0 = loopOf Tryz.prog 69 0 ∧ liP n k = liP n k ∧ Value.pointer (some ⟨N1 + 1, 0, none⟩) = pt1 ∧ Value.pointer (some ⟨N1 + 2, 0, none⟩) = pt2 ∧ gi 0 = goN 0 ∧ (((liH (List.map gb l) e row).push (.cells [gb x0, gb x1, gb x2, gb x3, gb x4, gb x5, gb x6, gb x7] 47 0 false)).push (.cells [Value.int .u8 0, Value.int .u8 0, Value.int .u8 0, Value.int .u8 0, Value.int .u8 0, Value.int .u8 0, Value.int .u8 0, Value.int .u8 0] 47 0 false)).get (N1) = Option.some (.cells (List.map gb l) e row true) ∧ (((liH (List.map gb l) e row).push (.cells [gb x0, gb x1, gb x2, gb x3, gb x4, gb x5, gb x6, gb x7] 47 0 false)).push (.cells [Value.int .u8 0, Value.int .u8 0, Value.int .u8 0, Value.int .u8 0, Value.int .u8 0, Value.int .u8 0, Value.int .u8 0, Value.int .u8 0] 47 0 false)).get (N1 + 1) = Option.some (.cells [gb x0, gb x1, gb x2, gb x3, gb x4, gb x5, gb x6, gb x7] 47 0 false) ∧ (((liH (List.map gb l) e row).push (.cells [gb x0, gb x1, gb x2, gb x3, gb x4, gb x5, gb x6, gb x7] 47 0 false)).push (.cells [Value.int .u8 0, Value.int .u8 0, Value.int .u8 0, Value.int .u8 0, Value.int .u8 0, Value.int .u8 0, Value.int .u8 0, Value.int .u8 0] 47 0 false)).get (N1 + 2) = Option.some (.cells z8 47 0 false) ∧ ((n : Nat) ≤ List.length l ∧ (n : Nat) ≤ 1000000) ∧ (∀ _ : Nat → Value, (∀ y2 : Int, (∀ y3 : Int, (∀ y4 : Int, (∀ y5 : Int, (∀ y6 : Int, (∀ y7 : Int, (∀ y8 : Int, (∀ y9 : Int, ([y2, y3, y4, y5, y6, y7, y8, y9] = slK (List.take n l) x0 x1 x2 x3 x4 x5 x6 x7 → K (Value.agg (Array.mk (List.take 8 (List.drop 0 (splice z8 0 [gb y2, gb y3, gb y4, gb y5, gb y6, gb y7, gb y8, gb y9]))))))))))))))))) := by kernel_rfl
end Go.Proofs.YtphhcoiclkfimaaGreatDoor
/-! (OWN WORK. The seal of bytes, by the reference: its loops.) -/
namespace Go.Proofs.YtphhcoiclkfimaaGreatDoor
open Go Go.Am

noncomputable abbrev pt3 : Value := .pointer (some ⟨Tryz.prog.globals.size + 3, 0, none⟩)
noncomputable abbrev SG (c : List Value) (e row : Nat) (kc zc oc : List Value) : AHeap := canonT [] (fun _ => 0) Tryz.prog.globals.size [(c, e, row, true), (kc, 47, 0, false), (zc, 47, 0, false), (oc, 47, 0, false)]
theorem sj_body (c kc zc oc : List Value) (n k e row i j : Nat) (x : Int) (g : Nat → Value) (Q : Exit → List Value → AHeap → Prop) : execC Tryz.prog (exec Tryz.prog orcSm 10) (syOf [(21, 1), (25, 33), (26, 33), (28, 33), (31, 2), (32, 3), (34, 33), (36, 33), (37, 33), (38, 33), (39, 6)]) askSl (noLoops _) 40 (loopOf Tryz.prog 29 2) (stOf 45 [(1, liP n k), (2, pt1), (4, pt2), (5, pt3), (6, goN i), (7, gi x), (8, goN j)] g) (SG c e row kc zc oc) (told 45 [1, 2, 4, 5, 6, 7, 8] Q) = (((Nat.blt j n = true → (inI64 (6 * Int.ofNat i) = true ∧ inI64 ((6 * Int.ofNat i) + 5) = true ∧ inI64 (((6 * Int.ofNat i) + 5) * x) = true ∧ Nat.blt j n = true ∧ c[(0 + (j * 1))]? = Option.some (Value.int .u8 (intAt c (0 + (j * 1)))) ∧ inI64 ((((6 * Int.ofNat i) + 5) * x) + fwrap IntKind.i64 (intAt c (0 + (j * 1)))) = true ∧ inI64 (7 * Int.ofNat i) = true ∧ inI64 (((((6 * Int.ofNat i) + 5) * x) + fwrap IntKind.i64 (intAt c (0 + (j * 1)))) + (7 * Int.ofNat i)) = true ∧ inI64 ((((((6 * Int.ofNat i) + 5) * x) + fwrap IntKind.i64 (intAt c (0 + (j * 1)))) + (7 * Int.ofNat i)) + 3) = true ∧ ((256 : Int) = 0 → False) ∧ Q .normal [liP n k, pt1, pt2, pt3, goN i, gi (Int.tmod ((((((6 * Int.ofNat i) + 5) * x) + fwrap IntKind.i64 (intAt c (0 + (j * 1)))) + (7 * Int.ofNat i)) + 3) 256), gi (fwrap IntKind.i64 (Int.ofNat (j + 1)))] (SG c e row kc zc oc))) ∧ (Nat.blt j n = false → Q (.exit 2) [liP n k, pt1, pt2, pt3, goN i, gi x, goN j] (SG c e row kc zc oc)))) := by kernel_rfl
def inB (x : Int) : Prop := 0 ≤ x ∧ x ≤ 255
theorem u8_mod (n : Int) : fwrap IntKind.u8 n = n % 256 := by
  rw [fwrap_eq]
  simp [IntKind.wrap, IntKind.bits, IntKind.signed]
theorem u8_in (n : Int) : inB (fwrap IntKind.u8 n) := by
  rw [u8_mod]
  unfold inB
  omega
theorem u8_self {n : Int} (h : inB n) : fwrap IntKind.u8 n = n := by
  rw [u8_mod]
  unfold inB at h
  omega
theorem i64_self {n : Int} (h : inB n) : fwrap IntKind.i64 n = n := fwrap_small (by unfold inB at h; omega) (by unfold inB at h; omega)
theorem slS_in (A B x b : Int) : inB (slS A B x b) := u8_in _
theorem slF_in {A B : Int} : ∀ (l : List Int) (x : Int), inB x → inB (slF A B x l)
  | [], _, h => h
  | b :: l, x, _ => slF_in l (slS A B x b) (slS_in _ _ _ _)
theorem slS_mod (A B x b : Int) : slS A B x b = (A * x + b + B) % 256 := by
  unfold slS
  rw [u8_mod, u8_mod, u8_mod]
  omega
theorem sj_step {i : Nat} {x b : Int} (hi : i ≤ 7) (hx : inB x) (hb : inB b) : (0 ≤ (6 * Int.ofNat i + 5) * x ∧ (6 * Int.ofNat i + 5) * x ≤ 11985) ∧ Int.tmod ((6 * Int.ofNat i + 5) * x + b + 7 * Int.ofNat i + 3) 256 = slS (Int.ofNat (6 * i + 5)) (Int.ofNat (7 * i + 3)) x b := by
  unfold inB at hx hb
  have e1 : Int.ofNat (6 * i + 5) = 6 * Int.ofNat i + 5 := by simp only [Int.ofNat_eq_natCast]; omega
  have e2 : Int.ofNat (7 * i + 3) = 7 * Int.ofNat i + 3 := by simp only [Int.ofNat_eq_natCast]; omega
  rw [slS_mod, e1, e2]
  have ha : 5 ≤ 6 * Int.ofNat i + 5 ∧ 6 * Int.ofNat i + 5 ≤ 47 := by simp only [Int.ofNat_eq_natCast]; omega
  have hi7 : 0 ≤ 7 * Int.ofNat i := by simp only [Int.ofNat_eq_natCast]; omega
  generalize 6 * Int.ofNat i + 5 = A at ha ⊢
  generalize 7 * Int.ofNat i = B at hi7 ⊢
  have p1 : 0 ≤ A * x := Int.mul_nonneg (by omega) hx.1
  have p2 : A * x ≤ 47 * 255 := Int.mul_le_mul ha.2 hx.2 hx.1 (by omega)
  refine ⟨⟨p1, by omega⟩, ?_⟩
  rw [Int.tmod_eq_emod_of_nonneg (by omega), show A * x + b + B + 3 = A * x + b + (B + 3) by omega]
set_option maxRecDepth 100000 in
theorem sj_loop (l : List Int) (kc zc oc : List Value) (n k e row i : Nat) (x : Int) (hn : n ≤ l.length) (hl : n ≤ 1000000) (hi : i ≤ 7) (hx : inB x) (hb : ∀ b ∈ l.take n, inB b) : ∀ a : AAct, a.n = 45 → a.marks = [] → [1, 2, 4, 5, 6, 7, 8].map a.tmp = [liP n k, pt1, pt2, pt3, goN i, gi x, goN 0] →
    J Tryz.prog (.loop (loopOf Tryz.prog 29 2)) a (SG (l.map gb) e row kc zc oc) (told 45 [1, 2, 4, 5, 6, 7, 8] fun ex vs h => ex = .exit 2 ∧ h = SG (l.map gb) e row kc zc oc ∧ vs = [liP n k, pt1, pt2, pt3, goN i, gi (slF (Int.ofNat (6 * i + 5)) (Int.ofNat (7 * i + 3)) x (l.take n)), goN n]) := by
  intro a hn' hm hv
  refine loop_rule (fun m vs h => ∃ j y, j ≤ n ∧ m = n - j ∧ inB y ∧ vs = [liP n k, pt1, pt2, pt3, goN i, gi y, goN j] ∧ h = SG (l.map gb) e row kc zc oc ∧ slF (Int.ofNat (6 * i + 5)) (Int.ofNat (7 * i + 3)) x (l.take n) = slF (Int.ofNat (6 * i + 5)) (Int.ofNat (7 * i + 3)) y ((l.take n).drop j)) _ ?_ n _ _ a ⟨0, x, Nat.zero_le _, rfl, hx, rfl, rfl, rfl⟩ hn' hm hv
  rintro m vs h g ⟨j, y, hj, rfl, hy, rfl, rfl, hf⟩
  refine execC_ok mixed orcSm_ok askSl_ok (noLoops _) (Eq.mpr (sj_body _ kc zc oc n k e row i j y g _) ⟨fun hlt => ?_, fun hge => ?_⟩)
  · have hj' := blt_true hlt
    have hjl : j < l.length := by omega
    obtain ⟨h1, h2⟩ := byte_at hjl
    have hd := slF_drop (A := Int.ofNat (6 * i + 5)) (B := Int.ofNat (7 * i + 3)) (x := y) (l := l.take n) (j := j) (by rw [List.length_take]; omega)
    rw [List.getElem_take] at hd
    have hbj : inB l[j] := hb _ (List.mem_of_getElem? (i := j) (by rw [List.getElem?_take, if_pos hj', List.getElem?_eq_getElem hjl]))
    obtain ⟨⟨q1, q2⟩, q3⟩ := sj_step hi hy hbj
    have hbj' := hbj
    unfold inB at hbj'
    rw [h2, i64_self hbj, q3]
    have hin : ∀ v : Int, 0 ≤ v → v ≤ 1000000 → inI64 v = true := fun v a b => inI64_small (by omega) (by omega)
    have hii : 0 ≤ Int.ofNat i ∧ Int.ofNat i ≤ 7 := by simp only [Int.ofNat_eq_natCast]; omega
    refine ⟨hin _ (by omega) (by omega), hin _ (by omega) (by omega), hin _ (by omega) (by omega), hlt, h2 ▸ h1, hin _ (by omega) (by omega), hin _ (by omega) (by omega), hin _ (by omega) (by omega), hin _ (by omega) (by omega), by decide, n - (j + 1), by omega, j + 1, slS (Int.ofNat (6 * i + 5)) (Int.ofNat (7 * i + 3)) y l[j], hj', rfl, slS_in _ _ _ _, ?_, rfl, by rw [hf, hd]⟩
    rw [fwrap_nat (by omega)]
  · have hge := blt_false hge
    obtain rfl : j = n := by omega
    refine ⟨rfl, rfl, ?_⟩
    rw [hf, List.drop_eq_nil_of_le (by rw [List.length_take]; omega)]; rfl
noncomputable def sjLoops (l : List Int) (kc zc oc : List Value) (n k e row i : Nat) (x : Int) : Loops Tryz.prog where
  body := fun _ => loopOf Tryz.prog 29 2
  spec := fun _ a h c => entry a 45 [(1, liP n k), (2, pt1), (4, pt2), (5, pt3), (6, goN i), (7, gi x), (8, goN 0)] (h = SG (l.map gb) e row kc zc oc ∧ (n ≤ l.length ∧ n ≤ 1000000 ∧ i ≤ 7 ∧ inB x ∧ ∀ b ∈ l.take n, inB b) ∧
    ∀ g, c (.exit 2) (stOf 45 [(1, liP n k), (2, pt1), (4, pt2), (5, pt3), (6, goN i), (7, gi (slF (Int.ofNat (6 * i + 5)) (Int.ofNat (7 * i + 3)) x (l.take n)))] g) (SG (l.map gb) e row kc zc oc))
  ok := fun i' a h c q => by
    obtain ⟨h1, h2, h3, rfl, ⟨hs1, hs2, hs3, hs4, hs5⟩, h4⟩ := entry_facts q
    refine J.of_told (sj_loop l kc zc oc n k e row i x hs1 hs2 hs3 hs4 hs5 a h1 h2 ?_) ?_
    · simp only [List.map_cons, List.map_nil]
      rw [h3 (1, liP n k) (by simp), h3 (2, pt1) (by simp), h3 (4, pt2) (by simp), h3 (5, pt3) (by simp), h3 (6, goN i) (by simp), h3 (7, gi x) (by simp), h3 (8, goN 0) (by simp)]
    · rintro ex vs h' g ⟨rfl, rfl, rfl⟩
      refine cast ?_ (h4 (ov [(8, goN n)] g))
      congr 1
theorem sm_end (l : List Int) (kc oc : List Value) (n k e row : Nat) (g : Nat → Value) (Q : Exit → List Value → AHeap → Prop) : execC Tryz.prog (exec Tryz.prog orcSm 10) (syOf []) askSl (noLoops _) 40 (loopOf Tryz.prog 29 0) (stOf 45 [(1, liP n k), (2, pt1), (4, pt2), (5, pt3), (6, goN 8)] g) (SG (l.map gb) e row kc z8 oc) (told 45 [1, 2, 4, 5, 6] Q) = (Q (.exit 0) [liP n k, pt1, pt2, pt3, goN 8] (SG (List.map gb l) e row kc z8 oc)) := by kernel_rfl
theorem sm_body0 (l : List Int) (n k e row : Nat) (x0 x1 x2 x3 x4 x5 x6 x7 o0 o1 o2 o3 o4 o5 o6 o7 : Int) (g : Nat → Value) (Q : Exit → List Value → AHeap → Prop) : execC Tryz.prog (exec Tryz.prog orcSm 10) (syOf []) askSl (sjLoops l ([x0, x1, x2, x3, x4, x5, x6, x7].map gb) z8 ([o0, o1, o2, o3, o4, o5, o6, o7].map gb) n k e row 0 x0) 40 (loopOf Tryz.prog 29 0) (stOf 45 [(1, liP n k), (2, pt1), (4, pt2), (5, pt3), (6, goN 0)] g) (SG (l.map gb) e row ([x0, x1, x2, x3, x4, x5, x6, x7].map gb) z8 ([o0, o1, o2, o3, o4, o5, o6, o7].map gb)) (told 45 [1, 2, 4, 5, 6] Q) = ((loopOf Tryz.prog 29 2 = loopOf Tryz.prog 29 2 ∧ liP n k = liP n k ∧ pt1 = pt1 ∧ pt2 = pt2 ∧ pt3 = pt3 ∧ goN 0 = goN 0 ∧ gi (fwrap IntKind.i64 x0) = gi x0 ∧ gi 0 = goN 0 ∧ SG (List.map gb l) e row [gb x0, gb x1, gb x2, gb x3, gb x4, gb x5, gb x6, gb x7] z8 [gb o0, gb o1, gb o2, gb o3, gb o4, gb o5, gb o6, gb o7] = SG (List.map gb l) e row [gb x0, gb x1, gb x2, gb x3, gb x4, gb x5, gb x6, gb x7] z8 [gb o0, gb o1, gb o2, gb o3, gb o4, gb o5, gb o6, gb o7] ∧ ((n : Nat) ≤ List.length l ∧ (n : Nat) ≤ 1000000 ∧ (0 : Nat) ≤ 7 ∧ inB x0 ∧ (∀ y1 : Int, (List.Mem y1 (List.take n l) → inB y1))) ∧ (∀ _ : Nat → Value, Q .normal [liP n k, pt1, pt2, pt3, gi 1] ((SG (List.map gb l) e row [gb x0, gb x1, gb x2, gb x3, gb x4, gb x5, gb x6, gb x7] z8 [gb o0, gb o1, gb o2, gb o3, gb o4, gb o5, gb o6, gb o7]).set (N1 + 3) (.cells ([] ++ ([Value.int .u8 (fwrap IntKind.u8 (slF 5 3 x0 (List.take n l)))] ++ [gb o1, gb o2, gb o3, gb o4, gb o5, gb o6, gb o7])) 47 0 false))))) := by kernel_rfl
theorem sm_body1 (l : List Int) (n k e row : Nat) (x0 x1 x2 x3 x4 x5 x6 x7 o0 o1 o2 o3 o4 o5 o6 o7 : Int) (g : Nat → Value) (Q : Exit → List Value → AHeap → Prop) : execC Tryz.prog (exec Tryz.prog orcSm 10) (syOf []) askSl (sjLoops l ([x0, x1, x2, x3, x4, x5, x6, x7].map gb) z8 ([o0, o1, o2, o3, o4, o5, o6, o7].map gb) n k e row 1 x1) 40 (loopOf Tryz.prog 29 0) (stOf 45 [(1, liP n k), (2, pt1), (4, pt2), (5, pt3), (6, goN 1)] g) (SG (l.map gb) e row ([x0, x1, x2, x3, x4, x5, x6, x7].map gb) z8 ([o0, o1, o2, o3, o4, o5, o6, o7].map gb)) (told 45 [1, 2, 4, 5, 6] Q) = ((loopOf Tryz.prog 29 2 = loopOf Tryz.prog 29 2 ∧ liP n k = liP n k ∧ pt1 = pt1 ∧ pt2 = pt2 ∧ pt3 = pt3 ∧ goN 1 = goN 1 ∧ gi (fwrap IntKind.i64 x1) = gi x1 ∧ gi 0 = goN 0 ∧ SG (List.map gb l) e row [gb x0, gb x1, gb x2, gb x3, gb x4, gb x5, gb x6, gb x7] z8 [gb o0, gb o1, gb o2, gb o3, gb o4, gb o5, gb o6, gb o7] = SG (List.map gb l) e row [gb x0, gb x1, gb x2, gb x3, gb x4, gb x5, gb x6, gb x7] z8 [gb o0, gb o1, gb o2, gb o3, gb o4, gb o5, gb o6, gb o7] ∧ ((n : Nat) ≤ List.length l ∧ (n : Nat) ≤ 1000000 ∧ (1 : Nat) ≤ 7 ∧ inB x1 ∧ (∀ y1 : Int, (List.Mem y1 (List.take n l) → inB y1))) ∧ (∀ _ : Nat → Value, Q .normal [liP n k, pt1, pt2, pt3, gi 2] ((SG (List.map gb l) e row [gb x0, gb x1, gb x2, gb x3, gb x4, gb x5, gb x6, gb x7] z8 [gb o0, gb o1, gb o2, gb o3, gb o4, gb o5, gb o6, gb o7]).set (N1 + 3) (.cells ([gb o0] ++ ([Value.int .u8 (fwrap IntKind.u8 (slF 11 10 x1 (List.take n l)))] ++ [gb o2, gb o3, gb o4, gb o5, gb o6, gb o7])) 47 0 false))))) := by kernel_rfl
theorem sm_body2 (l : List Int) (n k e row : Nat) (x0 x1 x2 x3 x4 x5 x6 x7 o0 o1 o2 o3 o4 o5 o6 o7 : Int) (g : Nat → Value) (Q : Exit → List Value → AHeap → Prop) : execC Tryz.prog (exec Tryz.prog orcSm 10) (syOf []) askSl (sjLoops l ([x0, x1, x2, x3, x4, x5, x6, x7].map gb) z8 ([o0, o1, o2, o3, o4, o5, o6, o7].map gb) n k e row 2 x2) 40 (loopOf Tryz.prog 29 0) (stOf 45 [(1, liP n k), (2, pt1), (4, pt2), (5, pt3), (6, goN 2)] g) (SG (l.map gb) e row ([x0, x1, x2, x3, x4, x5, x6, x7].map gb) z8 ([o0, o1, o2, o3, o4, o5, o6, o7].map gb)) (told 45 [1, 2, 4, 5, 6] Q) = ((loopOf Tryz.prog 29 2 = loopOf Tryz.prog 29 2 ∧ liP n k = liP n k ∧ pt1 = pt1 ∧ pt2 = pt2 ∧ pt3 = pt3 ∧ goN 2 = goN 2 ∧ gi (fwrap IntKind.i64 x2) = gi x2 ∧ gi 0 = goN 0 ∧ SG (List.map gb l) e row [gb x0, gb x1, gb x2, gb x3, gb x4, gb x5, gb x6, gb x7] z8 [gb o0, gb o1, gb o2, gb o3, gb o4, gb o5, gb o6, gb o7] = SG (List.map gb l) e row [gb x0, gb x1, gb x2, gb x3, gb x4, gb x5, gb x6, gb x7] z8 [gb o0, gb o1, gb o2, gb o3, gb o4, gb o5, gb o6, gb o7] ∧ ((n : Nat) ≤ List.length l ∧ (n : Nat) ≤ 1000000 ∧ (2 : Nat) ≤ 7 ∧ inB x2 ∧ (∀ y1 : Int, (List.Mem y1 (List.take n l) → inB y1))) ∧ (∀ _ : Nat → Value, Q .normal [liP n k, pt1, pt2, pt3, gi 3] ((SG (List.map gb l) e row [gb x0, gb x1, gb x2, gb x3, gb x4, gb x5, gb x6, gb x7] z8 [gb o0, gb o1, gb o2, gb o3, gb o4, gb o5, gb o6, gb o7]).set (N1 + 3) (.cells ([gb o0, gb o1] ++ ([Value.int .u8 (fwrap IntKind.u8 (slF 17 17 x2 (List.take n l)))] ++ [gb o3, gb o4, gb o5, gb o6, gb o7])) 47 0 false))))) := by kernel_rfl
theorem sm_body3 (l : List Int) (n k e row : Nat) (x0 x1 x2 x3 x4 x5 x6 x7 o0 o1 o2 o3 o4 o5 o6 o7 : Int) (g : Nat → Value) (Q : Exit → List Value → AHeap → Prop) : execC Tryz.prog (exec Tryz.prog orcSm 10) (syOf []) askSl (sjLoops l ([x0, x1, x2, x3, x4, x5, x6, x7].map gb) z8 ([o0, o1, o2, o3, o4, o5, o6, o7].map gb) n k e row 3 x3) 40 (loopOf Tryz.prog 29 0) (stOf 45 [(1, liP n k), (2, pt1), (4, pt2), (5, pt3), (6, goN 3)] g) (SG (l.map gb) e row ([x0, x1, x2, x3, x4, x5, x6, x7].map gb) z8 ([o0, o1, o2, o3, o4, o5, o6, o7].map gb)) (told 45 [1, 2, 4, 5, 6] Q) = ((loopOf Tryz.prog 29 2 = loopOf Tryz.prog 29 2 ∧ liP n k = liP n k ∧ pt1 = pt1 ∧ pt2 = pt2 ∧ pt3 = pt3 ∧ goN 3 = goN 3 ∧ gi (fwrap IntKind.i64 x3) = gi x3 ∧ gi 0 = goN 0 ∧ SG (List.map gb l) e row [gb x0, gb x1, gb x2, gb x3, gb x4, gb x5, gb x6, gb x7] z8 [gb o0, gb o1, gb o2, gb o3, gb o4, gb o5, gb o6, gb o7] = SG (List.map gb l) e row [gb x0, gb x1, gb x2, gb x3, gb x4, gb x5, gb x6, gb x7] z8 [gb o0, gb o1, gb o2, gb o3, gb o4, gb o5, gb o6, gb o7] ∧ ((n : Nat) ≤ List.length l ∧ (n : Nat) ≤ 1000000 ∧ (3 : Nat) ≤ 7 ∧ inB x3 ∧ (∀ y1 : Int, (List.Mem y1 (List.take n l) → inB y1))) ∧ (∀ _ : Nat → Value, Q .normal [liP n k, pt1, pt2, pt3, gi 4] ((SG (List.map gb l) e row [gb x0, gb x1, gb x2, gb x3, gb x4, gb x5, gb x6, gb x7] z8 [gb o0, gb o1, gb o2, gb o3, gb o4, gb o5, gb o6, gb o7]).set (N1 + 3) (.cells ([gb o0, gb o1, gb o2] ++ ([Value.int .u8 (fwrap IntKind.u8 (slF 23 24 x3 (List.take n l)))] ++ [gb o4, gb o5, gb o6, gb o7])) 47 0 false))))) := by kernel_rfl
theorem sm_body4 (l : List Int) (n k e row : Nat) (x0 x1 x2 x3 x4 x5 x6 x7 o0 o1 o2 o3 o4 o5 o6 o7 : Int) (g : Nat → Value) (Q : Exit → List Value → AHeap → Prop) : execC Tryz.prog (exec Tryz.prog orcSm 10) (syOf []) askSl (sjLoops l ([x0, x1, x2, x3, x4, x5, x6, x7].map gb) z8 ([o0, o1, o2, o3, o4, o5, o6, o7].map gb) n k e row 4 x4) 40 (loopOf Tryz.prog 29 0) (stOf 45 [(1, liP n k), (2, pt1), (4, pt2), (5, pt3), (6, goN 4)] g) (SG (l.map gb) e row ([x0, x1, x2, x3, x4, x5, x6, x7].map gb) z8 ([o0, o1, o2, o3, o4, o5, o6, o7].map gb)) (told 45 [1, 2, 4, 5, 6] Q) = ((loopOf Tryz.prog 29 2 = loopOf Tryz.prog 29 2 ∧ liP n k = liP n k ∧ pt1 = pt1 ∧ pt2 = pt2 ∧ pt3 = pt3 ∧ goN 4 = goN 4 ∧ gi (fwrap IntKind.i64 x4) = gi x4 ∧ gi 0 = goN 0 ∧ SG (List.map gb l) e row [gb x0, gb x1, gb x2, gb x3, gb x4, gb x5, gb x6, gb x7] z8 [gb o0, gb o1, gb o2, gb o3, gb o4, gb o5, gb o6, gb o7] = SG (List.map gb l) e row [gb x0, gb x1, gb x2, gb x3, gb x4, gb x5, gb x6, gb x7] z8 [gb o0, gb o1, gb o2, gb o3, gb o4, gb o5, gb o6, gb o7] ∧ ((n : Nat) ≤ List.length l ∧ (n : Nat) ≤ 1000000 ∧ (4 : Nat) ≤ 7 ∧ inB x4 ∧ (∀ y1 : Int, (List.Mem y1 (List.take n l) → inB y1))) ∧ (∀ _ : Nat → Value, Q .normal [liP n k, pt1, pt2, pt3, gi 5] ((SG (List.map gb l) e row [gb x0, gb x1, gb x2, gb x3, gb x4, gb x5, gb x6, gb x7] z8 [gb o0, gb o1, gb o2, gb o3, gb o4, gb o5, gb o6, gb o7]).set (N1 + 3) (.cells ([gb o0, gb o1, gb o2, gb o3] ++ ([Value.int .u8 (fwrap IntKind.u8 (slF 29 31 x4 (List.take n l)))] ++ [gb o5, gb o6, gb o7])) 47 0 false))))) := by kernel_rfl
theorem sm_body5 (l : List Int) (n k e row : Nat) (x0 x1 x2 x3 x4 x5 x6 x7 o0 o1 o2 o3 o4 o5 o6 o7 : Int) (g : Nat → Value) (Q : Exit → List Value → AHeap → Prop) : execC Tryz.prog (exec Tryz.prog orcSm 10) (syOf []) askSl (sjLoops l ([x0, x1, x2, x3, x4, x5, x6, x7].map gb) z8 ([o0, o1, o2, o3, o4, o5, o6, o7].map gb) n k e row 5 x5) 40 (loopOf Tryz.prog 29 0) (stOf 45 [(1, liP n k), (2, pt1), (4, pt2), (5, pt3), (6, goN 5)] g) (SG (l.map gb) e row ([x0, x1, x2, x3, x4, x5, x6, x7].map gb) z8 ([o0, o1, o2, o3, o4, o5, o6, o7].map gb)) (told 45 [1, 2, 4, 5, 6] Q) = ((loopOf Tryz.prog 29 2 = loopOf Tryz.prog 29 2 ∧ liP n k = liP n k ∧ pt1 = pt1 ∧ pt2 = pt2 ∧ pt3 = pt3 ∧ goN 5 = goN 5 ∧ gi (fwrap IntKind.i64 x5) = gi x5 ∧ gi 0 = goN 0 ∧ SG (List.map gb l) e row [gb x0, gb x1, gb x2, gb x3, gb x4, gb x5, gb x6, gb x7] z8 [gb o0, gb o1, gb o2, gb o3, gb o4, gb o5, gb o6, gb o7] = SG (List.map gb l) e row [gb x0, gb x1, gb x2, gb x3, gb x4, gb x5, gb x6, gb x7] z8 [gb o0, gb o1, gb o2, gb o3, gb o4, gb o5, gb o6, gb o7] ∧ ((n : Nat) ≤ List.length l ∧ (n : Nat) ≤ 1000000 ∧ (5 : Nat) ≤ 7 ∧ inB x5 ∧ (∀ y1 : Int, (List.Mem y1 (List.take n l) → inB y1))) ∧ (∀ _ : Nat → Value, Q .normal [liP n k, pt1, pt2, pt3, gi 6] ((SG (List.map gb l) e row [gb x0, gb x1, gb x2, gb x3, gb x4, gb x5, gb x6, gb x7] z8 [gb o0, gb o1, gb o2, gb o3, gb o4, gb o5, gb o6, gb o7]).set (N1 + 3) (.cells ([gb o0, gb o1, gb o2, gb o3, gb o4] ++ ([Value.int .u8 (fwrap IntKind.u8 (slF 35 38 x5 (List.take n l)))] ++ [gb o6, gb o7])) 47 0 false))))) := by kernel_rfl
theorem sm_body6 (l : List Int) (n k e row : Nat) (x0 x1 x2 x3 x4 x5 x6 x7 o0 o1 o2 o3 o4 o5 o6 o7 : Int) (g : Nat → Value) (Q : Exit → List Value → AHeap → Prop) : execC Tryz.prog (exec Tryz.prog orcSm 10) (syOf []) askSl (sjLoops l ([x0, x1, x2, x3, x4, x5, x6, x7].map gb) z8 ([o0, o1, o2, o3, o4, o5, o6, o7].map gb) n k e row 6 x6) 40 (loopOf Tryz.prog 29 0) (stOf 45 [(1, liP n k), (2, pt1), (4, pt2), (5, pt3), (6, goN 6)] g) (SG (l.map gb) e row ([x0, x1, x2, x3, x4, x5, x6, x7].map gb) z8 ([o0, o1, o2, o3, o4, o5, o6, o7].map gb)) (told 45 [1, 2, 4, 5, 6] Q) = ((loopOf Tryz.prog 29 2 = loopOf Tryz.prog 29 2 ∧ liP n k = liP n k ∧ pt1 = pt1 ∧ pt2 = pt2 ∧ pt3 = pt3 ∧ goN 6 = goN 6 ∧ gi (fwrap IntKind.i64 x6) = gi x6 ∧ gi 0 = goN 0 ∧ SG (List.map gb l) e row [gb x0, gb x1, gb x2, gb x3, gb x4, gb x5, gb x6, gb x7] z8 [gb o0, gb o1, gb o2, gb o3, gb o4, gb o5, gb o6, gb o7] = SG (List.map gb l) e row [gb x0, gb x1, gb x2, gb x3, gb x4, gb x5, gb x6, gb x7] z8 [gb o0, gb o1, gb o2, gb o3, gb o4, gb o5, gb o6, gb o7] ∧ ((n : Nat) ≤ List.length l ∧ (n : Nat) ≤ 1000000 ∧ (6 : Nat) ≤ 7 ∧ inB x6 ∧ (∀ y1 : Int, (List.Mem y1 (List.take n l) → inB y1))) ∧ (∀ _ : Nat → Value, Q .normal [liP n k, pt1, pt2, pt3, gi 7] ((SG (List.map gb l) e row [gb x0, gb x1, gb x2, gb x3, gb x4, gb x5, gb x6, gb x7] z8 [gb o0, gb o1, gb o2, gb o3, gb o4, gb o5, gb o6, gb o7]).set (N1 + 3) (.cells ([gb o0, gb o1, gb o2, gb o3, gb o4, gb o5] ++ ([Value.int .u8 (fwrap IntKind.u8 (slF 41 45 x6 (List.take n l)))] ++ [gb o7])) 47 0 false))))) := by kernel_rfl
theorem sm_body7 (l : List Int) (n k e row : Nat) (x0 x1 x2 x3 x4 x5 x6 x7 o0 o1 o2 o3 o4 o5 o6 o7 : Int) (g : Nat → Value) (Q : Exit → List Value → AHeap → Prop) : execC Tryz.prog (exec Tryz.prog orcSm 10) (syOf []) askSl (sjLoops l ([x0, x1, x2, x3, x4, x5, x6, x7].map gb) z8 ([o0, o1, o2, o3, o4, o5, o6, o7].map gb) n k e row 7 x7) 40 (loopOf Tryz.prog 29 0) (stOf 45 [(1, liP n k), (2, pt1), (4, pt2), (5, pt3), (6, goN 7)] g) (SG (l.map gb) e row ([x0, x1, x2, x3, x4, x5, x6, x7].map gb) z8 ([o0, o1, o2, o3, o4, o5, o6, o7].map gb)) (told 45 [1, 2, 4, 5, 6] Q) = ((loopOf Tryz.prog 29 2 = loopOf Tryz.prog 29 2 ∧ liP n k = liP n k ∧ pt1 = pt1 ∧ pt2 = pt2 ∧ pt3 = pt3 ∧ goN 7 = goN 7 ∧ gi (fwrap IntKind.i64 x7) = gi x7 ∧ gi 0 = goN 0 ∧ SG (List.map gb l) e row [gb x0, gb x1, gb x2, gb x3, gb x4, gb x5, gb x6, gb x7] z8 [gb o0, gb o1, gb o2, gb o3, gb o4, gb o5, gb o6, gb o7] = SG (List.map gb l) e row [gb x0, gb x1, gb x2, gb x3, gb x4, gb x5, gb x6, gb x7] z8 [gb o0, gb o1, gb o2, gb o3, gb o4, gb o5, gb o6, gb o7] ∧ ((n : Nat) ≤ List.length l ∧ (n : Nat) ≤ 1000000 ∧ (7 : Nat) ≤ 7 ∧ inB x7 ∧ (∀ y1 : Int, (List.Mem y1 (List.take n l) → inB y1))) ∧ (∀ _ : Nat → Value, Q .normal [liP n k, pt1, pt2, pt3, gi 8] ((SG (List.map gb l) e row [gb x0, gb x1, gb x2, gb x3, gb x4, gb x5, gb x6, gb x7] z8 [gb o0, gb o1, gb o2, gb o3, gb o4, gb o5, gb o6, gb o7]).set (N1 + 3) (.cells ([gb o0, gb o1, gb o2, gb o3, gb o4, gb o5, gb o6] ++ ([Value.int .u8 (fwrap IntKind.u8 (slF 47 52 x7 (List.take n l)))] ++ [])) 47 0 false))))) := by kernel_rfl
end Go.Proofs.YtphhcoiclkfimaaGreatDoor
/-! (OWN WORK. The seal of bytes, by the reference: its outer loop, and its run.) -/
namespace Go.Proofs.YtphhcoiclkfimaaGreatDoor
open Go Go.Am

/-- The first j bytes of a seal, and 0 for the others. -/
noncomputable def slQ (l : List Int) (j : Nat) : Nat → List Int → List Int
  | _, [] => []
  | i, x :: ks => (match Nat.blt i j with
    | true => slF (Int.ofNat (6 * i + 5)) (Int.ofNat (7 * i + 3)) x l
    | false => 0) :: slQ l j (i + 1) ks
theorem SG_get0 (c : List Value) (e row : Nat) (kc zc oc : List Value) : (SG c e row kc zc oc).get N1 = some (.cells c e row true) := by
  rw [canonT_get (T := []) rfl, if_pos (Nat.le_refl _), Nat.sub_self]; rfl
theorem SG_get1 (c : List Value) (e row : Nat) (kc zc oc : List Value) : (SG c e row kc zc oc).get (N1 + 1) = some (.cells kc 47 0 false) := by
  rw [canonT_get (T := []) rfl, if_pos (Nat.le_succ _), show N1 + 1 - Tryz.prog.globals.size = 1 by unfold N1; omega]; rfl
theorem SG_get2 (c : List Value) (e row : Nat) (kc zc oc : List Value) : (SG c e row kc zc oc).get (N1 + 2) = some (.cells zc 47 0 false) := by
  rw [canonT_get (T := []) rfl, if_pos (by unfold N1; omega), show N1 + 2 - Tryz.prog.globals.size = 2 by unfold N1; omega]; rfl
theorem SG_get3 (c : List Value) (e row : Nat) (kc zc oc : List Value) : (SG c e row kc zc oc).get (N1 + 3) = some (.cells oc 47 0 false) := by
  rw [canonT_get (T := []) rfl, if_pos (by unfold N1; omega), show N1 + 3 - Tryz.prog.globals.size = 3 by unfold N1; omega]; rfl
def in8 (x0 x1 x2 x3 x4 x5 x6 x7 : Int) : Prop := inB x0 ∧ inB x1 ∧ inB x2 ∧ inB x3 ∧ inB x4 ∧ inB x5 ∧ inB x6 ∧ inB x7
theorem key_self {x : Int} (h : inB x) : gi (fwrap IntKind.i64 x) = gi x := by rw [i64_self h]
set_option maxRecDepth 100000 in
theorem sm_loop (l : List Int) (n e row k : Nat) (x0 x1 x2 x3 x4 x5 x6 x7 : Int) (hn : n ≤ l.length) (hl : n ≤ 1000000) (h8 : in8 x0 x1 x2 x3 x4 x5 x6 x7) (hb : ∀ b ∈ l.take n, inB b) (h₀ : AHeap) (hs : h₀.get N1 = some (.cells (l.map gb) e row true)) (hk : h₀.get (N1 + 1) = some (.cells ([x0, x1, x2, x3, x4, x5, x6, x7].map gb) 47 0 false)) (hz : h₀.get (N1 + 2) = some (.cells z8 47 0 false)) (hq : h₀.get (N1 + 3) = some (.cells z8 47 0 false)) : ∀ a : AAct, a.n = 45 → a.marks = [] → [1, 2, 4, 5, 6].map a.tmp = [liP n k, pt1, pt2, pt3, goN 0] →
    J Tryz.prog (.loop (loopOf Tryz.prog 29 0)) a h₀ (told 45 [1, 2, 4, 5, 6] fun ex vs h => ex = .exit 0 ∧ vs = [liP n k, pt1, pt2, pt3, goN 8] ∧ h.get (N1 + 2) = some (.cells z8 47 0 false) ∧ h.get (N1 + 3) = some (.cells ((slQ (l.take n) 8 0 [x0, x1, x2, x3, x4, x5, x6, x7]).map gb) 47 0 false)) := by
  intro a ha hm hv
  obtain ⟨c0, c1, c2, c3, c4, c5, c6, c7⟩ := h8
  refine loop_rule (fun m vs h => ∃ j, j ≤ 8 ∧ m = 8 - j ∧ vs = [liP n k, pt1, pt2, pt3, goN j] ∧ h.get N1 = some (.cells (l.map gb) e row true) ∧ h.get (N1 + 1) = some (.cells ([x0, x1, x2, x3, x4, x5, x6, x7].map gb) 47 0 false) ∧ h.get (N1 + 2) = some (.cells z8 47 0 false) ∧ h.get (N1 + 3) = some (.cells ((slQ (l.take n) j 0 [x0, x1, x2, x3, x4, x5, x6, x7]).map gb) 47 0 false)) _ ?_ 8 _ _ a ⟨0, by omega, rfl, rfl, hs, hk, hz, hq⟩ ha hm hv
  rintro m vs h g ⟨j, hj, rfl, rfl, hs, hk, hz, hq⟩
  refine J.reheap (es := fun _ => 0) (vs₂ := [liP n k, pt1, pt2, pt3, goN j]) (B := [(l.map gb, e, row, true), ([x0, x1, x2, x3, x4, x5, x6, x7].map gb, 47, 0, false), (z8, 47, 0, false), ((slQ (l.take n) j 0 [x0, x1, x2, x3, x4, x5, x6, x7]).map gb, 47, 0, false)]) (ids := [N1, N1 + 1, N1 + 2, N1 + 3]) globs_pos (by decide) (by decide) rfl (by simp) (by simp) ?_ (by kernel_rfl) ?_ fun g' => ?_
  · intro q b i hb hi
    match q, hb, hi with
    | 0, hb, hi => cases hb; cases hi; exact ⟨hs, flat_bytes l⟩
    | 1, hb, hi => cases hb; cases hi; exact ⟨hk, rfl⟩
    | 2, hb, hi => cases hb; cases hi; exact ⟨hz, rfl⟩
    | 3, hb, hi => cases hb; cases hi; exact ⟨hq, flat_bytes _⟩
  · intro i hi
    simp only [List.mem_cons, List.not_mem_nil, or_false] at hi
    rcases hi with rfl | rfl | rfl | rfl
    · exact ⟨(1, liP n k), by simp, by simp [named]⟩
    · exact ⟨(2, pt1), by simp, by simp [named]⟩
    · exact ⟨(4, pt2), by simp, by simp [named]⟩
    · exact ⟨(5, pt3), by simp, by simp [named]⟩
  · match j, hj with
    | 0, _ =>
      refine execC_ok mixed orcSm_ok askSl_ok (sjLoops l ([x0, x1, x2, x3, x4, x5, x6, x7].map gb) z8 ([0, 0, 0, 0, 0, 0, 0, 0].map gb) n k e row 0 x0) (Eq.mpr (sm_body0 l n k e row x0 x1 x2 x3 x4 x5 x6 x7 0 0 0 0 0 0 0 0 g' _) ⟨rfl, rfl, rfl, rfl, rfl, rfl, key_self c0, rfl, rfl, ⟨hn, hl, by omega, c0, hb⟩, fun _ => ⟨8 - 1, by omega, 1, by omega, rfl, rfl, ?_, ?_, ?_, ?_⟩⟩)
      · rw [AHeap.get_set_neB (by kernel_rfl)]; exact SG_get0 _ _ _ _ _ _
      · rw [AHeap.get_set_neB (by kernel_rfl)]; exact SG_get1 _ _ _ _ _ _
      · rw [AHeap.get_set_neB (by kernel_rfl)]; exact SG_get2 _ _ _ _ _ _
      · rw [AHeap.get_set_eqB (by kernel_rfl), u8_self (slF_in _ _ c0)]; rfl
    | 1, _ =>
      refine execC_ok mixed orcSm_ok askSl_ok (sjLoops l ([x0, x1, x2, x3, x4, x5, x6, x7].map gb) z8 ([slF 5 3 x0 (l.take n), 0, 0, 0, 0, 0, 0, 0].map gb) n k e row 1 x1) (Eq.mpr (sm_body1 l n k e row x0 x1 x2 x3 x4 x5 x6 x7 (slF 5 3 x0 (l.take n)) 0 0 0 0 0 0 0 g' _) ⟨rfl, rfl, rfl, rfl, rfl, rfl, key_self c1, rfl, rfl, ⟨hn, hl, by omega, c1, hb⟩, fun _ => ⟨8 - 2, by omega, 2, by omega, rfl, rfl, ?_, ?_, ?_, ?_⟩⟩)
      · rw [AHeap.get_set_neB (by kernel_rfl)]; exact SG_get0 _ _ _ _ _ _
      · rw [AHeap.get_set_neB (by kernel_rfl)]; exact SG_get1 _ _ _ _ _ _
      · rw [AHeap.get_set_neB (by kernel_rfl)]; exact SG_get2 _ _ _ _ _ _
      · rw [AHeap.get_set_eqB (by kernel_rfl), u8_self (slF_in _ _ c1)]; rfl
    | 2, _ =>
      refine execC_ok mixed orcSm_ok askSl_ok (sjLoops l ([x0, x1, x2, x3, x4, x5, x6, x7].map gb) z8 ([slF 5 3 x0 (l.take n), slF 11 10 x1 (l.take n), 0, 0, 0, 0, 0, 0].map gb) n k e row 2 x2) (Eq.mpr (sm_body2 l n k e row x0 x1 x2 x3 x4 x5 x6 x7 (slF 5 3 x0 (l.take n)) (slF 11 10 x1 (l.take n)) 0 0 0 0 0 0 g' _) ⟨rfl, rfl, rfl, rfl, rfl, rfl, key_self c2, rfl, rfl, ⟨hn, hl, by omega, c2, hb⟩, fun _ => ⟨8 - 3, by omega, 3, by omega, rfl, rfl, ?_, ?_, ?_, ?_⟩⟩)
      · rw [AHeap.get_set_neB (by kernel_rfl)]; exact SG_get0 _ _ _ _ _ _
      · rw [AHeap.get_set_neB (by kernel_rfl)]; exact SG_get1 _ _ _ _ _ _
      · rw [AHeap.get_set_neB (by kernel_rfl)]; exact SG_get2 _ _ _ _ _ _
      · rw [AHeap.get_set_eqB (by kernel_rfl), u8_self (slF_in _ _ c2)]; rfl
    | 3, _ =>
      refine execC_ok mixed orcSm_ok askSl_ok (sjLoops l ([x0, x1, x2, x3, x4, x5, x6, x7].map gb) z8 ([slF 5 3 x0 (l.take n), slF 11 10 x1 (l.take n), slF 17 17 x2 (l.take n), 0, 0, 0, 0, 0].map gb) n k e row 3 x3) (Eq.mpr (sm_body3 l n k e row x0 x1 x2 x3 x4 x5 x6 x7 (slF 5 3 x0 (l.take n)) (slF 11 10 x1 (l.take n)) (slF 17 17 x2 (l.take n)) 0 0 0 0 0 g' _) ⟨rfl, rfl, rfl, rfl, rfl, rfl, key_self c3, rfl, rfl, ⟨hn, hl, by omega, c3, hb⟩, fun _ => ⟨8 - 4, by omega, 4, by omega, rfl, rfl, ?_, ?_, ?_, ?_⟩⟩)
      · rw [AHeap.get_set_neB (by kernel_rfl)]; exact SG_get0 _ _ _ _ _ _
      · rw [AHeap.get_set_neB (by kernel_rfl)]; exact SG_get1 _ _ _ _ _ _
      · rw [AHeap.get_set_neB (by kernel_rfl)]; exact SG_get2 _ _ _ _ _ _
      · rw [AHeap.get_set_eqB (by kernel_rfl), u8_self (slF_in _ _ c3)]; rfl
    | 4, _ =>
      refine execC_ok mixed orcSm_ok askSl_ok (sjLoops l ([x0, x1, x2, x3, x4, x5, x6, x7].map gb) z8 ([slF 5 3 x0 (l.take n), slF 11 10 x1 (l.take n), slF 17 17 x2 (l.take n), slF 23 24 x3 (l.take n), 0, 0, 0, 0].map gb) n k e row 4 x4) (Eq.mpr (sm_body4 l n k e row x0 x1 x2 x3 x4 x5 x6 x7 (slF 5 3 x0 (l.take n)) (slF 11 10 x1 (l.take n)) (slF 17 17 x2 (l.take n)) (slF 23 24 x3 (l.take n)) 0 0 0 0 g' _) ⟨rfl, rfl, rfl, rfl, rfl, rfl, key_self c4, rfl, rfl, ⟨hn, hl, by omega, c4, hb⟩, fun _ => ⟨8 - 5, by omega, 5, by omega, rfl, rfl, ?_, ?_, ?_, ?_⟩⟩)
      · rw [AHeap.get_set_neB (by kernel_rfl)]; exact SG_get0 _ _ _ _ _ _
      · rw [AHeap.get_set_neB (by kernel_rfl)]; exact SG_get1 _ _ _ _ _ _
      · rw [AHeap.get_set_neB (by kernel_rfl)]; exact SG_get2 _ _ _ _ _ _
      · rw [AHeap.get_set_eqB (by kernel_rfl), u8_self (slF_in _ _ c4)]; rfl
    | 5, _ =>
      refine execC_ok mixed orcSm_ok askSl_ok (sjLoops l ([x0, x1, x2, x3, x4, x5, x6, x7].map gb) z8 ([slF 5 3 x0 (l.take n), slF 11 10 x1 (l.take n), slF 17 17 x2 (l.take n), slF 23 24 x3 (l.take n), slF 29 31 x4 (l.take n), 0, 0, 0].map gb) n k e row 5 x5) (Eq.mpr (sm_body5 l n k e row x0 x1 x2 x3 x4 x5 x6 x7 (slF 5 3 x0 (l.take n)) (slF 11 10 x1 (l.take n)) (slF 17 17 x2 (l.take n)) (slF 23 24 x3 (l.take n)) (slF 29 31 x4 (l.take n)) 0 0 0 g' _) ⟨rfl, rfl, rfl, rfl, rfl, rfl, key_self c5, rfl, rfl, ⟨hn, hl, by omega, c5, hb⟩, fun _ => ⟨8 - 6, by omega, 6, by omega, rfl, rfl, ?_, ?_, ?_, ?_⟩⟩)
      · rw [AHeap.get_set_neB (by kernel_rfl)]; exact SG_get0 _ _ _ _ _ _
      · rw [AHeap.get_set_neB (by kernel_rfl)]; exact SG_get1 _ _ _ _ _ _
      · rw [AHeap.get_set_neB (by kernel_rfl)]; exact SG_get2 _ _ _ _ _ _
      · rw [AHeap.get_set_eqB (by kernel_rfl), u8_self (slF_in _ _ c5)]; rfl
    | 6, _ =>
      refine execC_ok mixed orcSm_ok askSl_ok (sjLoops l ([x0, x1, x2, x3, x4, x5, x6, x7].map gb) z8 ([slF 5 3 x0 (l.take n), slF 11 10 x1 (l.take n), slF 17 17 x2 (l.take n), slF 23 24 x3 (l.take n), slF 29 31 x4 (l.take n), slF 35 38 x5 (l.take n), 0, 0].map gb) n k e row 6 x6) (Eq.mpr (sm_body6 l n k e row x0 x1 x2 x3 x4 x5 x6 x7 (slF 5 3 x0 (l.take n)) (slF 11 10 x1 (l.take n)) (slF 17 17 x2 (l.take n)) (slF 23 24 x3 (l.take n)) (slF 29 31 x4 (l.take n)) (slF 35 38 x5 (l.take n)) 0 0 g' _) ⟨rfl, rfl, rfl, rfl, rfl, rfl, key_self c6, rfl, rfl, ⟨hn, hl, by omega, c6, hb⟩, fun _ => ⟨8 - 7, by omega, 7, by omega, rfl, rfl, ?_, ?_, ?_, ?_⟩⟩)
      · rw [AHeap.get_set_neB (by kernel_rfl)]; exact SG_get0 _ _ _ _ _ _
      · rw [AHeap.get_set_neB (by kernel_rfl)]; exact SG_get1 _ _ _ _ _ _
      · rw [AHeap.get_set_neB (by kernel_rfl)]; exact SG_get2 _ _ _ _ _ _
      · rw [AHeap.get_set_eqB (by kernel_rfl), u8_self (slF_in _ _ c6)]; rfl
    | 7, _ =>
      refine execC_ok mixed orcSm_ok askSl_ok (sjLoops l ([x0, x1, x2, x3, x4, x5, x6, x7].map gb) z8 ([slF 5 3 x0 (l.take n), slF 11 10 x1 (l.take n), slF 17 17 x2 (l.take n), slF 23 24 x3 (l.take n), slF 29 31 x4 (l.take n), slF 35 38 x5 (l.take n), slF 41 45 x6 (l.take n), 0].map gb) n k e row 7 x7) (Eq.mpr (sm_body7 l n k e row x0 x1 x2 x3 x4 x5 x6 x7 (slF 5 3 x0 (l.take n)) (slF 11 10 x1 (l.take n)) (slF 17 17 x2 (l.take n)) (slF 23 24 x3 (l.take n)) (slF 29 31 x4 (l.take n)) (slF 35 38 x5 (l.take n)) (slF 41 45 x6 (l.take n)) 0 g' _) ⟨rfl, rfl, rfl, rfl, rfl, rfl, key_self c7, rfl, rfl, ⟨hn, hl, by omega, c7, hb⟩, fun _ => ⟨8 - 8, by omega, 8, by omega, rfl, rfl, ?_, ?_, ?_, ?_⟩⟩)
      · rw [AHeap.get_set_neB (by kernel_rfl)]; exact SG_get0 _ _ _ _ _ _
      · rw [AHeap.get_set_neB (by kernel_rfl)]; exact SG_get1 _ _ _ _ _ _
      · rw [AHeap.get_set_neB (by kernel_rfl)]; exact SG_get2 _ _ _ _ _ _
      · rw [AHeap.get_set_eqB (by kernel_rfl), u8_self (slF_in _ _ c7)]; rfl
    | 8, _ => exact execC_ok mixed orcSm_ok askSl_ok (noLoops _) (Eq.mpr (sm_end l _ _ n k e row g' _) ⟨rfl, rfl, SG_get2 _ _ _ _ _ _, SG_get3 _ _ _ _ _ _⟩)
set_option maxRecDepth 100000 in
noncomputable def smLoops (l : List Int) (n e row k : Nat) (x0 x1 x2 x3 x4 x5 x6 x7 : Int) : Loops Tryz.prog where
  body := fun _ => loopOf Tryz.prog 29 0
  spec := fun _ a h c => entry a 45 [(1, liP n k), (2, pt1), (4, pt2), (5, pt3), (6, goN 0)] (h.get N1 = some (.cells (l.map gb) e row true) ∧ h.get (N1 + 1) = some (.cells ([x0, x1, x2, x3, x4, x5, x6, x7].map gb) 47 0 false) ∧ h.get (N1 + 2) = some (.cells z8 47 0 false) ∧ h.get (N1 + 3) = some (.cells z8 47 0 false) ∧ (n ≤ l.length ∧ n ≤ 1000000 ∧ in8 x0 x1 x2 x3 x4 x5 x6 x7 ∧ ∀ b ∈ l.take n, inB b) ∧
    ∀ g y0 y1 y2 y3 y4 y5 y6 y7, [y0, y1, y2, y3, y4, y5, y6, y7] = slK (l.take n) x0 x1 x2 x3 x4 x5 x6 x7 → c (.exit 0) (stOf 45 [(4, qt0), (5, pt1)] g) (KH 47 z8 [gb y0, gb y1, gb y2, gb y3, gb y4, gb y5, gb y6, gb y7]))
  ok := fun i' a h c q => by
    obtain ⟨h1, h2, h3, g0, g1, g2, g3, ⟨hs1, hs2, hs3, hs4⟩, h4⟩ := entry_facts q
    refine J.of_toldR globs_pos (sm_loop l n e row k x0 x1 x2 x3 x4 x5 x6 x7 hs1 hs2 hs3 hs4 h g0 g1 g2 g3 a h1 h2 ?_) ?_
    · simp only [List.map_cons, List.map_nil]
      rw [h3 (1, liP n k) (by simp), h3 (2, pt1) (by simp), h3 (4, pt2) (by simp), h3 (5, pt3) (by simp), h3 (6, goN 0) (by simp)]
    · rintro ex vs h' ⟨rfl, rfl, k1, k2⟩
      refine ⟨[4, 5], [pt2, pt3], [qt0, pt1], [(z8, 47, 0, false), ((slK (l.take n) x0 x1 x2 x3 x4 x5 x6 x7).map gb, 47, 0, false)], [N1 + 2, N1 + 3], by simp, rfl, by simp, by simp, ?_, by kernel_rfl, ?_, fun g => h4 g _ _ _ _ _ _ _ _ rfl⟩
      · intro q b' i hb hi
        match q, hb, hi with
        | 0, hb, hi => cases hb; cases hi; exact ⟨k1, rfl⟩
        | 1, hb, hi => cases hb; cases hi; exact ⟨k2, flat_bytes _⟩
      · intro i hi
        simp only [List.mem_cons, List.not_mem_nil, or_false] at hi
        rcases hi with rfl | rfl
        · exact ⟨(4, pt2), by simp, by simp [named]⟩
        · exact ⟨(5, pt3), by simp, by simp [named]⟩
noncomputable abbrev ke (x0 x1 x2 x3 x4 x5 x6 x7 : Int) : Value := .agg #[gb x0, gb x1, gb x2, gb x3, gb x4, gb x5, gb x6, gb x7]
theorem Seal_run (l : List Int) (n k e row : Nat) (x0 x1 x2 x3 x4 x5 x6 x7 : Int) (K : Value → Prop) : callC Tryz.prog (exec Tryz.prog orcSm 10) (syOf []) askSl (smLoops l n e row k x0 x1 x2 x3 x4 x5 x6 x7) 40 29 #[ke x0 x1 x2 x3 x4 x5 x6 x7, liP n k] (liH (l.map gb) e row) (fun v _ => K v) = ((loopOf Tryz.prog 29 0 = loopOf Tryz.prog 29 0 ∧ liP n k = liP n k ∧ Value.pointer (some ⟨N1 + 1, 0, none⟩) = pt1 ∧ Value.pointer (some ⟨N1 + 2, 0, none⟩) = pt2 ∧ Value.pointer (some ⟨N1 + 3, 0, none⟩) = pt3 ∧ gi 0 = goN 0 ∧ (((((liH (List.map gb l) e row).push (.cells [gb x0, gb x1, gb x2, gb x3, gb x4, gb x5, gb x6, gb x7] 47 0 false)).push (.cells [Value.int .u8 0, Value.int .u8 0, Value.int .u8 0, Value.int .u8 0, Value.int .u8 0, Value.int .u8 0, Value.int .u8 0, Value.int .u8 0] 47 0 false)).push (.cells [Value.int .u8 0, Value.int .u8 0, Value.int .u8 0, Value.int .u8 0, Value.int .u8 0, Value.int .u8 0, Value.int .u8 0, Value.int .u8 0] 47 0 false)).set (N1 + 3) (.cells ([] ++ ([Value.int .u8 0, Value.int .u8 0, Value.int .u8 0, Value.int .u8 0, Value.int .u8 0, Value.int .u8 0, Value.int .u8 0, Value.int .u8 0] ++ [])) 47 0 false)).get (N1) = Option.some (.cells (List.map gb l) e row true) ∧ (((((liH (List.map gb l) e row).push (.cells [gb x0, gb x1, gb x2, gb x3, gb x4, gb x5, gb x6, gb x7] 47 0 false)).push (.cells [Value.int .u8 0, Value.int .u8 0, Value.int .u8 0, Value.int .u8 0, Value.int .u8 0, Value.int .u8 0, Value.int .u8 0, Value.int .u8 0] 47 0 false)).push (.cells [Value.int .u8 0, Value.int .u8 0, Value.int .u8 0, Value.int .u8 0, Value.int .u8 0, Value.int .u8 0, Value.int .u8 0, Value.int .u8 0] 47 0 false)).set (N1 + 3) (.cells ([] ++ ([Value.int .u8 0, Value.int .u8 0, Value.int .u8 0, Value.int .u8 0, Value.int .u8 0, Value.int .u8 0, Value.int .u8 0, Value.int .u8 0] ++ [])) 47 0 false)).get (N1 + 1) = Option.some (.cells [gb x0, gb x1, gb x2, gb x3, gb x4, gb x5, gb x6, gb x7] 47 0 false) ∧ (((((liH (List.map gb l) e row).push (.cells [gb x0, gb x1, gb x2, gb x3, gb x4, gb x5, gb x6, gb x7] 47 0 false)).push (.cells [Value.int .u8 0, Value.int .u8 0, Value.int .u8 0, Value.int .u8 0, Value.int .u8 0, Value.int .u8 0, Value.int .u8 0, Value.int .u8 0] 47 0 false)).push (.cells [Value.int .u8 0, Value.int .u8 0, Value.int .u8 0, Value.int .u8 0, Value.int .u8 0, Value.int .u8 0, Value.int .u8 0, Value.int .u8 0] 47 0 false)).set (N1 + 3) (.cells ([] ++ ([Value.int .u8 0, Value.int .u8 0, Value.int .u8 0, Value.int .u8 0, Value.int .u8 0, Value.int .u8 0, Value.int .u8 0, Value.int .u8 0] ++ [])) 47 0 false)).get (N1 + 2) = Option.some (.cells z8 47 0 false) ∧ (((((liH (List.map gb l) e row).push (.cells [gb x0, gb x1, gb x2, gb x3, gb x4, gb x5, gb x6, gb x7] 47 0 false)).push (.cells [Value.int .u8 0, Value.int .u8 0, Value.int .u8 0, Value.int .u8 0, Value.int .u8 0, Value.int .u8 0, Value.int .u8 0, Value.int .u8 0] 47 0 false)).push (.cells [Value.int .u8 0, Value.int .u8 0, Value.int .u8 0, Value.int .u8 0, Value.int .u8 0, Value.int .u8 0, Value.int .u8 0, Value.int .u8 0] 47 0 false)).set (N1 + 3) (.cells ([] ++ ([Value.int .u8 0, Value.int .u8 0, Value.int .u8 0, Value.int .u8 0, Value.int .u8 0, Value.int .u8 0, Value.int .u8 0, Value.int .u8 0] ++ [])) 47 0 false)).get (N1 + 3) = Option.some (.cells z8 47 0 false) ∧ ((n : Nat) ≤ List.length l ∧ (n : Nat) ≤ 1000000 ∧ in8 x0 x1 x2 x3 x4 x5 x6 x7 ∧ (∀ y1 : Int, (List.Mem y1 (List.take n l) → inB y1))) ∧ (∀ _ : Nat → Value, (∀ y2 : Int, (∀ y3 : Int, (∀ y4 : Int, (∀ y5 : Int, (∀ y6 : Int, (∀ y7 : Int, (∀ y8 : Int, (∀ y9 : Int, ([y2, y3, y4, y5, y6, y7, y8, y9] = slK (List.take n l) x0 x1 x2 x3 x4 x5 x6 x7 → K (Value.agg (Array.mk (List.take 8 (List.drop 0 (splice z8 0 [gb y2, gb y3, gb y4, gb y5, gb y6, gb y7, gb y8, gb y9]))))))))))))))))) := by kernel_rfl
end Go.Proofs.YtphhcoiclkfimaaGreatDoor
/-! (OWN WORK. The seal of bytes: known for all bytes, by the program; for all bytes within 0 to 255, by the reference: the same.) -/
namespace Go.Proofs.YtphhcoiclkfimaaGreatDoor
open Go Go.Am

noncomputable def dB : Value → Option Int
  | .int .u8 x => some x
  | _ => none
theorem dB_some (v : Value) (x : Int) (h : dB v = some x) : v = gb x := by
  unfold dB at h
  split at h
  · cases h; rfl
  · cases h
noncomputable def kv (xs : List Int) : Value := .agg ⟨xs.map gb⟩
theorem slK_nil (x0 x1 x2 x3 x4 x5 x6 x7 : Int) : slK [] x0 x1 x2 x3 x4 x5 x6 x7 = [x0, x1, x2, x3, x4, x5, x6, x7] := rfl
noncomputable def slX : List Int → Value → Option Out := fun l p => match p with
  | .agg ks => match ks.toList with
    | [.int .u8 x0, .int .u8 x1, .int .u8 x2, .int .u8 x3, .int .u8 x4, .int .u8 x5, .int .u8 x6, .int .u8 x7] => some (.plain (kv (slK l x0 x1 x2 x3 x4 x5 x6 x7)))
    | _ => none
  | _ => none
noncomputable def slY : List Int → Value → (Out → Prop) → Prop := fun l p K => match p with
  | .agg ks => match ks.toList with
    | [.int .u8 x0, .int .u8 x1, .int .u8 x2, .int .u8 x3, .int .u8 x4, .int .u8 x5, .int .u8 x6, .int .u8 x7] => ∀ y0 y1 y2 y3 y4 y5 y6 y7 : Int, [y0, y1, y2, y3, y4, y5, y6, y7] = slK l x0 x1 x2 x3 x4 x5 x6 x7 → K (.plain (ke y0 y1 y2 y3 y4 y5 y6 y7))
    | _ => False
  | _ => False
theorem slX_some {l : List Int} {p : Value} {o : Out} (h : slX l p = some o) : ∃ x0 x1 x2 x3 x4 x5 x6 x7, p = ke x0 x1 x2 x3 x4 x5 x6 x7 ∧ o = .plain (kv (slK l x0 x1 x2 x3 x4 x5 x6 x7)) := by
  unfold slX at h
  split at h
  · rename_i ks
    split at h
    · rename_i x0 x1 x2 x3 x4 x5 x6 x7 hk
      cases h
      exact ⟨x0, x1, x2, x3, x4, x5, x6, x7, by rw [show ks = #[gb x0, gb x1, gb x2, gb x3, gb x4, gb x5, gb x6, gb x7] by rw [← Array.toArray_toList (xs := ks), hk]], rfl⟩
    · cases h
  · cases h
theorem slY_ok (l : List Int) (p : Value) (K : Out → Prop) (h : slY l p K) : ∃ o, slX l p = some o ∧ K o := by
  unfold slY at h
  split at h
  · rename_i ks
    split at h
    · rename_i x0 x1 x2 x3 x4 x5 x6 x7 hk
      refine ⟨.plain (kv (slK l x0 x1 x2 x3 x4 x5 x6 x7)), ?_, h _ _ _ _ _ _ _ _ rfl⟩
      unfold slX
      simp only [hk]
    · exact h.elim
  · exact h.elim
theorem sealed_nil (x0 x1 x2 x3 x4 x5 x6 x7 : Int) : (call Tryz.prog orcSm 60 69 #[ke x0 x1 x2 x3 x4 x5 x6 x7, nilS] (emp Tryz.prog)).map (·.1) = some (ke x0 x1 x2 x3 x4 x5 x6 x7) := by kernel_rfl
theorem sealed_emp (k : Nat) (x0 x1 x2 x3 x4 x5 x6 x7 : Int) : (call Tryz.prog orcSm 60 69 #[ke x0 x1 x2 x3 x4 x5 x6 x7, .slice (some ⟨0, 0, none⟩) 0 k] (emp Tryz.prog)).map (·.1) = some (ke x0 x1 x2 x3 x4 x5 x6 x7) := by kernel_rfl
theorem kv_ok (l : List Int) (x0 x1 x2 x3 x4 x5 x6 x7 : Int) : (Out.plain (kv (slK l x0 x1 x2 x3 x4 x5 x6 x7))).Ok := rfl
noncomputable def orcSa : Orc := orElse 69 (genL dB 1000000 slX) orcSm
set_option maxRecDepth 100000 in
theorem orcSa_ok : OrcOk Tryz.prog orcSa := by
  refine genL_ok dB_some (fun _ => rfl) globs_pos orcSm_ok ?_ ?_ ?_ ?_
  · intro l p o h
    obtain ⟨x0, x1, x2, x3, x4, x5, x6, x7, rfl, rfl⟩ := slX_some h
    exact kv_ok _ _ _ _ _ _ _ _ _
  · intro p o h
    obtain ⟨x0, x1, x2, x3, x4, x5, x6, x7, rfl, rfl⟩ := slX_some h
    exact CallJ.of_call mixed orcSm_ok (sealed_nil x0 x1 x2 x3 x4 x5 x6 x7) fun _ => rfl
  · intro p k o h
    obtain ⟨x0, x1, x2, x3, x4, x5, x6, x7, rfl, rfl⟩ := slX_some h
    exact CallJ.of_call mixed orcSm_ok (sealed_emp k x0 x1 x2 x3 x4 x5 x6 x7) fun _ => rfl
  · intro l n p el row k o h0 h1 h2 h3 h
    obtain ⟨x0, x1, x2, x3, x4, x5, x6, x7, rfl, rfl⟩ := slX_some h
    refine callC_ok mixed orcSm_ok askSl_ok (Eq.mpr (sealed_run l n k el row x0 x1 x2 x3 x4 x5 x6 x7 _) ⟨rfl, rfl, rfl, rfl, rfl, ?_, ?_, ?_, ⟨h1, h2⟩, fun _ y0 y1 y2 y3 y4 y5 y6 y7 e => ?_⟩)
    · rw [AHeap.get_push_ne (by kernel_rfl), AHeap.get_push_ne (by kernel_rfl), canon_get, if_pos (Nat.le_refl _), Nat.sub_self]; rfl
    · rw [AHeap.get_push_ne (by kernel_rfl), AHeap.get_push_eq (by kernel_rfl)]
    · rw [AHeap.get_push_eq (by kernel_rfl)]; rfl
    · show _ = kv _
      rw [← e]
      rfl
open Classical in
noncomputable def sgX : List Int → Value → Option Out := fun l p => match p with
  | .agg ks => match ks.toList with
    | [.int .u8 x0, .int .u8 x1, .int .u8 x2, .int .u8 x3, .int .u8 x4, .int .u8 x5, .int .u8 x6, .int .u8 x7] => if in8 x0 x1 x2 x3 x4 x5 x6 x7 ∧ ∀ b ∈ l, inB b then some (.plain (kv (slK l x0 x1 x2 x3 x4 x5 x6 x7))) else none
    | _ => none
  | _ => none
noncomputable def sgY : List Int → Value → (Out → Prop) → Prop := fun l p K => match p with
  | .agg ks => match ks.toList with
    | [.int .u8 x0, .int .u8 x1, .int .u8 x2, .int .u8 x3, .int .u8 x4, .int .u8 x5, .int .u8 x6, .int .u8 x7] => in8 x0 x1 x2 x3 x4 x5 x6 x7 ∧ (∀ b : Int, List.Mem b l → inB b) ∧ ∀ y0 y1 y2 y3 y4 y5 y6 y7 : Int, [y0, y1, y2, y3, y4, y5, y6, y7] = slK l x0 x1 x2 x3 x4 x5 x6 x7 → K (.plain (ke y0 y1 y2 y3 y4 y5 y6 y7))
    | _ => False
  | _ => False
theorem sgX_some {l : List Int} {p : Value} {o : Out} (h : sgX l p = some o) : ∃ x0 x1 x2 x3 x4 x5 x6 x7, p = ke x0 x1 x2 x3 x4 x5 x6 x7 ∧ o = .plain (kv (slK l x0 x1 x2 x3 x4 x5 x6 x7)) ∧ in8 x0 x1 x2 x3 x4 x5 x6 x7 ∧ ∀ b ∈ l, inB b := by
  unfold sgX at h
  split at h
  · rename_i ks
    split at h
    · rename_i x0 x1 x2 x3 x4 x5 x6 x7 hk
      split at h
      · rename_i hc
        cases h
        exact ⟨x0, x1, x2, x3, x4, x5, x6, x7, by rw [show ks = #[gb x0, gb x1, gb x2, gb x3, gb x4, gb x5, gb x6, gb x7] by rw [← Array.toArray_toList (xs := ks), hk]], rfl, hc.1, hc.2⟩
      · cases h
    · cases h
  · cases h
theorem sgY_ok (l : List Int) (p : Value) (K : Out → Prop) (h : sgY l p K) : ∃ o, sgX l p = some o ∧ K o := by
  unfold sgY at h
  split at h
  · rename_i ks
    split at h
    · rename_i x0 x1 x2 x3 x4 x5 x6 x7 hk
      refine ⟨.plain (kv (slK l x0 x1 x2 x3 x4 x5 x6 x7)), ?_, h.2.2 _ _ _ _ _ _ _ _ rfl⟩
      unfold sgX
      simp only [hk]
      exact if_pos ⟨h.1, h.2.1⟩
    · exact h.elim
  · exact h.elim
theorem Seal_nil (x0 x1 x2 x3 x4 x5 x6 x7 : Int) : (call Tryz.prog orcSm 60 29 #[ke x0 x1 x2 x3 x4 x5 x6 x7, nilS] (emp Tryz.prog)).map (·.1) = some (kv ([x0, x1, x2, x3, x4, x5, x6, x7].map fun x => fwrap IntKind.u8 (fwrap IntKind.i64 x))) := by kernel_rfl
theorem Seal_emp (k : Nat) (x0 x1 x2 x3 x4 x5 x6 x7 : Int) : (call Tryz.prog orcSm 60 29 #[ke x0 x1 x2 x3 x4 x5 x6 x7, .slice (some ⟨0, 0, none⟩) 0 k] (emp Tryz.prog)).map (·.1) = some (kv ([x0, x1, x2, x3, x4, x5, x6, x7].map fun x => fwrap IntKind.u8 (fwrap IntKind.i64 x))) := by kernel_rfl
theorem key_back {x0 x1 x2 x3 x4 x5 x6 x7 : Int} (h : in8 x0 x1 x2 x3 x4 x5 x6 x7) : ([x0, x1, x2, x3, x4, x5, x6, x7].map fun x => fwrap IntKind.u8 (fwrap IntKind.i64 x)) = slK [] x0 x1 x2 x3 x4 x5 x6 x7 := by
  obtain ⟨c0, c1, c2, c3, c4, c5, c6, c7⟩ := h
  simp only [List.map_cons, List.map_nil, i64_self c0, i64_self c1, i64_self c2, i64_self c3, i64_self c4, i64_self c5, i64_self c6, i64_self c7, u8_self c0, u8_self c1, u8_self c2, u8_self c3, u8_self c4, u8_self c5, u8_self c6, u8_self c7]
  rfl
noncomputable def orcSb : Orc := orElse 29 (genL dB 1000000 sgX) orcSa
set_option maxRecDepth 100000 in
theorem orcSb_ok : OrcOk Tryz.prog orcSb := by
  refine genL_ok dB_some (fun _ => rfl) globs_pos orcSa_ok ?_ ?_ ?_ ?_
  · intro l p o h
    obtain ⟨x0, x1, x2, x3, x4, x5, x6, x7, rfl, rfl, _⟩ := sgX_some h
    exact kv_ok _ _ _ _ _ _ _ _ _
  · intro p o h
    obtain ⟨x0, x1, x2, x3, x4, x5, x6, x7, rfl, rfl, h8, _⟩ := sgX_some h
    exact CallJ.of_call mixed orcSm_ok (Seal_nil x0 x1 x2 x3 x4 x5 x6 x7) fun _ => by rw [key_back h8]; rfl
  · intro p k o h
    obtain ⟨x0, x1, x2, x3, x4, x5, x6, x7, rfl, rfl, h8, _⟩ := sgX_some h
    exact CallJ.of_call mixed orcSm_ok (Seal_emp k x0 x1 x2 x3 x4 x5 x6 x7) fun _ => by rw [key_back h8]; rfl
  · intro l n p el row k o h0 h1 h2 h3 h
    obtain ⟨x0, x1, x2, x3, x4, x5, x6, x7, rfl, rfl, h8, hb⟩ := sgX_some h
    refine callC_ok mixed orcSm_ok askSl_ok (Eq.mpr (Seal_run l n k el row x0 x1 x2 x3 x4 x5 x6 x7 _) ⟨rfl, rfl, rfl, rfl, rfl, rfl, ?_, ?_, ?_, ?_, ⟨h1, h2, h8, hb⟩, fun _ y0 y1 y2 y3 y4 y5 y6 y7 e => ?_⟩)
    · rw [AHeap.get_set_neB (by kernel_rfl), AHeap.get_push_ne (by kernel_rfl), AHeap.get_push_ne (by kernel_rfl), AHeap.get_push_ne (by kernel_rfl), canon_get, if_pos (Nat.le_refl _), Nat.sub_self]; rfl
    · rw [AHeap.get_set_neB (by kernel_rfl), AHeap.get_push_ne (by kernel_rfl), AHeap.get_push_ne (by kernel_rfl), AHeap.get_push_eq (by kernel_rfl)]
    · rw [AHeap.get_set_neB (by kernel_rfl), AHeap.get_push_ne (by kernel_rfl), AHeap.get_push_eq (by kernel_rfl)]; rfl
    · rw [AHeap.get_set_eqB (by kernel_rfl)]; rfl
    · show _ = kv _
      rw [← e]
      rfl
noncomputable def askSb (A : Asks) : Asks := asksL 29 gb 1000000 sgY (asksL 69 gb 1000000 slY A)
theorem askSb_ok {A : Asks} (hA : AsksOk orcSm A) : AsksOk orcSb (askSb A) := asksL_ok (d := dB) (e := gb) (fun _ => rfl) sgY_ok (asksL_ok (d := dB) (e := gb) (fun _ => rfl) slY_ok hA)
end Go.Proofs.YtphhcoiclkfimaaGreatDoor
