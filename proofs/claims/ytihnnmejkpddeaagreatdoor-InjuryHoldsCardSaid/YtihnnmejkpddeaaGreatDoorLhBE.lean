/-
  OWN WORK. Stage 6: the law's loops.
-/
import Derived.Test.YtihnnmejkpddeaaGreatDoorLhA
import Derived.Test.YtihnnmejkpddeaaGreatDoorLvT
import Derived.Test.YtihnnmejkpddeaaGreatDoorJcY
import Derived.Test.YtihnnmejkpddeaaGreatDoorWk6
/-! (OWN WORK. Stage 6: the loops of the law on what levels promise: rounds.) -/
namespace Go.Proofs.YtihnnmejkpddeaaGreatDoor
open Go Go.Am
noncomputable abbrev gu (x : Int) : Value := .int .u8 x
noncomputable abbrev lB6 (es : Nat → TypeId) : AHeap := base tabs6 es Tryz.prog.globals.size
noncomputable def hoH (es : Nat → TypeId) (c : List Value) (e row : Nat) (u w : Int) (y : List Value) (p q : Nat) : AHeap := (((((lB6 es).push (.cells c e row true)).push (.cells [gu u, gu w] 129 0 false)).push (.cells y 3 2 false)).push (.cells [gi 0, gi 0] 24 0 false)).set (nG1 + 3) (.cells ([] ++ ([goN p, goN q] ++ [])) 24 0 false)
noncomputable def hoH2 (c : List Value) (e row : Nat) (u w : Int) (p q : Nat) : AHeap := canonT [] (fun _ => 0) Tryz.prog.globals.size [(c, e, row, true), ([gu u, gu w], 129, 0, false), ([goN p, goN q], 24, 0, false)]
theorem ho1_body (es : Nat → TypeId) (y : List Value) (p q : Nat) (c : List Value) (e row n k o s k' j : Nat) (u w lv hv : Int) (g : Nat → Value) (Q : Exit → List Value → AHeap → Prop) : execC Tryz.prog (exec Tryz.prog orcLb 10) (syOf [(99, 1), (100, 2), (101, 3), (104, 32)]) (askLb false [] 0 0 0) (noLoops _) 200 (loopOf Tryz.prog 12 0) (stOf 298 [(0, liP n k), (5, ptN 1), (7, gi lv), (8, goN s), (9, gi hv), (96, slT o s k'), (97, goN s), (98, goN j)] g) (hoH es c e row u w y p q) (told 298 [0, 5, 7, 8, 9, 96, 97, 98] Q) = (((Nat.blt j s = true → (Nat.blt j s = true ∧ c[(o + (j * 1))]? = Option.some (gi (intAt c (o + (j * 1)))) ∧ ilt (intAt c (o + (j * 1))) hv = false ∧ Q .normal [liP n k, ptN 1, gi lv, goN s, gi hv, slT o s k', goN s, gi (fwrap IntKind.i64 (Int.ofNat (j + 1)))] (hoH es c e row u w y p q))) ∧ (Nat.blt j s = false → Q (.exit 0) [liP n k, ptN 1, gi lv, goN s, gi hv, slT o s k', goN s, goN j] (hoH es c e row u w y p q)))) := by kernel_rfl
theorem ho2_body (c : List Value) (e row n k p q cn rn j : Nat) (u w lv : Int) (mv : Value) (g : Nat → Value) (Q : Exit → List Value → AHeap → Prop) : execC Tryz.prog (exec Tryz.prog orcLb 10) (syOf [(209, 1), (211, 2), (212, 3), (215, 1), (219, 1), (224, 32), (236, 32)]) (askLb false [] 0 0 0) (noLoops _) 200 (loopOf Tryz.prog 12 2) (stOf 298 [(0, liP n k), (5, ptN 1), (7, gi lv), (14, ptN 2), (16, mv), (25, goN cn), (26, goN rn), (206, liP n k), (207, goN n), (208, goN j)] g) (hoH2 c e row u w p q) (told 298 [0, 5, 7, 14, 16, 25, 26, 206, 207, 208] Q) = (((Nat.blt j n = true → (Nat.blt j n = true ∧ c[(0 + (j * 1))]? = Option.some (gi (intAt c (0 + (j * 1)))) ∧ (ilt (intAt c (0 + (j * 1))) lv = true → (((!(Nat.blt j p)) = true → (Nat.blt j q = false ∧ Q .normal [liP n k, ptN 1, gi lv, ptN 2, mv, goN cn, gi 0, liP n k, goN n, gi (fwrap IntKind.i64 (Int.ofNat (j + 1)))] (hoH2 c e row u w p q))) ∧ ((!(Nat.blt j p)) = false → Q .normal [liP n k, ptN 1, gi lv, ptN 2, mv, goN cn, gi 0, liP n k, goN n, gi (fwrap IntKind.i64 (Int.ofNat (j + 1)))] (hoH2 c e row u w p q)))) ∧ (ilt (intAt c (0 + (j * 1))) lv = false → (ilt (fwrap IntKind.i64 (Int.ofNat q - Int.ofNat p)) (fwrap IntKind.i64 (Int.ofNat (rn + 1))) = false ∧ Q .normal [liP n k, ptN 1, gi lv, ptN 2, mv, gi (fwrap IntKind.i64 (Int.ofNat (cn + 1))), gi (fwrap IntKind.i64 (Int.ofNat (rn + 1))), liP n k, goN n, gi (fwrap IntKind.i64 (Int.ofNat (j + 1)))] (hoH2 c e row u w p q))))) ∧ (Nat.blt j n = false → Q (.exit 2) [liP n k, ptN 1, gi lv, ptN 2, mv, goN cn, goN rn, liP n k, goN n, goN j] (hoH2 c e row u w p q)))) := by kernel_rfl
end Go.Proofs.YtihnnmejkpddeaaGreatDoor
/-! (OWN WORK. Stage 6: the loops of the law on what levels promise.) -/
namespace Go.Proofs.YtihnnmejkpddeaaGreatDoor
open Go Go.Am
theorem blt_no {a b : Nat} (h : ¬ a < b) : Nat.blt a b = false := by rw [Bool.eq_false_iff, ne_eq, Nat.blt_eq]; exact h
set_option maxRecDepth 100000 in
theorem ho1_loop (es : Nat → TypeId) (y : List Value) (p q : Nat) (l : List Int) (e row k o s k' : Nat) (u w lv hv : Int) (h1 : l.length ≤ 65536) (hos : o + s ≤ l.length) (hh : ∀ j x, o ≤ j → j < o + s → l[j]? = some x → hv ≤ x) :
    ∀ a : AAct, a.n = 298 → a.marks = [] → [0, 5, 7, 8, 9, 96, 97, 98].map a.tmp = [liP l.length k, ptN 1, gi lv, goN s, gi hv, slT o s k', goN s, goN 0] →
    J Tryz.prog (.loop (loopOf Tryz.prog 12 0)) a (hoH es (l.map gi) e row u w y p q) (told 298 [0, 5, 7, 8, 9, 96, 97, 98] fun ex vs h => ex = .exit 0 ∧ h = hoH es (l.map gi) e row u w y p q ∧ vs = [liP l.length k, ptN 1, gi lv, goN s, gi hv, slT o s k', goN s, goN s]) := by
  refine scan_rule _ (fun j => [liP l.length k, ptN 1, gi lv, goN s, gi hv, slT o s k', goN s, goN j]) (fun _ => True) s trivial _ ?_ ?_
  · intro j hj _ g
    have hl : o + j < l.length := by omega
    obtain ⟨f1, f2⟩ := first_at hl
    rw [show 0 + (o + j) * 1 = o + j * 1 by omega] at f1 f2
    have hx := hh (o + j) l[o + j] (by omega) (by omega) (List.getElem?_eq_getElem hl)
    refine execC_ok mixed orcLb_ok (askLb_ok _ _ _ _ _) (noLoops _) (Eq.mpr (ho1_body es y p q (l.map gi) e row l.length k o s k' j u w lv hv g _) ⟨fun hlt => ⟨hlt, f1, ?_, trivial, ?_, rfl⟩, fun hge => absurd (blt_false hge) (by omega)⟩)
    · rw [f2, ilt_say]; exact decide_eq_false (by omega)
    · rw [fwrap_nat (by omega)]
  · intro _ g
    exact execC_ok mixed orcLb_ok (askLb_ok _ _ _ _ _) (noLoops _) (Eq.mpr (ho1_body es y p q (l.map gi) e row l.length k o s k' s u w lv hv g _) ⟨fun hlt => absurd (blt_true hlt) (by omega), fun _ => ⟨rfl, rfl, rfl⟩⟩)
set_option maxRecDepth 100000 in
theorem ho2_step (l : List Int) (e row k : Nat) (u w lv : Int) (mv : Value) (h1 : l.length ≤ 65536) (j : Nat) (hj : j < l.length) (g : Nat → Value) : J Tryz.prog (loopOf Tryz.prog 12 2) (stOf 298 ([0, 5, 7, 14, 16, 25, 26, 206, 207, 208].zip [liP l.length k, ptN 1, gi lv, ptN 2, mv, goN (kpL lv (l.take j)).length, goN (tlN lv l j), liP l.length k, goN l.length, goN j]) g) (hoH2 (l.map gi) e row u w (lgE lv l).1 (lgE lv l).2) (told 298 [0, 5, 7, 14, 16, 25, 26, 206, 207, 208] fun ex vs h => match ex with
    | .normal => vs = [liP l.length k, ptN 1, gi lv, ptN 2, mv, goN (kpL lv (l.take (j + 1))).length, goN (tlN lv l (j + 1)), liP l.length k, goN l.length, goN (j + 1)] ∧ h = hoH2 (l.map gi) e row u w (lgE lv l).1 (lgE lv l).2
    | _ => False) := by
  obtain ⟨f1, f2⟩ := first_at hj
  have kt := kpL_take lv hj
  have kl := kpL_len lv (l.take j)
  rw [List.length_take, Nat.min_eq_left (by omega)] at kl
  have hx := List.getElem?_eq_getElem hj
  have te : tlN lv l (j + 1) = bif ilt l[j] lv then 0 else tlN lv l j + 1 := by
    show (bif ilt (fnI (l.map gi) 0 j) lv then 0 else tlN lv l j + 1) = _
    rw [fn_get hx]
  have tj := (tl_ok lv l j (by omega)).1
  have tm := tl_le lv l (j := j + 1) (by omega)
  have lo := lg_ok lv l
  refine execC_ok mixed orcLb_ok (askLb_ok _ _ _ _ _) (noLoops _) (Eq.mpr (ho2_body (l.map gi) e row l.length k _ _ (kpL lv (l.take j)).length (tlN lv l j) j u w lv mv g _) ⟨fun hlt => ⟨hlt, f1, fun hb => ?_, fun hb => ?_⟩, fun hge => absurd (blt_false hge) (by omega)⟩)
  · rw [f2] at hb
    have hv := hb
    rw [ilt_say] at hv
    have out := lg_out lv l hx (of_decide_eq_true hv)
    have vs : [liP l.length k, ptN 1, gi lv, ptN 2, mv, goN (kpL lv (l.take j)).length, gi 0, liP l.length k, goN l.length, gi (fwrap IntKind.i64 (Int.ofNat (j + 1)))] = [liP l.length k, ptN 1, gi lv, ptN 2, mv, goN (kpL lv (l.take (j + 1))).length, goN (tlN lv l (j + 1)), liP l.length k, goN l.length, goN (j + 1)] := by
      rw [kt, hb, te, hb, fwrap_nat (by omega)]
      show [liP l.length k, ptN 1, gi lv, ptN 2, mv, goN (kpL lv (l.take j)).length, gi 0, liP l.length k, goN l.length, goN (j + 1)] = [liP l.length k, ptN 1, gi lv, ptN 2, mv, goN (kpL lv (l.take j) ++ []).length, goN 0, liP l.length k, goN l.length, goN (j + 1)]
      rw [List.append_nil]; rfl
    refine ⟨fun hp => ⟨blt_no fun hq => out ⟨?_, hq⟩, vs, rfl⟩, fun _ => ⟨vs, rfl⟩⟩
    have hp : (!(Nat.blt j (lgE lv l).1)) = true := hp
    cases hc : Nat.blt j (lgE lv l).1 with
    | true => rw [hc] at hp; cases hp
    | false => exact Nat.le_of_not_lt fun hq => by rw [show Nat.blt j (lgE lv l).1 = true by rw [Nat.blt_eq]; exact hq] at hc; cases hc
  · rw [f2] at hb
    rw [te, hb] at tm
    have tm : tlN lv l j + 1 ≤ (lgE lv l).2 - (lgE lv l).1 := tm
    refine ⟨?_, ?_, rfl⟩
    · rw [fwrap_nat (by omega), fwrap_mid (by simp only [Int.ofNat_eq_natCast]; omega) (by simp only [Int.ofNat_eq_natCast]; omega), ilt_say]
      exact decide_eq_false (by simp only [Int.ofNat_eq_natCast]; omega)
    · rw [kt, hb, te, hb, fwrap_nat (by omega), fwrap_nat (by omega), fwrap_nat (by omega)]
      show _ = [liP l.length k, ptN 1, gi lv, ptN 2, mv, goN (kpL lv (l.take j) ++ [l[j]]).length, goN (tlN lv l j + 1), liP l.length k, goN l.length, goN (j + 1)]
      rw [List.length_append]; rfl
end Go.Proofs.YtihnnmejkpddeaaGreatDoor
/-! (OWN WORK. Stage 6: the law's loop that makes forces out of a series: rounds.) -/
namespace Go.Proofs.YtihnnmejkpddeaaGreatDoor
open Go Go.Am
noncomputable abbrev hoB (c : List Value) (e row : Nat) : List Blk := [(c, e, row, true)]
theorem ho3_A (c : List Value) (n k e row j : Nat) (x y z : Int) (g : Nat → Value) (Q : Exit → List Value → AHeap → Prop) : execC Tryz.prog (exec Tryz.prog orcLb 10) (syOf [(245, 1), (250, 2), (251, 3)]) (askLb false [] 0 0 0) (noLoops _) 40 (loopOf Tryz.prog 12 4) (stOf 298 [(0, liP n k), (16, gi x), (25, gi y), (29, gi z), (30, nilS), (243, goN n), (244, goN j)] g) (canonT [] (fun _ => 0) Tryz.prog.globals.size (hoB c e row)) (told 298 [0, 16, 25, 29, 30, 243, 244] Q) = (((Nat.blt j n = true → (Nat.blt j n = true ∧ c[(0 + (j * 1))]? = Option.some (gi (intAt c (0 + (j * 1)))) ∧ Q .normal [liP n k, gi x, gi y, gi z, Value.slice (some ⟨nG1 + 2, 0, none⟩) 1 1, goN n, gi (fwrap IntKind.i64 (Int.ofNat (j + 1)))] (((canonT [] (fun x => 0) 4 (hoB c e row)).push (.cells [gi (Int.tmod (intAt c (0 + (j * 1))) 8)] 3 2 false)).push (.cells ([] ++ [gi (Int.tmod (intAt c (0 + (j * 1))) 8)]) 3 2 false)))) ∧ (Nat.blt j n = false → Q (.exit 4) [liP n k, gi x, gi y, gi z, nilS, goN n, goN j] (canonT [] (fun x => 0) 4 (hoB c e row))))) := by kernel_rfl
theorem ho3_D (c r : List Value) (n k e row j q : Nat) (x y z : Int) (g : Nat → Value) (Q : Exit → List Value → AHeap → Prop) : execC Tryz.prog (exec Tryz.prog orcLb 10) (syOf [(245, 1), (250, 2), (251, 3), (254, 10)]) (askLb false [] 0 0 0) (noLoops _) 40 (loopOf Tryz.prog 12 4) (stOf 298 [(0, liP n k), (16, gi x), (25, gi y), (29, gi z), (30, slN 1 q q), (243, goN n), (244, goN j)] g) (canonT [] (fun _ => 0) Tryz.prog.globals.size (hoB c e row ++ [(r, 3, 2, false)])) (told 298 [0, 16, 25, 29, 30, 243, 244] Q) = (((Nat.blt j n = true → (Nat.blt j n = true ∧ c[(0 + (j * 1))]? = Option.some (gi (intAt c (0 + (j * 1)))) ∧ Nat.ble (q + 1) q = false ∧ Nat.ble (((2 * (q + 1)) + 256) * 8) 281474976710656 = true ∧ (q * 1) = List.length r ∧ Q .normal [liP n k, gi x, gi y, gi z, Value.slice (some ⟨nG1 + 3, 0, none⟩) (q + 1) (q + 1), goN n, gi (fwrap IntKind.i64 (Int.ofNat (j + 1)))] ((((canonT [] (fun x => 0) 4 (hoB c e row ++ [Prod.mk r (Prod.mk 3 (Prod.mk 2 false))])).push (.cells [gi (Int.tmod (intAt c (0 + (j * 1))) 8)] 3 2 false)).set (nG1 + 1) (.dead)).push (.cells (r ++ [gi (Int.tmod (intAt c (0 + (j * 1))) 8)]) 3 2 false)))) ∧ (Nat.blt j n = false → Q (.exit 4) [liP n k, gi x, gi y, gi z, slN 1 q q, goN n, goN j] (canonT [] (fun x => 0) 4 (hoB c e row ++ [Prod.mk r (Prod.mk 3 (Prod.mk 2 false))]))))) := by kernel_rfl
end Go.Proofs.YtihnnmejkpddeaaGreatDoor
/-! (OWN WORK. Stage 6: the law's loop that makes forces out of a series.) -/
namespace Go.Proofs.YtihnnmejkpddeaaGreatDoor
open Go Go.Am
noncomputable def fcL (l : List Int) : List Int := l.map fun x => Int.tmod x 8
theorem fcL_len (l : List Int) : (fcL l).length = l.length := List.length_map _
noncomputable def hoV (n k : Nat) (x y z : Int) : Nat → Value → List Value := fun j w => [liP n k, gi x, gi y, gi z, w, goN n, goN j]
theorem fc_fac {l : List Int} {j : Nat} (hj : j < l.length) : (l.map gi)[0 + j * 1]? = some (gi (intAt (l.map gi) (0 + j * 1))) ∧ Int.tmod (intAt (l.map gi) (0 + j * 1)) 8 = (fcL l)[j]'(by rw [fcL_len]; exact hj) := by
  obtain ⟨f1, f2⟩ := first_at hj
  refine ⟨f1, ?_⟩
  rw [f2]
  unfold fcL
  rw [List.getElem_map]
set_option maxRecDepth 100000 in
theorem ho3_loop (l : List Int) (x y z : Int) (n e row k : Nat) (hn : l.length = n) (h1 : n ≤ 65536) : ∀ (s : AAct) (h : AHeap), GrownW Tryz.prog (hoB (l.map gi) e row) 3 2 (hoV n k x y z) (fun j => j) (fun j => ((fcL l).take j).map gi) 0 ([0, 16, 25, 29, 30, 243, 244].map s.tmp) h → s.n = 298 → s.marks = [] →
    J Tryz.prog (.loop (loopOf Tryz.prog 12 4)) s h (told 298 [0, 16, 25, 29, 30, 243, 244] fun ex vs h' => ex = .exit 4 ∧ ((n = 0 ∧ vs = hoV n k x y z n nilS) ∨ (vs = hoV n k x y z n (slN 1 n n) ∧ h' = gW Tryz.prog (hoB (l.map gi) e row) ((fcL l).map gi) 3 2))) := by
  intro s h hG hs hk
  have hl := fcL_len l
  rw [hn] at hl
  refine growW_rule (C := hoB (l.map gi) e row) (el := 3) (rw := 2) globs_pos (by decide) (by decide) (fun x hx => by
      simp only [List.mem_cons, List.not_mem_nil, or_false] at hx
      rcases hx with rfl
      exact flat_ints l) (hoV n k x y z) (fun j => j) (fun j => ((fcL l).take j).map gi) n _ (fun j => flat_ints _) (fun j => by kernel_rfl) (fun j q d hd => by
      obtain rfl | rfl | rfl | rfl : d = 0 ∨ d = 1 ∨ d = 2 ∨ d = 3 := by omega
      all_goals kernel_rfl)
    (fun j w q hq => by
      match q, hq with
      | 0, _ => exact ⟨(0, liP n k), by simp [hoV], by simp [named]⟩) (fun j b q => ⟨(30, .slice (some ⟨b, 0, none⟩) q q), by simp [hoV], by simp [named]⟩) ?_ ?_ ?_ ?_ s h hG hs hk
  · intro j hj hx g
    obtain ⟨f1, et⟩ := fc_fac (l := l) (j := j) (by omega)
    have j0 := map_nil' (by omega) hx
    refine execC_ok mixed orcLb_ok (askLb_ok _ _ _ _ _) (noLoops _) (Eq.mpr (ho3_A _ n k e row j x y z g _) ⟨fun hlt => ⟨hlt, f1, fun p b hb => ?_, .inr ⟨nG1 + 2, 1, rfl, by omega, ?_, ?_, ?_⟩⟩, fun hge => absurd (blt_false hge) (by omega)⟩)
    · match p, hb with
      | 0, hb => cases hb; show _ = _; kernel_rfl
    · intro hh
      have := map_nil' (by omega) hh
      omega
    · rw [fwrap_nat (by omega), j0]; rfl
    · show _ = some (AObj.cells (((fcL l).take (j + 1)).map gi) _ _ _)
      have hx : ((fcL l).take j).map gi = [] := hx
      rw [map_take1 (by omega), hx, ← et]; show _ = _; kernel_rfl
  · intro j hj hx g
    obtain ⟨f1, et⟩ := fc_fac (l := l) (j := j) (by omega)
    refine execC_ok mixed orcLb_ok (askLb_ok _ _ _ _ _) (noLoops _) (Eq.mpr (ho3_D _ (((fcL l).take j).map gi) n k e row j j x y z g _) ⟨fun hlt => ⟨hlt, f1, ble_noV (by omega), by rw [Nat.ble_eq]; omega, by rw [List.length_map, List.length_take, Nat.min_eq_left (by omega)]; omega, fun p b hb => ?_, .inr ⟨nG1 + 3, 2, rfl, by omega, ?_, ?_, ?_⟩⟩, fun hge => absurd (blt_false hge) (by omega)⟩)
    · match p, hb with
      | 0, hb => cases hb; show _ = _; kernel_rfl
    · intro hh
      have := map_nil' (by omega) hh
      omega
    · rw [fwrap_nat (by omega)]; rfl
    · show _ = some (AObj.cells (((fcL l).take (j + 1)).map gi) _ _ _)
      rw [map_take1 (by omega), ← et]; show _ = _; kernel_rfl
  · intro hx g
    have j0 := map_nil' (by omega) hx
    exact execC_ok mixed orcLb_ok (askLb_ok _ _ _ _ _) (noLoops _) (Eq.mpr (ho3_A _ n k e row n x y z g _) ⟨fun hlt => absurd (blt_true hlt) (by omega), fun _ => ⟨rfl, .inl ⟨j0, rfl⟩⟩⟩)
  · intro hx g
    refine execC_ok mixed orcLb_ok (askLb_ok _ _ _ _ _) (noLoops _) (Eq.mpr (ho3_D _ (((fcL l).take n).map gi) n k e row n n x y z g _) ⟨fun hlt => absurd (blt_true hlt) (by omega), fun _ => ⟨rfl, .inr ⟨rfl, ?_⟩⟩⟩)
    rw [List.take_of_length_le (by omega)]
    show _ = _; kernel_rfl
end Go.Proofs.YtihnnmejkpddeaaGreatDoor
