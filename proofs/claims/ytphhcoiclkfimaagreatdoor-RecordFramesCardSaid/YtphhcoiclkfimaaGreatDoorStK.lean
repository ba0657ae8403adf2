/-
  OWN WORK. The samples of a stream, by the reference: its loop.
-/
import Derived.Test.YtphhcoiclkfimaaGreatDoorStJ
namespace Go.Proofs.YtphhcoiclkfimaaGreatDoor
open Go Go.Am

theorem up_run (a b : Int) (K : Value → Prop) : callC Tryz.prog (exec Tryz.prog orcSk 10) (syOf [(13, 1)]) askSk2 (noLoops _) 40 76 #[gb a, gb b] (emp Tryz.prog) (fun v _ => K v) = ((((!(ilt (fwrap IntKind.i64 (fwrap IntKind.i64 (256 * fwrap IntKind.i64 a) + fwrap IntKind.i64 b)) 32768)) = true → K (gi (fwrap IntKind.i64 (fwrap IntKind.i64 (fwrap IntKind.i64 (256 * fwrap IntKind.i64 a) + fwrap IntKind.i64 b) - 65536)))) ∧ ((!(ilt (fwrap IntKind.i64 (fwrap IntKind.i64 (256 * fwrap IntKind.i64 a) + fwrap IntKind.i64 b)) 32768)) = false → K (gi (fwrap IntKind.i64 (fwrap IntKind.i64 (256 * fwrap IntKind.i64 a) + fwrap IntKind.i64 b)))))) := by kernel_rfl
noncomputable def upL : List Value → Option (Bool × Value)
  | [.int .u8 a, .int .u8 b] => some ((!ilt a 0 && !ilt 255 a) && (!ilt b 0 && !ilt 255 b), gi (dec16 a b))
  | _ => none
theorem upL_some {l : List Value} {v : Value} (h : upL l = some (true, v)) : ∃ a b, l = [gb a, gb b] ∧ v = gi (dec16 a b) ∧ inB a ∧ inB b := by
  unfold upL at h
  split at h
  · rename_i a b
    injection h with h
    injection h with h1 h2
    simp only [Bool.and_eq_true, ilt_dec, Bool.not_eq_true', decide_eq_false_iff_not] at h1
    exact ⟨a, b, rfl, h2.symm, ⟨by omega, by omega⟩, ⟨by omega, by omega⟩⟩
  · cases h
theorem inB_b {a b : Int} (ha : inB a) (hb : inB b) : ((!ilt a 0 && !ilt 255 a) && (!ilt b 0 && !ilt 255 b)) = true := by
  unfold inB at ha hb
  simp only [Bool.and_eq_true, ilt_dec, Bool.not_eq_true', decide_eq_false_iff_not]
  omega
noncomputable def orcSj : Orc := orElse 76 (condO upL) orcSk
set_option maxRecDepth 100000 in
theorem orcSj_ok : OrcOk Tryz.prog orcSj := by
  refine condO_ok (fun l v h => ?_) orcSk_ok
  obtain ⟨a, b, rfl, rfl, ha, hb⟩ := upL_some h
  unfold inB at ha hb
  have e1 : fwrap IntKind.i64 a = a := fwrap_small (by omega) (by omega)
  have e2 : fwrap IntKind.i64 b = b := fwrap_small (by omega) (by omega)
  have e3 : fwrap IntKind.i64 (256 * a) = 256 * a := fwrap_small (by omega) (by omega)
  have e4 : fwrap IntKind.i64 (256 * a + b) = 256 * a + b := fwrap_small (by omega) (by omega)
  have e5 : fwrap IntKind.i64 (256 * a + b - 65536) = 256 * a + b - 65536 := fwrap_small (by omega) (by omega)
  refine ⟨rfl, rfl, callC_ok mixed orcSk_ok askSk2_ok (Eq.mpr (up_run a b _) ?_)⟩
  rw [e1, e2, e3, e4, e5, ilt_dec]
  unfold dec16
  refine ⟨fun h => ?_, fun h => ?_⟩
  · rw [if_pos (by simpa using h)]
  · rw [if_neg (by simpa using h)]
noncomputable def askSj : Asks := asksF 76 upL askSk2
theorem askSj_ok : AsksOk orcSj askSj := asksF_ok askSk2_ok
theorem ur_first (c : List Value) (n k e row j m : Nat) (g : Nat → Value) (Q : Exit → List Value → AHeap → Prop) : execC Tryz.prog (exec Tryz.prog orcSj 20) (syOf [(55, 1), (60, 33), (61, 33), (62, 2), (63, 3), (66, 33), (67, 33), (68, 2), (69, 3), (70, 7), (73, 1), (76, 7)]) askSj (noLoops _) 40 (loopOf Tryz.prog 33 0) (stOf 80 [(0, liP n k), (2, nilS), (3, gi 0), (4, goN m), (7, nilS), (8, goN j)] g) (gC Tryz.prog (bC c e row)) (told 80 [0, 2, 3, 4, 7, 8] Q) = (((Nat.blt j m = true → (inI64 (2 * Int.ofNat j) = true ∧ inI64 (6 + (2 * Int.ofNat j)) = true ∧ ahasIndex (6 + (2 * Int.ofNat j)) n = true ∧ c[(0 + (Int.toNat (6 + (2 * Int.ofNat j)) * 1))]? = Option.some (Value.int .u8 (intAt c (0 + (Int.toNat (6 + (2 * Int.ofNat j)) * 1)))) ∧ inI64 (2 * Int.ofNat j) = true ∧ inI64 (7 + (2 * Int.ofNat j)) = true ∧ ahasIndex (7 + (2 * Int.ofNat j)) n = true ∧ c[(0 + (Int.toNat (7 + (2 * Int.ofNat j)) * 1))]? = Option.some (Value.int .u8 (intAt c (0 + (Int.toNat (7 + (2 * Int.ofNat j)) * 1)))) ∧ (((!(ilt (intAt c (0 + (Int.toNat (6 + (2 * Int.ofNat j)) * 1))) 0)) && (!(ilt 255 (intAt c (0 + (Int.toNat (6 + (2 * Int.ofNat j)) * 1)))))) && ((!(ilt (intAt c (0 + (Int.toNat (7 + (2 * Int.ofNat j)) * 1))) 0)) && (!(ilt 255 (intAt c (0 + (Int.toNat (7 + (2 * Int.ofNat j)) * 1))))))) = true ∧ ((!(ieq (withinS (dec16 (intAt c (0 + (Int.toNat (6 + (2 * Int.ofNat j)) * 1))) (intAt c (0 + (Int.toNat (7 + (2 * Int.ofNat j)) * 1)))) (-16384) 16384) 0)) = true → Q .ret [liP n k, nilS, gi 3, goN m, nilS, goN j] (gC Tryz.prog (bC c e row))) ∧ ((!(ieq (withinS (dec16 (intAt c (0 + (Int.toNat (6 + (2 * Int.ofNat j)) * 1))) (intAt c (0 + (Int.toNat (7 + (2 * Int.ofNat j)) * 1)))) (-16384) 16384) 0)) = false → (((!(ilt (dec16 (intAt c (0 + (Int.toNat (6 + (2 * Int.ofNat j)) * 1))) (intAt c (0 + (Int.toNat (7 + (2 * Int.ofNat j)) * 1)))) (-65536))) && (!(ilt 65536 (dec16 (intAt c (0 + (Int.toNat (6 + (2 * Int.ofNat j)) * 1))) (intAt c (0 + (Int.toNat (7 + (2 * Int.ofNat j)) * 1))))))) = true ∧ Q .normal [liP n k, nilS, gi 0, goN m, Value.slice (some ⟨N1 + 2, 0, none⟩) 1 1, gi (fwrap IntKind.i64 (Int.ofNat (j + 1)))] (((gC Tryz.prog (bC c e row)).push (.cells [gf (sampleE (dec16 (intAt c (0 + (Int.toNat (6 + (2 * Int.ofNat j)) * 1))) (intAt c (0 + (Int.toNat (7 + (2 * Int.ofNat j)) * 1)))))] 48 2 false)).push (.cells ([] ++ [gf (sampleE (dec16 (intAt c (0 + (Int.toNat (6 + (2 * Int.ofNat j)) * 1))) (intAt c (0 + (Int.toNat (7 + (2 * Int.ofNat j)) * 1)))))]) 48 2 false)))))) ∧ (Nat.blt j m = false → Q (.exit 0) [liP n k, nilS, gi 0, goN m, nilS, goN j] (gC Tryz.prog (bC c e row))))) := by kernel_rfl
theorem ur_next (c c' : List Value) (n k e row j m q : Nat) (g : Nat → Value) (Q : Exit → List Value → AHeap → Prop) : execC Tryz.prog (exec Tryz.prog orcSj 20) (syOf [(55, 1), (60, 33), (61, 33), (62, 2), (63, 3), (66, 33), (67, 33), (68, 2), (69, 3), (70, 7), (73, 1), (76, 7), (78, 10)]) askSj (noLoops _) 40 (loopOf Tryz.prog 33 0) (stOf 80 [(0, liP n k), (2, nilS), (3, gi 0), (4, goN m), (7, slO q q), (8, goN j)] g) (gD Tryz.prog (bC c e row) c' 48) (told 80 [0, 2, 3, 4, 7, 8] Q) = (((Nat.blt j m = true → (inI64 (2 * Int.ofNat j) = true ∧ inI64 (6 + (2 * Int.ofNat j)) = true ∧ ahasIndex (6 + (2 * Int.ofNat j)) n = true ∧ c[(0 + (Int.toNat (6 + (2 * Int.ofNat j)) * 1))]? = Option.some (Value.int .u8 (intAt c (0 + (Int.toNat (6 + (2 * Int.ofNat j)) * 1)))) ∧ inI64 (2 * Int.ofNat j) = true ∧ inI64 (7 + (2 * Int.ofNat j)) = true ∧ ahasIndex (7 + (2 * Int.ofNat j)) n = true ∧ c[(0 + (Int.toNat (7 + (2 * Int.ofNat j)) * 1))]? = Option.some (Value.int .u8 (intAt c (0 + (Int.toNat (7 + (2 * Int.ofNat j)) * 1)))) ∧ (((!(ilt (intAt c (0 + (Int.toNat (6 + (2 * Int.ofNat j)) * 1))) 0)) && (!(ilt 255 (intAt c (0 + (Int.toNat (6 + (2 * Int.ofNat j)) * 1)))))) && ((!(ilt (intAt c (0 + (Int.toNat (7 + (2 * Int.ofNat j)) * 1))) 0)) && (!(ilt 255 (intAt c (0 + (Int.toNat (7 + (2 * Int.ofNat j)) * 1))))))) = true ∧ ((!(ieq (withinS (dec16 (intAt c (0 + (Int.toNat (6 + (2 * Int.ofNat j)) * 1))) (intAt c (0 + (Int.toNat (7 + (2 * Int.ofNat j)) * 1)))) (-16384) 16384) 0)) = true → Q .ret [liP n k, nilS, gi 3, goN m, slO q q, goN j] (gD Tryz.prog (bC c e row) c' 48)) ∧ ((!(ieq (withinS (dec16 (intAt c (0 + (Int.toNat (6 + (2 * Int.ofNat j)) * 1))) (intAt c (0 + (Int.toNat (7 + (2 * Int.ofNat j)) * 1)))) (-16384) 16384) 0)) = false → (((!(ilt (dec16 (intAt c (0 + (Int.toNat (6 + (2 * Int.ofNat j)) * 1))) (intAt c (0 + (Int.toNat (7 + (2 * Int.ofNat j)) * 1)))) (-65536))) && (!(ilt 65536 (dec16 (intAt c (0 + (Int.toNat (6 + (2 * Int.ofNat j)) * 1))) (intAt c (0 + (Int.toNat (7 + (2 * Int.ofNat j)) * 1))))))) = true ∧ Nat.ble (q + 1) q = false ∧ Nat.ble (((2 * (q + 1)) + 256) * 4) 281474976710656 = true ∧ (q * 1) = List.length c' ∧ Q .normal [liP n k, nilS, gi 0, goN m, Value.slice (some ⟨N1 + 3, 0, none⟩) (q + 1) (q + 1), gi (fwrap IntKind.i64 (Int.ofNat (j + 1)))] ((((gD Tryz.prog (bC c e row) c' 48).push (.cells [gf (sampleE (dec16 (intAt c (0 + (Int.toNat (6 + (2 * Int.ofNat j)) * 1))) (intAt c (0 + (Int.toNat (7 + (2 * Int.ofNat j)) * 1)))))] 48 2 false)).set (N1 + 1) (.dead)).push (.cells (c' ++ [gf (sampleE (dec16 (intAt c (0 + (Int.toNat (6 + (2 * Int.ofNat j)) * 1))) (intAt c (0 + (Int.toNat (7 + (2 * Int.ofNat j)) * 1)))))]) 48 2 false)))))) ∧ (Nat.blt j m = false → Q (.exit 0) [liP n k, nilS, gi 0, goN m, slO q q, goN j] (gD Tryz.prog (bC c e row) c' 48)))) := by kernel_rfl
def okW (u : Int) : Prop := -16384 ≤ u ∧ u ≤ 16384
theorem within_ok {u : Int} (h : okW u) : withinS u (-16384) 16384 = 0 := by
  unfold okW at h
  unfold withinS whenS
  rw [ilt_dec, ilt_dec, decide_eq_false (by omega), decide_eq_false (by omega)]; rfl
theorem within_bad {u : Int} (h : ¬ okW u) : withinS u (-16384) 16384 = 3 := by
  unfold okW at h
  unfold withinS whenS
  rw [ilt_dec, ilt_dec]
  by_cases h1 : u < -16384
  · rw [decide_eq_true h1]; rfl
  · rw [decide_eq_false h1, decide_eq_true (by omega)]; rfl
/-- A pair of bytes of a stream. -/
noncomputable def puE (S : List Int) (j : Nat) : Int := dec16 (S.getD (2 * j) 0) (S.getD (2 * j + 1) 0)
theorem ld_facts {l : List Int} {n j : Nat} (q : Nat) (h1 : n ≤ l.length) (hq : q = 6 ∨ q = 7) (hj : q + 2 * j < n) : ahasIndex ((q : Int) + 2 * Int.ofNat j) n = true ∧ (l.map gb)[0 + (Int.toNat ((q : Int) + 2 * Int.ofNat j) * 1)]? = some (Value.int .u8 (intAt (l.map gb) (0 + (Int.toNat ((q : Int) + 2 * Int.ofNat j) * 1)))) ∧ intAt (l.map gb) (0 + (Int.toNat ((q : Int) + 2 * Int.ofNat j) * 1)) = ((l.take n).drop 6).getD (2 * j + (q - 6)) 0 := by
  have e : (q : Int) + 2 * Int.ofNat j = Int.ofNat (q + 2 * j) := by simp only [Int.ofNat_eq_natCast]; omega
  have et : ((q : Int) + 2 * Int.ofNat j).toNat = q + 2 * j := by simp only [Int.ofNat_eq_natCast]; omega
  rw [et]
  obtain ⟨a1, a2⟩ := byte_part (l := l) (off := 0) (n := n) (i := q + 2 * j) (by omega) hj
  refine ⟨by rw [e]; show Nat.blt (q + 2 * j) n = true; rw [Nat.blt_eq]; exact hj, a1, ?_⟩
  rw [a2, List.drop_zero, getD_drop]
  congr 1
  omega
noncomputable def urV (n k m : Nat) : Nat → Value → List Value := fun j v => [liP n k, nilS, gi 0, goN m, v, goN j]
/-- How the loop ends behind so many numbers without an error. -/
def urOut (c : List Value) (e row n k m t : Nat) (S : List Int) : Exit → List Value → AHeap → Prop := fun ex vs h' =>
  (t = m ∧ ex = .exit 0 ∧ ((t = 0 ∧ vs = [liP n k, nilS, gi 0, goN m, nilS, goN t] ∧ h' = gC Tryz.prog (bC c e row)) ∨ (0 < t ∧ vs = [liP n k, nilS, gi 0, goN m, slO t t, goN t] ∧ h' = gD Tryz.prog (bC c e row) (rdF S t) 48))) ∨
  (t < m ∧ ex = .ret ∧ ((t = 0 ∧ vs = [liP n k, nilS, gi 3, goN m, nilS, goN t] ∧ h' = gC Tryz.prog (bC c e row)) ∨ (0 < t ∧ vs = [liP n k, nilS, gi 3, goN m, slO t t, goN t] ∧ h' = gD Tryz.prog (bC c e row) (rdF S t) 48)))
theorem inI64_j {j : Nat} (h : j ≤ 1000000) : inI64 (2 * Int.ofNat j) = true ∧ inI64 (6 + 2 * Int.ofNat j) = true ∧ inI64 (7 + 2 * Int.ofNat j) = true := by
  simp only [Int.ofNat_eq_natCast]
  exact ⟨inI64_small (by omega) (by omega), inI64_small (by omega) (by omega), inI64_small (by omega) (by omega)⟩
set_option maxRecDepth 100000 in
theorem ur_loop (l : List Int) (n e row k m t : Nat) (hl : n ≤ l.length) (hle : n ≤ 1000000) (hm : 6 + 2 * m ≤ n) (ht : t ≤ m) (hok : ∀ j, j < t → okW (puE ((l.take n).drop 6) j)) (hbad : t < m → ¬ okW (puE ((l.take n).drop 6) t)) (hb : ∀ x ∈ l.take n, inB x) : ∀ (a : AAct) (h : AHeap), GrownC Tryz.prog (bC (l.map gb) e row) 48 (urV n k m) (fun j => rdF ((l.take n).drop 6) j) 0 ([0, 2, 3, 4, 7, 8].map a.tmp) h → a.n = 80 → a.marks = [] →
    J Tryz.prog (.loop (loopOf Tryz.prog 33 0)) a h (told 80 [0, 2, 3, 4, 7, 8] (urOut (l.map gb) e row n k m t ((l.take n).drop 6))) := by
  intro a h hG ha hk
  have hbS : ∀ x ∈ (l.take n).drop 6, inB x := fun x hx => hb x (List.mem_of_mem_drop hx)
  have len0 : ∀ j, rdF ((l.take n).drop 6) j = [] → j = 0 := fun j hx => by
    have := congrArg List.length hx
    rw [rdF_length] at this
    exact this
  have bnd : ∀ j, -32768 ≤ puE ((l.take n).drop 6) j ∧ puE ((l.take n).drop 6) j ≤ 32767 := fun j => dec16_le (getD_in hbS _) (getD_in hbS _)
  refine growC_rule (C := bC (l.map gb) e row) (el := 48) globs_pos (by decide) (by decide) (bC_flat l e row) (urV n k m) (fun j => rdF ((l.take n).drop 6) j) t _ (fun j => flat_floats _) (fun j => by kernel_rfl) (fun j q d hd => by
      obtain rfl | rfl | rfl | rfl : d = 0 ∨ d = 1 ∨ d = 2 ∨ d = 3 := by omega
      all_goals kernel_rfl)
    (fun j v q hq => by match q, hq with | 0, _ => exact ⟨(0, liP n k), by simp [urV], by simp [named]⟩) (fun j b q => ⟨(7, .slice (some ⟨b, 0, none⟩) q q), by simp [urV], by simp [named]⟩) ?_ ?_ ?_ ?_ a h hG ha hk
  · intro j hj hx g
    obtain rfl := len0 j hx
    obtain ⟨i1, i2, i3⟩ := inI64_j (j := 0) (by omega)
    obtain ⟨a1, a2, a3⟩ := ld_facts (l := l) (n := n) (j := 0) 6 hl (.inl rfl) (by omega)
    obtain ⟨b1, b2, b3⟩ := ld_facts (l := l) (n := n) (j := 0) 7 hl (.inr rfl) (by omega)
    have hp := hok 0 hj
    unfold puE at hp
    refine execC_ok mixed orcSj_ok askSj_ok (noLoops _) (Eq.mpr (ur_first _ n k e row 0 m g _) ⟨fun _ => ?_, fun hge => ?_⟩)
    · refine ⟨i1, i2, a1, a2, i1, i3, b1, b2, ?_⟩
      have a3 : intAt (l.map gb) (0 + (Int.toNat (6 + 2 * Int.ofNat 0) * 1)) = ((l.take n).drop 6).getD (2 * 0) 0 := a3
      have b3 : intAt (l.map gb) (0 + (Int.toNat (7 + 2 * Int.ofNat 0) * 1)) = ((l.take n).drop 6).getD (2 * 0 + 1) 0 := b3
      rw [a3, b3, within_ok hp]
      refine ⟨inB_b (getD_in hbS _) (getD_in hbS _), fun hc => (by cases hc), fun _ => ⟨smpW_in (bnd 0), fun p b hb' => ?_, .inr ⟨N1 + 2, 1, rfl, by omega, fun hx => absurd (len0 _ hx) (by omega), ?_, ?_⟩⟩⟩
      · match p, hb' with
        | 0, hb' => cases hb'; rw [AHeap.get_push_ne (by kernel_rfl), AHeap.get_push_ne (by kernel_rfl)]; exact gC_get (q := 0) rfl
      · show _ = urV n k m (0 + 1) (.slice _ (rdF ((l.take n).drop 6) (0 + 1)).length (rdF ((l.take n).drop 6) (0 + 1)).length)
        rw [rdF_length, fwrap_nat (by omega)]; rfl
      · rw [AHeap.get_push_eq (by kernel_rfl)]
        show _ = some (AObj.cells (rdF ((l.take n).drop 6) (0 + 1)) _ _ _)
        rw [rdF_succ]; rfl
    · have := blt_false hge; omega
  · intro j hj hx g
    show J _ _ (stOf 80 ([0, 2, 3, 4, 7, 8].zip (urV n k m j (slO (rdF ((l.take n).drop 6) j).length (rdF ((l.take n).drop 6) j).length))) g) _ _
    rw [rdF_length]
    obtain ⟨i1, i2, i3⟩ := inI64_j (j := j) (by omega)
    obtain ⟨a1, a2, a3⟩ := ld_facts (l := l) (n := n) (j := j) 6 hl (.inl rfl) (by omega)
    obtain ⟨b1, b2, b3⟩ := ld_facts (l := l) (n := n) (j := j) 7 hl (.inr rfl) (by omega)
    have hp := hok j hj
    unfold puE at hp
    refine execC_ok mixed orcSj_ok askSj_ok (noLoops _) (Eq.mpr (ur_next _ _ n k e row j m j g _) ⟨fun _ => ?_, fun hge => ?_⟩)
    · refine ⟨i1, i2, a1, a2, i1, i3, b1, b2, ?_⟩
      have a3 : intAt (l.map gb) (0 + (Int.toNat (6 + 2 * Int.ofNat j) * 1)) = ((l.take n).drop 6).getD (2 * j) 0 := a3
      have b3 : intAt (l.map gb) (0 + (Int.toNat (7 + 2 * Int.ofNat j) * 1)) = ((l.take n).drop 6).getD (2 * j + 1) 0 := b3
      rw [a3, b3, within_ok hp]
      refine ⟨inB_b (getD_in hbS _) (getD_in hbS _), fun hc => (by cases hc), fun _ => ⟨smpW_in (bnd j), ble_false' (by omega), by rw [Nat.ble_eq]; omega, by rw [rdF_length]; omega, fun p b hb' => ?_, .inr ⟨N1 + 3, 2, rfl, by omega, fun hx => absurd (len0 _ hx) (by omega), ?_, ?_⟩⟩⟩
      · match p, hb' with
        | 0, hb' => cases hb'; rw [AHeap.get_push_ne (by kernel_rfl), AHeap.get_set_neB (by kernel_rfl), AHeap.get_push_ne (by kernel_rfl)]; exact gD_get (q := 0) rfl
      · show _ = urV n k m (j + 1) (.slice _ (rdF ((l.take n).drop 6) (j + 1)).length (rdF ((l.take n).drop 6) (j + 1)).length)
        rw [rdF_length, fwrap_nat (by omega)]; rfl
      · rw [AHeap.get_push_eq (by kernel_rfl)]
        show _ = some (AObj.cells (rdF ((l.take n).drop 6) (j + 1)) _ _ _)
        rw [rdF_succ]
    · have := blt_false hge; omega
  · intro hx g
    have h0 := len0 _ hx
    refine execC_ok mixed orcSj_ok askSj_ok (noLoops _) (Eq.mpr (ur_first _ n k e row t m g _) ⟨fun hlt => ?_, fun hge => ?_⟩)
    · have htm := blt_true hlt
      obtain ⟨i1, i2, i3⟩ := inI64_j (j := t) (by omega)
      obtain ⟨a1, a2, a3⟩ := ld_facts (l := l) (n := n) (j := t) 6 hl (.inl rfl) (by omega)
      obtain ⟨b1, b2, b3⟩ := ld_facts (l := l) (n := n) (j := t) 7 hl (.inr rfl) (by omega)
      have hp := hbad htm
      unfold puE at hp
      refine ⟨i1, i2, a1, a2, i1, i3, b1, b2, ?_⟩
      have a3 : intAt (l.map gb) (0 + (Int.toNat (6 + 2 * Int.ofNat t) * 1)) = ((l.take n).drop 6).getD (2 * t) 0 := a3
      have b3 : intAt (l.map gb) (0 + (Int.toNat (7 + 2 * Int.ofNat t) * 1)) = ((l.take n).drop 6).getD (2 * t + 1) 0 := b3
      rw [a3, b3, within_bad hp]
      exact ⟨inB_b (getD_in hbS _) (getD_in hbS _), fun _ => .inr ⟨htm, rfl, .inl ⟨h0, rfl, rfl⟩⟩, fun hc => (by cases hc)⟩
    · have := blt_false hge
      exact .inl ⟨by omega, rfl, .inl ⟨h0, rfl, rfl⟩⟩
  · intro hx g
    have h0 : 0 < t := Nat.pos_of_ne_zero fun h0 => hx (by show rdF _ _ = []; rw [h0]; rfl)
    show J _ _ (stOf 80 ([0, 2, 3, 4, 7, 8].zip (urV n k m t (slO (rdF ((l.take n).drop 6) t).length (rdF ((l.take n).drop 6) t).length))) g) _ _
    rw [rdF_length]
    refine execC_ok mixed orcSj_ok askSj_ok (noLoops _) (Eq.mpr (ur_next _ _ n k e row t m t g _) ⟨fun hlt => ?_, fun hge => ?_⟩)
    · have htm := blt_true hlt
      obtain ⟨i1, i2, i3⟩ := inI64_j (j := t) (by omega)
      obtain ⟨a1, a2, a3⟩ := ld_facts (l := l) (n := n) (j := t) 6 hl (.inl rfl) (by omega)
      obtain ⟨b1, b2, b3⟩ := ld_facts (l := l) (n := n) (j := t) 7 hl (.inr rfl) (by omega)
      have hp := hbad htm
      unfold puE at hp
      refine ⟨i1, i2, a1, a2, i1, i3, b1, b2, ?_⟩
      have a3 : intAt (l.map gb) (0 + (Int.toNat (6 + 2 * Int.ofNat t) * 1)) = ((l.take n).drop 6).getD (2 * t) 0 := a3
      have b3 : intAt (l.map gb) (0 + (Int.toNat (7 + 2 * Int.ofNat t) * 1)) = ((l.take n).drop 6).getD (2 * t + 1) 0 := b3
      rw [a3, b3, within_bad hp]
      exact ⟨inB_b (getD_in hbS _) (getD_in hbS _), fun _ => .inr ⟨htm, rfl, .inr ⟨h0, rfl, rfl⟩⟩, fun hc => (by cases hc)⟩
    · have := blt_false hge
      exact .inl ⟨by omega, rfl, .inr ⟨h0, rfl, rfl⟩⟩
end Go.Proofs.YtphhcoiclkfimaaGreatDoor
