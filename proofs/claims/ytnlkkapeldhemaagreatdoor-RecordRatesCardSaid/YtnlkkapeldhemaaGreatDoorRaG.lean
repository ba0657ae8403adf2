/-
  OWN WORK. Samples with others between them, by the reference: known for all samples.
-/
import Derived.Test.YtnlkkapeldhemaaGreatDoorRaF
namespace Go.Proofs.YtnlkkapeldhemaaGreatDoor
open Go Go.Am

theorem sp_body (s0 : Value) (l : List Nat) (n k e row st i : Nat) (h : AHeap) (g : Nat → Value) (Q : Exit → List Value → AHeap → Prop) : execC Tryz.prog (exec Tryz.prog orcRk 10) (syOf [(20, 33), (23, 1)]) askSq (sqLoops l n e row k st i s0) 40 (loopOf Tryz.prog 39 0) (stOf 64 [(0, liP n k), (1, goN st), (6, s0), (7, goN i)] g) h (told 64 [0, 1, 6, 7] Q) = ((inI64 (Int.ofNat (i + 1)) = true ∧ (Nat.blt (i + 1) n = true → (loopOf Tryz.prog 39 2 = loopOf Tryz.prog 39 2 ∧ liP n k = liP n k ∧ goN st = goN st ∧ s0 = s0 ∧ goN i = goN i ∧ gi 0 = goN 0 ∧ sqG l n e row k st i s0 h ∧ ((n : Nat) ≤ List.length l ∧ (n : Nat) ≤ 65536 ∧ ((i + 1) : Nat) < n ∧ (1 : Nat) ≤ st ∧ (st : Nat) ≤ 16 ∧ validL (List.take n l) ∧ (((i + 1) * st) : Nat) ≤ 65536) ∧ (∀ _ : Nat → Value, (∀ y2 : Nat, (∀ y3 : List Nat, (y2 = ((i + 1) * st) → (y3 = sqX l st ((i + 1) * st) → Q .normal [liP n k, goN st, slO y2 y2, gi (fwrap IntKind.i64 (Int.ofNat (i + 1)))] (gD Tryz.prog (sqC (List.map gf l) e row) (List.map gf y3) 69)))))))) ∧ (Nat.blt (i + 1) n = false → Q (.exit 0) [liP n k, goN st, s0, goN i] h))) := by kernel_rfl
noncomputable def spV (n k st : Nat) : Nat → Value → List Value := fun i v => [liP n k, goN st, v, goN i]
theorem sqC_src (c : List Value) (e row : Nat) : (gC Tryz.prog (sqC c e row)).get N1 = some (.cells c e row true) := gC_get (P := Tryz.prog) (C := sqC c e row) (q := 0) (b := (c, e, row, true)) rfl
theorem sqD_src (c : List Value) (e row : Nat) (d : List Value) : (gD Tryz.prog (sqC c e row) d 69).get N1 = some (.cells c e row true) := gD_get (P := Tryz.prog) (C := sqC c e row) (q := 0) (b := (c, e, row, true)) rfl
set_option maxRecDepth 100000 in
theorem sp_loop (l : List Nat) (n e row k st : Nat) (hl : n ≤ l.length) (hle : n ≤ 65536) (h0 : 1 ≤ n) (h1 : 1 ≤ st) (h2 : st ≤ 16) (hok : validL (l.take n)) (hsz : (n - 1) * st ≤ 65536) : ∀ (a : AAct) (h : AHeap), (∀ (q : Nat) b, (sqC (l.map gf) e row)[q]? = some b → h.get (Tryz.prog.globals.size + q) = some (.cells b.1 b.2.1 b.2.2.1 b.2.2.2)) → a.n = 64 → a.marks = [] → [0, 1, 6, 7].map a.tmp = [liP n k, goN st, nilS, goN 0] →
    J Tryz.prog (.loop (loopOf Tryz.prog 39 0)) a h (told 64 [0, 1, 6, 7] fun ex vs h' => ex = .exit 0 ∧ h'.get N1 = some (.cells (l.map gf) e row true) ∧ ((n = 1 ∧ vs = [liP n k, goN st, nilS, goN (n - 1)]) ∨ (1 < n ∧ vs = [liP n k, goN st, slO ((n - 1) * st) ((n - 1) * st), goN (n - 1)] ∧ h'.get (N1 + 1) = some (.cells ((sqX l st ((n - 1) * st)).map gf) 69 2 false)))) := by
  intro a h hs ha hk hv
  refine growC_rule (C := sqC (l.map gf) e row) (el := 69) globs_pos (by decide) (by decide) (sqC_flat l e row) (spV n k st) (fun i => (sqX l st (i * st)).map gf) (n - 1) _ (fun j => flat_floats _) (fun j => by kernel_rfl) (fun j q d hd => by
      obtain rfl | rfl | rfl | rfl : d = 0 ∨ d = 1 ∨ d = 2 ∨ d = 3 := by omega
      all_goals kernel_rfl)
    (fun j v q hq => by match q, hq with | 0, _ => exact ⟨(0, liP n k), by simp [spV], by simp [named]⟩) (fun j b q => ⟨(6, .slice (some ⟨b, 0, none⟩) q q), by simp [spV], by simp [named]⟩) ?_ ?_ ?_ ?_ a h ⟨hs, .inl ⟨by simp [sqX, stX], hv⟩⟩ ha hk
  · intro i hi hx g
    have hm := stC_mul (st := st) (show i + 1 ≤ n - 1 by omega)
    refine execC_ok mixed orcRk_ok askSq_ok (sqLoops l n e row k st i nilS) (Eq.mpr (sp_body nilS l n k e row st i _ g _) ⟨inI64_nat (by omega), fun _ => ?_, fun hge => ?_⟩)
    · refine ⟨rfl, rfl, rfl, rfl, rfl, rfl, ⟨fun q b hb => gC_get hb, .inl ⟨hx, rfl⟩⟩, ⟨hl, hle, by omega, h1, h2, hok, by omega⟩, fun _ m xs em ex => ?_⟩
      subst em ex
      refine ⟨fun q b hb => gD_get hb, .inr ⟨N1 + 1, 0, rfl, by omega, ?_, ?_, gD_dst⟩⟩
      · intro hn
        have := sqX_nil hn
        have := Nat.mul_pos (show 0 < i + 1 by omega) h1
        omega
      · show _ = spV n k st (i + 1) (.slice _ ((sqX l st ((i + 1) * st)).map gf).length ((sqX l st ((i + 1) * st)).map gf).length)
        rw [List.length_map, sqX_length, fwrap_nat (by omega)]; rfl
    · have := blt_false hge; omega
  · intro i hi hx g
    have hm := stC_mul (st := st) (show i + 1 ≤ n - 1 by omega)
    simp only [List.length_map, sqX_length]
    refine execC_ok mixed orcRk_ok askSq_ok (sqLoops l n e row k st i (slO (i * st) (i * st))) (Eq.mpr (sp_body (slO (i * st) (i * st)) l n k e row st i _ g _) ⟨inI64_nat (by omega), fun _ => ?_, fun hge => ?_⟩)
    · refine ⟨rfl, rfl, rfl, rfl, rfl, rfl, ⟨fun q b hb => gD_get hb, .inr ⟨N1 + 1, 0, rfl, by omega, hx, ?_, gD_dst⟩⟩, ⟨hl, hle, by omega, h1, h2, hok, by omega⟩, fun _ m xs em ex => ?_⟩
      · show _ = sqV n k st i 0 (.slice _ ((sqX l st (i * st + 0)).map gf).length ((sqX l st (i * st + 0)).map gf).length)
        rw [List.length_map, sqX_length]; rfl
      · subst em ex
        refine ⟨fun q b hb => gD_get hb, .inr ⟨N1 + 1, 0, rfl, by omega, ?_, ?_, gD_dst⟩⟩
        · intro hn
          have := sqX_nil hn
          have := Nat.mul_pos (show 0 < i + 1 by omega) h1
          omega
        · show _ = spV n k st (i + 1) (.slice _ ((sqX l st ((i + 1) * st)).map gf).length ((sqX l st ((i + 1) * st)).map gf).length)
          rw [List.length_map, sqX_length, fwrap_nat (by omega)]; rfl
    · have := blt_false hge; omega
  · intro hx g
    have h3 := sqX_nil hx
    have h4 : n = 1 := by
      by_cases hn : n = 1
      · exact hn
      · have := Nat.mul_pos (show 0 < n - 1 by omega) h1
        omega
    subst h4
    refine execC_ok mixed orcRk_ok askSq_ok (sqLoops l 1 e row k st 0 nilS) (Eq.mpr (sp_body nilS l 1 k e row st 0 _ g _) ⟨inI64_nat (by omega), fun hlt => ?_, fun _ => ⟨rfl, sqC_src _ _ _, .inl ⟨rfl, rfl⟩⟩⟩)
    have := blt_true hlt; omega
  · intro hx g
    simp only [List.length_map, sqX_length]
    have h4 : 1 < n := by
      by_cases hn : n = 1
      · subst hn; exact absurd (by simp [sqX, stX]) hx
      · omega
    refine execC_ok mixed orcRk_ok askSq_ok (sqLoops l n e row k st (n - 1) (slO ((n - 1) * st) ((n - 1) * st))) (Eq.mpr (sp_body (slO ((n - 1) * st) ((n - 1) * st)) l n k e row st (n - 1) _ g _) ⟨inI64_nat (by omega), fun hlt => ?_, fun _ => ⟨rfl, sqD_src _ _ _ _, .inr ⟨h4, rfl, gD_dst⟩⟩⟩)
    have := blt_true hlt; omega
def sqH (c : List Value) (e row : Nat) (h : AHeap) : Prop := ∀ (q : Nat) b, (sqC c e row)[q]? = some b → h.get (Tryz.prog.globals.size + q) = some (.cells b.1 b.2.1 b.2.2.1 b.2.2.2)
set_option maxRecDepth 100000 in
noncomputable def spLoops (l : List Nat) (n e row k st : Nat) : Loops Tryz.prog where
  body := fun _ => loopOf Tryz.prog 39 0
  spec := fun _ a h c => entry a 64 [(0, liP n k), (1, goN st), (6, nilS), (7, goN 0)] (sqH (l.map gf) e row h ∧ (n ≤ l.length ∧ n ≤ 65536 ∧ 1 ≤ n ∧ 1 ≤ st ∧ st ≤ 16 ∧ validL (l.take n) ∧ (n - 1) * st ≤ 65536 ∧ 1 < n) ∧
    (∀ g m xs, m = (n - 1) * st → xs = sqX l st ((n - 1) * st) → c (.exit 0) (stOf 64 [(0, liP n k), (6, slO m m)] g) (gH2 Tryz.prog (l.map gf) e row (xs.map gf) 69)))
  ok := fun i' a h c q => by
    obtain ⟨h1, h2, h3, hG, ⟨p1, p2, p3, p4, p5, p6, p7, p8⟩, k2⟩ := entry_facts q
    refine J.of_toldR globs_pos (sp_loop l n e row k st p1 p2 p3 p4 p5 p6 p7 a h hG h1 h2 ?_) ?_
    · simp only [List.map_cons, List.map_nil]
      rw [h3 (0, liP n k) (by simp), h3 (1, goN st) (by simp), h3 (6, nilS) (by simp), h3 (7, goN 0) (by simp)]
    · rintro ex vs h' ⟨rfl, hs, ⟨hn, rfl⟩ | ⟨hn, rfl, hd⟩⟩
      · omega
      · refine ⟨[0, 6], [liP n k, slO ((n - 1) * st) ((n - 1) * st)], [liP n k, slO ((n - 1) * st) ((n - 1) * st)], [(l.map gf, e, row, true), ((sqX l st ((n - 1) * st)).map gf, 69, 2, false)], [N1, N1 + 1], by simp, rfl, by simp, by simp, ?_, by kernel_rfl, ?_, fun g => k2 g _ _ rfl rfl⟩
        · intro q b' i hb hi
          match q, hb, hi with
          | 0, hb, hi => cases hb; cases hi; exact ⟨hs, flat_floats l⟩
          | 1, hb, hi => cases hb; cases hi; exact ⟨hd, flat_floats _⟩
        · intro i hi
          simp only [List.mem_cons, List.not_mem_nil, or_false] at hi
          rcases hi with rfl | rfl
          · exact ⟨(0, liP n k), by simp, by simp [named]⟩
          · exact ⟨(6, slO ((n - 1) * st) ((n - 1) * st)), by simp, by simp [named]⟩
set_option maxRecDepth 100000 in
noncomputable def spLone (l : List Nat) (n e row k st : Nat) : Loops Tryz.prog where
  body := fun _ => loopOf Tryz.prog 39 0
  spec := fun _ a h c => entry a 64 [(0, liP n k), (1, goN st), (6, nilS), (7, goN 0)] (sqH (l.map gf) e row h ∧ (n ≤ l.length ∧ n ≤ 65536 ∧ 1 ≤ n ∧ 1 ≤ st ∧ st ≤ 16 ∧ validL (l.take n) ∧ (n - 1) * st ≤ 65536 ∧ n = 1) ∧
    (∀ g, c (.exit 0) (stOf 64 [(0, liP n k), (6, nilS)] g) (gH1 Tryz.prog (l.map gf) e row)))
  ok := fun i' a h c q => by
    obtain ⟨h1, h2, h3, hG, ⟨p1, p2, p3, p4, p5, p6, p7, p8⟩, k1⟩ := entry_facts q
    refine J.of_toldR globs_pos (sp_loop l n e row k st p1 p2 p3 p4 p5 p6 p7 a h hG h1 h2 ?_) ?_
    · simp only [List.map_cons, List.map_nil]
      rw [h3 (0, liP n k) (by simp), h3 (1, goN st) (by simp), h3 (6, nilS) (by simp), h3 (7, goN 0) (by simp)]
    · rintro ex vs h' ⟨rfl, hs, ⟨hn, rfl⟩ | ⟨hn, rfl, hd⟩⟩
      · refine ⟨[0, 6], [liP n k, nilS], [liP n k, nilS], [(l.map gf, e, row, true)], [N1], by simp, rfl, by simp, by simp, ?_, by kernel_rfl, ?_, fun g => k1 g⟩
        · intro q b' i hb hi
          match q, hb, hi with
          | 0, hb, hi => cases hb; cases hi; exact ⟨hs, flat_floats l⟩
        · intro i hi
          obtain rfl := List.mem_singleton.1 hi
          exact ⟨(0, liP n k), by simp, by simp [named]⟩
      · omega
theorem sp_run (l : List Nat) (n k e row st : Nat) (K : Value → AHeap → Prop) : callC Tryz.prog (exec Tryz.prog orcRk 10) (syOf [(11, 32), (14, 33), (16, 33), (17, 33), (18, 32), (59, 33), (60, 2), (61, 3), (63, 10)]) askSq (spLoops l n e row k st) 40 39 #[liP n k, goN st] (liH (l.map gf) e row) K = ((ieq (Int.ofNat n) 0 = false ∧ inI64 (Int.ofNat n - 1) = true ∧ inI64 ((Int.ofNat n - 1) * Int.ofNat st) = true ∧ inI64 (((Int.ofNat n - 1) * Int.ofNat st) + 1) = true ∧ ilt 4096 (((Int.ofNat n - 1) * Int.ofNat st) + 1) = false ∧ loopOf Tryz.prog 39 0 = loopOf Tryz.prog 39 0 ∧ liP n k = liP n k ∧ goN st = goN st ∧ nilS = nilS ∧ gi 0 = goN 0 ∧ sqH (List.map gf l) e row (liH (List.map gf l) e row) ∧ ((n : Nat) ≤ List.length l ∧ (n : Nat) ≤ 65536 ∧ (1 : Nat) ≤ n ∧ (1 : Nat) ≤ st ∧ (st : Nat) ≤ 16 ∧ validL (List.take n l) ∧ (((n - 1) * st) : Nat) ≤ 65536 ∧ (1 : Nat) < n) ∧ (∀ _ : Nat → Value, (∀ y2 : Nat, (∀ y3 : List Nat, (y2 = ((n - 1) * st) → (y3 = sqX l st ((n - 1) * st) → (inI64 (Int.ofNat n - 1) = true ∧ ahasIndex (Int.ofNat n - 1) n = true ∧ (List.map gf l)[(0 + (Int.toNat (Int.ofNat n - 1) * 1))]? = Option.some (gf (floatAt (List.map gf l) (0 + (Int.toNat (Int.ofNat n - 1) * 1)))) ∧ Nat.ble (y2 + 1) y2 = false ∧ Nat.ble (((2 * (y2 + 1)) + 256) * 4) 281474976710656 = true ∧ (y2 * 1) = List.length (List.map gf y3) ∧ K (Value.tuple #[Value.slice (some ⟨N1 + 3, 0, none⟩) (y2 + 1) (y2 + 1), gi 0]) ((((gH2 Tryz.prog (List.map gf l) e row (List.map gf y3) 69).push (.cells [gf (floatAt (List.map gf l) (0 + (Int.toNat (Int.ofNat n - 1) * 1)))] 69 2 false)).set (N1 + 1) (.dead)).push (.cells (List.map gf y3 ++ [gf (floatAt (List.map gf l) (0 + (Int.toNat (Int.ofNat n - 1) * 1)))]) 69 2 false)))))))))) := by kernel_rfl
theorem sp_one (l : List Nat) (n k e row st : Nat) (K : Value → AHeap → Prop) : callC Tryz.prog (exec Tryz.prog orcRk 10) (syOf [(11, 32), (14, 33), (16, 33), (17, 33), (18, 32), (59, 33), (60, 2), (61, 3)]) askSq (spLone l n e row k st) 40 39 #[liP n k, goN st] (liH (l.map gf) e row) K = ((ieq (Int.ofNat n) 0 = false ∧ inI64 (Int.ofNat n - 1) = true ∧ inI64 ((Int.ofNat n - 1) * Int.ofNat st) = true ∧ inI64 (((Int.ofNat n - 1) * Int.ofNat st) + 1) = true ∧ ilt 4096 (((Int.ofNat n - 1) * Int.ofNat st) + 1) = false ∧ loopOf Tryz.prog 39 0 = loopOf Tryz.prog 39 0 ∧ liP n k = liP n k ∧ goN st = goN st ∧ nilS = nilS ∧ gi 0 = goN 0 ∧ sqH (List.map gf l) e row (liH (List.map gf l) e row) ∧ ((n : Nat) ≤ List.length l ∧ (n : Nat) ≤ 65536 ∧ (1 : Nat) ≤ n ∧ (1 : Nat) ≤ st ∧ (st : Nat) ≤ 16 ∧ validL (List.take n l) ∧ (((n - 1) * st) : Nat) ≤ 65536 ∧ n = 1) ∧ (∀ _ : Nat → Value, (inI64 (Int.ofNat n - 1) = true ∧ ahasIndex (Int.ofNat n - 1) n = true ∧ (List.map gf l)[(0 + (Int.toNat (Int.ofNat n - 1) * 1))]? = Option.some (gf (floatAt (List.map gf l) (0 + (Int.toNat (Int.ofNat n - 1) * 1)))) ∧ K (Value.tuple #[Value.slice (some ⟨N1 + 2, 0, none⟩) 1 1, gi 0]) (((gH1 Tryz.prog (List.map gf l) e row).push (.cells [gf (floatAt (List.map gf l) (0 + (Int.toNat (Int.ofNat n - 1) * 1)))] 69 2 false)).push (.cells ([] ++ [gf (floatAt (List.map gf l) (0 + (Int.toNat (Int.ofNat n - 1) * 1)))]) 69 2 false)))))) := by kernel_rfl
theorem sp_bad (l : List Nat) (n k e row st : Nat) (K : Value → Prop) : callC Tryz.prog (exec Tryz.prog orcRk 10) (syOf [(11, 32), (14, 33), (16, 33), (17, 33), (18, 31)]) askSq (noLoops _) 40 39 #[liP n k, goN st] (liH (l.map gf) e row) (fun v _ => K v) = ((ieq (Int.ofNat n) 0 = false ∧ inI64 (Int.ofNat n - 1) = true ∧ inI64 ((Int.ofNat n - 1) * Int.ofNat st) = true ∧ inI64 (((Int.ofNat n - 1) * Int.ofNat st) + 1) = true ∧ ilt 4096 (((Int.ofNat n - 1) * Int.ofNat st) + 1) = true ∧ K (Value.tuple #[nilS, gi 5]))) := by kernel_rfl
theorem sp_nil (st : Int) (K : Value → Prop) : callC Tryz.prog (exec Tryz.prog orcRk 40) (syOf []) askSq (noLoops _) 40 39 #[nilS, gi st] (emp Tryz.prog) (fun v _ => K v) = (K (Value.tuple #[nilS, gi 12])) := by kernel_rfl
theorem sp_emp (k : Nat) (st : Int) (K : Value → Prop) : callC Tryz.prog (exec Tryz.prog orcRk 40) (syOf []) askSq (noLoops _) 40 39 #[.slice (some ⟨0, 0, none⟩) 0 k, gi st] (emp Tryz.prog) (fun v _ => K v) = (K (Value.tuple #[nilS, gi 12])) := by kernel_rfl
noncomputable def sqE (l : List Nat) (st : Int) : Int := bif ieq (Int.ofNat l.length) 0 then 12 else bif ilt 4096 ((Int.ofNat l.length - 1) * st + 1) then 5 else 0
noncomputable def sqL (l : List Nat) (st : Int) : List Nat := sqX l st.toNat ((l.length - 1) * st.toNat) ++ [l.getD (l.length - 1) 0]
noncomputable def sqOut (l : List Nat) (st : Int) : Out := bif ieq (sqE l st) 0 then .fresh (tupM [] (sqL l st).length [gi 0]) ((sqL l st).map gf) 69 else .plain (.tuple #[nilS, gi (sqE l st)])
noncomputable def sqB (l : List Nat) (st : Int) : Bool := ieq (csE l) 0 && (!ilt st 1 && !ilt 16 st)
noncomputable def sqO : List Nat → List Value → Option Out := fun l r => match r with
  | [.int .i64 st] => bif sqB l st then some (sqOut l st) else none
  | _ => none
noncomputable def sqY (bb : Bool) : List Nat → List Value → (Out → Prop) → Prop := fun l r K => match r with
  | [.int .i64 st] => sqB l st = true ∧ ieq (sqE l st) 0 = bb ∧ Bool.rec (motive := fun _ => Prop) (K (.plain (.tuple #[nilS, gi (sqE l st)])))
      (∀ xs, xs = sqL l st → K (.fresh (tupM [] xs.length [gi 0]) (xs.map gf) 69)) bb
  | _ => False
theorem sqB_iff {l : List Nat} {st : Int} : sqB l st = true ↔ csE l = 0 ∧ 1 ≤ st ∧ st ≤ 16 := by
  unfold sqB
  simp only [Bool.and_eq_true, ilt_dec, ieq_dec, decide_eq_true_eq, Bool.not_eq_true', decide_eq_false_iff_not]
  omega
theorem sqO_some {l : List Nat} {r : List Value} {o : Out} (h : sqO l r = some o) : ∃ st : Nat, r = [goN st] ∧ o = sqOut l st ∧ csE l = 0 ∧ 1 ≤ st ∧ st ≤ 16 := by
  unfold sqO at h
  split at h
  · rename_i st
    cases hb : sqB l st with
    | false => rw [hb] at h; cases h
    | true =>
      rw [hb] at h
      cases h
      obtain ⟨h1, h2, h3⟩ := sqB_iff.1 hb
      obtain ⟨a, rfl⟩ := Int.eq_ofNat_of_zero_le (show 0 ≤ st by omega)
      exact ⟨a, rfl, rfl, h1, by omega, by omega⟩
  · cases h
theorem sqY_ok (bb : Bool) (l : List Nat) (r : List Value) (K : Out → Prop) (h : sqY bb l r K) : ∃ o, sqO l r = some o ∧ K o := by
  unfold sqY at h
  split at h
  · rename_i st
    refine ⟨sqOut l st, ?_, ?_⟩
    · show (bif sqB l st then some (sqOut l st) else none) = _
      rw [h.1]; rfl
    · unfold sqOut
      rw [h.2.1]
      cases bb with
      | true => exact h.2.2 _ rfl
      | false => exact h.2.2
  · exact h.elim
theorem sqX_take {l : List Nat} {n st : Nat} (hn : n ≤ l.length) (h1 : 1 ≤ st) : sqX (l.take n) st ((n - 1) * st) = sqX l st ((n - 1) * st) := by
  unfold sqX
  rw [List.map_take, ← stX_take (by rw [List.length_map]; exact hn) h1]
theorem sqL_take {l : List Nat} {n st : Nat} (hn : n ≤ l.length) (h0 : 0 < n) (h1 : 1 ≤ st) : sqL (l.take n) (st : Int) = sqX l st ((n - 1) * st) ++ [l.getD (n - 1) 0] := by
  unfold sqL
  rw [show (l.take n).length = n by rw [List.length_take]; omega]
  show sqX (l.take n) st ((n - 1) * st) ++ _ = _
  rw [sqX_take hn h1]
  simp only [List.getD_eq_getElem?_getD, List.getElem?_take]
  rw [if_pos (by omega)]
theorem sqH_of (l : List Nat) (e row : Nat) : sqH (l.map gf) e row (liH (l.map gf) e row) := by
  intro q b hb
  match q, hb with
  | 0, hb => cases hb; rw [canon_get, if_pos (by omega), Nat.add_zero, Nat.sub_self]; rfl
theorem sqE_nil (st : Int) : sqE [] st = 12 := rfl
theorem mul_nat {n a : Nat} (h0 : 0 < n) : (Int.ofNat n - 1) * Int.ofNat a = Int.ofNat ((n - 1) * a) := by
  rw [show Int.ofNat n - 1 = Int.ofNat (n - 1) by simp only [Int.ofNat_eq_natCast]; omega]; rfl
noncomputable def orcRl : Orc := orElse 39 (genO dF 65536 false sqO) orcRk
set_option maxRecDepth 100000 in
theorem orcRl_ok : OrcOk Tryz.prog orcRl := by
  refine genO_ok dF_some (fun _ => rfl) globs_pos orcRk_ok ?_ ?_ ?_ ?_
  · intro l r o h
    obtain ⟨st, rfl, rfl, _⟩ := sqO_some h
    unfold sqOut
    cases ieq (sqE l st) 0 with
    | true => exact ⟨names_tup rfl rfl, flat_floats _⟩
    | false => rfl
  · intro r o h
    obtain ⟨st, rfl, rfl, _⟩ := sqO_some h
    exact callC_ok mixed orcRk_ok askSq_ok (Eq.mpr (sp_nil (Int.ofNat st) _) rfl)
  · intro r k o h
    obtain ⟨st, rfl, rfl, _⟩ := sqO_some h
    exact callC_ok mixed orcRk_ok askSq_ok (Eq.mpr (sp_emp k (Int.ofNat st) _) rfl)
  · intro l off n r el row k o ho hw h0 h1 h2 h3 h
    obtain rfl := ho rfl
    rw [List.drop_zero] at h
    obtain ⟨st, rfl, rfl, hc, p1, p2⟩ := sqO_some h
    have hlen : (l.take n).length = n := by rw [List.length_take]; omega
    obtain ⟨hv, hle⟩ := cs_zero hc
    rw [hlen] at hle
    have hm : (n - 1) * st ≤ 4095 * 16 := Nat.mul_le_mul (by omega) p2
    have q0 : ieq (Int.ofNat n) 0 = false := ieq_ne (by simp only [Int.ofNat_eq_natCast]; omega)
    have q1 : inI64 (Int.ofNat n - 1) = true := by rw [show Int.ofNat n - 1 = Int.ofNat (n - 1) by simp only [Int.ofNat_eq_natCast]; omega]; exact inI64_nat (by omega)
    have q2 : inI64 ((Int.ofNat n - 1) * Int.ofNat st) = true := by rw [mul_nat h0]; exact inI64_nat (by omega)
    have q3 : inI64 ((Int.ofNat n - 1) * Int.ofNat st + 1) = true := by rw [mul_nat h0]; exact inI64_nat (m := (n - 1) * st + 1) (by omega)
    have hE : sqE (l.take n) (Int.ofNat st) = bif ilt 4096 ((Int.ofNat n - 1) * Int.ofNat st + 1) then 5 else 0 := by
      unfold sqE
      rw [hlen, q0]; rfl
    cases hb : ilt 4096 ((Int.ofNat n - 1) * Int.ofNat st + 1) with
    | true =>
      rw [hb] at hE
      have : sqOut (l.take n) (Int.ofNat st) = .plain (.tuple #[nilS, gi 5]) := by unfold sqOut; rw [hE]; rfl
      show CallJ _ _ _ _ (sqOut (l.take n) (Int.ofNat st)).Got
      rw [this]
      exact callC_ok mixed orcRk_ok askSq_ok (Eq.mpr (sp_bad l n k el row st _) ⟨q0, q1, q2, q3, hb, rfl⟩)
    | false =>
      rw [hb] at hE
      have hO : sqOut (l.take n) (Int.ofNat st) = .fresh (tupM [] (sqL (l.take n) st).length [gi 0]) ((sqL (l.take n) st).map gf) 69 := by unfold sqOut; rw [hE]; rfl
      show CallJ _ _ _ _ (sqOut (l.take n) (Int.ofNat st)).Got
      rw [hO, sqL_take (by omega) h0 p1]
      have hn1 : n - 1 < l.length := by omega
      obtain ⟨f1, f2⟩ := float_at (l := l) (j := n - 1) hn1
      have f2' : floatAt (l.map gf) (0 + (n - 1) * 1) = l.getD (n - 1) 0 := by rw [f2, List.getD_eq_getElem?_getD, List.getElem?_eq_getElem hn1]; rfl
      have hp : Int.ofNat n - 1 = Int.ofNat (n - 1) := by simp only [Int.ofNat_eq_natCast]; omega
      have g1 : (l.map gf)[0 + Int.toNat (Int.ofNat (n - 1)) * 1]? = _ := f1
      have g2 : floatAt (l.map gf) (0 + Int.toNat (Int.ofNat (n - 1)) * 1) = l.getD (n - 1) 0 := f2'
      have g1' : (l.map gf)[0 + Int.toNat (Int.ofNat (n - 1)) * 1]? = some (gf (l.getD (n - 1) 0)) := by rw [g1, f2']
      by_cases hn : n = 1
      · refine callC_ok mixed orcRk_ok askSq_ok (Eq.mpr (sp_one l n k el row st _) ⟨q0, q1, q2, q3, hb, rfl, rfl, rfl, rfl, rfl, sqH_of l el row, ⟨by omega, h2, h0, p1, p2, hv, by omega, hn⟩, fun _ => ?_⟩)
        rw [hp, g2]
        refine ⟨inI64_nat (by omega), by show Nat.blt (n - 1) n = true; rw [Nat.blt_eq]; omega, g1', ?_⟩
        subst hn
        refine ⟨N1 + 2, ?_, ?_⟩
        · simp [sqX, stX, tupM]
        · rw [AHeap.get_push_eq (by kernel_rfl)]; simp [sqX, stX]
      · refine callC_ok mixed orcRk_ok askSq_ok (Eq.mpr (sp_run l n k el row st _) ⟨q0, q1, q2, q3, hb, rfl, rfl, rfl, rfl, rfl, sqH_of l el row, ⟨by omega, h2, h0, p1, p2, hv, by omega, by omega⟩, fun _ m xs em ex => ?_⟩)
        rw [hp, g2]
        refine ⟨inI64_nat (by omega), by show Nat.blt (n - 1) n = true; rw [Nat.blt_eq]; omega, g1', ble_false (by omega), by rw [Nat.ble_eq]; omega, by rw [List.length_map, ex, sqX_length, em, Nat.mul_one], ?_⟩
        refine ⟨N1 + 3, ?_, ?_⟩
        · rw [List.length_append, sqX_length, em]; rfl
        · rw [AHeap.get_push_eq (by kernel_rfl), List.map_append, ex]; rfl
noncomputable def askRl (b1 b2 : Bool) : Asks := asksG 39 gf 65536 (sqY b1) (askRk b2)
theorem askRl_ok (b1 b2 : Bool) : AsksOk orcRl (askRl b1 b2) := asksG_ok (d := dF) (e := gf) (fun _ => rfl) (sqY_ok b1) (askRk_ok b2)
end Go.Proofs.YtnlkkapeldhemaaGreatDoor
