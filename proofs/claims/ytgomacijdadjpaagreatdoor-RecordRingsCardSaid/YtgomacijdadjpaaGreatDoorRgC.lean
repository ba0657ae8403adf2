/-
  OWN WORK. Rings: their errors, by the reference.
-/
import Derived.Test.YtgomacijdadjpaaGreatDoorRgB
namespace Go.Proofs.YtgomacijdadjpaaGreatDoor
open Go Go.Am

noncomputable def orcRgD : Orc := liftO 49 orcW orcRgC
theorem orcRgD_ok : OrcOk Tryz.prog orcRgD := liftO_ok orcW_ok orcRgC_ok
noncomputable def askRgD : Asks := liftA 49 (asksO 49 gf 1000000 noT smpsR noAsks) noAsks
theorem askRgD_ok : AsksOk orcRgD askRgD := liftA_ok (asksO_ok (d := dF) (e := gf) (fun _ => rfl) (noAsks_ok _)) (noAsks_ok _)
noncomputable abbrev ptB (b : Nat) : Value := .pointer (some ⟨Tryz.prog.globals.size + b, 0, none⟩)
noncomputable abbrev cRH (c : List Value) (e row n k : Nat) (nx : Int) (fu : Bool) (q : List Value) : AHeap := ((rdH Tryz.prog c e row).push (.cells [liP n k, gi nx, .bool fu] 24 0 false)).push (.cells q 3 2 false)
theorem cR_body (c q : List Value) (e row n k j : Nat) (nx : Int) (fu : Bool) (g : Nat → Value) (Q : Exit → List Value → AHeap → Prop) : execC Tryz.prog (exec Tryz.prog orcRgD 20) (syOf [(36, 1), (41, 1), (46, 2), (47, 3), (48, 1)]) noAsks (noLoops _) 40 (loopOf Tryz.prog 12 0) (stOf 50 [(1, ptB 1), (2, gi 0), (4, goN j)] g) (cRH c e row n k nx fu q) (told 50 [1, 2, 4] Q) = (((Nat.blt j n = true → (((!fu) = true → (Nat.blt j n = true ∧ c[(0 + (j * 1))]? = Option.some (gf (floatAt c (0 + (j * 1)))) ∧ (bne (Ieee.Format.order (FloatKind.format FloatKind.f32) (floatAt c (0 + (j * 1))) 0) (Option.some Ordering.eq) = true → Q .ret [ptB 1, gi 1, goN j] (cRH c e row n k nx fu q)) ∧ (bne (Ieee.Format.order (FloatKind.format FloatKind.f32) (floatAt c (0 + (j * 1))) 0) (Option.some Ordering.eq) = false → Q .normal [ptB 1, gi 0, gi (fwrap IntKind.i64 (Int.ofNat (j + 1)))] (cRH c e row n k nx fu q)))) ∧ ((!fu) = false → Q .normal [ptB 1, gi 0, gi (fwrap IntKind.i64 (Int.ofNat (j + 1)))] (cRH c e row n k nx fu q)))) ∧ (Nat.blt j n = false → Q (.exit 0) [ptB 1, gi 0, goN j] (cRH c e row n k nx fu q)))) := by kernel_rfl
theorem wf_skip {l : List Nat} {n : Nat} (x : Nat) (hn : n ≤ l.length) : ∀ j : Nat, j ≤ x → j ≤ n → wfR (Int.ofNat x) 0 (l.take n) = wfR (Int.ofNat x) j ((l.take n).drop j)
  | 0, _, _ => rfl
  | j + 1, hx, hj => by
    rw [wf_skip x hn j (by omega) (by omega), wf_step (Int.ofNat x) hn (show j < n by omega)]
    have : ilt (Int.ofNat j) (Int.ofNat x) = true := by rw [ilt_dec]; exact decide_eq_true (by simp only [Int.ofNat_eq_natCast]; omega)
    rw [this]; rfl
set_option maxRecDepth 100000 in
theorem cR_loop (l : List Nat) (q : List Value) (n e row k x : Nat) (fu : Bool) (hn : n ≤ l.length) (hl : n ≤ 1000000) (hx : x < n) : ∀ a : AAct, a.n = 50 → a.marks = [] → [1, 2, 4].map a.tmp = [ptB 1, gi 0, goN x] →
    J Tryz.prog (.loop (loopOf Tryz.prog 12 0)) a (cRH (l.map gf) e row n k (Int.ofNat x) fu q) (told 50 [1, 2, 4] fun ex vs h => (ex = .exit 0 ∧ (!fu && wfR (Int.ofNat x) 0 (l.take n)) = false) ∨ (ex = .ret ∧ (!fu && wfR (Int.ofNat x) 0 (l.take n)) = true ∧ ∃ j, vs = [ptB 1, gi 1, goN j])) := by
  intro a ha hm hv
  refine loop_rule (fun m vs h => ∃ j, x ≤ j ∧ j ≤ n ∧ m = n - j ∧ vs = [ptB 1, gi 0, goN j] ∧ h = cRH (l.map gf) e row n k (Int.ofNat x) fu q ∧ (!fu && wfR (Int.ofNat x) 0 (l.take n)) = (!fu && wfR (Int.ofNat x) j ((l.take n).drop j))) _ ?_ (n - x) _ _ a ⟨x, Nat.le_refl _, by omega, rfl, rfl, rfl, by rw [wf_skip x hn x (Nat.le_refl _) (by omega)]⟩ ha hm hv
  rintro m vs h g ⟨j, hxj, hj, rfl, rfl, rfl, hf⟩
  refine execC_ok mixed orcRgD_ok (noAsks_ok _) (noLoops _) (Eq.mpr (cR_body _ q e row _ k j (Int.ofNat x) fu g _) ?_)
  refine ⟨fun hlt => ?_, fun hge => ?_⟩
  · have hj' := blt_true hlt
    obtain ⟨h1, h2⟩ := float_at (l := l) (j := j) (by omega)
    have hs := wf_step (Int.ofNat x) hn hj'
    have hno : ilt (Int.ofNat j) (Int.ofNat x) = false := by rw [ilt_dec]; exact decide_eq_false (by simp only [Int.ofNat_eq_natCast]; omega)
    rw [h2]
    have cont : (!fu && neZ l[j]) = false → ∃ m', m' < n - j ∧ ∃ j', x ≤ j' ∧ j' ≤ n ∧ m' = n - j' ∧ [ptB 1, gi 0, gi (fwrap IntKind.i64 (Int.ofNat (j + 1)))] = [ptB 1, gi 0, goN j'] ∧ cRH (l.map gf) e row n k (Int.ofNat x) fu q = cRH (l.map gf) e row n k (Int.ofNat x) fu q ∧ (!fu && wfR (Int.ofNat x) 0 (l.take n)) = (!fu && wfR (Int.ofNat x) j' ((l.take n).drop j')) := fun hz =>
      ⟨n - (j + 1), by omega, j + 1, by omega, hj', rfl, by rw [fwrap_nat (by omega)], rfl, by
        rw [hf, hs, hno]
        cases fu with
        | true => rfl
        | false =>
          have hz : neZ l[j] = false := hz
          rw [hz]; rfl⟩
    refine ⟨fun h3 => ⟨hlt, h2 ▸ h1, fun h4 => .inr ⟨rfl, ?_, j, rfl⟩, fun h4 => ?_⟩, fun h3 => ?_⟩
    · have h4 : neZ l[j] = true := h4
      rw [hf, hs, h3, hno, h4]; rfl
    · have h4 : neZ l[j] = false := h4
      exact cont (by rw [h4, Bool.and_false])
    · exact cont (by rw [h3]; rfl)
  · have := blt_false hge
    refine .inl ⟨rfl, ?_⟩
    rw [hf, List.drop_of_length_le (by rw [List.length_take]; omega)]
    exact Bool.and_false _
noncomputable def cRLoops (l : List Nat) (n e row k : Nat) (nx : Int) (fu : Bool) : Loops Tryz.prog where
  body := fun _ => loopOf Tryz.prog 12 0
  spec := fun _ a h c => ∃ (q : List Value) (x : Nat), entry a 50 [(1, ptB 1), (2, gi 0), (4, gi nx)] (h = cRH (l.map gf) e row n k nx fu q ∧ nx = Int.ofNat x ∧ (n ≤ l.length ∧ n ≤ 1000000 ∧ x < n) ∧ ((!fu && wfR nx 0 (l.take n)) = false → ∀ g h', c (.exit 0) (stOf 50 [] g) h') ∧ ((!fu && wfR nx 0 (l.take n)) = true → ∀ g h' j, c .ret (stOf 50 [(1, ptB 1), (2, gi 1), (4, goN j)] g) h'))
  ok := fun i a h c q => by
    obtain ⟨q, x, q'⟩ := q
    obtain ⟨h1, h2, h3, rfl, rfl, ⟨hs, hs2, hs3⟩, h4, h5⟩ := entry_facts q'
    refine J.of_told (cR_loop l q n e row k x fu hs hs2 hs3 a h1 h2 ?_) ?_
    · simp only [List.map_cons, List.map_nil]
      rw [h3 (1, ptB 1) (by simp), h3 (2, gi 0) (by simp), h3 (4, gi (Int.ofNat x)) (by simp)]
    · rintro ex vs h' g (⟨rfl, hz⟩ | ⟨rfl, hz, j, rfl⟩)
      · exact h4 hz (ov ([1, 2, 4].zip vs) g) h'
      · exact h5 hz g h' j
theorem cR_run (l : List Nat) (n k e row : Nat) (nx : Int) (fu : Bool) (K : Value → Prop) : callC Tryz.prog (exec Tryz.prog orcRgD 10) (syOf [(17, 7), (28, 1)]) askRgD (cRLoops l n e row k nx fu) 40 12 #[rgV N1 n k nx fu] (rdH Tryz.prog (l.map gf) e row) (fun v _ => K v) = ((goN n = goN n ∧ [liP n k, gi nx, Value.bool fu][0]? = Option.some (liP n k) ∧ [liP n k, gi nx, Value.bool fu][1]? = Option.some (gi nx) ∧ [liP n k, gi nx, Value.bool fu][0]? = Option.some (liP n k) ∧ goN n = goN n ∧ [liP n k, gi nx, Value.bool fu][0]? = Option.some (liP n k) ∧ goN n = goN n ∧ [liP n k, gi nx, Value.bool fu][0]? = Option.some (liP n k) ∧ [liP n k, gi nx, Value.bool fu][1]? = Option.some (gi nx) ∧ [liP n k, gi nx, Value.bool fu][0]? = Option.some (liP n k) ∧ (∃ x1 : List Nat, (List.map gf l = List.map gf x1 ∧ (0 : Nat) < n ∧ (n : Nat) ≤ List.length x1 ∧ (n : Nat) ≤ 1000000 ∧ (n : Nat) ≤ k ∧ goN n = goN n ∧ [liP n k, gi nx, Value.bool fu][0]? = Option.some (liP n k) ∧ [liP n k, gi nx, Value.bool fu][1]? = Option.some (gi nx) ∧ ((!(ieq (firstS [whenS (ieq (Int.ofNat n) 0) 12, whenS (ilt 256 (Int.ofNat n)) 5, smpsE (List.take n x1), withinS nx 0 (fwrap IntKind.i64 (Int.ofNat n - 1))]) 0)) = true → K (gi (firstS [whenS (ieq (Int.ofNat n) 0) 12, whenS (ilt 256 (Int.ofNat n)) 5, smpsE (List.take n x1), withinS nx 0 (fwrap IntKind.i64 (Int.ofNat n - 1))]))) ∧ ((!(ieq (firstS [whenS (ieq (Int.ofNat n) 0) 12, whenS (ilt 256 (Int.ofNat n)) 5, smpsE (List.take n x1), withinS nx 0 (fwrap IntKind.i64 (Int.ofNat n - 1))]) 0)) = false → (loopOf Tryz.prog 12 0 = loopOf Tryz.prog 12 0 ∧ (∃ x2 : List Value, (∃ x3 : Nat, (Value.pointer (some ⟨N1 + 1, 0, none⟩) = ptB 1 ∧ gi 0 = gi 0 ∧ gi nx = gi nx ∧ ((canon Tryz.prog [Prod.mk (List.map gf l) (Prod.mk e row)]).push (.cells [liP n k, gi nx, Value.bool fu] 24 0 false)).push (.cells [gi (whenS (ieq (Int.ofNat n) 0) 12), gi (whenS (ilt 256 (Int.ofNat n)) 5), smpsR (List.take n x1) [], gi (withinS nx 0 (fwrap IntKind.i64 (Int.ofNat n - 1)))] 3 2 false) = cRH (List.map gf l) e row n k nx fu x2 ∧ nx = Int.ofNat x3 ∧ ((n : Nat) ≤ List.length l ∧ (n : Nat) ≤ 1000000 ∧ (x3 : Nat) < n) ∧ (((!fu) && wfR nx 0 (List.take n l)) = false → (∀ _ : Nat → Value, (∀ _ : AHeap, K (gi 0)))) ∧ (((!fu) && wfR nx 0 (List.take n l)) = true → (∀ _ : Nat → Value, (∀ _ : AHeap, (∀ _ : Nat, K (gi 1)))))))))))))) := by kernel_rfl
theorem first_one (x : Int) : firstS [x] = x := by
  show (bif ieq x 0 then firstS [] else x) = x
  cases h : ieq x 0 with
  | false => rfl
  | true =>
    rw [ieq_dec] at h
    exact (of_decide_eq_true h).symm
theorem firstS_snoc (x : Int) : ∀ A : List Int, firstS (A ++ [x]) = bif ieq (firstS A) 0 then x else firstS A
  | [] => first_one x
  | a :: A => by
    show (bif ieq a 0 then firstS (A ++ [x]) else a) = bif ieq (bif ieq a 0 then firstS A else a) 0 then x else (bif ieq a 0 then firstS A else a)
    cases h : ieq a 0 with
    | true => exact firstS_snoc x A
    | false =>
      show a = bif ieq a 0 then x else a
      rw [h]; rfl
noncomputable def ckB (l : List Nat) (nx : Int) : Int := firstS [whenS (ieq (Int.ofNat l.length) 0) 12, whenS (ilt 256 (Int.ofNat l.length)) 5, smpsE l, withinS nx 0 (fwrap IntKind.i64 (Int.ofNat l.length - 1))]
theorem ckR_eq (l : List Nat) (nx : Int) (fu : Bool) : ckR l nx fu = bif ieq (ckB l nx) 0 then whenS (!fu && wfR nx 0 l) 1 else ckB l nx := firstS_snoc _ [_, _, _, _]
theorem ckB_zero {l : List Nat} {nx : Int} (h : ckB l nx = 0) : 0 < l.length ∧ l.length ≤ 256 ∧ smpsE l = 0 ∧ ∃ x : Nat, nx = Int.ofNat x ∧ x < l.length := by
  have h' := firstS_zero h
  have h1 := h' _ (.head _)
  have h2 := h' _ (.tail _ (.head _))
  have h3 := h' _ (.tail _ (.tail _ (.head _)))
  have h4 := within_in (h' _ (.tail _ (.tail _ (.tail _ (.head _)))))
  unfold whenS at h1 h2
  rw [ieq_dec] at h1
  rw [ilt_dec] at h2
  by_cases e1 : Int.ofNat l.length = 0
  · rw [decide_eq_true e1] at h1; cases h1
  · by_cases e2 : (256 : Int) < Int.ofNat l.length
    · rw [decide_eq_true e2] at h2; cases h2
    · simp only [Int.ofNat_eq_natCast] at e1 e2 h4
      rw [fwrap_small (by omega) (by omega)] at h4
      refine ⟨by omega, by omega, h3, nx.toNat, ?_, ?_⟩
      · simp only [Int.ofNat_eq_natCast]; omega
      · omega
set_option maxRecDepth 100000 in
theorem cR_call (l : List Nat) (n k e row : Nat) (nx : Int) (fu : Bool) (h0 : 0 < n) (h1 : n ≤ l.length) (h2 : n ≤ 1000000) (h3 : n ≤ k) : CallJ Tryz.prog 12 #[rgV N1 n k nx fu] (rdH Tryz.prog (l.map gf) e row) (fun v _ => v = gi (ckR (l.take n) nx fu)) := by
  have hl : (l.take n).length = n := by rw [List.length_take]; omega
  have eB : firstS [whenS (ieq (Int.ofNat n) 0) 12, whenS (ilt 256 (Int.ofNat n)) 5, smpsE (List.take n l), withinS nx 0 (fwrap IntKind.i64 (Int.ofNat n - 1))] = ckB (l.take n) nx := by unfold ckB; rw [hl]
  refine callC_ok mixed orcRgD_ok askRgD_ok (Eq.mpr (cR_run l n k e row nx fu _) ⟨rfl, rfl, rfl, rfl, rfl, rfl, rfl, rfl, rfl, rfl, l, rfl, h0, h1, h2, h3, rfl, rfl, rfl, ?_⟩)
  rw [eB]
  refine ⟨fun hz => ?_, fun hz => ?_⟩
  · rw [ckR_eq, not_t hz]; rfl
  · have hz := not_f hz
    have e : ckR (l.take n) nx fu = whenS (!fu && wfR nx 0 (l.take n)) 1 := by rw [ckR_eq, hz]; rfl
    rw [ieq_dec] at hz
    obtain ⟨_, _, _, x, hx, hlt⟩ := ckB_zero (of_decide_eq_true hz)
    rw [hl] at hlt
    refine ⟨rfl, _, x, rfl, rfl, rfl, rfl, hx, ⟨h1, h2, hlt⟩, fun hw _ _ => ?_, fun hw _ _ _ => ?_⟩
    · rw [e, hw]; rfl
    · rw [e, hw]; rfl
noncomputable def orcRgE : Orc := orElse 12 (anyO Tryz.prog.globals.size (ringX ckRO)) orcRgD
set_option maxRecDepth 100000 in
theorem orcRgE_ok : OrcOk Tryz.prog orcRgE := by
  refine anyO_ok globs_pos orcRgD_ok fun vs B o h _ => ?_
  obtain ⟨l, n, k, e, row, nx, fu, rfl, rfl, h0, h1, h2, h3, hw, h⟩ := ringX_some h
  cases h
  exact ⟨rfl, cR_call l n k e row nx fu h0 (Nat.le_of_eq h1) h2 h3⟩
end Go.Proofs.YtgomacijdadjpaaGreatDoor
