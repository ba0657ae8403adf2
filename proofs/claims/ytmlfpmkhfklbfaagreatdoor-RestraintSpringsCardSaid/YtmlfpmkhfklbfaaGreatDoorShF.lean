/-
  OWN WORK. Springs: functions with loops as known calls; the errors and the force of a spring, carried out.
-/
import Derived.Test.YtmlfpmkhfklbfaaGreatDoorShE
namespace Go.Proofs.YtmlfpmkhfklbfaaGreatDoor
open Go Go.Am

/-- What a relation that is a function gives. -/
noncomputable def relX {α β γ : Type} (R : α → β → γ → Prop) (a : α) (b : β) : Option γ := open Classical in if h : ∃ c, R a b c then some h.choose else none
theorem relX_some {α β γ : Type} {R : α → β → γ → Prop} {a : α} {b : β} {c : γ} (h : relX R a b = some c) : R a b c := by
  unfold relX at h
  split at h
  · rename_i hx; cases h; exact hx.choose_spec
  · cases h
theorem relX_of {α β γ : Type} {R : α → β → γ → Prop} {a : α} {b : β} {c : γ} (fn : ∀ c c', R a b c → R a b c' → c = c') (h : R a b c) : relX R a b = some c := by
  have hx : ∃ c, R a b c := ⟨c, h⟩
  unfold relX
  rw [dif_pos hx]
  exact congrArg some (fn _ _ hx.choose_spec h)
noncomputable abbrev cp0 : Value := .func (.func 85) #[] #[ptN 0, ptN 1]
/-- Each is asked of these points from here to there. -/
noncomputable def epC (vs : List Value) (B : List Blk) (l : List P2) (a b : Int) : Prop :=
  (l = [] ∧ (vs = [nilS, cp0] ∨ ∃ k, vs = [.slice (some ⟨0, 0, none⟩) 0 k, cp0]) ∧ B = [([gi a], 3, 0, false), ([gi b], 3, 0, false)]) ∨ ∃ m k e row, vs = [liP (m + 1) k, cpF] ∧ B = csC (cellsP l) e row a b ∧ l.length = m + 1 ∧ m + 1 ≤ 65536
noncomputable def epR (vs : List Value) (B : List Blk) (v : Value) : Prop := ∃ (l : List P2) (a b : Int), v = gi (spE a b l) ∧ epC vs B l a b
theorem epR_fn (vs : List Value) (B : List Blk) (v v' : Value) (h : epR vs B v) (h' : epR vs B v') : v = v' := by
  obtain ⟨l, a, b, rfl, ⟨rfl, _, rfl⟩ | ⟨m, k, e, row, _, rfl, _⟩⟩ := h <;> obtain ⟨l', a', b', rfl, ⟨rfl, _, hB⟩ | ⟨m', k', e', row', _, hB, _⟩⟩ := h'
  · simp only [List.cons.injEq, Prod.mk.injEq, Value.int.injEq, true_and, and_true] at hB
    rw [hB.1, hB.2]
  · simp at hB
  · simp at hB
  · simp only [List.cons.injEq, Prod.mk.injEq, Value.int.injEq, true_and, and_true] at hB
    obtain ⟨⟨h1, h2⟩, h3, h4⟩ := hB
    rw [cellsP_inj h1, h3, h4]
noncomputable def ixC (vs : List Value) (B : List Cells) (l : List P2) (w : Int) : Prop := ∃ (m k e row e' row' : Nat), vs = [liP (m + 1) k, fiF] ∧ B = [(cellsP l, e, row), ([gi w], e', row')] ∧ l.length = m + 1 ∧ m + 1 ≤ 65536
noncomputable def ixR (vs : List Value) (B : List Cells) (o : Out) : Prop := ∃ (l : List P2) (w : Int), o = .plain (gi (ixF w l 0)) ∧ ixC vs B l w
theorem ixR_fn (vs : List Value) (B : List Cells) (o o' : Out) (h : ixR vs B o) (h' : ixR vs B o') : o = o' := by
  obtain ⟨l, w, rfl, m, k, e, row, e1, r1, _, rfl, _⟩ := h
  obtain ⟨l', w', rfl, m', k', e', row', e1', r1', _, hB, _⟩ := h'
  simp only [List.cons.injEq, Prod.mk.injEq, Value.int.injEq, true_and, and_true] at hB
  obtain ⟨⟨h1, _⟩, h2, _⟩ := hB
  rw [cellsP_inj h1, h2]
noncomputable def epY (vs : List Value) (B : List Blk) (K : Value → Prop) : Prop := ∃ (l : List P2) (a b : Int), epC vs B l a b ∧ K (gi (spE a b l))
noncomputable def ixY (vs : List Value) (B : List Cells) (K : Out → Prop) : Prop := ∃ (l : List P2) (w : Int), ixC vs B l w ∧ K (.plain (gi (ixF w l 0)))
theorem epY_ok (vs : List Value) (B : List Blk) (K : Value → Prop) (h : epY vs B K) : ∃ v, relX epR vs B = some v ∧ flat 3 v = true ∧ K v := by
  obtain ⟨l, a, b, h1, h2⟩ := h
  exact ⟨_, relX_of (epR_fn vs B) ⟨l, a, b, rfl, h1⟩, rfl, h2⟩
theorem ixY_ok (vs : List Value) (B : List Cells) (K : Out → Prop) (h : ixY vs B K) : ∃ o, relX ixR vs B = some o ∧ K o := by
  obtain ⟨l, w, h1, h2⟩ := h
  exact ⟨_, relX_of (ixR_fn vs B) ⟨l, w, rfl, h1⟩, h2⟩
theorem ep_nil (a b : Int) : (call Tryz.prog orcSd 40 84 #[nilS, cp0] (canonT [] (fun _ => 0) Tryz.prog.globals.size [([gi a], 3, 0, false), ([gi b], 3, 0, false)])).map (·.1) = some (gi 0) := by kernel_rfl
theorem ep_emp (k : Nat) (a b : Int) : (call Tryz.prog orcSd 40 84 #[.slice (some ⟨0, 0, none⟩) 0 k, cp0] (canonT [] (fun _ => 0) Tryz.prog.globals.size [([gi a], 3, 0, false), ([gi b], 3, 0, false)])).map (·.1) = some (gi 0) := by kernel_rfl
noncomputable def orcSe : Orc := orElse 167 (anyO Tryz.prog.globals.size (relX ixR)) (orElse 84 (capO Tryz.prog.globals.size (relX epR)) orcSd)
set_option maxRecDepth 100000 in
theorem orcSe_ok : OrcOk Tryz.prog orcSe := by
  refine anyO_ok globs_pos (capO_ok globs_pos orcSd_ok fun vs B v h _ => ?_) fun vs B o h _ => ?_
  · obtain ⟨l, a, b, rfl, ⟨rfl, hv, rfl⟩ | ⟨m, k, e, row, rfl, rfl, hm, h1⟩⟩ := relX_some h
    · rcases hv with rfl | ⟨k, rfl⟩
      · exact CallJ.of_call mixed orcSd_ok (ep_nil a b) fun _ => rfl
      · exact CallJ.of_call mixed orcSd_ok (ep_emp k a b) fun _ => rfl
    · exact callC_ok mixed orcSd_ok askSd_ok (Eq.mpr (ep_run l (m + 1) e row k a b _) ⟨rfl, rfl, rfl, rfl, rfl, rfl, ⟨gC_get (P := Tryz.prog) (C := csC (cellsP l) e row a b) (q := 0) rfl, gC_get (P := Tryz.prog) (C := csC (cellsP l) e row a b) (q := 1) rfl, gC_get (P := Tryz.prog) (C := csC (cellsP l) e row a b) (q := 2) rfl⟩, ⟨hm, h1⟩, fun hz _ _ => by rw [hz], fun _ _ => rfl⟩)
  · obtain ⟨l, w, rfl, m, k, e, row, e', row', rfl, rfl, hm, h1⟩ := relX_some h
    refine ⟨rfl, callC_ok mixed orcSd_ok askSd_ok (Eq.mpr (fi_run l (m + 1) e row k e' row' w _) ⟨rfl, rfl, rfl, rfl, rfl, rfl, ⟨?_, ?_⟩, ⟨hm, h1⟩, fun hz _ _ => ?_, fun _ _ => ?_⟩)⟩
    · rw [canon_get, if_pos (Nat.le_refl _), Nat.sub_self]; rfl
    · rw [canon_get, if_pos (Nat.le_succ _), show nG1 + 1 - Tryz.prog.globals.size = 1 by unfold nG1; omega]; rfl
    · show gi (-1) = gi (ixF w l 0)
      rw [hz]
    · rfl
noncomputable def askSe : Asks := asksV Tryz.prog.globals.size 167 ixY (asksCp Tryz.prog.globals.size 84 epY askSd)
theorem askSe_ok : AsksOk orcSe askSe := asksV_ok ixY_ok (asksCp_ok epY_ok askSd_ok)
/-! The errors of a spring. -/
noncomputable def sprE (l : List P2) : Int := firstS [whenS (ilt (Int.ofNat l.length) 2) 16, whenS (ilt 8 (Int.ofNat l.length)) 5, spE 0 0 l]
noncomputable abbrev sprO : List P2 → List Value → Out := fun l _ => .plain (gi (sprE l))
theorem cs_nil (K : Value → Prop) : callC Tryz.prog (exec Tryz.prog orcSe 10) (syOf [(15, 7)]) askSe (noLoops _) 20 24 #[nilS] (emp Tryz.prog) (fun v _ => K v) = (((true = true ∧ true = true ∧ True) ∧ (∃ x1 : List P2, (∃ x2 : Int, (∃ x3 : Int, (epC [nilS, Value.func (.func 85) #[] #[Value.pointer (some ⟨nG1, 0, none⟩), Value.pointer (some ⟨nG1 + 1, 0, none⟩)]] [Prod.mk ([] ++ ([gi 0] ++ [])) (Prod.mk 3 (Prod.mk 0 false)), Prod.mk ([] ++ ([gi 0] ++ [])) (Prod.mk 3 (Prod.mk 0 false))] x1 x2 x3 ∧ K (gi (firstS [16, 0, spE x2 x3 x1])))))))) := by kernel_rfl
theorem cs_emp (k : Nat) (K : Value → Prop) : callC Tryz.prog (exec Tryz.prog orcSe 10) (syOf [(15, 7)]) askSe (noLoops _) 20 24 #[.slice (some ⟨0, 0, none⟩) 0 k] (emp Tryz.prog) (fun v _ => K v) = (((List.all ([] ++ ([gi 0] ++ [])) (flat 3) = true ∧ List.all ([] ++ ([gi 0] ++ [])) (flat 3) = true ∧ True) ∧ (∃ x1 : List P2, (∃ x2 : Int, (∃ x3 : Int, (epC [Value.slice (some ⟨0, 0, none⟩) 0 k, Value.func (.func 85) #[] #[Value.pointer (some ⟨nG1, 0, none⟩), Value.pointer (some ⟨nG1 + 1, 0, none⟩)]] [Prod.mk ([] ++ ([gi 0] ++ [])) (Prod.mk 3 (Prod.mk 0 false)), Prod.mk ([] ++ ([gi 0] ++ [])) (Prod.mk 3 (Prod.mk 0 false))] x1 x2 x3 ∧ K (gi (firstS [16, 0, spE x2 x3 x1])))))))) := by kernel_rfl
theorem cs_run (l : List P2) (m e row k : Nat) (K : Value → Prop) : callC Tryz.prog (exec Tryz.prog orcSe 10) (syOf [(15, 7)]) askSe (noLoops _) 20 24 #[liP (m + 1) k] (canon Tryz.prog [(cellsP l, e, row)]) (fun v _ => K v) = (((List.all (cellsP l) (flat 3) = true ∧ List.all ([] ++ ([gi 0] ++ [])) (flat 3) = true ∧ List.all ([] ++ ([gi 0] ++ [])) (flat 3) = true ∧ True) ∧ (∃ x1 : List P2, (∃ x2 : Int, (∃ x3 : Int, (epC [liP (m + 1) k, Value.func (.func 85) #[] #[Value.pointer (some ⟨nG1 + 1, 0, none⟩), Value.pointer (some ⟨nG1 + 2, 0, none⟩)]] [Prod.mk (cellsP l) (Prod.mk e (Prod.mk row true)), Prod.mk ([] ++ ([gi 0] ++ [])) (Prod.mk 3 (Prod.mk 0 false)), Prod.mk ([] ++ ([gi 0] ++ [])) (Prod.mk 3 (Prod.mk 0 false))] x1 x2 x3 ∧ K (gi (firstS [whenS (ilt (Int.ofNat (m + 1)) 2) 16, whenS (ilt 8 (Int.ofNat (m + 1))) 5, spE x2 x3 x1])))))))) := by kernel_rfl
theorem fo_run (l : List P2) (m e row k : Nat) (w : Int) (K : Value → Prop) : callC Tryz.prog (exec Tryz.prog orcSe 10) (syOf [(9, 1), (12, 7), (14, 1), (18, 33), (19, 2), (21, 3), (24, 33), (25, 2), (26, 46), (29, 2), (30, 46), (37, 33), (41, 33), (42, 33), (47, 33), (48, 7), (49, 33)]) askSe (noLoops _) 20 83 #[liP (m + 1) k, gi w] (canon Tryz.prog [(cellsP l, e, row)]) (fun v _ => K v) = ((((!(ilt 0 w)) = true → K (gi 0)) ∧ ((!(ilt 0 w)) = false → ((List.all (cellsP l) (flat 3) = true ∧ List.all [gi w] (flat 3) = true ∧ True) ∧ (∃ x1 : List P2, (∃ x2 : Int, (ixC [liP (m + 1) k, Value.func (.func 168) #[] #[Value.pointer (some ⟨nG1 + 1, 0, none⟩)]] [Prod.mk (cellsP l) (Prod.mk e row), Prod.mk [gi w] (Prod.mk 3 0)] x1 x2 ∧ (ilt (ixF x2 x1 0) 0 = true → (inI64 (Int.ofNat (m + 1) - 1) = true ∧ ahasIndex (Int.ofNat (m + 1) - 1) (m + 1) = true ∧ (cellsP l)[((0 + (Int.toNat (Int.ofNat (m + 1) - 1) * 2)) + 1)]? = Option.some (gi (intAt (cellsP l) ((0 + (Int.toNat (Int.ofNat (m + 1) - 1) * 2)) + 1))) ∧ K (gi (intAt (cellsP l) ((0 + (Int.toNat (Int.ofNat (m + 1) - 1) * 2)) + 1))))) ∧ (ilt (ixF x2 x1 0) 0 = false → (inI64 (ixF x2 x1 0 - 1) = true ∧ ahasIndex (ixF x2 x1 0 - 1) (m + 1) = true ∧ (cellsP l)[(0 + (Int.toNat (ixF x2 x1 0 - 1) * 2))]? = Option.some (gi (intAt (cellsP l) (0 + (Int.toNat (ixF x2 x1 0 - 1) * 2)))) ∧ (cellsP l)[((0 + (Int.toNat (ixF x2 x1 0 - 1) * 2)) + 1)]? = Option.some (gi (intAt (cellsP l) ((0 + (Int.toNat (ixF x2 x1 0 - 1) * 2)) + 1))) ∧ ahasIndex (ixF x2 x1 0) (m + 1) = true ∧ (cellsP l)[(0 + (Int.toNat (ixF x2 x1 0) * 2))]? = Option.some (gi (intAt (cellsP l) (0 + (Int.toNat (ixF x2 x1 0) * 2)))) ∧ (cellsP l)[((0 + (Int.toNat (ixF x2 x1 0) * 2)) + 1)]? = Option.some (gi (intAt (cellsP l) ((0 + (Int.toNat (ixF x2 x1 0) * 2)) + 1))) ∧ (cellsP l)[(0 + (Int.toNat (ixF x2 x1 0) * 2))]? = Option.some (gi (intAt (cellsP l) (0 + (Int.toNat (ixF x2 x1 0) * 2)))) ∧ (cellsP l)[((0 + (Int.toNat (ixF x2 x1 0) * 2)) + 1)]? = Option.some (gi (intAt (cellsP l) ((0 + (Int.toNat (ixF x2 x1 0) * 2)) + 1))) ∧ #[gi (intAt (cellsP l) (0 + (Int.toNat (ixF x2 x1 0) * 2))), gi (intAt (cellsP l) ((0 + (Int.toNat (ixF x2 x1 0) * 2)) + 1))] = #[gi (intAt (cellsP l) (0 + (Int.toNat (ixF x2 x1 0) * 2))), gi (intAt (cellsP l) ((0 + (Int.toNat (ixF x2 x1 0) * 2)) + 1))] ∧ (cellsP l)[(0 + (Int.toNat (ixF x2 x1 0 - 1) * 2))]? = Option.some (gi (intAt (cellsP l) (0 + (Int.toNat (ixF x2 x1 0 - 1) * 2)))) ∧ (cellsP l)[((0 + (Int.toNat (ixF x2 x1 0 - 1) * 2)) + 1)]? = Option.some (gi (intAt (cellsP l) ((0 + (Int.toNat (ixF x2 x1 0 - 1) * 2)) + 1))) ∧ #[gi (intAt (cellsP l) (0 + (Int.toNat (ixF x2 x1 0 - 1) * 2))), gi (intAt (cellsP l) ((0 + (Int.toNat (ixF x2 x1 0 - 1) * 2)) + 1))] = #[gi (intAt (cellsP l) (0 + (Int.toNat (ixF x2 x1 0 - 1) * 2))), gi (intAt (cellsP l) ((0 + (Int.toNat (ixF x2 x1 0 - 1) * 2)) + 1))] ∧ [gi 0, gi 0] = [gi 0, gi 0] ∧ (cellsP l)[(0 + (Int.toNat (ixF x2 x1 0) * 2))]? = Option.some (gi (intAt (cellsP l) (0 + (Int.toNat (ixF x2 x1 0) * 2)))) ∧ (cellsP l)[((0 + (Int.toNat (ixF x2 x1 0) * 2)) + 1)]? = Option.some (gi (intAt (cellsP l) ((0 + (Int.toNat (ixF x2 x1 0) * 2)) + 1))) ∧ #[gi (intAt (cellsP l) (0 + (Int.toNat (ixF x2 x1 0) * 2))), gi (intAt (cellsP l) ((0 + (Int.toNat (ixF x2 x1 0) * 2)) + 1))] = #[gi (intAt (cellsP l) (0 + (Int.toNat (ixF x2 x1 0) * 2))), gi (intAt (cellsP l) ((0 + (Int.toNat (ixF x2 x1 0) * 2)) + 1))] ∧ (cellsP l)[(0 + (Int.toNat (ixF x2 x1 0 - 1) * 2))]? = Option.some (gi (intAt (cellsP l) (0 + (Int.toNat (ixF x2 x1 0 - 1) * 2)))) ∧ (cellsP l)[((0 + (Int.toNat (ixF x2 x1 0 - 1) * 2)) + 1)]? = Option.some (gi (intAt (cellsP l) ((0 + (Int.toNat (ixF x2 x1 0 - 1) * 2)) + 1))) ∧ #[gi (intAt (cellsP l) (0 + (Int.toNat (ixF x2 x1 0 - 1) * 2))), gi (intAt (cellsP l) ((0 + (Int.toNat (ixF x2 x1 0 - 1) * 2)) + 1))] = #[gi (intAt (cellsP l) (0 + (Int.toNat (ixF x2 x1 0 - 1) * 2))), gi (intAt (cellsP l) ((0 + (Int.toNat (ixF x2 x1 0 - 1) * 2)) + 1))] ∧ (cellsP l)[(0 + (Int.toNat (ixF x2 x1 0) * 2))]? = Option.some (gi (intAt (cellsP l) (0 + (Int.toNat (ixF x2 x1 0) * 2)))) ∧ (cellsP l)[((0 + (Int.toNat (ixF x2 x1 0) * 2)) + 1)]? = Option.some (gi (intAt (cellsP l) ((0 + (Int.toNat (ixF x2 x1 0) * 2)) + 1))) ∧ #[gi (intAt (cellsP l) (0 + (Int.toNat (ixF x2 x1 0) * 2))), gi (intAt (cellsP l) ((0 + (Int.toNat (ixF x2 x1 0) * 2)) + 1))] = #[gi (intAt (cellsP l) (0 + (Int.toNat (ixF x2 x1 0) * 2))), gi (intAt (cellsP l) ((0 + (Int.toNat (ixF x2 x1 0) * 2)) + 1))] ∧ inI64 (intAt (cellsP l) ((0 + (Int.toNat (ixF x2 x1 0) * 2)) + 1) - intAt (cellsP l) ((0 + (Int.toNat (ixF x2 x1 0 - 1) * 2)) + 1)) = true ∧ inI64 (w - intAt (cellsP l) (0 + (Int.toNat (ixF x2 x1 0 - 1) * 2))) = true ∧ inI64 ((intAt (cellsP l) ((0 + (Int.toNat (ixF x2 x1 0) * 2)) + 1) - intAt (cellsP l) ((0 + (Int.toNat (ixF x2 x1 0 - 1) * 2)) + 1)) * (w - intAt (cellsP l) (0 + (Int.toNat (ixF x2 x1 0 - 1) * 2)))) = true ∧ inI64 (intAt (cellsP l) (0 + (Int.toNat (ixF x2 x1 0) * 2)) - intAt (cellsP l) (0 + (Int.toNat (ixF x2 x1 0 - 1) * 2))) = true ∧ (ilt 0 (intAt (cellsP l) (0 + (Int.toNat (ixF x2 x1 0) * 2)) - intAt (cellsP l) (0 + (Int.toNat (ixF x2 x1 0 - 1) * 2))) && small ((intAt (cellsP l) ((0 + (Int.toNat (ixF x2 x1 0) * 2)) + 1) - intAt (cellsP l) ((0 + (Int.toNat (ixF x2 x1 0 - 1) * 2)) + 1)) * (w - intAt (cellsP l) (0 + (Int.toNat (ixF x2 x1 0 - 1) * 2))))) = true ∧ ([] ++ ([gi (intAt (cellsP l) (0 + (Int.toNat (ixF x2 x1 0 - 1) * 2))), gi (intAt (cellsP l) ((0 + (Int.toNat (ixF x2 x1 0 - 1) * 2)) + 1))] ++ []))[1]? = Option.some (gi (intAt (cellsP l) ((0 + (Int.toNat (ixF x2 x1 0 - 1) * 2)) + 1))) ∧ inI64 (intAt (cellsP l) ((0 + (Int.toNat (ixF x2 x1 0 - 1) * 2)) + 1) + floorE ((intAt (cellsP l) ((0 + (Int.toNat (ixF x2 x1 0) * 2)) + 1) - intAt (cellsP l) ((0 + (Int.toNat (ixF x2 x1 0 - 1) * 2)) + 1)) * (w - intAt (cellsP l) (0 + (Int.toNat (ixF x2 x1 0 - 1) * 2)))) (intAt (cellsP l) (0 + (Int.toNat (ixF x2 x1 0) * 2)) - intAt (cellsP l) (0 + (Int.toNat (ixF x2 x1 0 - 1) * 2)))) = true ∧ K (gi (intAt (cellsP l) ((0 + (Int.toNat (ixF x2 x1 0 - 1) * 2)) + 1) + floorE ((intAt (cellsP l) ((0 + (Int.toNat (ixF x2 x1 0) * 2)) + 1) - intAt (cellsP l) ((0 + (Int.toNat (ixF x2 x1 0 - 1) * 2)) + 1)) * (w - intAt (cellsP l) (0 + (Int.toNat (ixF x2 x1 0 - 1) * 2)))) (intAt (cellsP l) (0 + (Int.toNat (ixF x2 x1 0) * 2)) - intAt (cellsP l) (0 + (Int.toNat (ixF x2 x1 0 - 1) * 2)))))))))))))) := by kernel_rfl
end Go.Proofs.YtmlfpmkhfklbfaaGreatDoor
