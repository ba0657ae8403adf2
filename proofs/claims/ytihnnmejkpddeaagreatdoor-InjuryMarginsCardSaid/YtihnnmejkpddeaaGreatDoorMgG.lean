/-
  OWN WORK. Stage 6: errors and risks of tables as known calls.
-/
import Derived.Test.YtihnnmejkpddeaaGreatDoorMgF
namespace Go.Proofs.YtihnnmejkpddeaaGreatDoor
open Go Go.Am

noncomputable def relX {α β γ : Type} (R : α → β → γ → Prop) (a : α) (b : β) : Option γ := open Classical in if h : ∃ c, R a b c then some h.choose else none
theorem relX_some {α β γ : Type} {R : α → β → γ → Prop} {a : α} {b : β} {c : γ} (h : relX R a b = some c) : R a b c := by
  unfold relX at h
  split at h
  · rename_i hx; cases h; exact hx.choose_spec
  · cases h
theorem relX_of {α β γ : Type} {R : α → β → γ → Prop} {a : α} {b : β} {c : γ} (fn : ∀ c c', R a b c → R a b c' → c = c') (h : R a b c) : relX R a b = some c := by
  have hx : ∃ c, R a b c := ⟨c, h⟩
  unfold relX
  rw [dif_pos hx]
  exact congrArg some (fn _ _ hx.choose_spec h)
theorem cells3_inj {l m : List P3} (h : cells3 l = cells3 m) : l = m := by
  have := congrArg dec3 h
  rwa [dec3_cells, dec3_cells] at this
noncomputable def esC (vs : List Value) (B : List Blk) (l : List P3) (u v w : Int) : Prop := ∃ m k e row, vs = [liP (m + 1) k, cloS] ∧ B = stC (cells3 l) e row u v w ∧ l.length = m + 1 ∧ m + 1 ≤ 65536 ∧ okL l
noncomputable def esR (vs : List Value) (B : List Blk) (z : Value) : Prop := ∃ (l : List P3) (u v w : Int), z = gi (tbE (u, v, w) l) ∧ esC vs B l u v w
theorem esR_fn (vs : List Value) (B : List Blk) (z z' : Value) (h : esR vs B z) (h' : esR vs B z') : z = z' := by
  obtain ⟨l, u, v, w, rfl, m, k, e, row, _, rfl, _⟩ := h
  obtain ⟨l', u', v', w', rfl, m', k', e', row', _, hB, _⟩ := h'
  simp only [List.cons.injEq, Prod.mk.injEq, Value.int.injEq, true_and, and_true] at hB
  obtain ⟨⟨h1, _⟩, h3, h4, h5⟩ := hB
  rw [cells3_inj h1, h3, h4, h5]
noncomputable def esY (vs : List Value) (B : List Blk) (K : Value → Prop) : Prop := ∃ (l : List P3) (u v w : Int), esC vs B l u v w ∧ K (gi (tbE (u, v, w) l))
theorem esY_ok (vs : List Value) (B : List Blk) (K : Value → Prop) (h : esY vs B K) : ∃ v, relX esR vs B = some v ∧ flat 3 v = true ∧ K v := by
  obtain ⟨l, u, v, w, h1, h2⟩ := h
  exact ⟨_, relX_of (esR_fn vs B) ⟨l, u, v, w, rfl, h1⟩, rfl, h2⟩
noncomputable def ratOf : List Value → P2
  | [.agg a] => match a.toList with
    | [u, v] => (intOf u, intOf v)
    | _ => (0, 0)
  | _ => (0, 0)
noncomputable def tabE (l : List P3) : Int := firstS [cnE (Int.ofNat l.length) 16, tbE (-1, 1, 0) l]
theorem tab_no {l : List P3} {m : Nat} (hl : l.length = m + 1) (h : (!(ieq (cnE (Int.ofNat (m + 1)) 16) 0)) = true) : tabE l = cnE (Int.ofNat (m + 1)) 16 := by
  unfold tabE
  rw [hl]
  show (bif ieq (cnE (Int.ofNat (m + 1)) 16) 0 then _ else _) = _
  rw [not_ieqT h]; rfl
theorem tab_go {l : List P3} {m : Nat} (hl : l.length = m + 1) (h : (!(ieq (cnE (Int.ofNat (m + 1)) 16) 0)) = false) : tabE l = tbE (-1, 1, 0) l := by
  unfold tabE
  rw [hl]
  show (bif ieq (cnE (Int.ofNat (m + 1)) 16) 0 then firstS [tbE (-1, 1, 0) l] else _) = _
  rw [not_ieqF h, firstS_one]; rfl
def raC (_ : List P3) (r : List Value) : Prop := ∃ x y : Int, r = [.agg #[gi x, gi y]]
noncomputable abbrev tabO (_ : Nat) (l : List P3) (_ : List Value) : Out := .plain (gi (tabE l))
noncomputable abbrev rskO (_ : Nat) (l : List P3) (r : List Value) : Out := .plain (gi (rkF (ratOf r) 0 l))
noncomputable abbrev spsO (n : Nat) (l : List P3) (_ : List Value) : Out := .wide (slM n) (cells3 l) 201 4
noncomputable def orcMc : Orc := orElse 171 (capO Tryz.prog.globals.size (relX esR)) (orElse 65 (s1O ts3 nonC tabO) (orElse 67 (s1O ts3 raC rskO) (orElse 62 (s1O ts3 nonC spsO) orcMb)))
set_option maxRecDepth 100000 in
theorem orcMc_ok : OrcOk Tryz.prog orcMc := by
  refine capO_ok globs_pos (s1O_ok (s1O_ok (s1O_ok orcMb_ok (fun _ _ _ _ => ⟨names_sl _, cells3_flat _⟩) ?_) (fun _ _ _ _ => rfl) ?_) (fun _ _ _ _ => rfl) ?_) fun vs B v h _ => ?_
  · rintro l m k e row r hl h1 rfl
    exact callC_ok mixed orcMb_ok askMb_ok (Eq.mpr (stp_run l m e row k _) ⟨rfl, rfl, rfl, rfl, rfl, by kernel_rfl, ⟨hl, by omega, h1⟩, fun _ => ⟨nG1 + 1, rfl, by show _ = _; kernel_rfl⟩⟩)
  · rintro l m k e row r hl h1 ⟨x, y, rfl⟩
    exact callC_ok mixed orcMb_ok askMb_ok (Eq.mpr (rrk_run l m e row k x y _) ⟨rfl, rfl, rfl, rfl, rfl, ⟨by kernel_rfl, by kernel_rfl⟩, ⟨hl, h1⟩, fun _ _ => rfl⟩)
  · rintro l m k e row r hl h1 rfl
    refine callC_ok mixed orcMb_ok askMb_ok (Eq.mpr (rct_run l m e row k _) ⟨fun h => ?_, fun h => ?_⟩)
    · show gi (cnE (Int.ofNat (m + 1)) 16) = gi (tabE l)
      rw [tab_no hl h]
    · exact ⟨rfl, rfl, rfl, rfl, by kernel_rfl, ⟨hl, h1⟩, fun h' _ _ => by show gi 0 = gi (tabE l); rw [tab_go hl h, h'], fun _ _ => by show gi (tbE (-1, 1, 0) l) = gi (tabE l); rw [tab_go hl h]⟩
  · obtain ⟨l, u, v, w, rfl, m, k, e, row, rfl, rfl, hm, h1, ho⟩ := relX_some h
    exact callC_ok mixed orcMb_ok askMb_ok (Eq.mpr (es_run l m e row k u v w _) ⟨rfl, rfl, rfl, rfl, rfl, rfl, ⟨gC_get (P := Tryz.prog) (C := stC (cells3 l) e row u v w) (q := 0) rfl, gC_get (P := Tryz.prog) (C := stC (cells3 l) e row u v w) (q := 1) rfl⟩, ⟨hm, h1, ho⟩, fun hz _ _ => by rw [hz], fun _ _ => rfl⟩)
noncomputable def askMc : Asks := asksCp Tryz.prog.globals.size 171 esY (asksV Tryz.prog.globals.size 65 (s1AY ts3 nonC tabO) (asksV Tryz.prog.globals.size 67 (s1AY ts3 raC rskO) (asksV Tryz.prog.globals.size 62 (s1AY ts3 nonC spsO) askMb)))
theorem askMc_ok : AsksOk orcMc askMc := asksCp_ok esY_ok (asksV_ok (s1A_ok fun _ _ _ h => ⟨h, rfl⟩) (asksV_ok (s1A_ok fun _ _ _ h => ⟨h, rfl⟩) (asksV_ok (s1A_ok fun _ _ _ h => ⟨h, rfl⟩) askMb_ok)))
theorem pct_run (l : List P3) (m e row k : Nat) (K : Value → Prop) : callC Tryz.prog (exec Tryz.prog orcMc 10) (syOf [(11, 7)]) askMc (noLoops _) 40 144 #[liP (m + 1) k] (liH (cells3 l) e row) (fun v _ => K v) = (((List.all (cells3 l) (flat 3) = true ∧ List.all ([] ++ ([gi (-1), gi 1, gi 0] ++ [])) (flat 3) = true ∧ True) ∧ (∃ x1 : List P3, (∃ x2 : Int, (∃ x3 : Int, (∃ x4 : Int, (esC [liP (m + 1) k, Value.func (.func 172) #[] #[Value.pointer (some ⟨nG1 + 1, 0, none⟩)]] [Prod.mk (cells3 l) (Prod.mk e (Prod.mk row true)), Prod.mk ([] ++ ([gi (-1), gi 1, gi 0] ++ [])) (Prod.mk 201 (Prod.mk 0 false))] x1 x2 x3 x4 ∧ K (gi (firstS [cnE (Int.ofNat (m + 1)) 16, tbE (Prod.mk x2 (Prod.mk x3 x4)) x1]))))))))) := by kernel_rfl
end Go.Proofs.YtihnnmejkpddeaaGreatDoor
