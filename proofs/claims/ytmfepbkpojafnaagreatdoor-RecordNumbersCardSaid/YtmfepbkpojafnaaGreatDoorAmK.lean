/-
  OWN WORK. 'Am', eleventh text: append, copy, calls; each operation at once.
-/
import Derived.Test.YtmfepbkpojafnaaGreatDoorAmJ
namespace Go.Am
section
variable {P : Program} {ρ : Rho} {h : AHeap} {w : World}

theorem run_firstCells (H : HRel ρ h w) {base : Option Addr} {sLen sCap size : Nat} {y : Value} {old : List Value} (hy : VRel ρ (.slice base sLen sCap) y) (ho : rcells h base (sLen * size) = some old) :
    ∃ ys, LRel (VRel ρ) old ys ∧ old.length = sLen * size ∧ (Builtin.firstCells size sLen y).run P w = .ok ys.toArray w := by
  cases base with
  | none =>
    obtain rfl := hy.atom_eq rfl
    unfold rcells at ho
    split at ho
    · rename_i h0
      cases ho
      exact ⟨[], LRel.nil, by simpa using h0.symm, by simp [Builtin.firstCells]⟩
    · cases ho
  | some a =>
    obtain ⟨a', k', rfl, hp, _⟩ := hy.slice_any
    obtain ⟨ys, h1, h2, h3⟩ := rcells_ok (P := P) H hp ho
    exact ⟨ys, h1, h2, by simp [Builtin.firstCells, h3]⟩

theorem rcells_eq {i o k : Nat} {c : List Value} {e : TypeId} {row : Nat} {ro : Bool} {old : List Value} (hg : h.get i = some (.cells c e row ro)) (hr : rcells h (some ⟨i, o, none⟩) k = some old) : old = (c.drop o).take k := by
  cases k with
  | zero => simp only [rcells, Option.some.injEq] at hr; simp [← hr]
  | succ k =>
    simp only [rcells, hg] at hr
    split at hr
    · simpa using hr.symm
    · cases hr

theorem aappend_ok (H : HRel ρ h w) {argTypes : Array TypeId} {args args' : Array Value} {r : ANext} (ty : TypeId) (hA : ARel (VRel ρ) args args') (ha : aappend P h argTypes args = some r) : ValOkN P ρ h w r (Builtin.append_ argTypes ty args') := by
  unfold aappend at ha
  split at ha
  · rename_i sType base sLen sCap x h0 h1 h2
    obtain ⟨s', g1, hs'⟩ := hA.get h1
    obtain ⟨x', g2, hx'⟩ := hA.get h2
    split at ha
    · rename_i elem hu
      have r1 := pureRun_sound P _ _ hu
      split at ha
      · rename_i size info hs hinf
        have r2 := pureRun_sound P _ _ hs
        have ri := pureRun_sound P _ _ hinf
        split at ha
        · -- nothing is appended
          rename_i news0 hn
          split at ha
          · rename_i hle
            have hle := Nat.le_of_ble_eq_true hle
            cases ha
            obtain ⟨zeros, news', hZ, hN, hL, hlen, hC⟩ := anews_ok H hx' hn
            have hnil : news' = [] := by
              have := hL.1
              rw [hlen] at this
              simpa using this.symm
            subst hnil
            cases base with
            | none =>
              obtain rfl := hs'.atom_eq rfl
              refine ValOk.same H ?_ hs'
              rw [append_eq (ty := ty) h0 g1 g2 (r1 w) (r2 w) (hZ w) hN]
              exact appB_fits (by omega) hC rfl
            | some a =>
              obtain ⟨a', k', rfl, hp, h3, h4, h5⟩ := hs'.slice_any
              refine ValOk.same H ?_ hs'
              rw [append_eq (ty := ty) h0 g1 g2 (r1 w) (r2 w) (hZ w) hN]
              exact appB_fits (by omega) hC rfl
          · cases ha
        · rename_i m news hn
          split at ha
          · -- in place
            rename_i hle
            have hle := Nat.le_of_ble_eq_true hle
            split at ha
            · rename_i i o
              obtain ⟨zeros, news', hZ, hN, hL, hlen, hC⟩ := anews_ok H hx' hn
              cases hw : wcells h i (o + sLen * size) news with
              | none => simp [hw] at ha
              | some h' =>
                simp [hw] at ha
                subst ha
                have hg : ∃ z, h.get i = some z ∧ z ≠ .dead := by
                  unfold wcells at hw
                  split at hw
                  · rename_i hg; exact ⟨_, hg, by simp⟩
                  · cases hw
                obtain ⟨z, hg, hz⟩ := hg
                obtain ⟨g, k', hi, rfl, h3, h4, h5⟩ := hs'.slice_live H hg hz
                obtain ⟨w', hrun, H', A'⟩ := wcells_ok (P := P) H hi hL hw
                refine ⟨_, ρ, w', ?_, VRel.mk_slice hi (by omega) h4 h5, H', A'⟩
                rw [append_eq (ty := ty) h0 g1 g2 (r1 w) (r2 w) (hZ w) hN]
                refine appB_fits (by omega) hC ?_
                simp only [add_none]
                rw [show o + g.sh + sLen * size = o + sLen * size + g.sh by omega]
                exact hrun
            · cases ha
          · -- into a new row, or in place where there is room that is not known
            rename_i hle
            have hgt : sCap < sLen + (m + 1) := by
              rcases Nat.lt_or_ge sCap (sLen + (m + 1)) with hlt | hge
              · exact hlt
              · rw [Nat.ble_eq_true_of_le hge] at hle; cases hle
            split at ha
            · rename_i z old hbytes hz hold
              simp only [Bool.and_eq_true, Nat.blt_eq, Nat.ble_eq] at hbytes
              obtain ⟨hb0, hb1⟩ := hbytes
              have rz := pureRun_sound P _ _ hz
              split at ha
              · cases ha
              · rename_i hzs
                have hzs := Nat.eq_of_beq_eq_true hzs
                -- a new row
                have grow : ∀ (base' : Option Addr) (k' : Nat) (ρ₁ : Rho) (h₁ : AHeap), s' = .slice base' sLen k' → k' < sLen + (m + 1) → HRel ρ₁ h₁ w → ρ.le ρ₁ → Adv h.n ρ h w ρ₁ h₁ w → h.n ≤ h₁.n →
                    ValOk P ρ h w (.slice (some ⟨h₁.n, 0, none⟩) (sLen + (m + 1)) (sLen + (m + 1))) (newCells h₁ (old ++ news) elem (size + 1)) (Builtin.append_ argTypes ty args') := by
                  intro base' k' ρ₁ h₁ hse hk H₁ hle₁ A₁ hn₁
                  obtain ⟨zeros, news0, hZ, hN, _, _, _⟩ := anews_ok H hx' hn
                  have HD := H.drew (w.drawn + 1)
                  obtain ⟨olds, ho1, ho2, ho3⟩ := run_firstCells (P := P) (size := size) HD hs' hold
                  obtain ⟨zeros', news', hZ', hN', hL', hlen', hC'⟩ := anews_ok HD hx' hn
                  have hzz : zeros' = zeros := by
                    have a := hZ w
                    rw [hZ' w] at a
                    simpa using a
                  subst hzz
                  subst hse
                  have hrun := appB_grow (P := P) (w := w) (base := base') (x := x') (zeros := zeros') hk ri rz hb0 hb1 ho3 hC'
                  have hall : LRel (VRel ρ₁) (old ++ news) (olds ++ news') := (LRel.append ho1 hL').mono fun _ _ k => k.mono hle₁
                  have hcap := grownCap_ge w (sLen + (m + 1)) k' elem
                  generalize hcc : grownCap w (sLen + (m + 1)) k' elem = cc at hrun hcap
                  have hsz : (olds.toArray ++ news'.toArray ++ Builtin.zeroCells z.cells (cc - (sLen + (m + 1)))).size = cc * size := by
                    have e1 := ho1.1
                    have e2 := hL'.1
                    have e3 : (Builtin.zeroCells z.cells (cc - (sLen + (m + 1)))).size = (cc - (sLen + (m + 1))) * size := by rw [← hzs]; simp [Builtin.zeroCells]
                    simp only [Array.size_append, List.size_toArray, e3]
                    rw [← e1, ← e2, ho2, hlen', ← Nat.add_mul, ← Nat.add_mul]
                    congr 1
                    omega
                  obtain ⟨H', A'⟩ := new_cells (H₁.drew (w.drawn + 1)) (old ++ news) (olds.toArray ++ news'.toArray ++ Builtin.zeroCells z.cells (cc - (sLen + (m + 1)))) elem (size + 1) (fun ρ' hle' => by
                    have : (olds.toArray ++ news'.toArray ++ Builtin.zeroCells z.cells (cc - (sLen + (m + 1)))).toList.take (old ++ news).length = olds ++ news' := by
                      rw [Array.toList_append, Array.toList_append]
                      rw [hall.1]
                      exact List.take_left
                    rw [this]
                    exact hall.mono fun _ _ k => k.mono hle')
                  refine ⟨_, _, _, ?_, VRel.mk_slice (g := ⟨w.heap.size, 0, _, size + 1⟩) (Rho.upd_same _ _ _) (Nat.le_refl _) hcap (.inr ⟨size, rfl, by rw [hsz]; simp⟩), H', (A₁.trans (Adv.drew _ _ _ _ _)).trans (A'.less hn₁)⟩
                  rw [append_eq (ty := ty) h0 g1 g2 (r1 w) (r2 w) (hZ w) hN]
                  exact hrun
                cases base with
                | none =>
                  simp only at ha
                  cases ha
                  obtain rfl := hs'.atom_eq rfl
                  exact grow none sCap ρ h rfl hgt H (Rho.le_refl _) (Adv.refl _ _ _ _) (Nat.le_refl _)
                | some a =>
                  obtain ⟨i, o, sp⟩ := a
                  cases sp with
                  | some _ => simp at ha
                  | none =>
                    simp only at ha
                    split at ha
                    · rename_i c e row ro hg
                      obtain ⟨g, k', hi, rfl, h3, h4, h5⟩ := hs'.slice_live H hg (by simp)
                      obtain ⟨c', fr, e1, e2, e3, e4, e5, e6⟩ := H.cells hi hg
                      split at ha
                      · -- no rows: there is no room
                        rename_i _ hrow
                        have hrow := Nat.eq_of_beq_eq_true hrow
                        cases ha
                        have hk : k' = sCap := by
                          rcases h5 with e | ⟨sz, q, _⟩
                          · exact e
                          · omega
                        exact grow _ k' ρ h rfl (by omega) H (Rho.le_refl _) (Adv.refl _ _ _ _) (Nat.le_refl _)
                      · rename_i hrow hc
                        simp only [Bool.and_eq_true, Nat.beq_eq, Bool.not_eq_true'] at hc
                        obtain ⟨⟨⟨rfl, rfl⟩, rfl⟩, hone⟩ := hc
                        cases ha
                        have HK := H.kill hi
                        have AK := Adv.kill H hi h.n
                        by_cases hfit : sLen + (m + 1) ≤ k'
                        · -- in place
                          obtain ⟨zeros, news', hZ, hN, hL, hlen, hC⟩ := anews_ok H hx' hn
                          have hroom : o + g.sh + k' * size ≤ g.tot := by
                            rcases h5 with q | ⟨sz, q1, q2⟩
                            · omega
                            · have : sz = size := by omega
                              rw [← this]; exact q2
                          have hmul : (sLen + (m + 1)) * size ≤ k' * size := Nat.mul_le_mul_right _ hfit
                          rw [Nat.add_mul] at hmul
                          have hll := hL.1
                          have hb : g.b < w.heap.size := H.lt hi
                          have hlen2 : news'.length = (m + 1) * size := hll.symm.trans hlen
                          have hnl : news.length = news'.length := hll
                          have hold' := rcells_eq hg hold
                          have holen : old.length = sLen * size := by
                            obtain ⟨_, _, q, _⟩ := run_firstCells (P := P) (size := size) H hs' hold
                            exact q
                          have hrun := run_storeCells P (b := g.b) (k := o + g.sh + sLen * size) news' 0 w c' e1 (by omega) (hL.oneCell hone) (fun j _ hj => by rcases e6 with q | q <;> omega)
                          rw [Nat.add_zero] at hrun
                          have none' : ∀ j gj, ρ.upd i .dead j = .live gj → gj.b ≠ g.b := fun j gj hj he => by
                            by_cases e : j = i
                            · subst e; rw [ρ.upd_same] at hj; cases hj
                            · rw [ρ.upd_ne _ e] at hj
                              exact e (H.inj j i gj g hj hi he)
                          have H2 := HK.setOther none' (.cells (putCells c' (o + g.sh + sLen * size) news') e fr)
                          have hu : ρ h.n = .unborn := H.bound _ (Nat.le_refl _)
                          have hne : h.n ≠ i := fun e => by rw [e, hi] at hu; cases hu
                          have hu2 : ρ.upd i .dead h.n = .unborn := by rw [ρ.upd_ne _ hne]; exact hu
                          have hle2 : ρ.le ((ρ.upd i .dead).upd h.n (.live ⟨g.b, g.sh + o, g.tot, size + 1⟩)) := Rho.le_trans Rho.le_dead (Rho.le_born hu2)
                          have H3 : HRel ((ρ.upd i .dead).upd h.n (.live ⟨g.b, g.sh + o, g.tot, size + 1⟩)) (newCells (h.set i .dead) (old ++ news) e (size + 1)) (setBlock w g.b (.cells (putCells c' (o + g.sh + sLen * size) news') e fr)) := H2.adopt (g := ⟨g.b, g.sh + o, g.tot, size + 1⟩) none' (o := .cells (old ++ news) e (size + 1) false) (setBlock_at hb)
                            ⟨_, fr, rfl, by rw [putCells_size]; simp; omega, by rw [putCells_size]; exact e3, rfl, fun j v hv => by
                              rw [putCells_get _ _ _ _ (by omega)]
                              rw [List.getElem?_append] at hv
                              split at hv
                              · rename_i hj
                                rw [if_neg (by simp; omega)]
                                rw [hold', List.getElem?_take] at hv
                                split at hv
                                · rw [List.getElem?_drop] at hv
                                  obtain ⟨v', q1, q2⟩ := e5 _ _ hv
                                  exact ⟨v', by rw [← q1]; congr 1; simp; omega, q2.mono hle2⟩
                                · cases hv
                              · rename_i hj
                                have hlt : j - old.length < news'.length := by
                                  have := (List.getElem?_eq_some_iff.1 hv).1
                                  omega
                                rw [if_pos (by simp; omega)]
                                refine ⟨news'[j - old.length], ?_, (hL.2 _ _ _ hv (List.getElem?_eq_getElem hlt)).mono hle2⟩
                                rw [← List.getElem?_eq_getElem hlt]
                                congr 1
                                simp; omega, e6⟩
                          refine ⟨.slice (some ⟨g.b, o + g.sh, none⟩) (sLen + (m + 1)) k', _, _, ?_, ?_, H3, ?_⟩
                          · rw [append_eq (ty := ty) h0 g1 g2 (r1 w) (r2 w) (hZ w) hN]
                            refine appB_fits hfit hC ?_
                            simp only [add_none]
                            exact hrun
                          · have := VRel.mk_slice (ρ := (ρ.upd i .dead).upd h.n (.live ⟨g.b, g.sh + o, g.tot, size + 1⟩)) (i := h.n) (o := 0) (n := sLen + (m + 1)) (k := sLen + (m + 1)) (k' := k') (Rho.upd_same _ _ _) (Nat.le_refl _) hfit (.inr ⟨size, rfl, by simp; omega⟩)
                            rw [show o + g.sh = 0 + (g.sh + o) by omega]
                            exact this
                          · have hown : Own ρ h g.b := ⟨i, g, hi, rfl, by simp [AHeap.rw, hg]⟩
                            refine ⟨hle2, Nat.le_succ _, by simp, rfl, rfl, rfl, fun b _ hno => setBlock_ne fun he => hno (he ▸ hown), fun b _ ⟨j, gj, hj, hbj, hr⟩ => ?_, fun j hj hju => ?_⟩
                            · by_cases ej : j = h.n
                              · subst ej
                                rw [Rho.upd_same] at hj
                                cases hj
                                exact hbj ▸ hown
                              · rw [Rho.upd_ne _ _ ej] at hj
                                by_cases ei : j = i
                                · subst ei; rw [ρ.upd_same] at hj; cases hj
                                · rw [ρ.upd_ne _ ei] at hj
                                  refine ⟨j, gj, hj, hbj, ?_⟩
                                  unfold AHeap.rw newCells at hr
                                  rw [AHeap.get_push, if_neg (by simpa using ej), AHeap.get_set, if_neg ei] at hr
                                  exact hr
                            · rw [Rho.upd_ne _ _ (by omega), ρ.upd_ne _ (by intro e; subst e; rw [hi] at hju; cases hju)]
                              exact hju
                        · exact grow _ k' (ρ.upd i .dead) (h.set i .dead) rfl (by omega) HK Rho.le_dead AK (by simp)
                      · cases ha
                    · cases ha
            · cases ha
        · cases ha
      · cases ha
    · cases ha
  · cases ha
end
end Go.Am
