/-
  OWN WORK. Stage 6: Longest, Above and Held of the program: known calls, and the law on top of them.
-/
import Derived.Test.YtihnnmejkpddeaaGreatDoorLvPS
import Derived.Test.YtihnnmejkpddeaaGreatDoorWk6
namespace Go.Proofs.YtihnnmejkpddeaaGreatDoor
open Go Go.Am
theorem ser_bd {l : List Int} (h : serE l = 0) : l.length ≤ 128 ∧ ∀ x ∈ l, -16384 ≤ x := by
  have h1 : cnE (Int.ofNat l.length) 128 = 0 := firstS_none h _ (.head _)
  have h2 : firstE uE l = 0 := firstS_none h _ (.tail _ (.head _))
  have h3 : whenS (ilt 128 (Int.ofNat l.length)) 5 = 0 := firstS_none h1 _ (.tail _ (.head _))
  refine ⟨?_, ?_⟩
  · have := when_none (by decide) h3
    rw [ilt_say] at this
    have := of_decide_eq_false this
    simp only [Int.ofNat_eq_natCast] at this
    omega
  · have all : ∀ {l : List Int}, firstE uE l = 0 → ∀ x ∈ l, uE x = 0 := by
      intro l
      induction l with
      | nil => intro _ x hx; cases hx
      | cons y l ih =>
        intro h x hx
        have h : (bif ieq (uE y) 0 then firstE uE l else uE y) = 0 := h
        cases hy : ieq (uE y) 0 with
        | true =>
          rw [hy, cond_true] at h
          rw [ieq_dec] at hy
          rcases List.mem_cons.1 hx with rfl | hx
          · exact of_decide_eq_true hy
          · exact ih h x hx
        | false =>
          rw [hy, cond_false] at h
          rw [h] at hy
          cases hy
    intro x hx
    exact (within_zero (all h2 x hx)).1
theorem wn_low {l : List Int} {s : Nat} (h : serE l = 0) (h0 : 0 < s) (hs : s ≤ l.length) : -16385 < wnF (l.map gi) 0 s := by
  have hb := (ser_bd h).2
  have : -16384 ≤ mnJ (fnI (l.map gi) (0 + 0 * 1)) (s - 1) := by
    refine mn_ge _ _ _ fun j hj => ?_
    have hj : j < l.length := by omega
    have q := fn_get (List.getElem?_eq_getElem (l := l) hj)
    show -16384 ≤ fnI (l.map gi) 0 j
    rw [q]
    exact hb _ (List.getElem_mem hj)
  show -16385 < mnJ (fnI (l.map gi) (0 + 0 * 1)) (s - 1)
  omega
theorem he_facts {l : List Int} {x : Int} (h : heE l x = 0) : serE l = 0 ∧ 0 < x.toNat ∧ x.toNat ≤ l.length ∧ x = Int.ofNat x.toNat := by
  have h1 : serE l = 0 := firstS_none h _ (.head _)
  have h2 := within_zero (firstS_none h (withinS x 1 128) (.tail _ (.head _)))
  have h3 := when_none (by decide) (firstS_none h (whenS (ilt (Int.ofNat l.length) x) 16) (.tail _ (.tail _ (.head _))))
  rw [ilt_say] at h3
  have h3 := of_decide_eq_false h3
  simp only [Int.ofNat_eq_natCast] at h3 ⊢
  exact ⟨h1, by omega, by omega, by omega⟩
noncomputable def orcLc0 : Orc := orElse 27 (s1O tiT lvC loO) (orElse 28 (s1O tiT lvC abO) (orElse 29 (anyO Tryz.prog.globals.size hxX) orcLb))
set_option maxRecDepth 100000 in
theorem orcLc0_ok : OrcOk Tryz.prog orcLc0 := by
  refine s1O_ok (s1O_ok (anyO_ok globs_pos orcLb_ok ?_) (fun n l r _ => ?_) ?_) (fun n l r _ => ?_) ?_
  · intro vs B o h _
    rcases hdY_inv (z := (none : Option Out)) (f := fun cs n k row r => open Classical in if hvC cs n k row r then some (.plain (heV (ieq (heE (TellT.dec tiT cs) (xOf r)) 0) (TellT.dec tiT cs) n (xOf r).toNat (xOf r))) else none) (vs := vs) (B := B) with q | ⟨cs, n, k, e, row, r, rfl, rfl⟩
    · unfold hxX at h; rw [q] at h; cases h
    · unfold hxX at h
      rw [hdY_at] at h
      split at h
      · rename_i hc
        cases h
        obtain ⟨⟨h1, h2, h3, h4⟩, hr, hk, hw⟩ := hc
        generalize xOf r = x at *
        subst hr
        obtain ⟨m, rfl⟩ : ∃ m, n = m + 1 := ⟨n - 1, by omega⟩
        have h1 : cs = (TellT.dec tiT cs).map gi := h1
        generalize TellT.dec tiT cs = l at *
        subst h1
        refine ⟨?_, ?_⟩
        · show flat 3 (heV (ieq (heE l x) 0) l (m + 1) x.toNat x) = true
          cases ieq (heE l x) 0 <;> rfl
        · show CallJ Tryz.prog 29 #[liP (m + 1) k, gi x] (liH (l.map gi) e row) fun v _ => v = heV (ieq (heE l x) 0) l (m + 1) x.toNat x
          cases hE : ieq (heE l x) 0 with
          | false =>
            refine callC_ok mixed orcLb_ok (askLb_ok _ _ _ _ _) (Eq.mpr (he_no l m e row k x _) ⟨⟨flat_ints l, trivial⟩, okIv h3 h4, rfl, ?_⟩)
            rw [decTv, ← h3]
            show (!(ieq (heE l x) 0)) = true ∧ _
            rw [hE]
            exact ⟨rfl, rfl⟩
          | true =>
            have hz : heE l x = 0 := by rw [ieq_dec] at hE; exact of_decide_eq_true hE
            obtain ⟨z1, z2, z3, z4⟩ := he_facts hz
            generalize x.toNat = s at z2 z3 z4 ⊢
            subst z4
            have wl := wn_low z1 z2 z3
            rw [h3] at z3
            refine callC_ok mixed orcLb_ok (askLb_ok _ _ _ _ _) (Eq.mpr (he_go l m e row k s _) ⟨⟨flat_ints l, trivial⟩, okIv h3 h4, rfl, ?_, ⟨flat_ints l, trivial⟩, ⟨⟨rfl, hv_of h3 h4 z2 z3 hk hw, z3, wl⟩, rfl, rfl, rfl⟩, ?_⟩)
            · rw [decTv, ← h3]
              show (!(ieq (heE l (Int.ofNat s)) 0)) = false
              rw [hE]; rfl
            · have rb : (rhS (l.map gi) s (m + 1 + 1 - s)).2.2 = (rhS (l.map gi) s (m + 1 + 1 - s)).2.1 + s ∧ (rhS (l.map gi) s (m + 1 + 1 - s)).2.1 ≤ m + 1 := by
                have C := hv_of (k := m + 1) (row := 0) h3 h4 z2 z3 (Nat.le_refl _) rfl
                obtain ⟨x, r, hx⟩ := allL_ne (c := l.map gi) (s := s) (m := m) z3
                obtain ⟨_, _, e3, e4⟩ := held_same C.s1 z3 wl hx
                exact ⟨e3, e4⟩
              show Value.tuple #[gi (rhS (l.map gi) s (m + 1 + 1 - s)).1, .agg #[goN (rhS (l.map gi) s (m + 1 + 1 - s)).2.1, gi (fwrap IntKind.i64 (Int.ofNat ((rhS (l.map gi) s (m + 1 + 1 - s)).2.1 + s)))], gi 0] = _
              rw [fwrap_nat (by omega), ← rb.1]; rfl
      · cases h
  · show flat 3 (abV (ieq (lvE l (xOf r)) 0) l (xOf r)) = true
    cases ieq (lvE l (xOf r)) 0 <;> rfl
  · rintro l m k e row r hl h1 hr
    have hr : r = [gi (xOf r)] := hr
    show CallJ _ _ _ _ fun v _ => v = abV (ieq (lvE l (xOf r)) 0) l (xOf r)
    generalize xOf r = x at *
    subst hr
    cases hE : ieq (lvE l x) 0 with
    | false =>
      refine callC_ok mixed orcLb_ok (askLb_ok _ _ _ _ _) (Eq.mpr (ab_no l m e row k x _) ⟨⟨flat_ints l, trivial⟩, okIv hl h1, rfl, rfl, ?_⟩)
      rw [decTv]
      show (!(ieq (lvE l x) 0)) = true ∧ _
      rw [hE]
      exact ⟨rfl, rfl⟩
    | true =>
      have hp : (!(ieq (firstS [serE (TellT.dec tiT (l.map gi)), uE x]) 0)) = false := by
        rw [decTv]
        show (!(ieq (lvE l x) 0)) = false
        rw [hE]; rfl
      by_cases hk : kpL x l = []
      · refine callC_ok mixed orcLb_ok (askLb_ok _ _ _ _ _) (Eq.mpr (ab_0 l m e row k x _) ⟨⟨flat_ints l, trivial⟩, okIv hl h1, rfl, rfl, hp, ⟨flat_ints l, rfl, trivial⟩, ⟨⟨okIv hl h1, rfl, rfl⟩, rfl, rfl⟩, hk, ?_⟩)
        show _ = Value.tuple #[goN (kpL x l).length, gi 0]
        rw [hk]; rfl
      · refine callC_ok mixed orcLb_ok (askLb_ok _ _ _ _ _) (Eq.mpr (ab_1 l m e row k x _) ⟨⟨flat_ints l, trivial⟩, okIv hl h1, rfl, rfl, hp, ⟨flat_ints l, rfl, trivial⟩, ⟨⟨okIv hl h1, rfl, rfl⟩, rfl, rfl⟩, hk, ?_⟩)
        have : 0 < (kpL x l).length := List.length_pos_iff.2 hk
        show _ = Value.tuple #[goN (kpL x l).length, gi 0]
        rw [show (kpL x l).length - 1 + 1 = (kpL x l).length by omega]
  · show flat 3 (loV (ieq (lvE l (xOf r)) 0) l (xOf r)) = true
    cases ieq (lvE l (xOf r)) 0 <;> rfl
  · rintro l m k e row r hl h1 hr
    have hr : r = [gi (xOf r)] := hr
    show CallJ _ _ _ _ fun v _ => v = loV (ieq (lvE l (xOf r)) 0) l (xOf r)
    generalize xOf r = x at *
    subst hr
    cases hE : ieq (lvE l x) 0 with
    | false =>
      refine callC_ok mixed orcLb_ok (askLb_ok _ _ _ _ _) (Eq.mpr (lg_no l m e row k x _) ⟨⟨flat_ints l, trivial⟩, okIv hl h1, rfl, ?_⟩)
      rw [decTv]
      show (!(ieq (lvE l x) 0)) = true ∧ _
      rw [hE]
      exact ⟨rfl, rfl⟩
    | true =>
      have hp : (!(ieq (firstS [serE (TellT.dec tiT (l.map gi)), uE x]) 0)) = false := by
        rw [decTv]
        show (!(ieq (lvE l x) 0)) = false
        rw [hE]; rfl
      exact callC_ok mixed orcLb_ok (askLb_ok _ _ _ _ _) (Eq.mpr (lg_go l m e row k x _) ⟨⟨flat_ints l, trivial⟩, okIv hl h1, rfl, hp, ⟨flat_ints l, trivial⟩, okIv hl h1, ⟨decTv l, rfl⟩, rfl⟩)
noncomputable abbrev loN : Value := .tuple #[.agg #[gi 0, gi 0], gi 12]
noncomputable abbrev abN : Value := .tuple #[gi 0, gi 12]
noncomputable abbrev heN : Value := .tuple #[gi 0, .agg #[gi 0, gi 0], gi 12]
noncomputable def orcLd0 : Orc := orElse 27 (anyO Tryz.prog.globals.size (e1X loN)) (orElse 28 (anyO Tryz.prog.globals.size (e1X abN)) (orElse 29 (anyO Tryz.prog.globals.size (e1X heN)) orcLb))
set_option maxRecDepth 100000 in
theorem orcLd0_ok : OrcOk Tryz.prog orcLd0 := by
  refine e1O_ok (e1O_ok (e1O_ok orcLb_ok rfl ?_ ?_) rfl ?_ ?_) rfl ?_ ?_
  · exact fun x => callC_ok mixed orcLb_ok (askLb_ok _ _ _ _ _) (Eq.mpr (he_n x _) rfl)
  · exact fun q x => callC_ok mixed orcLb_ok (askLb_ok _ _ _ _ _) (Eq.mpr (he_e x q _) rfl)
  · exact fun x => callC_ok mixed orcLb_ok (askLb_ok _ _ _ _ _) (Eq.mpr (ab_n x _) ⟨rfl, rfl⟩)
  · exact fun q x => callC_ok mixed orcLb_ok (askLb_ok _ _ _ _ _) (Eq.mpr (ab_e x q _) ⟨rfl, rfl⟩)
  · exact fun x => callC_ok mixed orcLb_ok (askLb_ok _ _ _ _ _) (Eq.mpr (lg_n x _) rfl)
  · exact fun q x => callC_ok mixed orcLb_ok (askLb_ok _ _ _ _ _) (Eq.mpr (lg_e x q _) rfl)
noncomputable def orcLv : Orc := wkO orcLc0
noncomputable def askLv (b1 b3 : Bool) (L : List Int) (N s : Nat) (v x : Int) : Asks := skipA 13 (asksV Tryz.prog.globals.size 27 (s1AY tiT (lvB b1 L v) (fun _ _ _ => .plain (loV b1 L v))) (asksV Tryz.prog.globals.size 28 (s1AY tiT (lvB b1 L v) (fun _ _ _ => .plain (abV b1 L v))) (asksV Tryz.prog.globals.size 29 (hxAY b3 L N s x) (askLb false L N v s))))
noncomputable def orcLw : Orc := wkO orcLd0
theorem orcLw_ok : OrcOk Tryz.prog orcLw := wkO_ok orcLd0_ok
noncomputable def askLw : Asks := skipA 13 (asksV Tryz.prog.globals.size 27 (e1AY loN) (asksV Tryz.prog.globals.size 28 (e1AY abN) (asksV Tryz.prog.globals.size 29 (e1AY heN) (askLb false [] 0 0 0))))
theorem askLw_ok : AsksOk orcLw askLw := skipA_ok (asksV_ok (e1A_ok _) (asksV_ok (e1A_ok _) (asksV_ok (e1A_ok _) (askLb_ok _ _ _ _ _))))
end Go.Proofs.YtihnnmejkpddeaaGreatDoor
