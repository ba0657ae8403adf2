/-
  OWN WORK. Stage 6: Worth, Best, CheckBest.
-/
import Derived.Test.YtihnnmejkpddeaaGreatDoorBsTV
import Derived.Test.YtihnnmejkpddeaaGreatDoorMgAC
/-! (OWN WORK. Stage 6: Worth, Best and CheckBest of the program, carried out.) -/
namespace Go.Proofs.YtihnnmejkpddeaaGreatDoor
open Go Go.Am
def roC (cs : List Value) (n k row : Nat) (r : List Value) : Prop := r = [agW (agN r).1 (agN r).2] ∧ roOk cs row n k (agN r).1 (agN r).2
noncomputable abbrev sp2 (x : W4) : Value := .agg #[gi x.1, gi x.2.1]
noncomputable abbrev roV (cs : List Value) (n lo hi : Nat) : Value := .tuple #[sp2 (oX (bsO cs lo hi n n)), rt2 (oX (bsO cs lo hi n n)).2.2, .bool (oB (bsO cs lo hi n n))]
noncomputable def orcBd0 : Orc := orElse 25 (anyO Tryz.prog.globals.size (hpX roC roV)) orcBc
set_option maxRecDepth 100000 in
theorem orcBd0_ok : OrcOk Tryz.prog orcBd0 := by
  refine anyO_ok globs_pos orcBc_ok ?_
  intro vs B o h _
  obtain ⟨cs, n, k, e, row, r, rfl, rfl, ⟨hr, O⟩, rfl⟩ := hpX_inv h
  refine ⟨rfl, ?_⟩
  rw [hr, agN_at]
  generalize (agN r).1 = lo at *
  generalize (agN r).2 = hi at *
  have C := O.1
  obtain ⟨m, rfl⟩ : ∃ m, n = m + 1 := ⟨n - 1, by have := C.n0; omega⟩
  show CallJ Tryz.prog 25 #[liP (m + 1) k, agW lo hi] (liH cs e row) (fun v _ => v = roV cs (m + 1) lo hi)
  exact callC_ok mixed orcBc_ok (askBc_ok _ _ _ _) (Eq.mpr (ro_run cs m k e row lo hi _) ⟨rfl, rfl, rfl, rfl, rfl, rfl, rfl, rfl, rfl, by kernel_rfl, O, fun _ => ⟨rfl, rfl⟩⟩)
noncomputable def inGY (vs : List Value) (B : List Cells) (K : Out → Prop) : Prop := s1Y False (fun cs n r => okT tiT cs n ∧ clCv (TellT.dec tiT cs) r ∧ ∀ L : List Int, TellT.dec tiT cs = L → K (.wide (slM n) (L.map gi) 3 2)) vs B
theorem inG_ok (vs : List Value) (B : List Cells) (K : Out → Prop) (h : inGY vs B K) : ∃ o, s1X tiT clCv cloOv vs B = some o ∧ K o := by
  rcases s1Y_inv (z := False) (f := fun cs n r => okT tiT cs n ∧ clCv (TellT.dec tiT cs) r ∧ ∀ L : List Int, TellT.dec tiT cs = L → K (.wide (slM n) (L.map gi) 3 2)) (vs := vs) (B := B) with q | ⟨cs, n, k, e, row, r, rfl, rfl⟩
  · unfold inGY at h; rw [q] at h; exact h.elim
  · unfold inGY at h
    rw [s1Y_at] at h
    obtain ⟨h1, h2, h3⟩ := h
    unfold s1X
    rw [s1Y_at, if_pos ⟨h1, h2⟩]
    exact ⟨_, rfl, h3 _ rfl⟩
noncomputable def seGY (vs : List Value) (B : List Cells) (K : Out → Prop) : Prop := s1Y False (fun cs n r => okT tiT cs n ∧ nonC (TellT.dec tiT cs) r ∧ ∀ L : List Int, TellT.dec tiT cs = L → K (.plain (gi (serE L)))) vs B
theorem seG_ok (vs : List Value) (B : List Cells) (K : Out → Prop) (h : seGY vs B K) : ∃ o, s1X tiT nonC serO vs B = some o ∧ K o := by
  rcases s1Y_inv (z := False) (f := fun cs n r => okT tiT cs n ∧ nonC (TellT.dec tiT cs) r ∧ ∀ L : List Int, TellT.dec tiT cs = L → K (.plain (gi (serE L)))) (vs := vs) (B := B) with q | ⟨cs, n, k, e, row, r, rfl, rfl⟩
  · unfold seGY at h; rw [q] at h; exact h.elim
  · unfold seGY at h
    rw [s1Y_at] at h
    obtain ⟨h1, h2, h3⟩ := h
    unfold s1X
    rw [s1Y_at, if_pos ⟨h1, h2⟩]
    exact ⟨_, rfl, h3 _ rfl⟩
noncomputable def askLo : Asks := asksV Tryz.prog.globals.size 35 seGY (asksV Tryz.prog.globals.size 16 inGY (asksV Tryz.prog.globals.size 14 vshY askLa))
theorem askLo_ok : AsksOk orcLb0 askLo := asksV_ok seG_ok (asksV_ok inG_ok (asksV_ok vshY_ok askLa_ok))
noncomputable def orcBd : Orc := liftO 35 orcLb0 (liftO 16 orcLb0 (liftO 14 orcLb0 (liftO 91 orcMa (liftO 23 orcMa orcBd0))))
theorem orcBd_ok : OrcOk Tryz.prog orcBd := liftO_ok orcLb0_ok (liftO_ok orcLb0_ok (liftO_ok orcLb0_ok (liftO_ok orcMa_ok (liftO_ok orcMa_ok orcBd0_ok))))
noncomputable def askBd (p q lo hi : Nat) : Asks := liftA 35 askLo (liftA 16 askLo (liftA 14 askLo (liftA 91 askMa (liftA 23 askMa (asksV Tryz.prog.globals.size 25 (hpAY roOk roV lo hi) (askBc p q lo hi))))))
theorem askBd_ok (p q lo hi : Nat) : AsksOk orcBd (askBd p q lo hi) := liftA_ok askLo_ok (liftA_ok askLo_ok (liftA_ok askLo_ok (liftA_ok askMa_ok (liftA_ok askMa_ok (asksV_ok (hpA_ok (fun _ _ _ _ _ _ h => ⟨rfl, h⟩) lo hi) (askBc_ok p q lo hi))))))
noncomputable def woSy (s : Sy) (f : FuncId) : Sy := bif Nat.beq f 87 then syOf [(9, 60), (13, 60), (24, 7)] else s
theorem wo_e (l : List Int) (m k e row : Nat) (a b : Int) (K : Value → AHeap → Prop) : callR Tryz.prog orcBd (woSy (syOf [(8, 7), (16, 31)])) (askBd 0 0 0 0) 60 15 #[liP (m + 1) k, .agg #[gi a, gi b]] (liH (l.map gi) e row) K = (((List.all (List.map gi l) (flat 3) = true ∧ True) ∧ okT tiT (List.map gi l) (m + 1) ∧ nonC (TellT.dec tiT (List.map gi l)) [] ∧ (∀ y1 : List Int, (TellT.dec tiT (List.map gi l) = y1 → (goN (m + 1) = goN (m + 1) ∧ Value.agg #[gi a, gi b] = Value.agg #[gi a, gi b] ∧ (!(ieq (firstS [serE y1, cwE (Int.ofNat (m + 1)) a b]) 0)) = true ∧ K (Value.tuple #[Value.agg (Array.mk (List.take 2 (List.drop 0 ([] ++ ([gi 0, gi 0] ++ []))))), gi (firstS [serE y1, cwE (Int.ofNat (m + 1)) a b])]) (((((liH (List.map gi l) e row).push (.cells [gi a, gi b] 24 0 false)).push (.cells [gi 0, gi 0] 28 0 false)).push (.cells [gi (serE y1), gi (cwE (Int.ofNat (m + 1)) a b)] 33 2 false)).set (nG1 + 2) (.cells ([] ++ ([gi 0, gi 0] ++ [])) 28 0 false))))))) := by kernel_rfl
theorem wo_k (l : List Int) (m k e row p q : Nat) (K : Value → AHeap → Prop) : callR Tryz.prog orcBd (woSy (syOf [(8, 7), (16, 32), (20, 7), (22, 55)])) (askBd 0 0 0 0) 60 15 #[liP (m + 1) k, agW p q] (liH (l.map gi) e row) K = (((List.all (List.map gi l) (flat 3) = true ∧ True) ∧ okT tiT (List.map gi l) (m + 1) ∧ nonC (TellT.dec tiT (List.map gi l)) [] ∧ (∀ y1 : List Int, (TellT.dec tiT (List.map gi l) = y1 → (goN (m + 1) = goN (m + 1) ∧ Value.agg #[goN p, goN q] = Value.agg #[goN p, goN q] ∧ (!(ieq (firstS [serE y1, cwE (Int.ofNat (m + 1)) (Int.ofNat p) (Int.ofNat q)]) 0)) = false ∧ (List.all (List.map gi l) (flat 3) = true ∧ True) ∧ (BsOk (List.map gi l) row (m + 1) k ∧ noR []) ∧ Value.agg #[goN p, goN q] = Value.agg #[goN p, goN q] ∧ MapInt (mpE (List.map gi l) (m + 1)) ∧ MapInt (mpE (List.map gi l) (m + 1)) ∧ ratB (bvX (List.map gi l) (m + 1) p q) (bvY p q) = true ∧ K (Value.tuple #[Value.agg (Array.mk (List.take 2 (List.drop 0 ([] ++ (List.take 2 (List.drop 0 ([] ++ ([gi (rqA (bvX (List.map gi l) (m + 1) p q) (bvY p q)), gi (rqB (bvX (List.map gi l) (m + 1) p q) (bvY p q))] ++ []))) ++ []))))), gi 0]) (((((((((liH (List.map gi l) e row).push (.cells [goN p, goN q] 24 0 false)).push (.cells [gi 0, gi 0] 28 0 false)).push (.cells [gi (serE y1), gi (cwE (Int.ofNat (m + 1)) (Int.ofNat p) (Int.ofNat q))] 33 2 false)).push (AObj.map (mpE (List.map gi l) (m + 1)) ((m + 1) + 1))).push (.cells [goN p, goN q] 24 0 false)).push (.cells [gi 0, gi 0] 28 0 false)).set (nG1 + 6) (.cells ([] ++ ([gi (rqA (bvX (List.map gi l) (m + 1) p q) (bvY p q)), gi (rqB (bvX (List.map gi l) (m + 1) p q) (bvY p q))] ++ [])) 28 0 false)).set (nG1 + 2) (.cells ([] ++ (List.take 2 (List.drop 0 ([] ++ ([gi (rqA (bvX (List.map gi l) (m + 1) p q) (bvY p q)), gi (rqB (bvX (List.map gi l) (m + 1) p q) (bvY p q))] ++ []))) ++ [])) 28 0 false))))))) := by kernel_rfl
theorem be_e (l : List Int) (m k e row : Nat) (a b : Int) (K : Value → Prop) : callC Tryz.prog (exec Tryz.prog orcBd 20) (syOf [(10, 7), (21, 31)]) (askBd 0 0 0 0) (noLoops _) 60 17 #[liP (m + 1) k, .agg #[gi a, gi b]] (liH (l.map gi) e row) (fun v _ => K v) = (((List.all (List.map gi l) (flat 3) = true ∧ True) ∧ okT tiT (List.map gi l) (m + 1) ∧ nonC (TellT.dec tiT (List.map gi l)) [] ∧ (∀ y1 : List Int, (TellT.dec tiT (List.map gi l) = y1 → ([gi a, gi b][0]? = Option.some (gi a) ∧ goN (m + 1) = goN (m + 1) ∧ Value.agg #[gi a, gi b] = Value.agg #[gi a, gi b] ∧ [gi a, gi b][0]? = Option.some (gi a) ∧ goN (m + 1) = goN (m + 1) ∧ (!(ieq (firstS [serE y1, lnE a b, whenS (ilt (Int.ofNat (m + 1)) a) 16]) 0)) = true ∧ K (Value.tuple #[Value.agg (Array.mk (List.take 2 (List.drop 0 ([] ++ ([gi 0, gi 0] ++ []))))), Value.agg (Array.mk (List.take 2 (List.drop 0 ([] ++ ([gi 0, gi 0] ++ []))))), gi (firstS [serE y1, lnE a b, whenS (ilt (Int.ofNat (m + 1)) a) 16])])))))) := by kernel_rfl
theorem be_k (l : List Int) (m k e row lo hi : Nat) (K : Value → Prop) : callC Tryz.prog (exec Tryz.prog orcBd 20) (syOf [(10, 7), (21, 32), (27, 7)]) (askBd 0 0 lo hi) (noLoops _) 60 17 #[liP (m + 1) k, agW lo hi] (liH (l.map gi) e row) (fun v _ => K v) = (((List.all (List.map gi l) (flat 3) = true ∧ True) ∧ okT tiT (List.map gi l) (m + 1) ∧ nonC (TellT.dec tiT (List.map gi l)) [] ∧ (∀ y1 : List Int, (TellT.dec tiT (List.map gi l) = y1 → ([goN lo, goN hi][0]? = Option.some (goN lo) ∧ goN (m + 1) = goN (m + 1) ∧ Value.agg #[goN lo, goN hi] = Value.agg #[goN lo, goN hi] ∧ [goN lo, goN hi][0]? = Option.some (goN lo) ∧ goN (m + 1) = goN (m + 1) ∧ (!(ieq (firstS [serE y1, lnE (Int.ofNat lo) (Int.ofNat hi), whenS (Nat.blt (m + 1) lo) 16]) 0)) = false ∧ (List.all (List.map gi l) (flat 3) = true ∧ True) ∧ ([Value.agg #[goN lo, goN hi]] = [agW lo hi] ∧ boOk (List.map gi l) row (m + 1) k lo hi) ∧ Value.agg (Array.mk (List.take 2 (List.drop 2 ([] ++ ([gi (((bstW (List.map gi l) lo hi (m + 1)).1)), gi (((bstW (List.map gi l) lo hi (m + 1)).snd.1)), gi (((bstW (List.map gi l) lo hi (m + 1)).snd.snd.1)), gi (((bstW (List.map gi l) lo hi (m + 1)).snd.snd.2))] ++ []))))) = Value.agg (Array.mk (List.take 2 (List.drop 2 ([] ++ ([gi (((bstW (List.map gi l) lo hi (m + 1)).1)), gi (((bstW (List.map gi l) lo hi (m + 1)).snd.1)), gi (((bstW (List.map gi l) lo hi (m + 1)).snd.snd.1)), gi (((bstW (List.map gi l) lo hi (m + 1)).snd.snd.2))] ++ []))))) ∧ K (Value.tuple #[Value.agg (Array.mk (List.take 2 (List.drop 0 ([] ++ (List.take 2 (List.drop 0 ([] ++ ([gi (((bstW (List.map gi l) lo hi (m + 1)).1)), gi (((bstW (List.map gi l) lo hi (m + 1)).snd.1)), gi (((bstW (List.map gi l) lo hi (m + 1)).snd.snd.1)), gi (((bstW (List.map gi l) lo hi (m + 1)).snd.snd.2))] ++ []))) ++ []))))), Value.agg (Array.mk (List.take 2 (List.drop 0 ([] ++ (List.take 2 (List.drop 2 ([] ++ ([gi (((bstW (List.map gi l) lo hi (m + 1)).1)), gi (((bstW (List.map gi l) lo hi (m + 1)).snd.1)), gi (((bstW (List.map gi l) lo hi (m + 1)).snd.snd.1)), gi (((bstW (List.map gi l) lo hi (m + 1)).snd.snd.2))] ++ []))) ++ []))))), gi 0])))))) := by kernel_rfl
theorem cb_e (l : List Int) (m k e row : Nat) (a b x y u v : Int) (K : Value → Prop) : callC Tryz.prog (exec Tryz.prog orcBd 20) (syOf [(12, 7), (20, 7), (29, 31)]) (askBd 0 0 0 0) (noLoops _) 60 18 #[liP (m + 1) k, .agg #[gi a, gi b], .agg #[gi x, gi y], .agg #[gi u, gi v]] (liH (l.map gi) e row) (fun v _ => K v) = (((List.all (List.map gi l) (flat 3) = true ∧ True) ∧ okT tiT (List.map gi l) (m + 1) ∧ nonC (TellT.dec tiT (List.map gi l)) [] ∧ (∀ y1 : List Int, (TellT.dec tiT (List.map gi l) = y1 → ([gi a, gi b][0]? = Option.some (gi a) ∧ goN (m + 1) = goN (m + 1) ∧ Value.agg #[gi u, gi v] = Value.agg #[gi u, gi v] ∧ goN (m + 1) = goN (m + 1) ∧ Value.agg #[gi x, gi y] = Value.agg #[gi x, gi y] ∧ Value.agg #[gi a, gi b] = Value.agg #[gi a, gi b] ∧ [gi a, gi b][0]? = Option.some (gi a) ∧ goN (m + 1) = goN (m + 1) ∧ Value.agg #[gi u, gi v] = Value.agg #[gi u, gi v] ∧ goN (m + 1) = goN (m + 1) ∧ Value.agg #[gi x, gi y] = Value.agg #[gi x, gi y] ∧ [gi a, gi b][0]? = Option.some (gi a) ∧ goN (m + 1) = goN (m + 1) ∧ Value.agg #[gi u, gi v] = Value.agg #[gi u, gi v] ∧ okI u v = true ∧ [gi a, gi b][0]? = Option.some (gi a) ∧ goN (m + 1) = goN (m + 1) ∧ (!(ieq (firstS [serE y1, lnE a b, cwE (Int.ofNat (m + 1)) x y, szE u v, whenS (ilt (Int.ofNat (m + 1)) a) 16]) 0)) = true ∧ K (gi (firstS [serE y1, lnE a b, cwE (Int.ofNat (m + 1)) x y, szE u v, whenS (ilt (Int.ofNat (m + 1)) a) 16]))))))) := by kernel_rfl
theorem cb_k (l : List Int) (m k e row lo hi : Nat) (x y u v : Int) (K : Value → Prop) : callC Tryz.prog (exec Tryz.prog orcBd 20) (syOf [(12, 7), (20, 7), (29, 32), (37, 7), (38, 15)]) (askBd 0 0 lo hi) (noLoops _) 60 18 #[liP (m + 1) k, agW lo hi, .agg #[gi x, gi y], .agg #[gi u, gi v]] (liH (l.map gi) e row) (fun v _ => K v) = (((List.all (List.map gi l) (flat 3) = true ∧ True) ∧ okT tiT (List.map gi l) (m + 1) ∧ nonC (TellT.dec tiT (List.map gi l)) [] ∧ (∀ y1 : List Int, (TellT.dec tiT (List.map gi l) = y1 → ([goN lo, goN hi][0]? = Option.some (goN lo) ∧ goN (m + 1) = goN (m + 1) ∧ Value.agg #[gi u, gi v] = Value.agg #[gi u, gi v] ∧ goN (m + 1) = goN (m + 1) ∧ Value.agg #[gi x, gi y] = Value.agg #[gi x, gi y] ∧ Value.agg #[goN lo, goN hi] = Value.agg #[goN lo, goN hi] ∧ [goN lo, goN hi][0]? = Option.some (goN lo) ∧ goN (m + 1) = goN (m + 1) ∧ Value.agg #[gi u, gi v] = Value.agg #[gi u, gi v] ∧ goN (m + 1) = goN (m + 1) ∧ Value.agg #[gi x, gi y] = Value.agg #[gi x, gi y] ∧ [goN lo, goN hi][0]? = Option.some (goN lo) ∧ goN (m + 1) = goN (m + 1) ∧ Value.agg #[gi u, gi v] = Value.agg #[gi u, gi v] ∧ okI u v = true ∧ [goN lo, goN hi][0]? = Option.some (goN lo) ∧ goN (m + 1) = goN (m + 1) ∧ (!(ieq (firstS [serE y1, lnE (Int.ofNat lo) (Int.ofNat hi), cwE (Int.ofNat (m + 1)) x y, szE u v, whenS (Nat.blt (m + 1) lo) 16]) 0)) = false ∧ (List.all (List.map gi l) (flat 3) = true ∧ True) ∧ ([Value.agg #[goN lo, goN hi]] = [agW lo hi] ∧ boOk (List.map gi l) row (m + 1) k lo hi) ∧ Value.agg (Array.mk (List.take 4 (List.drop 0 ([] ++ ([gi x, gi y, gi u, gi v] ++ []))))) = Value.agg (Array.mk (List.take 4 (List.drop 0 ([] ++ ([gi x, gi y, gi u, gi v] ++ []))))) ∧ K (gi (whenS (!((ieq x (((bstW (List.map gi l) lo hi (m + 1)).1)) && (ieq y (((bstW (List.map gi l) lo hi (m + 1)).snd.1)) && true)) && ((ieq u (((bstW (List.map gi l) lo hi (m + 1)).snd.snd.1)) && (ieq v (((bstW (List.map gi l) lo hi (m + 1)).snd.snd.2)) && true)) && true))) 19))))))) := by kernel_rfl
end Go.Proofs.YtihnnmejkpddeaaGreatDoor
/-! (OWN WORK. Stage 6: Worth, Best and CheckBest of the program: known calls.) -/
namespace Go.Proofs.YtihnnmejkpddeaaGreatDoor
open Go Go.Am
theorem serAll {l : List Int} (h : serE l = 0) : l.length ≤ 128 ∧ ∀ x ∈ l, -16384 ≤ x ∧ x ≤ 16384 := by
  have h1 : cnE (Int.ofNat l.length) 128 = 0 := firstS_none h _ (.head _)
  have h2 : firstE uE l = 0 := firstS_none h _ (.tail _ (.head _))
  have h3 : whenS (ilt 128 (Int.ofNat l.length)) 5 = 0 := firstS_none h1 _ (.tail _ (.head _))
  refine ⟨?_, ?_⟩
  · have := when_none (by decide) h3
    rw [ilt_say] at this
    have := of_decide_eq_false this
    simp only [Int.ofNat_eq_natCast] at this
    omega
  · have all : ∀ {l : List Int}, firstE uE l = 0 → ∀ x ∈ l, uE x = 0 := by
      intro l
      induction l with
      | nil => intro _ x hx; cases hx
      | cons y l ih =>
        intro h x hx
        have h : (bif ieq (uE y) 0 then firstE uE l else uE y) = 0 := h
        cases hy : ieq (uE y) 0 with
        | true =>
          rw [hy, cond_true] at h
          rw [ieq_dec] at hy
          rcases List.mem_cons.1 hx with rfl | hx
          · exact of_decide_eq_true hy
          · exact ih h x hx
        | false =>
          rw [hy, cond_false] at h
          rw [h] at hy
          cases hy
    intro x hx
    exact within_zero (all h2 x hx)
theorem bs_of {l : List Int} {n : Nat} (hl : l.length = n) (h0 : 0 < n) (h : serE l = 0) (row k : Nat) : BsOk (l.map gi) row n k where
  cf := flat_ints l
  n0 := h0
  n1 := by rw [← hl]; exact (serAll h).1
  at_ := fun j hj => by
    have hj : j < l.length := by omega
    have g := List.getElem?_eq_getElem (l := l.map gi) (i := j) (by rw [List.length_map]; exact hj)
    have q := (cell_at (l := l) (List.getElem?_eq_getElem hj)).2
    rw [show 0 + j * 1 = j by omega] at q
    have b := (serAll h).2 _ (List.getElem_mem hj)
    rw [q, g, List.getElem_map]
    exact ⟨rfl, by omega, by omega⟩
theorem ieq_zero {x : Int} (h : ieq x 0 = true) : x = 0 := by rw [ieq_dec] at h; exact of_decide_eq_true h
theorem cw_zero {n : Nat} {a b : Int} (h : cwE (Int.ofNat n) a b = 0) : ∃ p q : Nat, a = Int.ofNat p ∧ b = Int.ofNat q ∧ p < q ∧ q ≤ n := by
  unfold cwE at h
  cases h1 : ilt a 0 with
  | true => rw [h1] at h; cases h
  | false =>
    cases h2 : ilt a b with
    | false => rw [h1, h2] at h; cases h
    | true =>
      cases h3 : ilt (Int.ofNat n) b with
      | true => rw [h1, h2, h3] at h; cases h
      | false =>
        rw [ilt_say] at h1 h2 h3
        have h1 := of_decide_eq_false h1
        have h2 := of_decide_eq_true h2
        have h3 := of_decide_eq_false h3
        simp only [Int.ofNat_eq_natCast] at h3 ⊢
        exact ⟨a.toNat, b.toNat, by omega, by omega, by omega, by omega⟩
theorem ln_zero {a b : Int} (h : lnE a b = 0) : ∃ lo hi : Nat, a = Int.ofNat lo ∧ b = Int.ofNat hi ∧ 0 < lo ∧ lo ≤ hi ∧ hi ≤ 128 := by
  have h1 := within_zero (firstS_none h _ (.head _))
  have h2 := within_zero (firstS_none h _ (.tail _ (.head _)))
  have h3 := when_none (by decide) (firstS_none h _ (.tail _ (.tail _ (.head _))))
  rw [ilt_say] at h3
  have h3 := of_decide_eq_false h3
  simp only [Int.ofNat_eq_natCast]
  exact ⟨a.toNat, b.toNat, by omega, by omega, by omega, by omega, by omega⟩
noncomputable def worE (l : List Int) (n : Nat) (a b : Int) : Int := firstS [serE l, cwE (Int.ofNat n) a b]
noncomputable def worV (w : Bool) (l : List Int) (n : Nat) (a b : Int) : Value := bif w then .tuple #[rt2 (wtP (l.map gi) a.toNat b.toNat), gi 0] else .tuple #[rt2 (0, 0), gi (worE l n a b)]
noncomputable def besE (l : List Int) (n : Nat) (a b : Int) : Int := firstS [serE l, lnE a b, whenS (ilt (Int.ofNat n) a) 16]
noncomputable def besV (w : Bool) (l : List Int) (n : Nat) (a b : Int) : Value := bif w then .tuple #[sp2 (bstW (l.map gi) a.toNat b.toNat n), rt2 (bstW (l.map gi) a.toNat b.toNat n).2.2, gi 0] else .tuple #[rt2 (0, 0), rt2 (0, 0), gi (besE l n a b)]
noncomputable def chkE (l : List Int) (n : Nat) (a b x y u v : Int) : Int := firstS [serE l, lnE a b, cwE (Int.ofNat n) x y, szE u v, whenS (ilt (Int.ofNat n) a) 16]
noncomputable def eqW (m : W4) (x y u v : Int) : Bool := (ieq x m.1 && (ieq y m.2.1 && true)) && ((ieq u m.2.2.1 && (ieq v m.2.2.2 && true)) && true)
noncomputable def chkV (w : Bool) (l : List Int) (n : Nat) (a b x y u v : Int) : Value := bif w then gi (whenS (!(eqW (bstW (l.map gi) a.toNat b.toNat n) x y u v)) 19) else gi (chkE l n a b x y u v)
noncomputable def agI : List Value → P2
  | [.agg a] => match a.toList with
    | [.int .i64 x, .int .i64 y] => (x, y)
    | _ => (0, 0)
  | _ => (0, 0)
noncomputable def agJ : List Value → P2 × P2 × P2
  | [x, y, z] => (agI [x], agI [y], agI [z])
  | _ => ((0, 0), (0, 0), (0, 0))
def worC (_ : List Int) (r : List Value) : Prop := r = [rt2 (agI r)]
def chkC (_ : List Int) (r : List Value) : Prop := r = [rt2 (agJ r).1, rt2 (agJ r).2.1, rt2 (agJ r).2.2] ∧ okI (agJ r).2.2.1 (agJ r).2.2.2 = true
noncomputable abbrev worO (n : Nat) (l : List Int) (r : List Value) : Out := .plain (worV (ieq (worE l n (agI r).1 (agI r).2) 0) l n (agI r).1 (agI r).2)
noncomputable abbrev besO (n : Nat) (l : List Int) (r : List Value) : Out := .plain (besV (ieq (besE l n (agI r).1 (agI r).2) 0) l n (agI r).1 (agI r).2)
noncomputable abbrev chkO (n : Nat) (l : List Int) (r : List Value) : Out := .plain (chkV (ieq (chkE l n (agJ r).1.1 (agJ r).1.2 (agJ r).2.1.1 (agJ r).2.1.2 (agJ r).2.2.1 (agJ r).2.2.2) 0) l n (agJ r).1.1 (agJ r).1.2 (agJ r).2.1.1 (agJ r).2.1.2 (agJ r).2.2.1 (agJ r).2.2.2)
noncomputable def orcBe : Orc := orElse 15 (s1O tiT worC worO) (orElse 17 (s1O tiT worC besO) (orElse 18 (s1O tiT chkC chkO) orcBd))
set_option maxRecDepth 100000 in
theorem orcBe_ok : OrcOk Tryz.prog orcBe := by
  refine s1O_ok (s1O_ok (s1O_ok orcBd_ok (fun n l r _ => ?_) ?_) (fun n l r _ => ?_) ?_) (fun n l r _ => ?_) ?_
  · show flat 3 (chkV _ _ _ _ _ _ _ _ _) = true
    cases ieq (chkE l n (agJ r).1.1 (agJ r).1.2 (agJ r).2.1.1 (agJ r).2.1.2 (agJ r).2.2.1 (agJ r).2.2.2) 0 <;> rfl
  · rintro l m k e row r hl h1 ⟨hr, hI⟩
    rw [hr] at hI ⊢
    generalize agJ r = R at hI ⊢
    obtain ⟨⟨a, b⟩, ⟨x, y⟩, ⟨u, v⟩⟩ := R
    have f1 := okIv hl h1
    show CallJ Tryz.prog 18 #[liP (m + 1) k, rt2 (a, b), rt2 (x, y), rt2 (u, v)] (liH (l.map gi) e row) (fun w _ => w = chkV (ieq (chkE l (m + 1) a b x y u v) 0) l (m + 1) a b x y u v)
    have hI : okI u v = true := hI
    cases hz : ieq (chkE l (m + 1) a b x y u v) 0 with
    | false =>
      refine callC_ok mixed orcBd_ok (askBd_ok _ _ _ _) (Eq.mpr (cb_e l m k e row a b x y u v _) ⟨⟨flat_ints l, trivial⟩, f1, rfl, fun L hL => ?_⟩)
      obtain rfl : l = L := by rw [← hL, decTv]
      exact ⟨rfl, rfl, rfl, rfl, rfl, rfl, rfl, rfl, rfl, rfl, rfl, rfl, rfl, rfl, hI, rfl, rfl, by rw [show ieq (firstS [serE l, lnE a b, cwE (Int.ofNat (m + 1)) x y, szE u v, whenS (ilt (Int.ofNat (m + 1)) a) 16]) 0 = false from hz]; rfl, rfl⟩
    | true =>
      have z := ieq_zero hz
      have z1 : serE l = 0 := firstS_none z _ (.head _)
      obtain ⟨lo, hi, rfl, rfl, g1, g2, g3⟩ := ln_zero (firstS_none z (lnE a b) (.tail _ (.head _)))
      have z5 := when_none (by decide) (firstS_none z (whenS (ilt (Int.ofNat (m + 1)) (Int.ofNat lo)) 16) (.tail _ (.tail _ (.tail _ (.tail _ (.head _))))))
      rw [ilt_say] at z5
      have z5 := of_decide_eq_false z5
      simp only [Int.ofNat_eq_natCast] at z5
      refine callC_ok mixed orcBd_ok (askBd_ok _ _ _ _) (Eq.mpr (cb_k l m k e row lo hi x y u v _) ⟨⟨flat_ints l, trivial⟩, f1, rfl, fun L hL => ?_⟩)
      obtain rfl : l = L := by rw [← hL, decTv]
      exact ⟨rfl, rfl, rfl, rfl, rfl, rfl, rfl, rfl, rfl, rfl, rfl, rfl, rfl, rfl, hI, rfl, rfl, by rw [show ieq (firstS [serE l, lnE (Int.ofNat lo) (Int.ofNat hi), cwE (Int.ofNat (m + 1)) x y, szE u v, whenS (Nat.blt (m + 1) lo) 16]) 0 = true from hz]; rfl, ⟨flat_ints l, trivial⟩, ⟨rfl, bs_of hl (Nat.succ_pos m) z1 row k, g1, g2, by omega, by omega⟩, rfl, rfl⟩
  · show flat 3 (besV _ _ _ _ _) = true
    cases ieq (besE l n (agI r).1 (agI r).2) 0 <;> rfl
  · rintro l m k e row r hl h1 hr
    have hr : r = [rt2 (agI r)] := hr
    rw [hr]
    generalize agI r = R
    obtain ⟨a, b⟩ := R
    have f1 := okIv hl h1
    show CallJ Tryz.prog 17 #[liP (m + 1) k, rt2 (a, b)] (liH (l.map gi) e row) (fun w _ => w = besV (ieq (besE l (m + 1) a b) 0) l (m + 1) a b)
    cases hz : ieq (besE l (m + 1) a b) 0 with
    | false =>
      refine callC_ok mixed orcBd_ok (askBd_ok _ _ _ _) (Eq.mpr (be_e l m k e row a b _) ⟨⟨flat_ints l, trivial⟩, f1, rfl, fun L hL => ?_⟩)
      obtain rfl : l = L := by rw [← hL, decTv]
      exact ⟨rfl, rfl, rfl, rfl, rfl, by rw [show ieq (firstS [serE l, lnE a b, whenS (ilt (Int.ofNat (m + 1)) a) 16]) 0 = false from hz]; rfl, rfl⟩
    | true =>
      have z := ieq_zero hz
      have z1 : serE l = 0 := firstS_none z _ (.head _)
      obtain ⟨lo, hi, rfl, rfl, g1, g2, g3⟩ := ln_zero (firstS_none z (lnE a b) (.tail _ (.head _)))
      have z5 := when_none (by decide) (firstS_none z (whenS (ilt (Int.ofNat (m + 1)) (Int.ofNat lo)) 16) (.tail _ (.tail _ (.head _))))
      rw [ilt_say] at z5
      have z5 := of_decide_eq_false z5
      simp only [Int.ofNat_eq_natCast] at z5
      refine callC_ok mixed orcBd_ok (askBd_ok _ _ _ _) (Eq.mpr (be_k l m k e row lo hi _) ⟨⟨flat_ints l, trivial⟩, f1, rfl, fun L hL => ?_⟩)
      obtain rfl : l = L := by rw [← hL, decTv]
      exact ⟨rfl, rfl, rfl, rfl, rfl, by rw [show ieq (firstS [serE l, lnE (Int.ofNat lo) (Int.ofNat hi), whenS (Nat.blt (m + 1) lo) 16]) 0 = true from hz]; rfl, ⟨flat_ints l, trivial⟩, ⟨rfl, bs_of hl (Nat.succ_pos m) z1 row k, g1, g2, by omega, by omega⟩, rfl, rfl⟩
  · show flat 3 (worV _ _ _ _ _) = true
    cases ieq (worE l n (agI r).1 (agI r).2) 0 <;> rfl
  · rintro l m k e row r hl h1 hr
    have hr : r = [rt2 (agI r)] := hr
    rw [hr]
    generalize agI r = R
    obtain ⟨a, b⟩ := R
    have f1 := okIv hl h1
    show CallJ Tryz.prog 15 #[liP (m + 1) k, rt2 (a, b)] (liH (l.map gi) e row) (fun w _ => w = worV (ieq (worE l (m + 1) a b) 0) l (m + 1) a b)
    cases hz : ieq (worE l (m + 1) a b) 0 with
    | false =>
      refine CallJ.ofR mixed orcBd_ok (askBd_ok _ _ _ _) (Eq.mpr (wo_e l m k e row a b _) ⟨⟨flat_ints l, trivial⟩, f1, rfl, fun L hL => ?_⟩)
      obtain rfl : l = L := by rw [← hL, decTv]
      exact ⟨rfl, rfl, by rw [show ieq (firstS [serE l, cwE (Int.ofNat (m + 1)) a b]) 0 = false from hz]; rfl, rfl⟩
    | true =>
      have z := ieq_zero hz
      have z1 : serE l = 0 := firstS_none z _ (.head _)
      obtain ⟨p, q, rfl, rfl, g1, g2⟩ := cw_zero (firstS_none z (cwE (Int.ofNat (m + 1)) a b) (.tail _ (.head _)))
      have C := bs_of hl (Nat.succ_pos m) z1 row k
      have hn1 := C.n1
      refine CallJ.ofR mixed orcBd_ok (askBd_ok _ _ _ _) (Eq.mpr (wo_k l m k e row p q _) ⟨⟨flat_ints l, trivial⟩, f1, rfl, fun L hL => ?_⟩)
      obtain rfl : l = L := by rw [← hL, decTv]
      refine ⟨rfl, rfl, by rw [show ieq (firstS [serE l, cwE (Int.ofNat (m + 1)) (Int.ofNat p) (Int.ofNat q)]) 0 = true from hz]; rfl, ⟨flat_ints l, trivial⟩, ⟨C, rfl⟩, rfl, mpE_int _ _, mpE_int _ _, bv_rat C g1 g2, ?_⟩
      rw [bvX_eq C (Nat.le_of_lt g1) g2, bvY_eq (Nat.le_of_lt g1) (by omega)]
      rfl
end Go.Proofs.YtihnnmejkpddeaaGreatDoor
