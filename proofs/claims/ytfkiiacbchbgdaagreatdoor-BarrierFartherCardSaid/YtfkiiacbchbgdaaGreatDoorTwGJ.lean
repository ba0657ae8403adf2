/-
  OWN WORK. Tows: errors, runs, brakes, safe cells and tables as known calls.
-/
import Derived.Test.YtfkiiacbchbgdaaGreatDoorTwBD
import Derived.Test.YtfkiiacbchbgdaaGreatDoorTwE
import Derived.Test.YtfkiiacbchbgdaaGreatDoorTwF
/-! (OWN WORK. Tows: the errors of a tow, and its runs, as known calls.) -/
namespace Go.Proofs.YtfkiiacbchbgdaaGreatDoor
open Go Go.Am

theorem firstS_app (x y : List Int) : firstS (firstS x :: y) = firstS (x ++ y) := by
  induction x with
  | nil => rfl
  | cons a x ih =>
    have e : firstS (a :: x) = bif ieq a 0 then firstS x else a := rfl
    have e' : firstS (a :: x ++ y) = bif ieq a 0 then firstS (x ++ y) else a := rfl
    rw [e, e']
    cases h : ieq a 0 with
    | true => exact ih
    | false =>
      show (bif ieq a 0 then _ else a) = a
      rw [h]; rfl
noncomputable def ctE (n : Nat) (l : List Int) (t : T5) : Int := firstS [whenS (ieq (Int.ofNat n) 0) 12, whenS (ilt 64 (Int.ofNat n)) 5, eaE 100000 l, itE t.1 t.2.1 0 100000, itE t.2.2.1 t.2.2.2.1 0 100000, withinS t.2.2.2.2 1 (Int.ofNat n)]
noncomputable def ceE (w x : Int) : Int := whenS (ilt x 0 || ilt w x) 10
def noR (_ : List Int) (_ : T5) (r : List Value) : Prop := r = []
def oneR (_ : List Int) (_ : T5) (r : List Value) : Prop := r = [gi (arg0 r)]
noncomputable abbrev ctO (_ : Nat) (l : List Int) (t : T5) (_ : List Value) : Out := .plain (gi (ctE l.length l t))
noncomputable abbrev ceO (_ : Nat) (_ : List Int) (t : T5) (r : List Value) : Out := .plain (gi (ceE t.2.2.2.2 (arg0 r)))
noncomputable def inL : List Value → Option Value
  | [.int .i64 x, .agg v] => match v.toList with
    | [.int .i64 a, .int .i64 b] => some (gi (withinS x a b))
    | _ => none
  | _ => none
theorem or_split {p q : Bool} {e : Int} {K : Value → Prop} (h : K (gi (whenS (p || q) e))) : (p = true → K (gi e)) ∧ (p = false → K (gi (whenS q e))) := by
  cases p
  · exact ⟨fun z => (by cases z), fun _ => h⟩
  · exact ⟨fun _ => h, fun z => (by cases z)⟩
noncomputable def orcUc : Orc := orElse 13 (twO noR ctO) (orElse 22 (twO noR ctO) (orElse 15 (twO oneR ceO) (orElse 55 (twO oneR ceO) (orElse 14 (flatSpec inL) orcUb))))
set_option maxRecDepth 100000 in
theorem orcUc_ok : OrcOk Tryz.prog orcUc := by
  refine twO_ok (twO_ok (twO_ok (twO_ok (flatSpec_ok (fun l v h => ?_) orcUb_ok) (fun _ _ _ _ _ => rfl) ?_) (fun _ _ _ _ _ => rfl) ?_) (fun _ _ _ _ _ => rfl) ?_) (fun _ _ _ _ _ => rfl) ?_
  · unfold inL at h
    split at h
    · split at h
      · rename_i ha
        cases h
        obtain rfl := agg_eq ha
        exact ⟨rfl, rfl, callC_ok mixed orcUb_ok askUb_ok (Eq.mpr (in_run _ _ _ _) (or_split (K := fun u => u = _) rfl))⟩
      · cases h
    · cases h
  · intro l m k e row a b c d w r hl h1 hr
    unfold oneR at hr
    rw [hr]
    exact callC_ok mixed orcUb_ok askUb_ok (Eq.mpr (cc_run _ _ _ _ _ _ _ _ _ _ _ _) (or_split (K := fun u => u = _) rfl))
  · intro l m k e row a b c d w r hl h1 hr
    unfold oneR at hr
    rw [hr]
    exact callC_ok mixed orcUb_ok askUb_ok (Eq.mpr (rc_run _ _ _ _ _ _ _ _ _ _ _ _) (or_split (K := fun u => u = _) rfl))
  · rintro l m k e row a b c d w r hl h1 rfl
    have hf := flat_ints l
    have ht := towOk_of hl (Nat.succ_pos m) h1
    have he : eaC l [clF 65] := .inl rfl
    have key : gi (firstS (firstS [whenS (ieq (Int.ofNat (m + 1)) 0) 12, whenS (ilt 64 (Int.ofNat (m + 1))) 5] :: [eaE 100000 l, itE a b 0 100000, itE c d 0 100000, withinS w 1 (Int.ofNat (m + 1))])) = gi (ctE l.length l (a, b, c, d, w)) := by rw [firstS_app, hl]; rfl
    refine callC_ok mixed orcUb_ok askUb_ok (Eq.mpr (ct_run l m e row k a b c d w _) ?_)
    rw [decI_map]
    repeat' (first | exact rfl | exact trivial | assumption | exact key | apply And.intro)
  · rintro l m k e row a b c d w r hl h1 rfl
    have hf := flat_ints l
    have ht := towOk_of hl (Nat.succ_pos m) h1
    have he : raC l [gi 0, gi 100000] := rfl
    have key : gi (firstS [whenS (ieq (Int.ofNat (m + 1)) 0) 12, whenS (ilt 64 (Int.ofNat (m + 1))) 5, raE 0 100000 l, itE a b 0 100000, itE c d 0 100000, withinS w 1 (Int.ofNat (m + 1))]) = gi (ctE l.length l (a, b, c, d, w)) := by rw [hl]; rfl
    refine callC_ok mixed orcUb_ok askUb_ok (Eq.mpr (rt_run l m e row k a b c d w _) ?_)
    rw [decI_map]
    repeat' (first | exact rfl | exact trivial | assumption | exact key | apply And.intro)
noncomputable def askUc : Asks := asksV Tryz.prog.globals.size 13 (twY noR ctO) (asksV Tryz.prog.globals.size 22 (twY noR ctO) (asksV Tryz.prog.globals.size 15 (twY oneR ceO) (asksV Tryz.prog.globals.size 55 (twY oneR ceO) (skipA 14 askUb))))
theorem askUc_ok : AsksOk orcUc askUc := asksV_ok (twY_ok fun _ _ _ _ h => ⟨h, rfl⟩) (asksV_ok (twY_ok fun _ _ _ _ h => ⟨h, rfl⟩) (asksV_ok (twY_ok fun _ _ _ _ h => ⟨h, rfl⟩) (asksV_ok (twY_ok fun _ _ _ _ h => ⟨h, rfl⟩) (skipA_ok askUb_ok))))
/-! Valid tows. -/
theorem firstE_zero {α : Type} {f : α → Int} : ∀ {l : List α}, firstE f l = 0 → ∀ x ∈ l, f x = 0
  | [], _ => fun x hx => by cases hx
  | y :: l, h => by
    have h : (bif ieq (f y) 0 then firstE f l else f y) = 0 := h
    cases hy : ieq (f y) 0 with
    | true =>
      rw [hy] at h
      rw [ieq_dec] at hy
      intro x hx
      rcases List.mem_cons.1 hx with rfl | hx
      · exact of_decide_eq_true hy
      · exact firstE_zero h x hx
    | false =>
      rw [hy] at h
      rw [ieq_dec] at hy
      exact absurd h (of_decide_eq_false hy)
theorem itE_zero' {a b l h : Int} (q : itE a b l h = 0) : l ≤ a ∧ a ≤ b ∧ b ≤ h := by
  have z := firstS_none q
  have h1 := within_zero (z _ (.head _))
  have h2 := within_zero (z _ (.tail _ (.head _)))
  have h3 := when_none (by decide) (z _ (.tail _ (.tail _ (.head _))))
  rw [ilt_say] at h3
  simp only [decide_eq_false_iff_not] at h3
  omega
theorem ctE_zero {n : Nat} {l : List Int} {a b c d w : Int} (h : ctE n l (a, b, c, d, w) = 0) : n ≤ 64 ∧ (∀ x ∈ l, 0 ≤ x ∧ x ≤ 100000) ∧ (0 ≤ a ∧ a ≤ b ∧ b ≤ 100000) ∧ (0 ≤ c ∧ c ≤ d ∧ d ≤ 100000) ∧ 1 ≤ w ∧ w ≤ n := by
  have z := firstS_none h
  have h1 := when_none (by decide) (z _ (.tail _ (.head _)))
  have h2 := z _ (.tail _ (.tail _ (.head _)))
  have h3 := itE_zero' (z _ (.tail _ (.tail _ (.tail _ (.head _)))))
  have h4 := itE_zero' (z _ (.tail _ (.tail _ (.tail _ (.tail _ (.head _))))))
  have h5 := within_zero (z _ (.tail _ (.tail _ (.tail _ (.tail _ (.tail _ (.head _)))))))
  rw [ilt_say] at h1
  simp only [decide_eq_false_iff_not, Int.ofNat_eq_natCast] at h1 h5
  exact ⟨by omega, fun x hx => within_zero (firstE_zero h2 x hx), h3, h4, h5⟩
/-- Runs stay within 64 bits. -/
theorem rnY_ok {f : Int} {K : Prop} (hf : 0 ≤ f) (hf' : f ≤ 100000) (hK : K) : ∀ {l : List Int} {s : Int}, (∀ x ∈ l, 0 ≤ x ∧ x ≤ 100000) → 0 ≤ s → s + 100000 * l.length ≤ 100000000 → rnY f s l K
  | [], _, _, _, _ => hK
  | x :: l, s, hx, h0, hs => by
    have hx0 := hx x (.head _)
    have e : ((x :: l).length : Int) = (l.length : Int) + 1 := by simp
    rw [e] at hs
    refine ⟨inI64_small (by omega) (by omega), inI64_small (by omega) (by omega), rnY_ok hf hf' hK (fun y hy => hx y (.tail _ hy)) ?_ ?_⟩
    · unfold mxN; split <;> omega
    · unfold mxN; split <;> omega
theorem rqY_ok {f : Int} {v : Value} {K : Prop} (hf : 0 ≤ f) (hf' : f ≤ 100000) (hK : K) : ∀ {l : List Int} {s : Int}, (∀ x ∈ l, 0 ≤ x ∧ x ≤ 100000) → 0 ≤ s → s + 100000 * l.length ≤ 100000000 → rqY f v s l K
  | [], _, _, _, _ => hK
  | x :: l, s, hx, h0, hs => by
    have hx0 := hx x (.head _)
    have e : ((x :: l).length : Int) = (l.length : Int) + 1 := by simp
    rw [e] at hs
    refine ⟨inI64_small (by omega) (by omega), inI64_small (by omega) (by omega), rfl, rfl, rfl, rfl, rqY_ok hf hf' hK (fun y hy => hx y (.tail _ hy)) ?_ ?_⟩
    · unfold mxR; split <;> omega
    · unfold mxR; split <;> omega
theorem rqL_eq (f : Int) : ∀ (l : List Int) (s : Int), rqL f s l = rnL f s l
  | [], _ => rfl
  | x :: l, s => by
    show s :: rqL f (mxR s x f) l = s :: rnL f (mxN s x f) l
    rw [rqL_eq f l]; rfl
theorem rnL_len (f : Int) : ∀ (l : List Int) (s : Int), (rnL f s l).length = l.length + 1
  | [], _ => rfl
  | x :: l, s => by
    show (rnL f (mxN s x f) l).length + 1 = _
    rw [rnL_len f l]; rfl
theorem rnL_le {f : Int} (hf : 0 ≤ f) : ∀ {l : List Int} {s : Int}, (∀ x ∈ l, 0 ≤ x ∧ x ≤ 100000) → 0 ≤ s → s + 100000 * l.length ≤ 100000000 → ∀ y ∈ rnL f s l, 0 ≤ y ∧ y ≤ 100000000
  | [], s, _, h0, hs => by
    intro y hy
    rw [List.mem_singleton.1 (show y ∈ [s] from hy)]
    simp only [List.length_nil] at hs
    omega
  | x :: l, s, hx, h0, hs => by
    have hx0 := hx x (.head _)
    have e : ((x :: l).length : Int) = (l.length : Int) + 1 := by simp
    rw [e] at hs
    intro y hy
    rcases List.mem_cons.1 (show y ∈ s :: rnL f (mxN s x f) l from hy) with rfl | hy
    · omega
    · refine rnL_le hf (fun z hz => hx z (.tail _ hz)) ?_ ?_ y hy
      · unfold mxN; split <;> omega
      · unfold mxN; split <;> omega
theorem slK_got {xs : List Value} {el n : Nat} {v : Value} {h : AHeap} (q : slK (fun a b o => a = n ∧ b = n ∧ o = some (.cells xs el 2 false)) v h) : ∃ r, v = slM n r ∧ h.get r = some (.cells xs el 2 false) := by
  unfold slK at q
  split at q
  · obtain ⟨rfl, rfl, h3⟩ := q
    exact ⟨_, rfl, h3⟩
  · exact q.elim
theorem slKr_got {xs : List Value} {el n : Nat} {v : Value} {h : AHeap} (q : slKr (fun a b o => a = n ∧ b = n ∧ o = some (.cells xs el 2 false)) v h) : ∃ r, v = slM n r ∧ h.get r = some (.cells xs el 2 false) := by
  unfold slKr at q
  split at q
  · obtain ⟨rfl, rfl, h3⟩ := q
    exact ⟨_, rfl, h3⟩
  · exact q.elim
def ruC (l : List Int) (t : T5) (r : List Value) : Prop := ctE l.length l t = 0 ∧ r = [gi (arg0 r)] ∧ 0 ≤ arg0 r ∧ arg0 r ≤ 100000
noncomputable abbrev ruO (n : Nat) (l : List Int) (_ : T5) (r : List Value) : Out := .wide (slM (n + 1)) ((rnL (arg0 r) 0 l).map gi) 3 2
noncomputable def orcUd : Orc := orElse 17 (twO ruC ruO) (orElse 53 (twO ruC ruO) orcUc)
set_option maxRecDepth 100000 in
theorem orcUd_ok : OrcOk Tryz.prog orcUd := by
  refine twO_ok (twO_ok orcUc_ok (fun _ _ _ _ _ => ⟨names_sl _, flat_ints _⟩) ?_) (fun _ _ _ _ _ => ⟨names_sl _, flat_ints _⟩) ?_
  · rintro l m k e row a b c d w r hl h1 ⟨hc, hr, hf, hf'⟩
    obtain ⟨hn, hx, _⟩ := ctE_zero hc
    have q := rnY_ok (K := (m + 1 + 1 = m + 1 + 1 ∧ m + 1 + 1 = m + 1 + 1 ∧ (some (AObj.cells ((rnL (arg0 r) 0 l).map gi) 3 2 false) = some (.cells ((rnL (arg0 r) 0 l).map gi) 3 2 false)))) hf hf' ⟨rfl, rfl, rfl⟩ hx (Int.le_refl 0) (by rw [hl] at hn ⊢; omega)
    have p := ru_n a b c d w (arg0 r) e row k (fun x y o => x = m + 1 + 1 ∧ y = m + 1 + 1 ∧ o = some (.cells ((rnL (arg0 r) 0 l).map gi) 3 2 false)) (fun j => l.getD j 0) (m + 1) (by omega) (by omega)
    unfold RuS at p
    have el : lsN (fun j => l.getD j 0) 0 (m + 1) = l := by rw [← hl, lsN_all]
    rw [el] at p
    rw [hr]
    exact (CallJ.ofN mixed orcUa_ok askUa_ok (Eq.mpr p q)).mono fun v h' z => slK_got z
  · rintro l m k e row a b c d w r hl h1 ⟨hc, hr, hf, hf'⟩
    obtain ⟨hn, hx, _⟩ := ctE_zero hc
    have q := rqY_ok (v := liP (m + 1) k) (K := (m + 1 + 1 = m + 1 + 1 ∧ m + 1 + 1 = m + 1 + 1 ∧ (some (AObj.cells ((rqL (arg0 r) 0 l).map gi) 3 2 false) = some (.cells ((rnL (arg0 r) 0 l).map gi) 3 2 false)))) hf hf' ⟨rfl, rfl, by rw [rqL_eq]⟩ hx (Int.le_refl 0) (by rw [hl] at hn ⊢; omega)
    have p := rq_n a b c d w (arg0 r) e row k (fun x y o => x = m + 1 + 1 ∧ y = m + 1 + 1 ∧ o = some (.cells ((rnL (arg0 r) 0 l).map gi) 3 2 false)) (fun j => l.getD j 0) (m + 1) (by omega) (by omega)
    unfold RqS at p
    have el : lsN (fun j => l.getD j 0) 0 (m + 1) = l := by rw [← hl, lsN_all]
    rw [el] at p
    rw [hr]
    exact (CallJ.ofN mixed orcUa_ok askUa_ok (Eq.mpr p q)).mono fun v h' z => slKr_got z
noncomputable def askUd : Asks := asksV Tryz.prog.globals.size 17 (twY ruC ruO) (asksV Tryz.prog.globals.size 53 (twY ruC ruO) askUc)
theorem askUd_ok : AsksOk orcUd askUd := asksV_ok (twY_ok fun _ _ _ _ h => ⟨h, rfl⟩) (asksV_ok (twY_ok fun _ _ _ _ h => ⟨h, rfl⟩) askUc_ok)
end Go.Proofs.YtfkiiacbchbgdaaGreatDoor
/-! (OWN WORK. Tows: runs, brakes, safe cells and tables, carried out.) -/
namespace Go.Proofs.YtfkiiacbchbgdaaGreatDoor
open Go Go.Am

noncomputable def tpKY (K : Nat → Nat → List Value → Option AObj → Prop) (P : Value → Prop) (v : Value) (h : AHeap) : Prop := match v with
  | .tuple arr => match arr.toList with
    | .slice (some ⟨i, 0, none⟩) n k :: r => K n k r (h.get i)
    | _ => P v
  | _ => P v
noncomputable def skKY (K : Nat → Nat → Option AObj → Prop) (v : Value) (h : AHeap) : Prop := match v with
  | .slice (some ⟨i, 0, none⟩) n k => K n k (h.get i)
  | _ => False
theorem pR_run (l : List Int) (m e row k : Nat) (a b c d w f : Int) (K : Nat → Nat → List Value → Option AObj → Prop) (P : Value → Prop) : callC Tryz.prog (exec Tryz.prog orcUd 10) (syOf [(8, 7), (20, 1), (24, 7)]) askUd (noLoops _) 20 7 #[towV (m + 1) k a b c d w, gi f] (canon Tryz.prog [(l.map gi, e, row)]) (tpKY K P) = (((List.all (List.map gi l) (flat 3) = true ∧ True) ∧ towOk (List.map gi l) (m + 1) ∧ noR (decI (List.map gi l)) (Prod.mk a (Prod.mk b (Prod.mk c (Prod.mk d w)))) [] ∧ [liP (m + 1) k, gi a, gi b, gi c, gi d, gi w][2]? = Option.some (gi b) ∧ [liP (m + 1) k, gi a, gi b, gi c, gi d, gi w][1]? = Option.some (gi a) ∧ ((!(ieq (firstS [ctE (List.length (decI (List.map gi l))) (decI (List.map gi l)) (Prod.mk a (Prod.mk b (Prod.mk c (Prod.mk d w)))), withinS f a b]) 0)) = true → P (Value.tuple #[nilS, gi (firstS [ctE (List.length (decI (List.map gi l))) (decI (List.map gi l)) (Prod.mk a (Prod.mk b (Prod.mk c (Prod.mk d w)))), withinS f a b])])) ∧ ((!(ieq (firstS [ctE (List.length (decI (List.map gi l))) (decI (List.map gi l)) (Prod.mk a (Prod.mk b (Prod.mk c (Prod.mk d w)))), withinS f a b]) 0)) = false → ((List.all (List.map gi l) (flat 3) = true ∧ True) ∧ towOk (List.map gi l) (m + 1) ∧ ruC (decI (List.map gi l)) (Prod.mk a (Prod.mk b (Prod.mk c (Prod.mk d w)))) [gi f] ∧ K ((m + 1) + 1) ((m + 1) + 1) [gi 0] (((((canon Tryz.prog [Prod.mk (List.map gi l) (Prod.mk e row)]).push (.cells [liP (m + 1) k, gi a, gi b, gi c, gi d, gi w] 32 0 false)).push (.cells [gi (ctE (List.length (decI (List.map gi l))) (decI (List.map gi l)) (Prod.mk a (Prod.mk b (Prod.mk c (Prod.mk d w))))), gi (withinS f a b)] 29 2 false)).push (.cells (List.map gi (rnL (arg0 [gi f]) 0 (decI (List.map gi l)))) 3 2 false)).get (nG1 + 3)))))) := by kernel_rfl
theorem pB_run (l : List Int) (m e row k : Nat) (a b c d w x f g : Int) (K : Value → Prop) : callC Tryz.prog (exec Tryz.prog orcUd 10) (syOf [(14, 7), (17, 7), (37, 1), (41, 7), (43, 2), (44, 3), (47, 33), (50, 1), (54, 1), (58, 7), (59, 33)]) askUd (noLoops _) 20 10 #[towV (m + 1) k a b c d w, gi x, gi f, gi g] (canon Tryz.prog [(l.map gi, e, row)]) (fun v _ => K v) = (((List.all (List.map gi l) (flat 3) = true ∧ True) ∧ towOk (List.map gi l) (m + 1) ∧ noR (decI (List.map gi l)) (Prod.mk a (Prod.mk b (Prod.mk c (Prod.mk d w)))) [] ∧ [liP (m + 1) k, gi a, gi b, gi c, gi d, gi w][4]? = Option.some (gi d) ∧ [liP (m + 1) k, gi a, gi b, gi c, gi d, gi w][3]? = Option.some (gi c) ∧ [liP (m + 1) k, gi a, gi b, gi c, gi d, gi w][2]? = Option.some (gi b) ∧ [liP (m + 1) k, gi a, gi b, gi c, gi d, gi w][1]? = Option.some (gi a) ∧ Value.agg #[liP (m + 1) k, gi a, gi b, gi c, gi d, gi w] = Value.agg #[liP (m + 1) k, gi a, gi b, gi c, gi d, gi w] ∧ (List.all (List.map gi l) (flat 3) = true ∧ True) ∧ towOk (List.map gi l) (m + 1) ∧ oneR (decI (List.map gi l)) (Prod.mk a (Prod.mk b (Prod.mk c (Prod.mk d w)))) [gi x] ∧ [liP (m + 1) k, gi a, gi b, gi c, gi d, gi w][4]? = Option.some (gi d) ∧ [liP (m + 1) k, gi a, gi b, gi c, gi d, gi w][3]? = Option.some (gi c) ∧ [liP (m + 1) k, gi a, gi b, gi c, gi d, gi w][2]? = Option.some (gi b) ∧ [liP (m + 1) k, gi a, gi b, gi c, gi d, gi w][1]? = Option.some (gi a) ∧ [liP (m + 1) k, gi a, gi b, gi c, gi d, gi w][4]? = Option.some (gi d) ∧ [liP (m + 1) k, gi a, gi b, gi c, gi d, gi w][3]? = Option.some (gi c) ∧ ((!(ieq (firstS [ctE (List.length (decI (List.map gi l))) (decI (List.map gi l)) (Prod.mk a (Prod.mk b (Prod.mk c (Prod.mk d w)))), ceE w (arg0 [gi x]), withinS f a b, withinS g c d]) 0)) = true → K (Value.tuple #[gi 0, gi (firstS [ctE (List.length (decI (List.map gi l))) (decI (List.map gi l)) (Prod.mk a (Prod.mk b (Prod.mk c (Prod.mk d w)))), ceE w (arg0 [gi x]), withinS f a b, withinS g c d])])) ∧ ((!(ieq (firstS [ctE (List.length (decI (List.map gi l))) (decI (List.map gi l)) (Prod.mk a (Prod.mk b (Prod.mk c (Prod.mk d w)))), ceE w (arg0 [gi x]), withinS f a b, withinS g c d]) 0)) = false → ((List.all (List.map gi l) (flat 3) = true ∧ True) ∧ towOk (List.map gi l) (m + 1) ∧ ruC (decI (List.map gi l)) (Prod.mk a (Prod.mk b (Prod.mk c (Prod.mk d w)))) [gi f] ∧ ahasIndex x ((m + 1) + 1) = true ∧ (List.map gi (rnL (arg0 [gi f]) 0 (decI (List.map gi l))))[(0 + (Int.toNat x * 1))]? = Option.some (gi (intAt (List.map gi (rnL (arg0 [gi f]) 0 (decI (List.map gi l)))) (0 + (Int.toNat x * 1)))) ∧ inI64 (f + g) = true ∧ (ieq (intAt (List.map gi (rnL (arg0 [gi f]) 0 (decI (List.map gi l)))) (0 + (Int.toNat x * 1))) 0 = true → K (Value.tuple #[gi x, gi 0])) ∧ (ieq (intAt (List.map gi (rnL (arg0 [gi f]) 0 (decI (List.map gi l)))) (0 + (Int.toNat x * 1))) 0 = false → ((ieq (f + g) 0 = true → K (Value.tuple #[gi 0, gi 7])) ∧ (ieq (f + g) 0 = false → ((ilt 0 (f + g) && small (intAt (List.map gi (rnL (arg0 [gi f]) 0 (decI (List.map gi l)))) (0 + (Int.toNat x * 1)))) = true ∧ inI64 (x + ceilE (intAt (List.map gi (rnL (arg0 [gi f]) 0 (decI (List.map gi l)))) (0 + (Int.toNat x * 1))) (f + g)) = true ∧ K (Value.tuple #[gi (x + ceilE (intAt (List.map gi (rnL (arg0 [gi f]) 0 (decI (List.map gi l)))) (0 + (Int.toNat x * 1))) (f + g)), gi 0]))))))))) := by kernel_rfl
theorem pS_run (l : List Int) (m e row k : Nat) (a b c d w x : Int) (K : Value → Prop) : callC Tryz.prog (exec Tryz.prog orcUd 10) (syOf [(8, 7), (11, 7), (15, 1), (21, 7), (23, 2), (24, 3)]) askUd (noLoops _) 20 11 #[towV (m + 1) k a b c d w, gi x] (canon Tryz.prog [(l.map gi, e, row)]) (fun v _ => K v) = (((List.all (List.map gi l) (flat 3) = true ∧ True) ∧ towOk (List.map gi l) (m + 1) ∧ noR (decI (List.map gi l)) (Prod.mk a (Prod.mk b (Prod.mk c (Prod.mk d w)))) [] ∧ Value.agg #[liP (m + 1) k, gi a, gi b, gi c, gi d, gi w] = Value.agg #[liP (m + 1) k, gi a, gi b, gi c, gi d, gi w] ∧ (List.all (List.map gi l) (flat 3) = true ∧ True) ∧ towOk (List.map gi l) (m + 1) ∧ oneR (decI (List.map gi l)) (Prod.mk a (Prod.mk b (Prod.mk c (Prod.mk d w)))) [gi x] ∧ ((!(ieq (firstS [ctE (List.length (decI (List.map gi l))) (decI (List.map gi l)) (Prod.mk a (Prod.mk b (Prod.mk c (Prod.mk d w)))), ceE w (arg0 [gi x])]) 0)) = true → K (Value.tuple #[Value.bool false, gi (firstS [ctE (List.length (decI (List.map gi l))) (decI (List.map gi l)) (Prod.mk a (Prod.mk b (Prod.mk c (Prod.mk d w)))), ceE w (arg0 [gi x])])])) ∧ ((!(ieq (firstS [ctE (List.length (decI (List.map gi l))) (decI (List.map gi l)) (Prod.mk a (Prod.mk b (Prod.mk c (Prod.mk d w)))), ceE w (arg0 [gi x])]) 0)) = false → ((List.all (List.map gi l) (flat 3) = true ∧ True) ∧ towOk (List.map gi l) (m + 1) ∧ ruC (decI (List.map gi l)) (Prod.mk a (Prod.mk b (Prod.mk c (Prod.mk d w)))) [gi a] ∧ Value.agg #[liP (m + 1) k, gi a, gi b, gi c, gi d, gi w] = Value.agg #[liP (m + 1) k, gi a, gi b, gi c, gi d, gi w] ∧ ahasIndex x ((m + 1) + 1) = true ∧ (List.map gi (rnL (arg0 [gi a]) 0 (decI (List.map gi l))))[(0 + (Int.toNat x * 1))]? = Option.some (gi (intAt (List.map gi (rnL (arg0 [gi a]) 0 (decI (List.map gi l)))) (0 + (Int.toNat x * 1)))) ∧ (List.map gi (rnL (arg0 [gi a]) 0 (decI (List.map gi l))))[(0 + (Int.toNat x * 1))]? = Option.some (gi (intAt (List.map gi (rnL (arg0 [gi a]) 0 (decI (List.map gi l)))) (0 + (Int.toNat x * 1)))) ∧ K (Value.tuple #[Value.bool (!(ilt (fwrap IntKind.i64 (fwrap IntKind.i64 (w - x) * fwrap IntKind.i64 (c + a))) (intAt (List.map gi (rnL (arg0 [gi a]) 0 (decI (List.map gi l)))) (0 + (Int.toNat x * 1))))), gi 0]))))) := by kernel_rfl
theorem pT_run (l : List Int) (m e row k : Nat) (a b c d w : Int) (K : Nat → Nat → List Value → Option AObj → Prop) (P : Value → Prop) : callC Tryz.prog (exec Tryz.prog orcUd 10) (syOf [(6, 7), (8, 1), (14, 7), (17, 33), (18, 19)]) askUd (noLoops _) 20 25 #[towV (m + 1) k a b c d w] (canon Tryz.prog [(l.map gi, e, row)]) (tpKY K P) = (((List.all (List.map gi l) (flat 3) = true ∧ True) ∧ towOk (List.map gi l) (m + 1) ∧ noR (decI (List.map gi l)) (Prod.mk a (Prod.mk b (Prod.mk c (Prod.mk d w)))) [] ∧ ((!(ieq (ctE (List.length (decI (List.map gi l))) (decI (List.map gi l)) (Prod.mk a (Prod.mk b (Prod.mk c (Prod.mk d w))))) 0)) = true → P (Value.tuple #[nilS, gi (ctE (List.length (decI (List.map gi l))) (decI (List.map gi l)) (Prod.mk a (Prod.mk b (Prod.mk c (Prod.mk d w)))))])) ∧ ((!(ieq (ctE (List.length (decI (List.map gi l))) (decI (List.map gi l)) (Prod.mk a (Prod.mk b (Prod.mk c (Prod.mk d w))))) 0)) = false → (inI64 (w + 1) = true ∧ (List.all (List.map gi l) (flat 3) = true ∧ True) ∧ towOk (List.map gi l) (m + 1) ∧ ruC (decI (List.map gi l)) (Prod.mk a (Prod.mk b (Prod.mk c (Prod.mk d w)))) [gi a] ∧ [liP (m + 1) k, gi a, gi b, gi c, gi d, gi w][5]? = Option.some (gi w) ∧ (0 : Int) ≤ (w + 1) ∧ ((w + 1) : Int) ≤ Int.ofNat ((m + 1) + 1) ∧ (0 : Nat) < ((m + 1) + 1) ∧ (((m + 1) + 1) : Nat) ≤ ((m + 1) + 1) ∧ K (Int.toNat (w + 1)) ((m + 1) + 1) [gi 0] ((((canon Tryz.prog [Prod.mk (List.map gi l) (Prod.mk e row)]).push (.cells [liP (m + 1) k, gi a, gi b, gi c, gi d, gi w] 32 0 false)).push (.cells (List.map gi (rnL (arg0 [gi a]) 0 (decI (List.map gi l)))) 3 2 false)).get (nG1 + 2)))))) := by kernel_rfl
theorem rB_run (l : List Int) (m e row k : Nat) (a b c d w x f g : Int) (K : Value → Prop) : callC Tryz.prog (exec Tryz.prog orcUd 10) (syOf [(13, 7), (15, 2), (16, 3), (18, 1), (22, 33), (23, 1), (28, 33), (29, 7), (30, 33)]) askUd (noLoops _) 20 18 #[towV (m + 1) k a b c d w, gi x, gi f, gi g] (canon Tryz.prog [(l.map gi, e, row)]) (fun v _ => K v) = (((List.all (List.map gi l) (flat 3) = true ∧ True) ∧ towOk (List.map gi l) (m + 1) ∧ ruC (decI (List.map gi l)) (Prod.mk a (Prod.mk b (Prod.mk c (Prod.mk d w)))) [gi f] ∧ ahasIndex x ((m + 1) + 1) = true ∧ (List.map gi (rnL (arg0 [gi f]) 0 (decI (List.map gi l))))[(0 + (Int.toNat x * 1))]? = Option.some (gi (intAt (List.map gi (rnL (arg0 [gi f]) 0 (decI (List.map gi l)))) (0 + (Int.toNat x * 1)))) ∧ (ieq (intAt (List.map gi (rnL (arg0 [gi f]) 0 (decI (List.map gi l)))) (0 + (Int.toNat x * 1))) 0 = true → K (Value.tuple #[gi x, gi 0])) ∧ (ieq (intAt (List.map gi (rnL (arg0 [gi f]) 0 (decI (List.map gi l)))) (0 + (Int.toNat x * 1))) 0 = false → (inI64 (f + g) = true ∧ (ieq (f + g) 0 = true → K (Value.tuple #[gi 0, gi 7])) ∧ (ieq (f + g) 0 = false → (inI64 (f + g) = true ∧ (ilt 0 (f + g) && small (intAt (List.map gi (rnL (arg0 [gi f]) 0 (decI (List.map gi l)))) (0 + (Int.toNat x * 1)))) = true ∧ inI64 (x + ceilE (intAt (List.map gi (rnL (arg0 [gi f]) 0 (decI (List.map gi l)))) (0 + (Int.toNat x * 1))) (f + g)) = true ∧ K (Value.tuple #[gi (x + ceilE (intAt (List.map gi (rnL (arg0 [gi f]) 0 (decI (List.map gi l)))) (0 + (Int.toNat x * 1))) (f + g)), gi 0]))))))) := by kernel_rfl
theorem rT_run (l : List Int) (m e row k : Nat) (a b c d w : Int) (K : Nat → Nat → Option AObj → Prop) : callC Tryz.prog (exec Tryz.prog orcUd 10) (syOf [(8, 7), (12, 33), (13, 19)]) askUd (noLoops _) 20 28 #[towV (m + 1) k a b c d w] (canon Tryz.prog [(l.map gi, e, row)]) (skKY K) = (((List.all (List.map gi l) (flat 3) = true ∧ True) ∧ towOk (List.map gi l) (m + 1) ∧ ruC (decI (List.map gi l)) (Prod.mk a (Prod.mk b (Prod.mk c (Prod.mk d w)))) [gi a] ∧ inI64 (w + 1) = true ∧ (0 : Int) ≤ (w + 1) ∧ ((w + 1) : Int) ≤ Int.ofNat ((m + 1) + 1) ∧ (0 : Nat) < ((m + 1) + 1) ∧ (((m + 1) + 1) : Nat) ≤ ((m + 1) + 1) ∧ K (Int.toNat (w + 1)) ((m + 1) + 1) ((((canon Tryz.prog [Prod.mk (List.map gi l) (Prod.mk e row)]).push (.cells [liP (m + 1) k, gi a, gi b, gi c, gi d, gi w] 26 0 false)).push (.cells (List.map gi (rnL (arg0 [gi a]) 0 (decI (List.map gi l)))) 3 2 false)).get (nG1 + 2)))) := by kernel_rfl
end Go.Proofs.YtfkiiacbchbgdaaGreatDoor
/-! (OWN WORK. Tows: runs, brakes, safe cells and tables as known calls.) -/
namespace Go.Proofs.YtfkiiacbchbgdaaGreatDoor
open Go Go.Am

noncomputable def sqA (l : List Int) (f x : Int) : Int := intAt ((rnL f 0 l).map gi) (0 + Int.toNat x * 1)
theorem has_ix {x : Int} {n : Nat} (h0 : 0 ≤ x) (h1 : x < n) : ahasIndex x n = true := by
  obtain ⟨i, rfl⟩ := Int.eq_ofNat_of_zero_le h0
  show Nat.blt i n = true
  rw [Nat.blt_eq]; omega
theorem sq_at {l : List Int} {f x : Int} (h0 : 0 ≤ x) (h1 : x ≤ l.length) : ((rnL f 0 l).map gi)[0 + Int.toNat x * 1]? = some (gi (sqA l f x)) ∧ sqA l f x ∈ rnL f 0 l := by
  have hl : Int.toNat x < (rnL f 0 l).length := by rw [rnL_len]; omega
  obtain ⟨e1, e2⟩ := first_at hl
  refine ⟨e1, ?_⟩
  unfold sqA
  rw [e2]; exact List.getElem_mem _
theorem sq_le {n : Nat} {l : List Int} {t : T5} {f x : Int} (hc : ctE n l t = 0) (hn : l.length = n) (hf : 0 ≤ f) (h0 : 0 ≤ x) (h1 : x ≤ l.length) : 0 ≤ sqA l f x ∧ sqA l f x ≤ 100000000 := by
  obtain ⟨a, b, c, d, w⟩ := t
  obtain ⟨k1, k2, _⟩ := ctE_zero hc
  exact rnL_le hf k2 (Int.le_refl 0) (by omega) _ (sq_at h0 h1).2
noncomputable def rE (l : List Int) (t : T5) (f : Int) : Int := firstS [ctE l.length l t, withinS f t.1 t.2.1]
noncomputable def bE (l : List Int) (t : T5) (x f g : Int) : Int := firstS [ctE l.length l t, ceE t.2.2.2.2 x, withinS f t.1 t.2.1, withinS g t.2.2.1 t.2.2.2.1]
noncomputable def sE (l : List Int) (t : T5) (x : Int) : Int := firstS [ctE l.length l t, ceE t.2.2.2.2 x]
noncomputable def bA (sq x s : Int) : Int := bif ieq sq 0 then x else bif ieq s 0 then 0 else x + ceilE sq s
noncomputable def bZ (sq s : Int) : Int := bif ieq sq 0 then 0 else bif ieq s 0 then 7 else 0
noncomputable def sfB (l : List Int) (t : T5) (x : Int) : Bool := !(ilt ((t.2.2.2.2 - x) * (t.2.2.1 + t.1)) (sqA l t.1 x))
noncomputable def pBV (l : List Int) (t : T5) (x f g : Int) : Value := bif ieq (bE l t x f g) 0 then .tuple #[gi (bA (sqA l f x) x (f + g)), gi (bZ (sqA l f x) (f + g))] else .tuple #[gi 0, gi (bE l t x f g)]
noncomputable def pSV (l : List Int) (t : T5) (x : Int) : Value := bif ieq (sE l t x) 0 then .tuple #[.bool (sfB l t x), gi 0] else .tuple #[.bool false, gi (sE l t x)]
noncomputable def tabM (w n : Nat) : Nat → Value := fun b => .slice (some ⟨b, 0, none⟩) w n
noncomputable def tabT (w n : Nat) : Nat → Value := fun b => .tuple #[.slice (some ⟨b, 0, none⟩) w n, gi 0]
theorem names_tab (w n : Nat) : Names (tabM w n) where
  ren := fun r m => .slice (by simp)
  born := fun r ρ c hv => by
    obtain ⟨a', k', _, hp, _⟩ := VRel.slice_any hv
    exact hp.born
theorem names_tabT (w n : Nat) : Names (tabT w n) where
  ren := fun r m => .tuple (l := [.slice (some ⟨r, 0, none⟩) w n, gi 0]) (l₂ := [.slice (some ⟨m, 0, none⟩) w n, gi 0]) rfl fun i a b ha hb => by
    match i, ha, hb with
    | 0, ha, hb => cases ha; cases hb; exact .slice (by simp)
    | 1, ha, hb => cases ha; cases hb; exact .flat rfl
  born := fun r ρ c hv => by
    obtain ⟨vs, rfl, e1, e2⟩ := hv.unfold
    have hlt : 0 < vs.size := by rw [← e1]; exact Nat.succ_pos _
    exact Mentions.born (.inl ⟨0, w, n, rfl⟩) (e2 0 (.slice (some ⟨r, 0, none⟩) w n) vs[0] rfl (Array.getElem?_eq_getElem hlt))
def threeR (_ : List Int) (_ : T5) (r : List Value) : Prop := r = [gi (arg0 r), gi (arg1 r), gi (arg2 r)]
noncomputable abbrev pRw (n : Nat) (l : List Int) (f : Int) : Out := .wide (tupM [] (n + 1) [gi 0]) ((rnL f 0 l).map gi) 3 2
noncomputable abbrev pRp (l : List Int) (t : T5) (f : Int) : Out := .plain (.tuple #[nilS, gi (rE l t f)])
noncomputable def pRO (n : Nat) (l : List Int) (t : T5) (r : List Value) : Out := bif ieq (rE l t (arg0 r)) 0 then pRw n l (arg0 r) else pRp l t (arg0 r)
noncomputable abbrev pTw (n : Nat) (l : List Int) (t : T5) : Out := .wide (tabT (Int.toNat (t.2.2.2.2 + 1)) (n + 1)) ((rnL t.1 0 l).map gi) 3 2
noncomputable abbrev pTp (l : List Int) (t : T5) : Out := .plain (.tuple #[nilS, gi (ctE l.length l t)])
noncomputable def pTO (n : Nat) (l : List Int) (t : T5) (_ : List Value) : Out := bif ieq (ctE l.length l t) 0 then pTw n l t else pTp l t
noncomputable abbrev pBO (_ : Nat) (l : List Int) (t : T5) (r : List Value) : Out := .plain (pBV l t (arg0 r) (arg1 r) (arg2 r))
noncomputable abbrev pSO (_ : Nat) (l : List Int) (t : T5) (r : List Value) : Out := .plain (pSV l t (arg0 r))
def rBC (l : List Int) (t : T5) (r : List Value) : Prop := ctE l.length l t = 0 ∧ threeR l t r ∧ (0 ≤ arg0 r ∧ arg0 r ≤ t.2.2.2.2) ∧ (0 ≤ arg1 r ∧ arg1 r ≤ 100000) ∧ 0 ≤ arg2 r ∧ arg2 r ≤ 100000
noncomputable abbrev rBO (_ : Nat) (l : List Int) (_ : T5) (r : List Value) : Out := .plain (.tuple #[gi (bA (sqA l (arg1 r) (arg0 r)) (arg0 r) (arg1 r + arg2 r)), gi (bZ (sqA l (arg1 r) (arg0 r)) (arg1 r + arg2 r))])
def rTC (l : List Int) (t : T5) (r : List Value) : Prop := ctE l.length l t = 0 ∧ r = []
noncomputable abbrev rTO (n : Nat) (l : List Int) (t : T5) (_ : List Value) : Out := .wide (tabM (Int.toNat (t.2.2.2.2 + 1)) (n + 1)) ((rnL t.1 0 l).map gi) 3 2
theorem ceE_zero {w x : Int} (h : ceE w x = 0) : 0 ≤ x ∧ x ≤ w := by
  have := when_none (by decide) h
  rw [ilt_say, ilt_say, Bool.or_eq_false_iff] at this
  simp at this
  omega
theorem ceil_le {a b : Int} (h0 : 0 ≤ a) (h1 : a ≤ 100000000) : -100000001 ≤ ceilE a b ∧ ceilE a b ≤ 100000001 := by
  have := Int.natAbs_tdiv_le_natAbs (0 - a) b
  unfold ceilE floorE
  cases ilt ((0 - a).tmod b) 0 <;> simp only [cond_true, cond_false] <;> omega
/-- What both brakes ask. -/
theorem br_ask {l : List Int} {a b c d w x f g : Int} {P : Value → Prop} (hc : ctE l.length l (a, b, c, d, w) = 0) (hx : 0 ≤ x) (hx' : x ≤ w) (hf : 0 ≤ f) (hf' : f ≤ 100000) (hg : 0 ≤ g) (hg' : g ≤ 100000) (h : P (.tuple #[gi (bA (sqA l f x) x (f + g)), gi (bZ (sqA l f x) (f + g))])) :
    (ieq (sqA l f x) 0 = true → P (.tuple #[gi x, gi 0])) ∧ (ieq (sqA l f x) 0 = false → (ieq (f + g) 0 = true → P (.tuple #[gi 0, gi 7])) ∧ (ieq (f + g) 0 = false → (ilt 0 (f + g) && small (sqA l f x)) = true ∧ inI64 (x + ceilE (sqA l f x) (f + g)) = true ∧ P (.tuple #[gi (x + ceilE (sqA l f x) (f + g)), gi 0]))) := by
  obtain ⟨k1, _, _, _, k5, k6⟩ := ctE_zero hc
  obtain ⟨s1, s2⟩ := sq_le (f := f) (x := x) hc rfl hf hx (by omega)
  unfold bA bZ at h
  refine ⟨fun z => ?_, fun z => ⟨fun z' => ?_, fun z' => ⟨?_, ?_, ?_⟩⟩⟩
  · rw [z] at h; exact h
  · rw [z, z'] at h; exact h
  · rw [Bool.and_eq_true, ilt_say]
    rw [ieq_dec] at z'
    have := of_decide_eq_false z'
    exact ⟨decide_eq_true (by omega), small_of (by omega) (by omega)⟩
  · obtain ⟨c1, c2⟩ := ceil_le (b := f + g) s1 s2
    exact inI64_small (by omega) (by omega)
  · rw [z, z'] at h; exact h
end Go.Proofs.YtfkiiacbchbgdaaGreatDoor
/-! (OWN WORK. Tows: runs, brakes, safe cells and tables as known calls.) -/
namespace Go.Proofs.YtfkiiacbchbgdaaGreatDoor
open Go Go.Am

theorem tpK_wide {mk : Nat → Value} {xs : List Value} {el n k row : Nat} {r : List Value} {v : Value} {h : AHeap} (hm : ∀ b, mk b = .tuple ⟨.slice (some ⟨b, 0, none⟩) n k :: r⟩) (q : tpKY (fun a b s o => a = n ∧ b = k ∧ s = r ∧ o = some (.cells xs el row false)) (fun _ => False) v h) : ∃ b, v = mk b ∧ h.get b = some (.cells xs el row false) := by
  unfold tpKY at q
  split at q
  · rename_i arr
    split at q
    · rename_i i n' k' r' ha
      obtain ⟨rfl, rfl, rfl, h3⟩ := q
      exact ⟨i, by rw [hm, agg_eq ha], h3⟩
    · exact q.elim
  · exact q.elim
theorem tpK_plain {u v : Value} {h : AHeap} (q : tpKY (fun _ _ _ _ => False) (fun v => v = u) v h) : v = u := by
  unfold tpKY at q
  split at q
  · split at q
    · exact q.elim
    · exact q
  · exact q
theorem skK_wide {mk : Nat → Value} {xs : List Value} {el n k row : Nat} {v : Value} {h : AHeap} (hm : ∀ b, mk b = .slice (some ⟨b, 0, none⟩) n k) (q : skKY (fun a b o => a = n ∧ b = k ∧ o = some (.cells xs el row false)) v h) : ∃ b, v = mk b ∧ h.get b = some (.cells xs el row false) := by
  unfold skKY at q
  split at q
  · rename_i i n' k'
    obtain ⟨rfl, rfl, h3⟩ := q
    exact ⟨i, (hm i).symm, h3⟩
  · exact q.elim
noncomputable def orcUe : Orc := orElse 7 (twO oneR pRO) (orElse 10 (twO threeR pBO) (orElse 11 (twO oneR pSO) (orElse 25 (twO noR pTO) (orElse 18 (twO rBC rBO) (orElse 28 (twO rTC rTO) orcUd)))))
set_option maxRecDepth 100000 in
theorem orcUe_ok : OrcOk Tryz.prog orcUe := by
  refine twO_ok (twO_ok (twO_ok (twO_ok (twO_ok (twO_ok orcUd_ok (fun _ _ _ _ _ => ⟨names_tab _ _, flat_ints _⟩) ?_) (fun _ _ _ _ _ => rfl) ?_) (fun n l t r _ => ?_) ?_) (fun n l t r _ => ?_) ?_) (fun n l t r _ => ?_) ?_) (fun n l t r _ => ?_) ?_
  · rintro l m k e row a b c d w r hl h1 ⟨hc, rfl⟩
    have hf := flat_ints l
    have ht := towOk_of hl (Nat.succ_pos m) h1
    obtain ⟨k1, k2, k3, k4, k5, k6⟩ := ctE_zero hc
    have hr : ruC l (a, b, c, d, w) [gi a] := ⟨hc, rfl, k3.1, by show a ≤ 100000; omega⟩
    refine (callC_ok mixed orcUd_ok askUd_ok (Eq.mpr (rT_run l m e row k a b c d w _) ?_)).mono fun v h' q => skK_wide (mk := tabM (Int.toNat (w + 1)) (m + 1 + 1)) (fun _ => rfl) q
    rw [decI_map]
    exact ⟨⟨hf, trivial⟩, ht, hr, inI64_small (by omega) (by omega), by omega, by simp only [Int.ofNat_eq_natCast]; omega, by omega, Nat.le_refl _, rfl, rfl, by kernel_rfl⟩
  · rintro l m k e row a b c d w r hl h1 ⟨hc, hr, ⟨x0, x1⟩, ⟨f0, f1⟩, g0, g1⟩
    have hr : r = [gi (arg0 r), gi (arg1 r), gi (arg2 r)] := hr
    rw [hr]
    generalize arg0 r = x at *
    generalize arg1 r = f at *
    generalize arg2 r = g at *
    have hf := flat_ints l
    have ht := towOk_of hl (Nat.succ_pos m) h1
    obtain ⟨k1, k2, k3, k4, k5, k6⟩ := ctE_zero hc
    have hr : ruC l (a, b, c, d, w) [gi f] := ⟨hc, rfl, f0, f1⟩
    have x1 : x ≤ w := x1
    refine callC_ok mixed orcUd_ok askUd_ok (Eq.mpr (rB_run l m e row k a b c d w x f g _) ?_)
    rw [decI_map]
    obtain ⟨q1, q2⟩ := br_ask (P := fun v => v = .tuple #[gi (bA (sqA l f x) x (f + g)), gi (bZ (sqA l f x) (f + g))]) hc x0 x1 f0 f1 g0 g1 rfl
    exact ⟨⟨hf, trivial⟩, ht, hr, has_ix x0 (by omega), (sq_at x0 (by omega)).1, q1, fun z => ⟨inI64_small (by omega) (by omega), (q2 z).1, fun z' => ⟨inI64_small (by omega) (by omega), (q2 z).2 z'⟩⟩⟩
  · unfold pTO
    cases ieq (ctE l.length l t) 0
    · rfl
    · exact ⟨names_tabT _ _, flat_ints _⟩
  · rintro l m k e row a b c d w r hl h1 rfl
    have hf := flat_ints l
    have ht := towOk_of hl (Nat.succ_pos m) h1
    cases hz : ieq (ctE l.length l (a, b, c, d, w)) 0 with
    | false =>
      have eo : pTO (m + 1) l (a, b, c, d, w) [] = pTp l (a, b, c, d, w) := by unfold pTO; rw [hz]; rfl
      rw [eo]
      refine (callC_ok mixed orcUd_ok askUd_ok (Eq.mpr (pT_run l m e row k a b c d w (fun _ _ _ _ => False) (fun v => v = .tuple #[nilS, gi (ctE l.length l (a, b, c, d, w))])) ?_)).mono fun v h' q => tpK_plain q
      rw [decI_map]
      exact ⟨⟨hf, trivial⟩, ht, rfl, fun _ => rfl, fun z => by rw [hz] at z; cases z⟩
    | true =>
      have eo : pTO (m + 1) l (a, b, c, d, w) [] = pTw (m + 1) l (a, b, c, d, w) := by unfold pTO; rw [hz]; rfl
      rw [eo]
      have hc : ctE l.length l (a, b, c, d, w) = 0 := by rw [ieq_dec] at hz; exact of_decide_eq_true hz
      obtain ⟨k1, k2, k3, k4, k5, k6⟩ := ctE_zero hc
      have hr : ruC l (a, b, c, d, w) [gi a] := ⟨hc, rfl, k3.1, by show a ≤ 100000; omega⟩
      refine (callC_ok mixed orcUd_ok askUd_ok (Eq.mpr (pT_run l m e row k a b c d w _ (fun _ => False)) ?_)).mono fun v h' q => tpK_wide (mk := tabT (Int.toNat (w + 1)) (m + 1 + 1)) (fun _ => rfl) q
      rw [decI_map]
      exact ⟨⟨hf, trivial⟩, ht, rfl, fun z => by rw [hz] at z; (cases z), fun _ => ⟨inI64_small (by omega) (by omega), ⟨hf, trivial⟩, ht, hr, rfl, by omega, by simp only [Int.ofNat_eq_natCast]; omega, by omega, Nat.le_refl _, rfl, rfl, rfl, by kernel_rfl⟩⟩
  · show flat 3 (pSV l t (arg0 r)) = true
    unfold pSV
    cases ieq (sE l t (arg0 r)) 0 <;> rfl
  · intro l m k e row a b c d w r hl h1 hr
    have hr : r = [gi (arg0 r)] := hr
    rw [hr]
    show CallJ _ _ _ _ (fun v _ => v = pSV l (a, b, c, d, w) (arg0 r))
    generalize arg0 r = x
    have hf := flat_ints l
    have ht := towOk_of hl (Nat.succ_pos m) h1
    refine callC_ok mixed orcUd_ok askUd_ok (Eq.mpr (pS_run l m e row k a b c d w x _) ?_)
    rw [decI_map]
    refine ⟨⟨hf, trivial⟩, ht, rfl, rfl, ⟨hf, trivial⟩, ht, rfl, fun z => ?_, fun z => ?_⟩
    · show _ = pSV l (a, b, c, d, w) x
      unfold pSV
      rw [show ieq (sE l (a, b, c, d, w) x) 0 = false from not_ieqT z]; rfl
    · have hz := not_ieq' z
      have hc : ctE l.length l (a, b, c, d, w) = 0 := firstS_none hz _ (.head _)
      obtain ⟨x0, x1⟩ := ceE_zero (w := w) (x := x) (firstS_none hz _ (.tail _ (.head _)))
      obtain ⟨k1, k2, k3, k4, k5, k6⟩ := ctE_zero hc
      have hr : ruC l (a, b, c, d, w) [gi a] := ⟨hc, rfl, k3.1, by show a ≤ 100000; omega⟩
      refine ⟨⟨hf, trivial⟩, ht, hr, rfl, has_ix x0 (by omega), (sq_at x0 (by omega)).1, (sq_at x0 (by omega)).1, ?_⟩
      have m1 : (w - x) * (c + a) ≤ 64 * 200000 := Int.mul_le_mul (by omega) (by omega) (by omega) (by omega)
      have m0 : 0 ≤ (w - x) * (c + a) := Int.mul_nonneg (by omega) (by omega)
      rw [fwrap_mid (x := w - x) (by omega) (by omega), fwrap_mid (x := c + a) (by omega) (by omega), fwrap_mid (x := (w - x) * (c + a)) (by omega) (by omega)]
      show _ = pSV l (a, b, c, d, w) x
      unfold pSV
      rw [show ieq (sE l (a, b, c, d, w) x) 0 = true from not_ieqF z]; rfl
  · show flat 3 (pBV l t (arg0 r) (arg1 r) (arg2 r)) = true
    unfold pBV
    cases ieq (bE l t (arg0 r) (arg1 r) (arg2 r)) 0 <;> rfl
  · intro l m k e row a b c d w r hl h1 hr
    have hr : r = [gi (arg0 r), gi (arg1 r), gi (arg2 r)] := hr
    rw [hr]
    show CallJ _ _ _ _ (fun v _ => v = pBV l (a, b, c, d, w) (arg0 r) (arg1 r) (arg2 r))
    generalize arg0 r = x
    generalize arg1 r = f
    generalize arg2 r = g
    have hf := flat_ints l
    have ht := towOk_of hl (Nat.succ_pos m) h1
    refine callC_ok mixed orcUd_ok askUd_ok (Eq.mpr (pB_run l m e row k a b c d w x f g _) ?_)
    rw [decI_map]
    refine ⟨⟨hf, trivial⟩, ht, rfl, rfl, rfl, rfl, rfl, rfl, ⟨hf, trivial⟩, ht, rfl, rfl, rfl, rfl, rfl, rfl, rfl, fun z => ?_, fun z => ?_⟩
    · show _ = pBV l (a, b, c, d, w) x f g
      unfold pBV
      rw [show ieq (bE l (a, b, c, d, w) x f g) 0 = false from not_ieqT z]; rfl
    · have hz := not_ieq' z
      have hc : ctE l.length l (a, b, c, d, w) = 0 := firstS_none hz _ (.head _)
      obtain ⟨x0, x1⟩ := ceE_zero (w := w) (x := x) (firstS_none hz _ (.tail _ (.head _)))
      obtain ⟨f0, f1⟩ := within_zero (x := f) (lo := a) (hi := b) (firstS_none hz _ (.tail _ (.tail _ (.head _))))
      obtain ⟨g0, g1⟩ := within_zero (x := g) (lo := c) (hi := d) (firstS_none hz _ (.tail _ (.tail _ (.tail _ (.head _)))))
      obtain ⟨k1, k2, k3, k4, k5, k6⟩ := ctE_zero hc
      have hr : ruC l (a, b, c, d, w) [gi f] := ⟨hc, rfl, by show 0 ≤ f; omega, by show f ≤ 100000; omega⟩
      have hv : (.tuple #[gi (bA (sqA l f x) x (f + g)), gi (bZ (sqA l f x) (f + g))] : Value) = pBV l (a, b, c, d, w) x f g := by
        unfold pBV
        rw [show ieq (bE l (a, b, c, d, w) x f g) 0 = true from not_ieqF z]; rfl
      obtain ⟨q1, q2⟩ := br_ask (P := fun v => v = pBV l (a, b, c, d, w) x f g) hc x0 x1 (f := f) (g := g) (by omega) (by omega) (by omega) (by omega) hv
      exact ⟨⟨hf, trivial⟩, ht, hr, has_ix x0 (by omega), (sq_at x0 (by omega)).1, inI64_small (by omega) (by omega), q1, fun z => q2 z⟩
  · unfold pRO
    cases ieq (rE l t (arg0 r)) 0
    · rfl
    · exact ⟨names_tup rfl rfl, flat_ints _⟩
  · intro l m k e row a b c d w r hl h1 hr
    have hr : r = [gi (arg0 r)] := hr
    rw [hr]
    show CallJ _ _ _ _ (pRO (m + 1) l (a, b, c, d, w) [gi (arg0 r)]).Got
    generalize arg0 r = f
    have hf := flat_ints l
    have ht := towOk_of hl (Nat.succ_pos m) h1
    cases hz : ieq (rE l (a, b, c, d, w) f) 0 with
    | false =>
      have eo : pRO (m + 1) l (a, b, c, d, w) [gi f] = pRp l (a, b, c, d, w) f := by unfold pRO; rw [show ieq (rE l (a, b, c, d, w) (arg0 [gi f])) 0 = false from hz]; rfl
      rw [eo]
      refine (callC_ok mixed orcUd_ok askUd_ok (Eq.mpr (pR_run l m e row k a b c d w f (fun _ _ _ _ => False) (fun v => v = .tuple #[nilS, gi (rE l (a, b, c, d, w) f)])) ?_)).mono fun v h' q => tpK_plain q
      rw [decI_map]
      exact ⟨⟨hf, trivial⟩, ht, rfl, rfl, rfl, fun _ => rfl, fun z => by rw [show ieq (firstS [ctE l.length l (a, b, c, d, w), withinS f a b]) 0 = false from hz] at z; cases z⟩
    | true =>
      have eo : pRO (m + 1) l (a, b, c, d, w) [gi f] = pRw (m + 1) l f := by unfold pRO; rw [show ieq (rE l (a, b, c, d, w) (arg0 [gi f])) 0 = true from hz]; rfl
      rw [eo]
      have hq : rE l (a, b, c, d, w) f = 0 := by rw [ieq_dec] at hz; exact of_decide_eq_true hz
      have hc : ctE l.length l (a, b, c, d, w) = 0 := firstS_none hq _ (.head _)
      obtain ⟨f0, f1⟩ := within_zero (x := f) (lo := a) (hi := b) (firstS_none hq _ (.tail _ (.head _)))
      obtain ⟨k1, k2, k3, k4, k5, k6⟩ := ctE_zero hc
      have hr : ruC l (a, b, c, d, w) [gi f] := ⟨hc, rfl, by show 0 ≤ f; omega, by show f ≤ 100000; omega⟩
      refine (callC_ok mixed orcUd_ok askUd_ok (Eq.mpr (pR_run l m e row k a b c d w f _ (fun _ => False)) ?_)).mono fun v h' q => tpK_wide (mk := tupM [] (m + 1 + 1) [gi 0]) (fun _ => rfl) q
      rw [decI_map]
      exact ⟨⟨hf, trivial⟩, ht, rfl, rfl, rfl, fun z => by rw [show ieq (firstS [ctE l.length l (a, b, c, d, w), withinS f a b]) 0 = true from hz] at z; (cases z), fun _ => ⟨⟨hf, trivial⟩, ht, hr, rfl, rfl, rfl, by kernel_rfl⟩⟩
end Go.Proofs.YtfkiiacbchbgdaaGreatDoor
