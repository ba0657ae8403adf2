/-
  OWN WORK. 'Am': a state seen with the blocks that its temporaries name, and those that these name; loops over such blocks.
-/
import Derived.Test.YtclohbagdmelbaaGreatDoorAm18
namespace Go.Am
section
variable {P : Program} {a : AAct} {h h₂ : AHeap} {k : Post} {pre : Pre}
theorem SRel.viewR {ρ : Rho} {act : Act} {w : World} (S : SRel P ρ a h act w) (V : View P h h₂ pre) (l : List (Nat × Value)) {D : Nat} (hD : D < h₂.n) (hp : pre D = none) (hm : a.marks = [])
    (hk : ∀ x ∈ l, Ren pre (a.tmp x.1) x.2) (hb : ∀ j i, pre j = some i → Reach P a h i) :
    ∃ g ρ₂, SRel P ρ₂ (stOf a.n l g) h₂ act w ∧ ∀ b, Own ρ₂ h₂ b → Own ρ h b := by
  have hDρ : viewRho ρ h₂.n pre D = .dead := by simp only [viewRho, if_pos hD, hp]
  have A : Alive ρ pre := V.alive S.heap fun j i hji => (hb j i hji).born S
  have ex : ∀ t, ∃ x, VRel (viewRho ρ h₂.n pre) x (act.tmps.getD t Go.undef) := fun t => some_rel hDρ (S.tmps.tmp t)
  let g : Nat → Value := fun t => Classical.choose (ex t)
  have hg : ∀ t, VRel (viewRho ρ h₂.n pre) (g t) (act.tmps.getD t Go.undef) := fun t => Classical.choose_spec (ex t)
  have hov : ∀ (l : List (Nat × Value)), (∀ x ∈ l, Ren pre (a.tmp x.1) x.2) → ∀ t, VRel (viewRho ρ h₂.n pre) (ov l g t) (act.tmps.getD t Go.undef) := by
    intro l
    induction l with
    | nil => intro _ t; exact hg t
    | cons x l ih =>
      intro hx t
      rw [ov_cons]
      split
      · rename_i e
        subst e
        exact (hx x (by simp)).vrel V (S.tmps.tmp x.1)
      · exact ih (fun y hy => hx y (by simp [hy])) t
  refine ⟨g, viewRho ρ h₂.n pre, ⟨V.hrel S.heap A, ⟨S.tmps.size, fun t => ?_⟩, ?_, V.globs' S.globs⟩, fun b o => V.own o⟩
  · simp only [stOf, AAct.tmp, get_lit]
    by_cases hlt : t < a.n
    · rw [if_pos hlt]; exact hov l hk t
    · rw [if_neg hlt, undef_getD _ _ (by rw [← S.tmps.size]; exact Nat.le_of_not_lt hlt)]
      exact .undef
  · have M := S.marks
    rw [hm] at M
    exact ⟨M.1, fun i m d hm' => by simp [stOf] at hm'⟩
theorem J.from_viewR {c : Code} (V : View P h h₂ pre) (l : List (Nat × Value)) {D : Nat} (hD : D < h₂.n) (hp : pre D = none) (hm : a.marks = [])
    (hk : ∀ x ∈ l, Ren pre (a.tmp x.1) x.2) (hb : ∀ j i, pre j = some i → Reach P a h i) (hj : ∀ g, J P c (stOf a.n l g) h₂ k) : J P c a h k := by
  intro ρ act w S
  obtain ⟨g, ρ₂, S₂, own⟩ := S.viewR V l hD hp hm hk hb
  refine (hj g ρ₂ act w S₂).mono ?_
  rintro e act' w' ⟨a', h', ρ', k1, k2, F⟩
  exact ⟨a', h', ρ', k1, k2, F.size, F.os, F.tape, F.output, fun b hb' ho => F.kept b hb' fun o => ho (own b o), fun b hb' o => own b (F.own b hb' o)⟩
theorem J.to_viewR {c : Code} (hj : J P c a h (fun e a' h' => ∃ (h₂ : AHeap) (pre : Pre) (l : List (Nat × Value)) (D : Nat), View P h' h₂ pre ∧ D < h₂.n ∧ pre D = none ∧ a'.marks = [] ∧ (∀ x ∈ l, Ren pre (a'.tmp x.1) x.2) ∧
    (∀ j i, pre j = some i → Reach P a' h' i) ∧ ∀ g, k e (stOf a'.n l g) h₂)) : J P c a h k := by
  intro ρ act w S
  refine (hj ρ act w S).mono ?_
  rintro e act' w' ⟨a', h', ρ', ⟨h₂, pre, l, D, V, hD, hp, hm, hk, hb, hk'⟩, S', F⟩
  obtain ⟨g, ρ₂, S₂, own⟩ := S'.viewR V l hD hp hm hk hb
  exact ⟨_, h₂, ρ₂, hk' g, S₂, F.size, F.os, F.tape, F.output, F.kept, fun b hb' o => F.own b hb' (own b o)⟩
/-- The blocks of a heap (B₀), under new numbers (B). -/
def Moves (P : Program) (h : AHeap) (ids : List Nat) (B₀ B : List Blk) : Prop := ∀ (q : Nat) i (b : Blk), ids[q]? = some i → B[q]? = some b →
  ∃ b₀ : Blk, B₀[q]? = some b₀ ∧ h.get i = some (.cells b₀.1 b₀.2.1 b₀.2.2.1 b₀.2.2.2) ∧ amapM (renV P.globals.size ids) b₀.1 = some b.1 ∧ b.2 = b₀.2
theorem view_moves {es : Nat → TypeId} {ids : List Nat} {B₀ B : List Blk} (hl : ids.length = B.length) (hn : ids.Nodup) (hge : ∀ i ∈ ids, P.globals.size ≤ i) (hB : Moves P h ids B₀ B) :
    View P h (canonT [] es P.globals.size B) (preT P.globals.size [] ids) := by
  have hT : tabsFlat P.globals.size [] = true := rfl
  have pn : ∀ j i, preT P.globals.size [] ids j = some i → P.globals.size ≤ j ∧ ids[j - P.globals.size]? = some i := fun j i e => by
    simp only [preT] at e
    split at e
    · rename_i h1; exact ⟨h1, e⟩
    · simp at e
  refine ⟨fun j i e => ?_, fun j j' i e e' => ?_, fun j i e => ?_, fun j e hj o ho => ?_, fun g hg => ?_⟩
  · obtain ⟨h1, h2⟩ := pn j i e
    have := (List.getElem?_eq_some_iff.1 h2).1
    rw [canonT_n hT]
    omega
  · obtain ⟨h1, h2⟩ := pn j i e
    obtain ⟨h3, h4⟩ := pn j' i e'
    have h5 := (List.getElem?_eq_some_iff.1 h2).1
    have := (List.getElem?_inj h5 hn).1 (h2.trans h4.symm)
    omega
  · obtain ⟨h1, h2⟩ := pn j i e
    have h3 := (List.getElem?_eq_some_iff.1 h2).1
    have hb' : B[j - P.globals.size]? = some B[j - P.globals.size] := List.getElem?_eq_getElem (by omega)
    obtain ⟨b₀, _, k1, k2, k3⟩ := hB _ i _ h2 hb'
    obtain ⟨m1, m2⟩ := amapM_spec k2
    refine ⟨_, .cells B[j - P.globals.size].1 B[j - P.globals.size].2.1 B[j - P.globals.size].2.2.1 B[j - P.globals.size].2.2.2, k1, by rw [canonT_get hT, if_pos h1, hb']; rfl, m1.symm, congrArg (·.1) k3, congrArg (·.2.1) k3, fun q x y hx hy => renV_spec (T := []) (m2 q x y hx hy), fun hr => by
      have : B[j - P.globals.size].2.2.2 = b₀.2.2.2 := congrArg (·.2.2) k3
      rw [this]; exact hr⟩
  · rw [canonT_get hT] at ho
    rw [canonT_n hT] at hj
    split at ho
    · rename_i h1
      simp only [preT, if_pos h1, List.getElem?_eq_none_iff] at e
      omega
    · rw [show base [] es P.globals.size = emp P from rfl] at ho
      cases ho
  · refine ⟨by rw [canonT_n hT]; omega, .inl ?_⟩
    simp only [preT]
    rw [if_neg (by omega)]
    rfl
/-- The blocks of its own that a state's temporaries name, and those that these name, under new numbers. -/
theorem J.reheapR {es : Nat → TypeId} {n : Nat} {ts : List Nat} {vs vs₂ : List Value} {g : Nat → Value} {c : Code} {B₀ B : List Blk} {ids : List Nat} (hP : 0 < P.globals.size) (hts : ts.Nodup) (hlt : ∀ t ∈ ts, t < n)
    (hl : ids.length = B.length) (hn : ids.Nodup) (hge : ∀ i ∈ ids, P.globals.size ≤ i) (hB : Moves P h ids B₀ B)
    (hv : amapM (renV P.globals.size ids) vs = some vs₂)
    (hm : ∀ (q : Nat) i, ids[q]? = some i → (∃ x ∈ ts.zip vs, i ∈ named x.2) ∨ ∃ (q' : Nat) (i' : Nat) (b₀ : Blk) (v : Value), q' < q ∧ ids[q']? = some i' ∧ B₀[q']? = some b₀ ∧ v ∈ b₀.1 ∧ i ∈ named v)
    (hj : ∀ g, J P c (stOf n (ts.zip vs₂) g) (canonT [] es P.globals.size B) k) : J P c (stOf n (ts.zip vs) g) h k := by
  have V : View P h (canonT [] es P.globals.size B) (preT P.globals.size [] ids) := view_moves hl hn hge hB
  have reach : ∀ (q : Nat) i, ids[q]? = some i → Reach P (stOf n (ts.zip vs) g) h i := by
    intro q
    induction q using Nat.strongRecOn with
    | _ q ih =>
      intro i hi
      rcases hm q i hi with ⟨x, hx, hxi⟩ | ⟨q', i', b₀, v, hq, hi', hb, hv', hvi⟩
      · exact .tmp (t := x.1) (by rw [stOf_zip hts hlt hx]; exact named_spec hxi)
      · have hlt' : q' < B.length := by rw [← hl]; exact (List.getElem?_eq_some_iff.1 hi').1
        obtain ⟨b₁, k0, k1, _, _⟩ := hB q' i' _ hi' (List.getElem?_eq_getElem hlt')
        rw [hb] at k0
        cases k0
        exact .cell (ih q' hq i' hi') k1 hv' (named_spec hvi)
  refine J.from_viewR V (ts.zip vs₂) (D := 0) (by rw [canonT_n (T := []) rfl]; omega) ?_ rfl ?_ ?_ hj
  · simp only [preT]
    rw [if_neg (by omega)]
    rfl
  · intro x hx
    obtain ⟨v, h1, h2⟩ := zip_at hv hx
    rw [stOf_zip hts hlt h1]
    exact renV_spec (T := []) h2
  · intro j i e
    simp only [preT] at e
    split at e
    · exact reach _ i e
    · simp at e
/-- A loop whose rounds are counted, over L blocks, which may name one another: C tells them by their places and the round; V tells the temporaries. -/
theorem fold_ruleR {n : Nat} {ts : List Nat} {body : Code} (L : Nat) (C : (Nat → Nat) → Nat → List Blk) (hP : 0 < P.globals.size) (hts : ts.Nodup) (hlt : ∀ t ∈ ts, t < n)
    (hC : ∀ at_ j, (C at_ j).length = L)
    (V : (Nat → Nat) → Nat → List Value) (I : Nat → Prop) (m : Nat) (hI : I 0) (Out : Exit → List Value → AHeap → Prop) (at₀ : Nat → Nat) (hnd : ((List.range L).map at₀).Nodup) (hge : ∀ q, q < L → P.globals.size ≤ at₀ q)
    (hc₀ : ∀ j (q : Nat) (b : Blk), (C (P.globals.size + ·) j)[q]? = some b → ∃ b₀ : Blk, (C at₀ j)[q]? = some b₀ ∧ amapM (renV P.globals.size ((List.range L).map at₀)) b₀.1 = some b.1 ∧ b.2 = b₀.2)
    (hc : ∀ j (q : Nat) (b : Blk), (C (P.globals.size + ·) j)[q]? = some b → amapM (renV P.globals.size ((List.range L).map (P.globals.size + ·))) b.1 = some b.1)
    (hr₀ : ∀ j, amapM (renV P.globals.size ((List.range L).map at₀)) (V at₀ j) = some (V (P.globals.size + ·) j))
    (hr : ∀ j, amapM (renV P.globals.size ((List.range L).map (P.globals.size + ·))) (V (P.globals.size + ·) j) = some (V (P.globals.size + ·) j))
    (hn : ∀ at_ j q, q < L → (∃ x ∈ ts.zip (V at_ j), at_ q ∈ named x.2) ∨ ∃ (q' : Nat) (b₀ : Blk) (v : Value), q' < q ∧ (C at_ j)[q']? = some b₀ ∧ v ∈ b₀.1 ∧ at_ q ∈ named v)
    (step : ∀ j, j < m → I j → ∀ g, J P body (stOf n (ts.zip (V (P.globals.size + ·) j)) g) (canonT [] (fun _ => 0) P.globals.size (C (P.globals.size + ·) j)) (told n ts fun ex vs h => match ex with
      | .normal => I (j + 1) ∧ vs = V (P.globals.size + ·) (j + 1) ∧ Laid (C (P.globals.size + ·) (j + 1)) (P.globals.size + ·) h
      | ex => Out ex vs h))
    (last : I m → ∀ g, J P body (stOf n (ts.zip (V (P.globals.size + ·) m)) g) (canonT [] (fun _ => 0) P.globals.size (C (P.globals.size + ·) m)) (told n ts fun ex vs h => match ex with
      | .normal => False
      | ex => Out ex vs h)) :
    ∀ a h, Laid (C at₀ 0) at₀ h → a.n = n → a.marks = [] → ts.map a.tmp = V at₀ 0 → J P (.loop body) a h (told n ts Out) := by
  intro a h hi ha hm hv
  have round : ∀ (at_ : Nat → Nat) (j : Nat) (h : AHeap) (g : Nat → Value) (Q : Post), ((List.range L).map at_).Nodup → (∀ q, q < L → P.globals.size ≤ at_ q) →
      (∀ (q : Nat) (b : Blk), (C (P.globals.size + ·) j)[q]? = some b → ∃ b₀ : Blk, (C at_ j)[q]? = some b₀ ∧ amapM (renV P.globals.size ((List.range L).map at_)) b₀.1 = some b.1 ∧ b.2 = b₀.2) →
      amapM (renV P.globals.size ((List.range L).map at_)) (V at_ j) = some (V (P.globals.size + ·) j) → Laid (C at_ j) at_ h →
      (∀ g, J P body (stOf n (ts.zip (V (P.globals.size + ·) j)) g) (canonT [] (fun _ => 0) P.globals.size (C (P.globals.size + ·) j)) Q) → J P body (stOf n (ts.zip (V at_ j)) g) h Q := by
    intro at_ j h g Q hnd hge hcc hr hl hq
    have at0 : ∀ (q i : Nat), ((List.range L).map at_)[q]? = some i → q < L ∧ i = at_ q := fun q i hi => by
      rw [List.getElem?_map] at hi
      obtain ⟨x, hx, rfl⟩ := Option.map_eq_some_iff.1 hi
      have hq : q < L := by simpa using (List.getElem?_eq_some_iff.1 hx).1
      rw [List.getElem?_range hq] at hx
      cases hx; exact ⟨hq, rfl⟩
    have mem0 : ∀ i, i ∈ (List.range L).map at_ → ∃ q, q < L ∧ i = at_ q := fun i hi => by
      obtain ⟨q, hq, rfl⟩ := List.mem_map.1 hi
      exact ⟨q, by simpa using hq, rfl⟩
    refine J.reheapR (es := fun _ => 0) (vs₂ := V (P.globals.size + ·) j) (B₀ := C at_ j) (B := C (P.globals.size + ·) j) (ids := (List.range L).map at_) hP hts hlt (by simp [hC]) hnd (fun i hi => by obtain ⟨q, hq, rfl⟩ := mem0 i hi; exact hge q hq) ?_ hr ?_ hq
    · intro q i b hi hb
      obtain ⟨_, rfl⟩ := at0 q i hi
      obtain ⟨b₀, k0, k1, k2⟩ := hcc q b hb
      exact ⟨b₀, k0, hl q b₀ k0, k1, k2⟩
    · intro q i hi
      obtain ⟨hq, rfl⟩ := at0 q i hi
      rcases hn at_ j q hq with h1 | ⟨q', b₀, v, h1, h2, h3, h4⟩
      · exact .inl h1
      · refine .inr ⟨q', at_ q', b₀, v, h1, ?_, h2, h3, h4⟩
        rw [List.getElem?_map, List.getElem?_range (by omega)]
        rfl
  refine loop_rule (fun q vs h => ∃ at_ j, ((at_ = at₀) ∨ at_ = (P.globals.size + ·)) ∧ j ≤ m ∧ q = m - j ∧ I j ∧ vs = V at_ j ∧ Laid (C at_ j) at_ h) Out ?_ m _ h a ⟨at₀, 0, .inl rfl, Nat.zero_le _, rfl, hI, hv, hi⟩ ha hm rfl
  rintro q vs h g ⟨at_, j, hat, hj, rfl, hIj, rfl, hl⟩
  have hh : ((List.range L).map at_).Nodup ∧ (∀ q, q < L → P.globals.size ≤ at_ q) ∧ (∀ (q : Nat) (b : Blk), (C (P.globals.size + ·) j)[q]? = some b → ∃ b₀ : Blk, (C at_ j)[q]? = some b₀ ∧ amapM (renV P.globals.size ((List.range L).map at_)) b₀.1 = some b.1 ∧ b.2 = b₀.2) ∧ amapM (renV P.globals.size ((List.range L).map at_)) (V at_ j) = some (V (P.globals.size + ·) j) := by
    rcases hat with rfl | rfl
    · exact ⟨hnd, hge, hc₀ j, hr₀ j⟩
    · exact ⟨List.Pairwise.map _ (fun a b h e => h (by omega)) List.nodup_range, fun q _ => by show P.globals.size ≤ P.globals.size + q; omega, fun q b hb => ⟨b, hb, hc j q b hb, rfl⟩, hr j⟩
  obtain ⟨k1, k2, k2', k3⟩ := hh
  by_cases hjm : j < m
  · refine round at_ j h g _ k1 k2 k2' k3 hl fun g' => (step j hjm hIj g').mono fun ex a' h' q => ?_
    obtain ⟨q1, q2, q3⟩ := told_facts q
    simp only [told, q1, q2, Nat.beq_refl]
    cases ex with
    | normal => exact (⟨m - (j + 1), by omega, (P.globals.size + ·), j + 1, .inr rfl, by omega, rfl, q3.1, q3.2.1, q3.2.2⟩)
    | _ => simpa using q3
  · obtain rfl : j = m := by omega
    refine round at_ j h g _ k1 k2 k2' k3 hl fun g' => (last hIj g').mono fun ex a' h' q => ?_
    obtain ⟨q1, q2, q3⟩ := told_facts q
    simp only [told, q1, q2]
    cases ex with
    | normal => exact q3.elim
    | _ => simpa using q3
end
end Go.Am
