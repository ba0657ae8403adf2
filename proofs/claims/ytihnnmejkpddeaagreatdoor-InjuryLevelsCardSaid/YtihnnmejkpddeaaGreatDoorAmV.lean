/-
  OWN WORK. 'Am': ranges over functions, carried out in place.
-/
import Derived.Test.YtihnnmejkpddeaaGreatDoorAmX
import Derived.Test.YtihnnmejkpddeaaGreatDoorAmY
/-! (OWN WORK. 'Am': a state seen with the blocks that its temporaries name, and those that these name; loops over such blocks.) -/
namespace Go.Am
section
variable {P : Program} {a : AAct} {h h₂ : AHeap} {k : Post} {pre : Pre}
theorem SRel.viewR {ρ : Rho} {act : Act} {w : World} (S : SRel P ρ a h act w) (V : View P h h₂ pre) (l : List (Nat × Value)) {D : Nat} (hD : D < h₂.n) (hp : pre D = none) (hm : a.marks = [])
    (hk : ∀ x ∈ l, Ren pre (a.tmp x.1) x.2) (hb : ∀ j i, pre j = some i → Reach P a h i) :
    ∃ g ρ₂, SRel P ρ₂ (stOf a.n l g) h₂ act w ∧ ∀ b, Own ρ₂ h₂ b → Own ρ h b := by
  have hDρ : viewRho ρ h₂.n pre D = .dead := by simp only [viewRho, if_pos hD, hp]
  have A : Alive ρ pre := V.alive S.heap fun j i hji => (hb j i hji).born S
  have ex : ∀ t, ∃ x, VRel (viewRho ρ h₂.n pre) x (act.tmps.getD t Go.undef) := fun t => some_rel hDρ (S.tmps.tmp t)
  let g : Nat → Value := fun t => Classical.choose (ex t)
  have hg : ∀ t, VRel (viewRho ρ h₂.n pre) (g t) (act.tmps.getD t Go.undef) := fun t => Classical.choose_spec (ex t)
  have hov : ∀ (l : List (Nat × Value)), (∀ x ∈ l, Ren pre (a.tmp x.1) x.2) → ∀ t, VRel (viewRho ρ h₂.n pre) (ov l g t) (act.tmps.getD t Go.undef) := by
    intro l
    induction l with
    | nil => intro _ t; exact hg t
    | cons x l ih =>
      intro hx t
      rw [ov_cons]
      split
      · rename_i e
        subst e
        exact (hx x (by simp)).vrel V (S.tmps.tmp x.1)
      · exact ih (fun y hy => hx y (by simp [hy])) t
  refine ⟨g, viewRho ρ h₂.n pre, ⟨V.hrel S.heap A, ⟨S.tmps.size, fun t => ?_⟩, ?_, V.globs' S.globs⟩, fun b o => V.own o⟩
  · simp only [stOf, AAct.tmp, get_lit]
    by_cases hlt : t < a.n
    · rw [if_pos hlt]; exact hov l hk t
    · rw [if_neg hlt, undef_getD _ _ (by rw [← S.tmps.size]; exact Nat.le_of_not_lt hlt)]
      exact .undef
  · have M := S.marks
    rw [hm] at M
    exact ⟨M.1, fun i m d hm' => by simp [stOf] at hm'⟩
theorem J.from_viewR {c : Code} (V : View P h h₂ pre) (l : List (Nat × Value)) {D : Nat} (hD : D < h₂.n) (hp : pre D = none) (hm : a.marks = [])
    (hk : ∀ x ∈ l, Ren pre (a.tmp x.1) x.2) (hb : ∀ j i, pre j = some i → Reach P a h i) (hj : ∀ g, J P c (stOf a.n l g) h₂ k) : J P c a h k := by
  intro ρ act w S
  obtain ⟨g, ρ₂, S₂, own⟩ := S.viewR V l hD hp hm hk hb
  refine (hj g ρ₂ act w S₂).mono ?_
  rintro e act' w' ⟨a', h', ρ', k1, k2, F⟩
  exact ⟨a', h', ρ', k1, k2, F.size, F.os, F.tape, F.output, fun b hb' ho => F.kept b hb' fun o => ho (own b o), fun b hb' o => own b (F.own b hb' o)⟩
theorem J.to_viewR {c : Code} (hj : J P c a h (fun e a' h' => ∃ (h₂ : AHeap) (pre : Pre) (l : List (Nat × Value)) (D : Nat), View P h' h₂ pre ∧ D < h₂.n ∧ pre D = none ∧ a'.marks = [] ∧ (∀ x ∈ l, Ren pre (a'.tmp x.1) x.2) ∧
    (∀ j i, pre j = some i → Reach P a' h' i) ∧ ∀ g, k e (stOf a'.n l g) h₂)) : J P c a h k := by
  intro ρ act w S
  refine (hj ρ act w S).mono ?_
  rintro e act' w' ⟨a', h', ρ', ⟨h₂, pre, l, D, V, hD, hp, hm, hk, hb, hk'⟩, S', F⟩
  obtain ⟨g, ρ₂, S₂, own⟩ := S'.viewR V l hD hp hm hk hb
  exact ⟨_, h₂, ρ₂, hk' g, S₂, F.size, F.os, F.tape, F.output, F.kept, fun b hb' o => F.own b hb' (own b o)⟩
/-- The blocks of a heap (B₀), under new numbers (B). -/
def Moves (P : Program) (h : AHeap) (ids : List Nat) (B₀ B : List Blk) : Prop := ∀ (q : Nat) i (b : Blk), ids[q]? = some i → B[q]? = some b →
  ∃ b₀ : Blk, B₀[q]? = some b₀ ∧ h.get i = some (.cells b₀.1 b₀.2.1 b₀.2.2.1 b₀.2.2.2) ∧ amapM (renV P.globals.size ids) b₀.1 = some b.1 ∧ b.2 = b₀.2
theorem view_moves {es : Nat → TypeId} {ids : List Nat} {B₀ B : List Blk} (hl : ids.length = B.length) (hn : ids.Nodup) (hge : ∀ i ∈ ids, P.globals.size ≤ i) (hB : Moves P h ids B₀ B) :
    View P h (canonT [] es P.globals.size B) (preT P.globals.size [] ids) := by
  have hT : tabsFlat P.globals.size [] = true := rfl
  have pn : ∀ j i, preT P.globals.size [] ids j = some i → P.globals.size ≤ j ∧ ids[j - P.globals.size]? = some i := fun j i e => by
    simp only [preT] at e
    split at e
    · rename_i h1; exact ⟨h1, e⟩
    · simp at e
  refine ⟨fun j i e => ?_, fun j j' i e e' => ?_, fun j i e => ?_, fun j e hj o ho => ?_, fun g hg => ?_⟩
  · obtain ⟨h1, h2⟩ := pn j i e
    have := (List.getElem?_eq_some_iff.1 h2).1
    rw [canonT_n hT]
    omega
  · obtain ⟨h1, h2⟩ := pn j i e
    obtain ⟨h3, h4⟩ := pn j' i e'
    have h5 := (List.getElem?_eq_some_iff.1 h2).1
    have := (List.getElem?_inj h5 hn).1 (h2.trans h4.symm)
    omega
  · obtain ⟨h1, h2⟩ := pn j i e
    have h3 := (List.getElem?_eq_some_iff.1 h2).1
    have hb' : B[j - P.globals.size]? = some B[j - P.globals.size] := List.getElem?_eq_getElem (by omega)
    obtain ⟨b₀, _, k1, k2, k3⟩ := hB _ i _ h2 hb'
    obtain ⟨m1, m2⟩ := amapM_spec k2
    refine ⟨_, .cells B[j - P.globals.size].1 B[j - P.globals.size].2.1 B[j - P.globals.size].2.2.1 B[j - P.globals.size].2.2.2, k1, by rw [canonT_get hT, if_pos h1, hb']; rfl, m1.symm, congrArg (·.1) k3, congrArg (·.2.1) k3, fun q x y hx hy => renV_spec (T := []) (m2 q x y hx hy), fun hr => by
      have : B[j - P.globals.size].2.2.2 = b₀.2.2.2 := congrArg (·.2.2) k3
      rw [this]; exact hr⟩
  · rw [canonT_get hT] at ho
    rw [canonT_n hT] at hj
    split at ho
    · rename_i h1
      simp only [preT, if_pos h1, List.getElem?_eq_none_iff] at e
      omega
    · rw [show base [] es P.globals.size = emp P from rfl] at ho
      cases ho
  · refine ⟨by rw [canonT_n hT]; omega, .inl ?_⟩
    simp only [preT]
    rw [if_neg (by omega)]
    rfl
/-- The blocks of its own that a state's temporaries name, and those that these name, under new numbers. -/
theorem J.reheapR {es : Nat → TypeId} {n : Nat} {ts : List Nat} {vs vs₂ : List Value} {g : Nat → Value} {c : Code} {B₀ B : List Blk} {ids : List Nat} (hP : 0 < P.globals.size) (hts : ts.Nodup) (hlt : ∀ t ∈ ts, t < n)
    (hl : ids.length = B.length) (hn : ids.Nodup) (hge : ∀ i ∈ ids, P.globals.size ≤ i) (hB : Moves P h ids B₀ B)
    (hv : amapM (renV P.globals.size ids) vs = some vs₂)
    (hm : ∀ (q : Nat) i, ids[q]? = some i → (∃ x ∈ ts.zip vs, i ∈ named x.2) ∨ ∃ (q' : Nat) (i' : Nat) (b₀ : Blk) (v : Value), q' < q ∧ ids[q']? = some i' ∧ B₀[q']? = some b₀ ∧ v ∈ b₀.1 ∧ i ∈ named v)
    (hj : ∀ g, J P c (stOf n (ts.zip vs₂) g) (canonT [] es P.globals.size B) k) : J P c (stOf n (ts.zip vs) g) h k := by
  have V : View P h (canonT [] es P.globals.size B) (preT P.globals.size [] ids) := view_moves hl hn hge hB
  have reach : ∀ (q : Nat) i, ids[q]? = some i → Reach P (stOf n (ts.zip vs) g) h i := by
    intro q
    induction q using Nat.strongRecOn with
    | _ q ih =>
      intro i hi
      rcases hm q i hi with ⟨x, hx, hxi⟩ | ⟨q', i', b₀, v, hq, hi', hb, hv', hvi⟩
      · exact .tmp (t := x.1) (by rw [stOf_zip hts hlt hx]; exact named_spec hxi)
      · have hlt' : q' < B.length := by rw [← hl]; exact (List.getElem?_eq_some_iff.1 hi').1
        obtain ⟨b₁, k0, k1, _, _⟩ := hB q' i' _ hi' (List.getElem?_eq_getElem hlt')
        rw [hb] at k0
        cases k0
        exact .cell (ih q' hq i' hi') k1 hv' (named_spec hvi)
  refine J.from_viewR V (ts.zip vs₂) (D := 0) (by rw [canonT_n (T := []) rfl]; omega) ?_ rfl ?_ ?_ hj
  · simp only [preT]
    rw [if_neg (by omega)]
    rfl
  · intro x hx
    obtain ⟨v, h1, h2⟩ := zip_at hv hx
    rw [stOf_zip hts hlt h1]
    exact renV_spec (T := []) h2
  · intro j i e
    simp only [preT] at e
    split at e
    · exact reach _ i e
    · simp at e
/-- A loop whose rounds are counted, over L blocks, which may name one another: C tells them by their places and the round; V tells the temporaries. -/
theorem fold_ruleR {n : Nat} {ts : List Nat} {body : Code} (L : Nat) (C : (Nat → Nat) → Nat → List Blk) (hP : 0 < P.globals.size) (hts : ts.Nodup) (hlt : ∀ t ∈ ts, t < n)
    (hC : ∀ at_ j, (C at_ j).length = L)
    (V : (Nat → Nat) → Nat → List Value) (I : Nat → Prop) (m : Nat) (hI : I 0) (Out : Exit → List Value → AHeap → Prop) (at₀ : Nat → Nat) (hnd : ((List.range L).map at₀).Nodup) (hge : ∀ q, q < L → P.globals.size ≤ at₀ q)
    (hc₀ : ∀ j (q : Nat) (b : Blk), (C (P.globals.size + ·) j)[q]? = some b → ∃ b₀ : Blk, (C at₀ j)[q]? = some b₀ ∧ amapM (renV P.globals.size ((List.range L).map at₀)) b₀.1 = some b.1 ∧ b.2 = b₀.2)
    (hc : ∀ j (q : Nat) (b : Blk), (C (P.globals.size + ·) j)[q]? = some b → amapM (renV P.globals.size ((List.range L).map (P.globals.size + ·))) b.1 = some b.1)
    (hr₀ : ∀ j, amapM (renV P.globals.size ((List.range L).map at₀)) (V at₀ j) = some (V (P.globals.size + ·) j))
    (hr : ∀ j, amapM (renV P.globals.size ((List.range L).map (P.globals.size + ·))) (V (P.globals.size + ·) j) = some (V (P.globals.size + ·) j))
    (hn : ∀ at_ j q, q < L → (∃ x ∈ ts.zip (V at_ j), at_ q ∈ named x.2) ∨ ∃ (q' : Nat) (b₀ : Blk) (v : Value), q' < q ∧ (C at_ j)[q']? = some b₀ ∧ v ∈ b₀.1 ∧ at_ q ∈ named v)
    (step : ∀ j, j < m → I j → ∀ g, J P body (stOf n (ts.zip (V (P.globals.size + ·) j)) g) (canonT [] (fun _ => 0) P.globals.size (C (P.globals.size + ·) j)) (told n ts fun ex vs h => match ex with
      | .normal => I (j + 1) ∧ vs = V (P.globals.size + ·) (j + 1) ∧ Laid (C (P.globals.size + ·) (j + 1)) (P.globals.size + ·) h
      | ex => Out ex vs h))
    (last : I m → ∀ g, J P body (stOf n (ts.zip (V (P.globals.size + ·) m)) g) (canonT [] (fun _ => 0) P.globals.size (C (P.globals.size + ·) m)) (told n ts fun ex vs h => match ex with
      | .normal => False
      | ex => Out ex vs h)) :
    ∀ a h, Laid (C at₀ 0) at₀ h → a.n = n → a.marks = [] → ts.map a.tmp = V at₀ 0 → J P (.loop body) a h (told n ts Out) := by
  intro a h hi ha hm hv
  have round : ∀ (at_ : Nat → Nat) (j : Nat) (h : AHeap) (g : Nat → Value) (Q : Post), ((List.range L).map at_).Nodup → (∀ q, q < L → P.globals.size ≤ at_ q) →
      (∀ (q : Nat) (b : Blk), (C (P.globals.size + ·) j)[q]? = some b → ∃ b₀ : Blk, (C at_ j)[q]? = some b₀ ∧ amapM (renV P.globals.size ((List.range L).map at_)) b₀.1 = some b.1 ∧ b.2 = b₀.2) →
      amapM (renV P.globals.size ((List.range L).map at_)) (V at_ j) = some (V (P.globals.size + ·) j) → Laid (C at_ j) at_ h →
      (∀ g, J P body (stOf n (ts.zip (V (P.globals.size + ·) j)) g) (canonT [] (fun _ => 0) P.globals.size (C (P.globals.size + ·) j)) Q) → J P body (stOf n (ts.zip (V at_ j)) g) h Q := by
    intro at_ j h g Q hnd hge hcc hr hl hq
    have at0 : ∀ (q i : Nat), ((List.range L).map at_)[q]? = some i → q < L ∧ i = at_ q := fun q i hi => by
      rw [List.getElem?_map] at hi
      obtain ⟨x, hx, rfl⟩ := Option.map_eq_some_iff.1 hi
      have hq : q < L := by simpa using (List.getElem?_eq_some_iff.1 hx).1
      rw [List.getElem?_range hq] at hx
      cases hx; exact ⟨hq, rfl⟩
    have mem0 : ∀ i, i ∈ (List.range L).map at_ → ∃ q, q < L ∧ i = at_ q := fun i hi => by
      obtain ⟨q, hq, rfl⟩ := List.mem_map.1 hi
      exact ⟨q, by simpa using hq, rfl⟩
    refine J.reheapR (es := fun _ => 0) (vs₂ := V (P.globals.size + ·) j) (B₀ := C at_ j) (B := C (P.globals.size + ·) j) (ids := (List.range L).map at_) hP hts hlt (by simp [hC]) hnd (fun i hi => by obtain ⟨q, hq, rfl⟩ := mem0 i hi; exact hge q hq) ?_ hr ?_ hq
    · intro q i b hi hb
      obtain ⟨_, rfl⟩ := at0 q i hi
      obtain ⟨b₀, k0, k1, k2⟩ := hcc q b hb
      exact ⟨b₀, k0, hl q b₀ k0, k1, k2⟩
    · intro q i hi
      obtain ⟨hq, rfl⟩ := at0 q i hi
      rcases hn at_ j q hq with h1 | ⟨q', b₀, v, h1, h2, h3, h4⟩
      · exact .inl h1
      · refine .inr ⟨q', at_ q', b₀, v, h1, ?_, h2, h3, h4⟩
        rw [List.getElem?_map, List.getElem?_range (by omega)]
        rfl
  refine loop_rule (fun q vs h => ∃ at_ j, ((at_ = at₀) ∨ at_ = (P.globals.size + ·)) ∧ j ≤ m ∧ q = m - j ∧ I j ∧ vs = V at_ j ∧ Laid (C at_ j) at_ h) Out ?_ m _ h a ⟨at₀, 0, .inl rfl, Nat.zero_le _, rfl, hI, hv, hi⟩ ha hm rfl
  rintro q vs h g ⟨at_, j, hat, hj, rfl, hIj, rfl, hl⟩
  have hh : ((List.range L).map at_).Nodup ∧ (∀ q, q < L → P.globals.size ≤ at_ q) ∧ (∀ (q : Nat) (b : Blk), (C (P.globals.size + ·) j)[q]? = some b → ∃ b₀ : Blk, (C at_ j)[q]? = some b₀ ∧ amapM (renV P.globals.size ((List.range L).map at_)) b₀.1 = some b.1 ∧ b.2 = b₀.2) ∧ amapM (renV P.globals.size ((List.range L).map at_)) (V at_ j) = some (V (P.globals.size + ·) j) := by
    rcases hat with rfl | rfl
    · exact ⟨hnd, hge, hc₀ j, hr₀ j⟩
    · exact ⟨List.Pairwise.map _ (fun a b h e => h (by omega)) List.nodup_range, fun q _ => by show P.globals.size ≤ P.globals.size + q; omega, fun q b hb => ⟨b, hb, hc j q b hb, rfl⟩, hr j⟩
  obtain ⟨k1, k2, k2', k3⟩ := hh
  by_cases hjm : j < m
  · refine round at_ j h g _ k1 k2 k2' k3 hl fun g' => (step j hjm hIj g').mono fun ex a' h' q => ?_
    obtain ⟨q1, q2, q3⟩ := told_facts q
    simp only [told, q1, q2, Nat.beq_refl]
    cases ex with
    | normal => exact (⟨m - (j + 1), by omega, (P.globals.size + ·), j + 1, .inr rfl, by omega, rfl, q3.1, q3.2.1, q3.2.2⟩)
    | _ => simpa using q3
  · obtain rfl : j = m := by omega
    refine round at_ j h g _ k1 k2 k2' k3 hl fun g' => (last hIj g').mono fun ex a' h' q => ?_
    obtain ⟨q1, q2, q3⟩ := told_facts q
    simp only [told, q1, q2]
    cases ex with
    | normal => exact q3.elim
    | _ => simpa using q3
end
end Go.Am
/-! (OWN WORK. 'Am': ranges over functions, carried out in place on values that are not known.) -/
namespace Go.Am
noncomputable section
section
variable (P : Program) (orc : Orc) (syf : FuncId → Sy) (pc : Asks)
/-- What is carried out: by which ways (those of the code itself first, then those of the code around it), in which loop. -/
abbrev RunR := List Sy → Option Nat → Code → AAct → AHeap → Post → Prop
def jumpOf (e : Exit) : Option (Option Code) := match e with
  | .normal => some none
  | .ret => some (some Code.ret)
  | .exit id => some (some (Code.exit id))
  | _ => none
/-- A round of a range over a function. -/
def symRound (ih : RunR) (S : List Sy) (o : Oper) (a : AAct) (h : AHeap) (k : Value → AHeap → Prop) : Prop :=
  match aop P o a.eval h with
  | some (.round l args) => match h.get l with
    | some (.loop _ _ b ps assign body _) => match Nat.beq args.size ps.size && ps.toList.all (Nat.blt · b.n) with
      | true => ih S.tail (some l) assign { n := b.n, t := setTmps b.t ps.toList args.toList, marks := [] } h fun e a₁ h₁ => match e with
        | .normal => match h₁.get l with
          | some (.loop .ready pend a' ps' assign' body' d') => ih S.tail (some l) body a₁ (h₁.set l (.loop .busy pend a' ps' assign' body' d')) fun e _ h₂ => match h₂.get l with
            | some (.loop _ _ a'' ps'' assign'' body'' d'') => match jumpOf e with
              | some jump => k (.bool jump.isNone) (h₂.set l (.loop (if jump.isNone then .ready else .done) jump a'' ps'' assign'' body'' d''))
              | none => False
            | _ => False
          | _ => False
        | _ => False
      | false => False
    | _ => False
  | _ => False
/-- A function that is entered, by ways of its own. -/
def symEnter (ex : Ex) (ih : RunR) (S : List Sy) (o : Oper) (a : AAct) (h : AHeap) (k : Value → AHeap → Prop) : Prop :=
  match aop P o a.eval h with
  | some (.enter f args) => match (ex.orc f args h).isNone, P.funcs[f]? with
    | true, some fn => match fn.body, Nat.ble args.size fn.ntmps with
      | some c, true => ih (syf f :: S) none c (enterAct fn.ntmps args.toList) h (fin P fn k)
      | _, _ => False
    | _, _ => False
  | _ => False
def opR (ex : Ex) (ih : RunR) (S : List Sy) (ops : Array Oper) (o : Oper) (a : AAct) (h : AHeap) (k : Value → AHeap → Prop) : Prop :=
  match Nat.beq (S.headD (fun _ => 0) o) 50 with
  | true => match dstOk o a with
    | true => match Region.wanted o (ayielded ops a) with
      | true => symRound P ih S o a h k
      | false => k undef h
    | false => False
  | false => match Nat.beq (S.headD (fun _ => 0) o) 55 with
    | true => match dstOk o a with
      | true => match Region.wanted o (ayielded ops a) with
        | true => symEnter P syf ex ih S o a h k
        | false => k undef h
      | false => False
    | false => opC P ex (S.headD fun _ => 0) pc ops o a h k
def runOpsR (ex : Ex) (ih : RunR) (S : List Sy) (ops : Array Oper) (l : List Oper) : AAct → AHeap → (AAct → AHeap → Prop) → Prop :=
  List.rec (motive := fun _ => AAct → AHeap → (AAct → AHeap → Prop) → Prop) (fun a h k => k a h)
    (fun o _ ih' a h k => opR P syf pc ex ih S ops o a h fun v h' => ih' (a.put o.dst v) h' k) l
def runRegionR (ex : Ex) (ih : RunR) (S : List Sy) (ops : Array Oper) (draw : Bool) (a : AAct) (h : AHeap) (k : AAct → AHeap → Prop) : Prop :=
  match constsOk P ops, draw with
  | false, _ => False
  | true, false => runOpsR P syf pc ex ih S ops ops.toList a h k
  | true, true => match orderly ops with
    | true => runDrawC P ex (S.headD fun _ => 0) pc ops (befs ops.toList []) (ops.size + 1) (Array.replicate ops.size false) [] a h k
    | false => False
/-- A range over a function: its function's code, and behind it what its rounds ask for. -/
def rangeR (ih : RunR) (S : List Sy) (rd : Option Nat) (f : Operand) (ps : Array Tmp) (assign body : Code) (a : AAct) (h : AHeap) (k : Post) : Prop :=
  match rangeIn rd h with
  | some (d, mark, h₁) => match fval a f with
    | .func (.func g) first captured => match P.funcs[g]? with
      | some fn => match fn.name == "runtime.NumGoroutine" || fn.body.isNone with
        | true => False
        | false => match (orc g (first ++ #[Value.func (.yield h₁.n) #[] #[]] ++ captured) (h₁.push (.loop .ready none a ps assign body d))).isNone, fn.body, Nat.ble (first ++ #[Value.func (.yield h₁.n) #[] #[]] ++ captured).size fn.ntmps with
          | true, some c, true => ih (syf g :: S) none c (enterAct fn.ntmps (first ++ #[Value.func (.yield h₁.n) #[] #[]] ++ captured).toList) (h₁.push (.loop .ready none a ps assign body d)) (fin P fn fun _ h₂ => match h₂.get h₁.n with
            | some (.loop .busy _ _ _ _ _ _) => False
            | some (.loop _ pending a' ps' assign' body' d') => match pending with
              | none => k .normal { n := a.n, t := a.t, marks := mark ++ a.marks } (h₂.set h₁.n (.loop .exhausted pending a' ps' assign' body' d'))
              | some c => ih S rd c { n := a.n, t := a.t, marks := mark ++ a.marks } (h₂.set h₁.n (.loop .exhausted pending a' ps' assign' body' d')) k
            | _ => False)
          | _, _, _ => False
      | none => False
    | _ => False
  | none => False
def stepR (ex : Ex) (ih : RunR) (S : List Sy) (rd : Option Nat) (c : Code) (a : AAct) (h : AHeap) (k : Post) : Prop :=
  match c with
  | .skip => k .normal a h
  | .region _ ops draw => runRegionR P syf pc ex ih S ops draw a h fun a' h' => k .normal a' h'
  | .seq x y => ih S rd x a h fun e a' h' => match e with
    | .normal => ih S rd y a' h' k
    | e => k e a' h'
  | .cond x y z => match a.eval x with
    | .bool true => ih S rd y a h k
    | .bool false => ih S rd z a h k
    | _ => False
  | .block id b => ih S rd b a h fun e a' h' => match e with
    | .exit j => match Nat.beq j id with
      | true => k .normal a' h'
      | false => k (.exit j) a' h'
    | e => k e a' h'
  | .loop b => ih S rd b a h fun e a' h' => match e with
    | .normal => ih S rd (.loop b) a' h' k
    | e => k e a' h'
  | .rangeFunc f ps assign body => rangeR P orc syf ih S rd f ps assign body a h k
  | .exit id => k (.exit id) a h
  | .ret => k .ret a h
  | .label _ => k .normal a h
  | .scope b => ih S rd b a h fun e a' h' => match e with
    | .goto _ => False
    | e => k e a' h'
  | _ => False
def execR (n : Nat) : RunR := Nat.rec (motive := fun _ => RunR) (fun _ _ _ _ _ _ => False) (fun n ih => stepR P orc syf pc (exec P orc n) ih) n
/-- What is asked of a call that is carried out in place, its ranges over functions, too. -/
def callR (n : Nat) (f : FuncId) (args : Array Value) (h : AHeap) (K : Value → AHeap → Prop) : Prop :=
  match P.funcs[f]? with
  | some fn => match fn.body with
    | some c => match Nat.ble args.size fn.ntmps with
      | true => execR P orc syf pc n [syf f] none c (enterAct fn.ntmps args.toList) h (fin P fn K)
      | false => False
    | none => False
  | none => False
end
section
variable {P : Program} {orc : Orc} {syf : FuncId → Sy} {pc : Asks}
/-- What is said of one is what the other comes to. -/
def Sound (ex : Ex) (ih : RunR) : Prop := ∀ {S : List Sy} {rd : Option Nat} {c : Code} {a : AAct} {h : AHeap} {k : Post}, ih S rd c a h k → ∃ e a' h', ex rd c a h = some (e, a', h') ∧ k e a' h'
theorem symRound_ok {ex : Ex} {ih : RunR} (E : Sound ex ih) {S : List Sy} {o : Oper} {a : AAct} {h : AHeap} {k : Value → AHeap → Prop} (hk : symRound P ih S o a h k) : ∃ x v h', aop P o a.eval h = some x ∧ doneBy P ex x h = some (v, h') ∧ k v h' := by
  unfold symRound at hk
  split at hk
  · rename_i l args hx
    split at hk
    · rename_i st pd b ps assign body d hg
      split at hk
      · rename_i hc
        obtain ⟨e, a₁, h₁, h1, hk⟩ := E hk
        cases e with
        | normal =>
          simp only at hk
          split at hk
          · rename_i pend a' ps' assign' body' d' hg1
            obtain ⟨e, a₂, h₂, h2, hk⟩ := E hk
            split at hk
            · rename_i st2 pd2 a'' ps'' assign'' body'' d'' hg2
              split at hk
              · rename_i jump hj
                refine ⟨_, _, _, hx, ?_, hk⟩
                simp only [doneBy, aroundBy, hg, hc, h1, hg1, h2, hg2]
                cases e <;> simp [jumpOf] at hj <;> subst hj <;> rfl
              · exact hk.elim
            · exact hk.elim
          · exact hk.elim
        | _ => exact hk.elim
      · exact hk.elim
    · exact hk.elim
  · exact hk.elim
theorem symEnter_ok {ex : Ex} {ih : RunR} (E : Sound ex ih) {S : List Sy} {o : Oper} {a : AAct} {h : AHeap} {k : Value → AHeap → Prop} (hk : symEnter P syf ex ih S o a h k) : ∃ x v h', aop P o a.eval h = some x ∧ doneBy P ex x h = some (v, h') ∧ k v h' := by
  unfold symEnter at hk
  split at hk
  · rename_i f args hx
    split at hk
    · rename_i fn hno hfn
      split at hk
      · rename_i c hc hs
        obtain ⟨e, a₂, h₂, hx2, hk⟩ := E hk
        obtain ⟨he, hm, v, hv, hk⟩ := fin_end hk
        refine ⟨_, v, h₂, hx, ?_, hk⟩
        show acallBy P ex f args h = some (v, h₂)
        unfold acallBy
        rw [Option.isNone_iff_eq_none] at hno
        rw [hno]
        unfold acallRun
        rcases he with rfl | rfl
        · simp only [hfn, hc, hs, hx2, hm, shutMarks, hv, Option.map_some]
        · simp only [hfn, hc, hs, hx2, hm, shutMarks, hv, Option.map_some]
      · exact hk.elim
    · exact hk.elim
  · exact hk.elim
theorem opR_ok {ex : Ex} {ih : RunR} (E : Sound ex ih) (hpc : AsksOk ex.orc pc) {S : List Sy} {ops : Array Oper} {o : Oper} {a : AAct} {h : AHeap} {k : Value → AHeap → Prop} (hk : opR P syf pc ex ih S ops o a h k) : ∃ v h', opBy P ex ops o a h = some (v, h') ∧ k v h' := by
  unfold opR at hk
  split at hk
  · split at hk
    · rename_i hd
      split at hk
      · rename_i hw
        obtain ⟨x, v, h', h1, h2, h3⟩ := symRound_ok E hk
        exact ⟨v, h', by unfold opBy; simp only [hd, hw, h1, h2], h3⟩
      · rename_i hw
        exact ⟨_, _, by unfold opBy; simp only [hd, hw], hk⟩
    · exact hk.elim
  · split at hk
    · split at hk
      · rename_i hd
        split at hk
        · rename_i hw
          obtain ⟨x, v, h', h1, h2, h3⟩ := symEnter_ok E hk
          exact ⟨v, h', by unfold opBy; simp only [hd, hw, h1, h2], h3⟩
        · rename_i hw
          exact ⟨_, _, by unfold opBy; simp only [hd, hw], hk⟩
      · exact hk.elim
    · exact opC_ok hpc hk
theorem runOpsR_ok {ex : Ex} {ih : RunR} (E : Sound ex ih) (hpc : AsksOk ex.orc pc) {S : List Sy} {ops : Array Oper} {k : AAct → AHeap → Prop} : ∀ {l : List Oper} {a : AAct} {h : AHeap}, runOpsR P syf pc ex ih S ops l a h k → ∃ a' h', runOps P ex ops l a h = some (a', h') ∧ k a' h'
  | [], a, h, hk => ⟨a, h, rfl, hk⟩
  | o :: l, a, h, hk => by
    obtain ⟨v, h', h1, h2⟩ := opR_ok E hpc (show opR P syf pc ex ih S ops o a h (fun v h' => runOpsR P syf pc ex ih S ops l (a.put o.dst v) h' k) from hk)
    obtain ⟨a', h'', h3, h4⟩ := runOpsR_ok E hpc h2
    exact ⟨a', h'', by rw [runOps_cons, h1]; exact h3, h4⟩
theorem runRegionR_ok {ex : Ex} {ih : RunR} (E : Sound ex ih) (hpc : AsksOk ex.orc pc) {S : List Sy} {ops : Array Oper} {draw : Bool} {a : AAct} {h : AHeap} {k : AAct → AHeap → Prop} (hk : runRegionR P syf pc ex ih S ops draw a h k) : ∃ a' h', runRegion P ex ops draw a h = some (a', h') ∧ k a' h' := by
  unfold runRegionR at hk
  split at hk
  · exact hk.elim
  · rename_i hc
    obtain ⟨a', h', hr, hk⟩ := runOpsR_ok E hpc hk
    exact ⟨a', h', by unfold runRegion; simp only [hc]; exact hr, hk⟩
  · rename_i hc
    split at hk
    · rename_i hor
      obtain ⟨a', h', hr, hk⟩ := runDrawC_ok hpc (fun p hp => by cases hp) hk
      exact ⟨a', h', by unfold runRegion; simp only [hc, hor]; exact hr, hk⟩
    · exact hk.elim
theorem rangeR_ok {ex : Ex} (ho : ex.orc = orc) {ih : RunR} (E : Sound ex ih) {S : List Sy} {rd : Option Nat} {f : Operand} {ps : Array Tmp} {assign body : Code} {a : AAct} {h : AHeap} {k : Post} (hk : rangeR P orc syf ih S rd f ps assign body a h k) :
    ∃ e a' h', rangeBy P ex rd f ps assign body a h = some (e, a', h') ∧ k e a' h' := by
  unfold rangeR at hk
  split at hk
  · rename_i d mark h₁ hr
    split at hk
    · rename_i g first captured hf
      split at hk
      · rename_i fn hfn
        split at hk
        · exact hk.elim
        · rename_i hnm
          split at hk
          · rename_i c hno hc hs
            obtain ⟨e, a₂, h₂, hx, hk⟩ := E hk
            obtain ⟨he, hm, v, hv, hk⟩ := fin_end hk
            have hcall : acallBy P ex g (first ++ #[Value.func (.yield h₁.n) #[] #[]] ++ captured) (h₁.push (.loop .ready none a ps assign body d)) = some (v, h₂) := by
              unfold acallBy
              rw [ho]
              rw [Option.isNone_iff_eq_none] at hno
              rw [hno]
              unfold acallRun
              rcases he with rfl | rfl
              · simp only [hfn, hc, hs, hx, hm, shutMarks, hv, Option.map_some]
              · simp only [hfn, hc, hs, hx, hm, shutMarks, hv, Option.map_some]
            split at hk
            · exact hk.elim
            · rename_i st pending a' ps' assign' body' d' hnb hg
              cases pending with
              | none =>
                refine ⟨_, _, _, ?_, hk⟩
                unfold rangeBy
                simp only [hr, hf, hfn, hnm, hcall, hg]
              | some c' =>
                obtain ⟨e', a₃, h₃, h3, hk⟩ := E hk
                refine ⟨e', a₃, h₃, ?_, hk⟩
                unfold rangeBy
                simp only [hr, hf, hfn, hnm, hcall, hg]
                exact h3
            · exact hk.elim
          · exact hk.elim
      · exact hk.elim
    · exact hk.elim
  · exact hk.elim
theorem execR_ok (hpc : AsksOk orc pc) : ∀ {n : Nat} {S : List Sy} {rd : Option Nat} {c : Code} {a : AAct} {h : AHeap} {k : Post}, execR P orc syf pc n S rd c a h k → ∃ e a' h', exec P orc n rd c a h = some (e, a', h') ∧ k e a' h'
  | 0, _, _, _, _, _, _, hk => hk.elim
  | n + 1, S, rd, c, a, h, k, hk => by
    have hk : stepR P orc syf pc (exec P orc n) (execR P orc syf pc n) S rd c a h k := hk
    have E : Sound (exec P orc n) (execR P orc syf pc n) := fun hk => execR_ok hpc hk
    have hpc' : AsksOk (exec P orc n).orc pc := by rw [exec_orc]; exact hpc
    rw [exec_succ]
    cases c with
    | skip => exact ⟨_, _, _, rfl, hk⟩
    | region id ops draw =>
      obtain ⟨a', h', hr, hk⟩ := runRegionR_ok E hpc' hk
      exact ⟨_, a', h', by simp only [execStep, hr]; rfl, hk⟩
    | seq x y =>
      obtain ⟨e, a₁, h₁, hx, hk⟩ := execR_ok hpc (c := x) hk
      cases e with
      | normal =>
        obtain ⟨e', a', h', hy, hk⟩ := execR_ok hpc (c := y) hk
        exact ⟨e', a', h', by simp only [execStep, hx]; exact hy, hk⟩
      | _ => exact ⟨_, a₁, h₁, by simp only [execStep, hx], hk⟩
    | cond x y z =>
      simp only [stepR] at hk
      split at hk
      · rename_i hb
        obtain ⟨e', a', h', hy, hk⟩ := execR_ok hpc hk
        exact ⟨e', a', h', by simp only [execStep, hb]; exact hy, hk⟩
      · rename_i hb
        obtain ⟨e', a', h', hy, hk⟩ := execR_ok hpc hk
        exact ⟨e', a', h', by simp only [execStep, hb]; exact hy, hk⟩
      · exact hk.elim
    | block id b =>
      obtain ⟨e, a₁, h₁, hx, hk⟩ := execR_ok hpc (c := b) hk
      cases e with
      | exit j =>
        simp only at hk
        split at hk
        · rename_i hj
          exact ⟨_, a₁, h₁, by simp only [execStep, hx, hj], hk⟩
        · rename_i hj
          exact ⟨_, a₁, h₁, by simp only [execStep, hx, hj], hk⟩
      | _ => exact ⟨_, a₁, h₁, by simp only [execStep, hx], hk⟩
    | loop b =>
      obtain ⟨e, a₁, h₁, hx, hk⟩ := execR_ok hpc (c := b) hk
      cases e with
      | normal =>
        obtain ⟨e', a', h', hy, hk⟩ := execR_ok hpc (c := .loop b) hk
        exact ⟨e', a', h', by simp only [execStep, hx]; exact hy, hk⟩
      | _ => exact ⟨_, a₁, h₁, by simp only [execStep, hx], hk⟩
    | rangeFunc f ps assign body => exact rangeR_ok (syf := syf) (ih := execR P orc syf pc n) (S := S) (exec_orc _ _) E hk
    | exit id => exact ⟨_, _, _, rfl, hk⟩
    | ret => exact ⟨_, _, _, rfl, hk⟩
    | label l => exact ⟨_, _, _, rfl, hk⟩
    | scope b =>
      obtain ⟨e, a₁, h₁, hx, hk⟩ := execR_ok hpc (c := b) hk
      cases e with
      | goto l => exact hk.elim
      | _ => exact ⟨_, a₁, h₁, by simp only [execStep, hx], hk⟩
    | _ => exact hk.elim
theorem callR_ok (hpc : AsksOk orc pc) {n : Nat} {f : FuncId} {args : Array Value} {h : AHeap} {K : Value → AHeap → Prop} (hk : callR P orc syf pc n f args h K) : ∃ v h', acallRun P (exec P orc n) f args h = some (v, h') ∧ K v h' := by
  unfold callR at hk
  split at hk
  · rename_i fn hfn
    split at hk
    · rename_i c hc
      split at hk
      · rename_i hs
        obtain ⟨e, a', h', hx, hk⟩ := execR_ok hpc hk
        obtain ⟨he, hm, v, hv, hk⟩ := fin_end hk
        refine ⟨v, h', ?_, hk⟩
        unfold acallRun
        rcases he with rfl | rfl
        · simp only [hfn, hc, hs, hx, hm, shutMarks, hv, Option.map_some]
        · simp only [hfn, hc, hs, hx, hm, shutMarks, hv, Option.map_some]
      · exact hk.elim
    · exact hk.elim
  · exact hk.elim
theorem CallJ.ofR (hm : P.follows .mixedOrders = true) (ho : OrcOk P orc) (hpc : AsksOk orc pc) {n : Nat} {f : FuncId} {args : Array Value} {h : AHeap} {K : Value → AHeap → Prop} (hk : callR P orc syf pc n f args h K) : CallJ P f args h K := by
  intro ρ args' w H G hA
  obtain ⟨v, h', hc, hK⟩ := callR_ok hpc hk
  refine CallsIn.mono (acallRun_ok (exec_ok hm ho n) H G hA hc none) ?_
  rintro e w' ⟨v', ρ', rfl, hv, H', A⟩
  exact ⟨_, v', h', ρ', rfl, hK, hv, H', A.fr⟩
theorem J.ofR (hm : P.follows .mixedOrders = true) (ho : OrcOk P orc) (hpc : AsksOk orc pc) {n : Nat} {S : List Sy} {c : Code} {a : AAct} {h : AHeap} {k : Post} (hk : execR P orc syf pc n S none c a h k) : J P c a h k := by
  obtain ⟨e, a', h', hx, hk⟩ := execR_ok hpc hk
  exact .of_exec hm ho hx hk
/-- Loops that are not told, and ranges over functions in place. -/
def rangesL (hm : P.follows .mixedOrders = true) (ho : OrcOk P orc) (hpc : AsksOk orc pc) (syf : FuncId → Sy) (n : Nat) (S : List Sy) : Loops P where
  body := fun _ => .skip
  spec := fun _ _ _ _ => False
  ok := fun _ _ _ _ h => h.elim
  rf := fun c a h k => execR P orc syf pc n S none c a h k
  rfok := fun _ _ _ _ hk => J.ofR hm ho hpc hk
end
end
end Go.Am
/-! (OWN WORK. 'Am': loops whose rounds leave marks of their ranges over functions.) -/
namespace Go.Am
noncomputable section
variable {P : Program} {a : AAct} {h h₂ : AHeap} {k : Post} {pre : Pre}
/-- A state of which these temporaries and its marks are told. -/
def stM (n : Nat) (l : List (Nat × Value)) (g : Nat → Value) (ms : List Nat) : AAct := { n, t := lit n (ov l g), marks := ms }
def toldM (n : Nat) (ts : List Nat) (Q : Exit → List Value → List Nat → AHeap → Prop) : Post := fun e a h =>
  match Nat.beq a.n n with
  | true => Q e (ts.map a.tmp) a.marks h
  | false => False
theorem toldM_facts {n : Nat} {ts : List Nat} {Q : Exit → List Value → List Nat → AHeap → Prop} {e : Exit} (ht : toldM n ts Q e a h) : a.n = n ∧ Q e (ts.map a.tmp) a.marks h := by
  unfold toldM at ht
  split at ht
  · rename_i hn; exact ⟨Nat.eq_of_beq_eq_true hn, ht⟩
  · exact ht.elim
theorem toldM_of {n : Nat} {ts : List Nat} {Q : Exit → List Value → List Nat → AHeap → Prop} {e : Exit} (hn : a.n = n) (hq : Q e (ts.map a.tmp) a.marks h) : toldM n ts Q e a h := by
  unfold toldM
  rw [hn, Nat.beq_refl]
  exact hq
theorem Ren.mono {pre pre' : Pre} (hp : ∀ j i, pre j = some i → pre' j = some i) : ∀ {v v₂ : Value}, Ren pre v v₂ → Ren pre' v v₂ := by
  intro v v₂ r
  induction r with
  | flat h => exact .flat h
  | slice h => exact .slice (hp _ _ h)
  | ptr h => exact .ptr (hp _ _ h)
  | fn => exact .fn
  | agg hl _ ih => exact .agg hl ih
  | tuple hl _ ih => exact .tuple hl ih
  | cl hl _ ih => exact .cl hl ih
theorem SRel.viewM {ρ : Rho} {act : Act} {w : World} (S : SRel P ρ a h act w) (V : View P h h₂ pre) (l : List (Nat × Value)) {D : Nat} (hD : D < h₂.n) (hp : pre D = none) {ms : List Nat} (hml : ms.length = a.marks.length)
    (hm : ∀ (i : Nat) m m₂, a.marks[i]? = some m → ms[i]? = some m₂ → pre m₂ = some m)
    (hk : ∀ x ∈ l, Ren pre (a.tmp x.1) x.2) (hb : ∀ j i, pre j = some i → Reach P a h i ∨ i ∈ a.marks) :
    ∃ g ρ₂, SRel P ρ₂ (stM a.n l g ms) h₂ act w ∧ ∀ b, Own ρ₂ h₂ b → Own ρ h b := by
  have M := S.marks
  have hDρ : viewRho ρ h₂.n pre D = .dead := by simp only [viewRho, if_pos hD, hp]
  have A : Alive ρ pre := V.alive S.heap fun j i hji => by
    rcases hb j i hji with r | r
    · exact r.born S
    · obtain ⟨q, hq⟩ := List.getElem?_of_mem r
      have hlt : q < act.defers.length := by rw [M.1]; exact (List.getElem?_eq_some_iff.1 hq).1
      obtain ⟨_, _, hbr⟩ := M.2 q i act.defers[q] hq (List.getElem?_eq_getElem hlt)
      exact hbr.born
  have ex : ∀ t, ∃ x, VRel (viewRho ρ h₂.n pre) x (act.tmps.getD t Go.undef) := fun t => some_rel hDρ (S.tmps.tmp t)
  let g : Nat → Value := fun t => Classical.choose (ex t)
  have hg : ∀ t, VRel (viewRho ρ h₂.n pre) (g t) (act.tmps.getD t Go.undef) := fun t => Classical.choose_spec (ex t)
  have hov : ∀ (l : List (Nat × Value)), (∀ x ∈ l, Ren pre (a.tmp x.1) x.2) → ∀ t, VRel (viewRho ρ h₂.n pre) (ov l g t) (act.tmps.getD t Go.undef) := by
    intro l
    induction l with
    | nil => intro _ t; exact hg t
    | cons x l ih =>
      intro hx t
      rw [ov_cons]
      split
      · rename_i e
        subst e
        exact (hx x (by simp)).vrel V (S.tmps.tmp x.1)
      · exact ih (fun y hy => hx y (by simp [hy])) t
  refine ⟨g, viewRho ρ h₂.n pre, ⟨V.hrel S.heap A, ⟨S.tmps.size, fun t => ?_⟩, ⟨M.1.trans hml.symm, fun i m₂ d hm₂ hd => ?_⟩, V.globs' S.globs⟩, fun b o => V.own o⟩
  · simp only [stM, AAct.tmp, get_lit]
    by_cases hlt : t < a.n
    · rw [if_pos hlt]; exact hov l hk t
    · rw [if_neg hlt, undef_getD _ _ (by rw [← S.tmps.size]; exact Nat.le_of_not_lt hlt)]
      exact .undef
  · have hi : i < a.marks.length := by
      rw [← hml]
      exact (List.getElem?_eq_some_iff.1 (show ms[i]? = some m₂ from hm₂)).1
    obtain ⟨r, e, hbr⟩ := M.2 i a.marks[i] d (List.getElem?_eq_getElem hi) hd
    refine ⟨r, e, ?_⟩
    unfold BRel at hbr ⊢
    rw [viewRho_some V (hm i _ m₂ (List.getElem?_eq_getElem hi) hm₂)]
    exact hbr
theorem J.from_viewM {c : Code} (V : View P h h₂ pre) (l : List (Nat × Value)) {D : Nat} (hD : D < h₂.n) (hp : pre D = none) {ms : List Nat} (hml : ms.length = a.marks.length)
    (hm : ∀ (i : Nat) m m₂, a.marks[i]? = some m → ms[i]? = some m₂ → pre m₂ = some m)
    (hk : ∀ x ∈ l, Ren pre (a.tmp x.1) x.2) (hb : ∀ j i, pre j = some i → Reach P a h i ∨ i ∈ a.marks) (hj : ∀ g, J P c (stM a.n l g ms) h₂ k) : J P c a h k := by
  intro ρ act w S
  obtain ⟨g, ρ₂, S₂, own⟩ := S.viewM V l hD hp hml hm hk hb
  refine (hj g ρ₂ act w S₂).mono ?_
  rintro e act' w' ⟨a', h', ρ', k1, k2, F⟩
  exact ⟨a', h', ρ', k1, k2, F.size, F.os, F.tape, F.output, fun b hb' ho => F.kept b hb' fun o => ho (own b o), fun b hb' o => own b (F.own b hb' o)⟩
/-- Room for marks: so many are there, the others are not yet. -/
def padT (R j : Nat) (h : AHeap) : AHeap := Nat.rec (motive := fun _ => AHeap) h (fun i ih => ih.push (bif Nat.blt i j then .defd else .dead)) R
theorem padT_n (R j : Nat) (h : AHeap) : (padT R j h).n = h.n + R := by
  induction R with
  | zero => rfl
  | succ R ih => show (padT R j h).n + 1 = _; rw [ih]; omega
theorem padT_get (R j : Nat) (h : AHeap) (x : Nat) : (padT R j h).get x = if h.n ≤ x ∧ x < h.n + R then some (bif Nat.blt (x - h.n) j then .defd else .dead) else h.get x := by
  induction R with
  | zero => rw [if_neg (by omega)]; rfl
  | succ R ih =>
    show ((padT R j h).push (bif Nat.blt R j then .defd else .dead)).get x = _
    rw [AHeap.get_push, padT_n, ih]
    by_cases hx : x = h.n + R
    · rw [if_pos hx, if_pos (by omega), show x - h.n = R by omega]
    · rw [if_neg hx]
      by_cases hc : h.n ≤ x ∧ x < h.n + R
      · rw [if_pos hc, if_pos (by omega)]
      · rw [if_neg hc, if_neg (by omega)]
/-- So many marks, the newest first. -/
def canM (b j : Nat) : List Nat := Nat.rec (motive := fun _ => List Nat) [] (fun i ih => (b + i) :: ih) j
theorem canM_length (b : Nat) : ∀ j, (canM b j).length = j
  | 0 => rfl
  | j + 1 => congrArg (· + 1) (canM_length b j)
theorem canM_get (b : Nat) : ∀ (j i : Nat) (m : Nat), (canM b j)[i]? = some m → i < j ∧ m = b + (j - 1 - i)
  | 0, i, m, h => by
    have h : ([] : List Nat)[i]? = some m := h
    simp at h
  | j + 1, 0, m, h => by
    have h : some (b + j) = some m := h
    cases h
    exact ⟨by omega, by omega⟩
  | j + 1, i + 1, m, h => by
    obtain ⟨h1, h2⟩ := canM_get b j i m h
    exact ⟨by omega, by omega⟩
theorem canM_mem {b j m : Nat} (h : m ∈ canM b j) : b ≤ m ∧ m < b + j := by
  obtain ⟨i, hi⟩ := List.getElem?_of_mem h
  obtain ⟨h1, h2⟩ := canM_get b j i m hi
  omega
theorem canM_nodup (b : Nat) : ∀ j, (canM b j).Nodup
  | 0 => List.nodup_nil
  | j + 1 => by
    show ((b + j) :: canM b j).Nodup
    refine List.nodup_cons.2 ⟨fun h => ?_, canM_nodup b j⟩
    have := canM_mem h
    omega
def MarksOk (j : Nat) (ms : List Nat) (h : AHeap) : Prop := ms.length = j ∧ ms.Nodup ∧ ∀ m ∈ ms, h.get m = some .defd
theorem view_movesM {es : Nat → TypeId} {ids : List Nat} {B₀ B : List Blk} {ms : List Nat} {R j : Nat} (hl : ids.length = B.length) (hn : ids.Nodup) (hB : Moves P h ids B₀ B) (hms : MarksOk j ms h) (hR : j ≤ R) :
    View P h (padT R j (canonT [] es P.globals.size B)) (preT P.globals.size [] (ids ++ ms.reverse)) := by
  have hT : tabsFlat P.globals.size [] = true := rfl
  obtain ⟨m1, m2, m3⟩ := hms
  have pn : ∀ j i, preT P.globals.size [] (ids ++ ms.reverse) j = some i → P.globals.size ≤ j ∧ (ids ++ ms.reverse)[j - P.globals.size]? = some i := fun j i e => by
    simp only [preT] at e
    split at e
    · rename_i h1; exact ⟨h1, e⟩
    · simp at e
  have up : ∀ j i, preT P.globals.size [] ids j = some i → preT P.globals.size [] (ids ++ ms.reverse) j = some i := fun j i e => by
    simp only [preT] at e ⊢
    split at e
    · rename_i h1
      rw [if_pos h1, List.getElem?_append_left (List.getElem?_eq_some_iff.1 e).1]; exact e
    · simp at e
  have cell : ∀ (q : Nat) i, ids[q]? = some i → ∃ c e row ro, h.get i = some (.cells c e row ro) := fun q i hi => by
    have h3 := (List.getElem?_eq_some_iff.1 hi).1
    obtain ⟨b₀, _, k1, _, _⟩ := hB q i _ hi (List.getElem?_eq_getElem (by omega))
    exact ⟨_, _, _, _, k1⟩
  have nd : (ids ++ ms.reverse).Nodup := by
    refine List.nodup_append.2 ⟨hn, List.pairwise_reverse.2 (m2.imp fun h => h.symm), fun x hx y hy e => ?_⟩
    subst e
    obtain ⟨q, hq⟩ := List.getElem?_of_mem hx
    obtain ⟨c, e, row, ro, hc⟩ := cell q x hq
    rw [m3 x (List.mem_reverse.1 hy)] at hc
    cases hc
  have ln : (ids ++ ms.reverse).length = B.length + j := by rw [List.length_append, List.length_reverse, hl, m1]
  refine ⟨fun q i e => ?_, fun q q' i e e' => ?_, fun q i e => ?_, fun q e hq o ho => ?_, fun g hg => ?_⟩
  · obtain ⟨h1, h2⟩ := pn q i e
    have := (List.getElem?_eq_some_iff.1 h2).1
    rw [padT_n, canonT_n hT]
    omega
  · obtain ⟨h1, h2⟩ := pn q i e
    obtain ⟨h3, h4⟩ := pn q' i e'
    have h5 := (List.getElem?_eq_some_iff.1 h2).1
    have := (List.getElem?_inj h5 nd).1 (h2.trans h4.symm)
    omega
  · obtain ⟨h1, h2⟩ := pn q i e
    by_cases hlt : q - P.globals.size < ids.length
    · rw [List.getElem?_append_left hlt] at h2
      have hb' : B[q - P.globals.size]? = some B[q - P.globals.size] := List.getElem?_eq_getElem (by omega)
      obtain ⟨b₀, _, k1, k2, k3⟩ := hB _ i _ h2 hb'
      obtain ⟨n1, n2⟩ := amapM_spec k2
      refine ⟨_, .cells B[q - P.globals.size].1 B[q - P.globals.size].2.1 B[q - P.globals.size].2.2.1 B[q - P.globals.size].2.2.2, k1, by rw [padT_get, canonT_n hT, if_neg (by omega), canonT_get hT, if_pos h1, hb']; rfl, n1.symm, congrArg (·.1) k3, congrArg (·.2.1) k3, fun p x y hx hy => (renV_spec (T := []) (n2 p x y hx hy)).mono up, fun hr => by
        have : B[q - P.globals.size].2.2.2 = b₀.2.2.2 := congrArg (·.2.2) k3
        rw [this]; exact hr⟩
    · have hq := (List.getElem?_eq_some_iff.1 h2).1
      rw [ln] at hq
      rw [List.getElem?_append_right (by omega)] at h2
      have hmem : i ∈ ms := List.mem_reverse.1 (List.mem_of_getElem? h2)
      refine ⟨.defd, .defd, m3 i hmem, ?_, trivial⟩
      rw [padT_get, canonT_n hT, if_pos (by omega), show Nat.blt (q - (P.globals.size + B.length)) j = true by rw [Nat.blt_eq]; omega]
      rfl
  · rw [padT_get, canonT_n hT] at ho
    rw [padT_n, canonT_n hT] at hq
    split at ho
    · rename_i hc
      simp only [preT, if_pos (show P.globals.size ≤ q by omega), List.getElem?_eq_none_iff, ln] at e
      rw [show Nat.blt (q - (P.globals.size + B.length)) j = false by
        cases hx : Nat.blt (q - (P.globals.size + B.length)) j with
        | false => rfl
        | true => rw [Nat.blt_eq] at hx; omega] at ho
      cases ho; rfl
    · rename_i hc
      rw [canonT_get hT] at ho
      split at ho
      · rename_i h1
        simp only [preT, if_pos h1, List.getElem?_eq_none_iff, ln] at e
        omega
      · rw [show base [] es P.globals.size = emp P from rfl] at ho
        cases ho
  · refine ⟨by rw [padT_n, canonT_n hT]; omega, .inl ?_⟩
    simp only [preT]
    rw [if_neg (by omega)]
    rfl
end
end Go.Am
/-! (OWN WORK. 'Am': loops whose rounds leave marks: their rule; calls that end with marks.) -/
namespace Go.Am
noncomputable section
variable {P : Program} {a : AAct} {h h₂ : AHeap} {k : Post} {pre : Pre}
theorem stM_zip {n : Nat} {ts : List Nat} {vs : List Value} {g : Nat → Value} {ms : List Nat} (hts : ts.Nodup) (hlt : ∀ t ∈ ts, t < n) {x : Nat × Value} (hx : x ∈ ts.zip vs) : (stM n (ts.zip vs) g ms).tmp x.1 = x.2 :=
  stOf_zip (g := g) hts hlt hx
theorem J.litM {c : Code} (f : Nat → Value) (hf : ∀ t, t < a.n → a.tmp t = f t) {n : Nat} (hn : a.n = n) (hj : J P c { n, t := Go.Am.lit n f, marks := a.marks } h k) : J P c a h k := by
  subst hn
  intro ρ act w S
  refine hj ρ act w (S.ext rfl rfl (fun t ht => ?_) fun t ht => ?_)
  · simp only [AAct.tmp, get_lit, if_pos ht]
    exact (hf t ht).symm
  · simp only [AAct.tmp, get_lit, if_neg (Nat.not_lt.2 ht)]
    rfl
theorem J.reheapM {es : Nat → TypeId} {n : Nat} {ts : List Nat} {vs vs₂ : List Value} {g : Nat → Value} {c : Code} {B₀ B : List Blk} {ids ms : List Nat} {R j : Nat} (hP : 0 < P.globals.size) (hts : ts.Nodup) (hlt : ∀ t ∈ ts, t < n)
    (hl : ids.length = B.length) (hn : ids.Nodup) (hB : Moves P h ids B₀ B) (hms : MarksOk j ms h) (hR : j ≤ R)
    (hv : amapM (renV P.globals.size ids) vs = some vs₂)
    (hm : ∀ (q : Nat) i, ids[q]? = some i → (∃ x ∈ ts.zip vs, i ∈ named x.2) ∨ ∃ (q' : Nat) (i' : Nat) (b₀ : Blk) (v : Value), q' < q ∧ ids[q']? = some i' ∧ B₀[q']? = some b₀ ∧ v ∈ b₀.1 ∧ i ∈ named v)
    (hj : ∀ g, J P c (stM n (ts.zip vs₂) g (canM (P.globals.size + B.length) j)) (padT R j (canonT [] es P.globals.size B)) k) : J P c (stM n (ts.zip vs) g ms) h k := by
  have V := view_movesM (es := es) hl hn hB hms hR
  have reach : ∀ (q : Nat) i, ids[q]? = some i → Reach P (stM n (ts.zip vs) g ms) h i := by
    intro q
    induction q using Nat.strongRecOn with
    | _ q ih =>
      intro i hi
      rcases hm q i hi with ⟨x, hx, hxi⟩ | ⟨q', i', b₀, v, hq, hi', hb, hv', hvi⟩
      · exact .tmp (t := x.1) (by rw [stM_zip hts hlt hx]; exact named_spec hxi)
      · have hlt' : q' < B.length := by rw [← hl]; exact (List.getElem?_eq_some_iff.1 hi').1
        obtain ⟨b₁, k0, k1, _, _⟩ := hB q' i' _ hi' (List.getElem?_eq_getElem hlt')
        rw [hb] at k0
        cases k0
        exact .cell (ih q' hq i' hi') k1 hv' (named_spec hvi)
  obtain ⟨m1, _, _⟩ := hms
  have up : ∀ j i, preT P.globals.size [] ids j = some i → preT P.globals.size [] (ids ++ ms.reverse) j = some i := fun j i e => by
    simp only [preT] at e ⊢
    split at e
    · rename_i h1
      rw [if_pos h1, List.getElem?_append_left (List.getElem?_eq_some_iff.1 e).1]; exact e
    · simp at e
  refine J.from_viewM V (ts.zip vs₂) (D := 0) (by rw [padT_n, canonT_n (T := []) rfl]; omega) ?_ (ms := canM (P.globals.size + B.length) j) ((canM_length _ _).trans m1.symm) ?_ ?_ ?_ hj
  · simp only [preT]
    rw [if_neg (by omega)]
    rfl
  · intro i m m₂ h1 h2
    obtain ⟨h3, rfl⟩ := canM_get _ _ _ _ h2
    have h1 : ms[i]? = some m := h1
    simp only [preT]
    rw [if_pos (by omega), List.getElem?_append_right (by omega), List.getElem?_reverse (by omega), ← h1]
    congr 1
    omega
  · intro x hx
    obtain ⟨v, h1, h2⟩ := zip_at hv hx
    rw [stM_zip hts hlt h1]
    exact (renV_spec (T := []) h2).mono up
  · intro j i e
    simp only [preT] at e
    split at e
    · by_cases hq : j - P.globals.size < ids.length
      · rw [List.getElem?_append_left hq] at e
        exact .inl (reach _ i e)
      · rw [List.getElem?_append_right (by omega)] at e
        exact .inr (List.mem_reverse.1 (List.mem_of_getElem? e))
    · simp at e
theorem fold_ruleM {n : Nat} {ts : List Nat} {body : Code} (L : Nat) (C : (Nat → Nat) → Nat → List Blk) (R : Nat) (hP : 0 < P.globals.size) (hts : ts.Nodup) (hlt : ∀ t ∈ ts, t < n)
    (hC : ∀ at_ j, (C at_ j).length = L)
    (V : (Nat → Nat) → Nat → List Value) (I : Nat → Prop) (m : Nat) (hmR : m ≤ R) (hI : I 0) (Out : Exit → List Value → List Nat → AHeap → Prop) (at₀ : Nat → Nat) (hnd : ((List.range L).map at₀).Nodup)
    (hc₀ : ∀ j (q : Nat) (b : Blk), (C (P.globals.size + ·) j)[q]? = some b → ∃ b₀ : Blk, (C at₀ j)[q]? = some b₀ ∧ amapM (renV P.globals.size ((List.range L).map at₀)) b₀.1 = some b.1 ∧ b.2 = b₀.2)
    (hc : ∀ j (q : Nat) (b : Blk), (C (P.globals.size + ·) j)[q]? = some b → amapM (renV P.globals.size ((List.range L).map (P.globals.size + ·))) b.1 = some b.1)
    (hr₀ : ∀ j, amapM (renV P.globals.size ((List.range L).map at₀)) (V at₀ j) = some (V (P.globals.size + ·) j))
    (hr : ∀ j, amapM (renV P.globals.size ((List.range L).map (P.globals.size + ·))) (V (P.globals.size + ·) j) = some (V (P.globals.size + ·) j))
    (hn : ∀ at_ j q, q < L → (∃ x ∈ ts.zip (V at_ j), at_ q ∈ named x.2) ∨ ∃ (q' : Nat) (b₀ : Blk) (v : Value), q' < q ∧ (C at_ j)[q']? = some b₀ ∧ v ∈ b₀.1 ∧ at_ q ∈ named v)
    (step : ∀ j, j < m → I j → ∀ g, J P body (stM n (ts.zip (V (P.globals.size + ·) j)) g (canM (P.globals.size + L) j)) (padT R j (canonT [] (fun _ => 0) P.globals.size (C (P.globals.size + ·) j))) (toldM n ts fun ex vs ms h => match ex with
      | .normal => I (j + 1) ∧ vs = V (P.globals.size + ·) (j + 1) ∧ Laid (C (P.globals.size + ·) (j + 1)) (P.globals.size + ·) h ∧ MarksOk (j + 1) ms h
      | ex => Out ex vs ms h))
    (last : I m → ∀ g, J P body (stM n (ts.zip (V (P.globals.size + ·) m)) g (canM (P.globals.size + L) m)) (padT R m (canonT [] (fun _ => 0) P.globals.size (C (P.globals.size + ·) m))) (toldM n ts fun ex vs ms h => match ex with
      | .normal => False
      | ex => Out ex vs ms h)) :
    ∀ a h, Laid (C at₀ 0) at₀ h → a.n = n → a.marks = [] → ts.map a.tmp = V at₀ 0 → J P (.loop body) a h (toldM n ts Out) := by
  have round : ∀ (at_ : Nat → Nat) (j : Nat) (h : AHeap) (g : Nat → Value) (ms : List Nat) (Q : Post), ((List.range L).map at_).Nodup →
      (∀ (q : Nat) (b : Blk), (C (P.globals.size + ·) j)[q]? = some b → ∃ b₀ : Blk, (C at_ j)[q]? = some b₀ ∧ amapM (renV P.globals.size ((List.range L).map at_)) b₀.1 = some b.1 ∧ b.2 = b₀.2) →
      amapM (renV P.globals.size ((List.range L).map at_)) (V at_ j) = some (V (P.globals.size + ·) j) → Laid (C at_ j) at_ h → MarksOk j ms h → j ≤ R →
      (∀ g, J P body (stM n (ts.zip (V (P.globals.size + ·) j)) g (canM (P.globals.size + L) j)) (padT R j (canonT [] (fun _ => 0) P.globals.size (C (P.globals.size + ·) j))) Q) → J P body (stM n (ts.zip (V at_ j)) g ms) h Q := by
    intro at_ j h g ms Q hnd hcc hr hl hms hjR hq
    have at0 : ∀ (q i : Nat), ((List.range L).map at_)[q]? = some i → q < L ∧ i = at_ q := fun q i hi => by
      rw [List.getElem?_map] at hi
      obtain ⟨x, hx, rfl⟩ := Option.map_eq_some_iff.1 hi
      have hq : q < L := by simpa using (List.getElem?_eq_some_iff.1 hx).1
      rw [List.getElem?_range hq] at hx
      cases hx; exact ⟨hq, rfl⟩
    refine J.reheapM (es := fun _ => 0) (vs₂ := V (P.globals.size + ·) j) (B₀ := C at_ j) (B := C (P.globals.size + ·) j) (ids := (List.range L).map at_) hP hts hlt (by simp [hC]) hnd ?_ hms hjR hr ?_ (by rw [hC]; exact hq)
    · intro q i b hi hb
      obtain ⟨_, rfl⟩ := at0 q i hi
      obtain ⟨b₀, k0, k1, k2⟩ := hcc q b hb
      exact ⟨b₀, k0, hl q b₀ k0, k1, k2⟩
    · intro q i hi
      obtain ⟨hq, rfl⟩ := at0 q i hi
      rcases hn at_ j q hq with h1 | ⟨q', b₀, v, h1, h2, h3, h4⟩
      · exact .inl h1
      · refine .inr ⟨q', at_ q', b₀, v, h1, ?_, h2, h3, h4⟩
        rw [List.getElem?_map, List.getElem?_range (by omega)]
        rfl
  have key : ∀ (q : Nat) (at_ : Nat → Nat) (j : Nat) (a : AAct) (h : AHeap), ((at_ = at₀) ∨ at_ = (P.globals.size + ·)) → j ≤ m → q = m - j → I j → a.n = n → ts.map a.tmp = V at_ j → Laid (C at_ j) at_ h → MarksOk j a.marks h → J P (.loop body) a h (toldM n ts Out) := by
    intro q
    induction q with
    | zero =>
      intro at_ j a h hat hj hq hIj ha hv hl hms
      obtain rfl : j = m := by omega
      subst ha
      have hh : ((List.range L).map at_).Nodup ∧ (∀ (q : Nat) (b : Blk), (C (P.globals.size + ·) j)[q]? = some b → ∃ b₀ : Blk, (C at_ j)[q]? = some b₀ ∧ amapM (renV P.globals.size ((List.range L).map at_)) b₀.1 = some b.1 ∧ b.2 = b₀.2) ∧ amapM (renV P.globals.size ((List.range L).map at_)) (V at_ j) = some (V (P.globals.size + ·) j) := by
        rcases hat with rfl | rfl
        · exact ⟨hnd, hc₀ j, hr₀ j⟩
        · exact ⟨List.Pairwise.map _ (fun a b h e => h (by omega)) List.nodup_range, fun q b hb => ⟨b, hb, hc j q b hb, rfl⟩, hr j⟩
      obtain ⟨k1, k2, k3⟩ := hh
      refine J.loop (J.litM (ov (ts.zip (V at_ j)) a.tmp) (fun t _ => (ov_self (zip_facts hv) t).symm) rfl (round at_ j h a.tmp a.marks _ k1 k2 k3 hl hms hmR fun g' => (last hIj g').mono fun ex a' h' x => ?_))
      obtain ⟨q1, q2⟩ := toldM_facts x
      cases ex with
      | normal => exact q2.elim
      | _ => exact toldM_of q1 q2
    | succ q ih =>
      intro at_ j a h hat hj hq hIj ha hv hl hms
      have hjm : j < m := by omega
      subst ha
      have hh : ((List.range L).map at_).Nodup ∧ (∀ (q : Nat) (b : Blk), (C (P.globals.size + ·) j)[q]? = some b → ∃ b₀ : Blk, (C at_ j)[q]? = some b₀ ∧ amapM (renV P.globals.size ((List.range L).map at_)) b₀.1 = some b.1 ∧ b.2 = b₀.2) ∧ amapM (renV P.globals.size ((List.range L).map at_)) (V at_ j) = some (V (P.globals.size + ·) j) := by
        rcases hat with rfl | rfl
        · exact ⟨hnd, hc₀ j, hr₀ j⟩
        · exact ⟨List.Pairwise.map _ (fun a b h e => h (by omega)) List.nodup_range, fun q b hb => ⟨b, hb, hc j q b hb, rfl⟩, hr j⟩
      obtain ⟨k1, k2, k3⟩ := hh
      refine J.loop (J.litM (ov (ts.zip (V at_ j)) a.tmp) (fun t _ => (ov_self (zip_facts hv) t).symm) rfl (round at_ j h a.tmp a.marks _ k1 k2 k3 hl hms (by omega) fun g' => (step j hjm hIj g').mono fun ex a' h' x => ?_))
      obtain ⟨q1, q2⟩ := toldM_facts x
      cases ex with
      | normal => exact ih (P.globals.size + ·) (j + 1) a' h' (.inr rfl) (by omega) (by omega) q2.1 q1 q2.2.1 q2.2.2.1 q2.2.2.2
      | _ => exact toldM_of q1 q2
  intro a h hl ha hm hv
  exact key m at₀ 0 a h (.inl rfl) (Nat.zero_le _) rfl hI ha hv hl (by rw [hm]; exact ⟨rfl, List.nodup_nil, fun _ h => by cases h⟩)
/-! calls that end with marks -/
def finM (P : Program) (fn : Func) (K : Value → AHeap → Prop) : Post := fun e a h =>
  match e with
  | .normal => ∃ h'', shutMarks h a.marks = some h'' ∧ (match aresult P fn a h'' with
    | some v => K v h''
    | none => False)
  | .ret => ∃ h'', shutMarks h a.marks = some h'' ∧ (match aresult P fn a h'' with
    | some v => K v h''
    | none => False)
  | _ => False
theorem finM_facts {fn : Func} {K : Value → AHeap → Prop} {e : Exit} (hx : finM P fn K e a h) : (e = .normal ∨ e = .ret) ∧ ∃ h'' v, shutMarks h a.marks = some h'' ∧ aresult P fn a h'' = some v ∧ K v h'' := by
  unfold finM at hx
  split at hx
  · obtain ⟨h'', h1, h2⟩ := hx
    split at h2
    · rename_i v hv; exact ⟨.inl rfl, h'', v, h1, hv, h2⟩
    · exact h2.elim
  · obtain ⟨h'', h1, h2⟩ := hx
    split at h2
    · rename_i v hv; exact ⟨.inr rfl, h'', v, h1, hv, h2⟩
    · exact h2.elim
  · exact hx.elim
theorem CallJ.of_bodyM {f : FuncId} {args : Array Value} {K : Value → AHeap → Prop} {fn : Func} {c : Code} (hfn : P.funcs[f]? = some fn) (hb : fn.body = some c) (hsz : args.size ≤ fn.ntmps)
    (hj : J P c (enterAct fn.ntmps args.toList) h (finM P fn K)) : CallJ P f args h K := by
  intro ρ args' w H G hA
  refine callsIn_of_wp_marks hfn hb trivial ?_
  refine wpIn_mono (hj ρ { tmps := args' ++ Array.replicate (fn.ntmps - args'.size) Go.undef, defers := [] } w ⟨H, enter_rel hA hsz, ⟨rfl, fun i m d hm => by simp [enterAct] at hm⟩, G⟩).1 ?_
  rintro e' act' w' ⟨a', h', ρ', hfin, S, F⟩
  obtain ⟨he, h'', v, hsh, hv, hK⟩ := finM_facts hfin
  have : LeavesInM (fence none) 0 P fn act'.tmps (fun e w' => ∃ v v' h' ρ', e = .returned v' ∧ K v h' ∧ VRel ρ' v v' ∧ HRel ρ' h' w' ∧ Fr ρ h w ρ' h' w') act'.defers .returning w' := by
    refine leaves_ok a'.marks act'.defers ρ' h' w' h'' S.heap S.marks hsh fun ρ₂ w₂ H₂ A₂ => ?_
    obtain ⟨v', q1, q2⟩ := result_ok H₂ (S.tmps.mono (A₂ 0).le) hv
    exact ⟨v', q1, v, v', h'', ρ₂, rfl, hK, q2, H₂, F.trans (A₂ 0).fr⟩
  rcases he with rfl | rfl <;> exact this
theorem shut_all : ∀ (ms : List Nat) (h : AHeap), ms.Nodup → (∀ m ∈ ms, h.get m = some .defd) → ∃ h'', shutMarks h ms = some h'' ∧ ∀ i, i ∉ ms → h''.get i = h.get i
  | [], h, _, _ => ⟨h, rfl, fun _ _ => rfl⟩
  | m :: ms, h, hn, hd => by
    obtain ⟨n1, n2⟩ := List.nodup_cons.1 hn
    obtain ⟨h'', k1, k2⟩ := shut_all ms (h.set m .dead) n2 fun x hx => by
      rw [AHeap.get_set, if_neg (fun e => n1 (by rw [← e]; exact hx))]
      exact hd x (by simp [hx])
    refine ⟨h'', ?_, fun i hi => ?_⟩
    · show (match h.get m with | some .defd => shutMarks (h.set m .dead) ms | _ => none) = _
      rw [hd m (by simp)]
      exact k1
    · rw [k2 i (fun h => hi (by simp [h])), AHeap.get_set, if_neg (fun e => hi (by simp [e]))]
theorem J.of_toldM {n : Nat} {ts : List Nat} {c : Code} {Out : Exit → List Value → List Nat → AHeap → Prop} (hj : J P c a h (toldM n ts Out)) (hk : ∀ e vs ms h' g, Out e vs ms h' → k e (stM n (ts.zip vs) g ms) h') : J P c a h k := by
  intro ρ act w S
  refine (hj ρ act w S).mono ?_
  rintro e act' w' ⟨a', h', ρ', q, S', F⟩
  obtain ⟨q1, q2⟩ := toldM_facts q
  have hk' := hk e _ _ h' a'.tmp q2
  unfold stM at hk'
  rw [ov_funext (zip_facts rfl)] at hk'
  refine ⟨_, h', ρ', hk', S'.ext q1.symm rfl (fun t ht => ?_) fun t ht => ?_, F⟩
  · simp only [AAct.tmp, get_lit, if_pos (show t < n by omega), Option.getD_some]
  · simp only [AAct.tmp, get_lit, if_neg (show ¬ t < n by omega)]
    rfl
/-- What is asked of a call that may end with marks. -/
def callM (P : Program) (ex : Ex) (sy : Sy) (pc : Asks) (L : Loops P) (n : Nat) (f : FuncId) (args : Array Value) (h : AHeap) (K : Value → AHeap → Prop) : Prop :=
  match P.funcs[f]? with
  | some fn => match fn.body with
    | some c => match Nat.ble args.size fn.ntmps with
      | true => execC P ex sy pc L n c (enterAct fn.ntmps args.toList) h (finM P fn K)
      | false => False
    | none => False
  | none => False
theorem callM_ok {orc : Orc} (hm : P.follows .mixedOrders = true) (ho : OrcOk P orc) {m : Nat} {sy : Sy} {pc : Asks} (hpc : AsksOk orc pc) {L : Loops P} {n : Nat} {f : FuncId} {args : Array Value} {K : Value → AHeap → Prop} (hk : callM P (exec P orc m) sy pc L n f args h K) : CallJ P f args h K := by
  unfold callM at hk
  split at hk
  · rename_i fn hfn
    split at hk
    · rename_i c hc
      split at hk
      · rename_i hs
        exact CallJ.of_bodyM hfn hc (by simpa [Nat.ble_eq] using hs) (execC_ok hm ho hpc L hk)
      · exact hk.elim
    · exact hk.elim
  · exact hk.elim
end
end Go.Am
/-! (OWN WORK. 'Am': functions of two slices whose elements are told by lists, and of plain values behind them, as known calls.) -/
namespace Go.Am
noncomputable section
variable {α β : Type}
def fullB (N : Nat) (T : Tell α) (v : Value) (c : List Value) : Option (List α) := match v with
  | .slice (some ⟨i, 0, none⟩) n k => match Nat.beq i N && Nat.ble n k, T.dec c with
    | true, some l => match goodN n l.length with
      | true => some l
      | false => none
    | _, _ => none
  | _ => none
theorem fullB_some {N : Nat} {T : Tell α} {v : Value} {c : List Value} {l : List α} (h : fullB N T v c = some l) : ∃ m k, l.length = m + 1 ∧ m + 1 ≤ 65536 ∧ m + 1 ≤ k ∧ v = .slice (some ⟨N, 0, none⟩) (m + 1) k ∧ c = T.cells l := by
  unfold fullB at h
  split at h
  · rename_i i n k
    split at h
    · rename_i l₁ hb hd
      split at h
      · rename_i hg
        cases h
        obtain ⟨h0, h1, h2⟩ := goodN_iff.1 hg
        rw [Bool.and_eq_true, Nat.beq_eq, Nat.ble_eq] at hb
        obtain ⟨rfl, hk⟩ := hb
        obtain ⟨m, rfl⟩ : ∃ m, n = m + 1 := ⟨n - 1, by omega⟩
        exact ⟨m, k, h1, h2, hk, rfl, T.dec_some hd⟩
      · cases h
    · cases h
  · cases h
def fullP (N : Nat) (T : Tell α) (v : Value) (c : List Value) (K : List α → Prop) : Prop := match v with
  | .slice (some ⟨i, 0, none⟩) n k => Nat.beq i N = true ∧ Nat.ble n k = true ∧ ∃ l, c = T.cells l ∧ (0 < n ∧ l.length = n ∧ n ≤ 65536) ∧ K l
  | _ => False
theorem fullP_ok {N : Nat} {T : Tell α} {v : Value} {c : List Value} {K : List α → Prop} (h : fullP N T v c K) : ∃ l, fullB N T v c = some l ∧ K l := by
  unfold fullP at h
  split at h
  · obtain ⟨h1, h2, l, rfl, hg, hk⟩ := h
    refine ⟨l, ?_, hk⟩
    simp only [fullB, h1, h2, T.dec_cells, goodN_iff.2 hg, Bool.and_self]
  · exact h.elim
def isE (v : Value) : Bool := match v with
  | .slice none 0 0 => true
  | .slice (some ⟨0, 0, none⟩) 0 _ => true
  | _ => false
/-- No elements: nil, or a slice of a dead block. -/
def NoEl (v : Value) : Prop := v = .slice none 0 0 ∨ ∃ k, v = .slice (some ⟨0, 0, none⟩) 0 k
theorem isE_some {v : Value} (h : isE v = true) : NoEl v := by
  unfold isE at h
  split at h
  · exact .inl rfl
  · exact .inr ⟨_, rfl⟩
  · cases h
def twoX (N : Nat) (T : Tell α) (U : Tell β) (X : List α → List β → List Value → Option Out) (vs : List Value) (B : List Cells) : Option Out := match vs with
  | a :: b :: r => match B with
    | [] => match isE a && isE b with
      | true => X [] [] r
      | false => none
    | [(c, _, _)] => match isE a with
      | true => match fullB N U b c with
        | some l => X [] l r
        | none => none
      | false => match isE b with
        | true => match fullB N T a c with
          | some l => X l [] r
          | none => none
        | false => none
    | [(c, _, _), (c', _, _)] => match fullB N T a c, fullB (N + 1) U b c' with
      | some l, some l' => X l l' r
      | _, _ => none
    | _ => none
  | _ => none
def twoY (N : Nat) (T : Tell α) (U : Tell β) (Y : List α → List β → List Value → (Out → Prop) → Prop) (vs : List Value) (B : List Cells) (K : Out → Prop) : Prop := match vs with
  | a :: b :: r => match B with
    | [] => match isE a && isE b with
      | true => Y [] [] r K
      | false => False
    | [(c, _, _)] => match isE a with
      | true => fullP N U b c fun l => Y [] l r K
      | false => match isE b with
        | true => fullP N T a c fun l => Y l [] r K
        | false => False
    | [(c, _, _), (c', _, _)] => fullP N T a c fun l => fullP (N + 1) U b c' fun l' => Y l l' r K
    | _ => False
  | _ => False
theorem twoY_ok {N : Nat} {T : Tell α} {U : Tell β} {X : List α → List β → List Value → Option Out} {Y : List α → List β → List Value → (Out → Prop) → Prop} (hY : ∀ l l' r K, Y l l' r K → ∃ o, X l l' r = some o ∧ K o) (vs : List Value) (B : List Cells) (K : Out → Prop) (h : twoY N T U Y vs B K) : ∃ o, twoX N T U X vs B = some o ∧ K o := by
  unfold twoY at h
  split at h
  · rename_i a b r
    split at h
    · split at h
      · rename_i he
        obtain ⟨o, h1, h2⟩ := hY _ _ _ _ h
        exact ⟨o, by simp only [twoX, he]; exact h1, h2⟩
      · exact h.elim
    · rename_i c e row
      split at h
      · rename_i he
        obtain ⟨l, h0, h⟩ := fullP_ok h
        obtain ⟨o, h1, h2⟩ := hY _ _ _ _ h
        exact ⟨o, by simp only [twoX, he, h0]; exact h1, h2⟩
      · rename_i he
        split at h
        · rename_i he'
          obtain ⟨l, h0, h⟩ := fullP_ok h
          obtain ⟨o, h1, h2⟩ := hY _ _ _ _ h
          exact ⟨o, by simp only [twoX, he, he', h0]; exact h1, h2⟩
        · exact h.elim
    · obtain ⟨l, h0, h⟩ := fullP_ok h
      obtain ⟨l', h0', h⟩ := fullP_ok h
      obtain ⟨o, h1, h2⟩ := hY _ _ _ _ h
      exact ⟨o, by simp only [twoX, h0, h0']; exact h1, h2⟩
    · exact h.elim
  · exact h.elim
/-- The calls of a function of two such slices. -/
def twoO (N : Nat) (T : Tell α) (U : Tell β) (X : List α → List β → List Value → Option Out) : Array Value → AHeap → Option (Value × AHeap) := anyO N (twoX N T U X)
def asks2 (N : Nat) (f : FuncId) (T : Tell α) (U : Tell β) (Y : List α → List β → List Value → (Out → Prop) → Prop) (A : Asks) : Asks := asksV N f (twoY N T U Y) A
theorem asks2_ok {N : Nat} {f : FuncId} {T : Tell α} {U : Tell β} {X : List α → List β → List Value → Option Out} {Y : List α → List β → List Value → (Out → Prop) → Prop} (hY : ∀ l l' r K, Y l l' r K → ∃ o, X l l' r = some o ∧ K o) {orc : Orc} {A : Asks} (hA : AsksOk orc A) : AsksOk (orElse f (twoO N T U X) orc) (asks2 N f T U Y A) :=
  asksV_ok (twoY_ok hY) hA
theorem twoO_ok {P : Program} {f : FuncId} {T : Tell α} {U : Tell β} {X : List α → List β → List Value → Option Out} {orc : Orc} (hP : 0 < P.globals.size) (ho : OrcOk P orc)
    (hok : ∀ l l' r o, X l l' r = some o → o.Ok)
    (hee : ∀ r o a b, X [] [] r = some o → NoEl a → NoEl b → CallJ P f (a :: b :: r).toArray (canon P []) o.Got)
    (hef : ∀ l' r o a m k e row, X [] l' r = some o → NoEl a → l'.length = m + 1 → m + 1 ≤ 65536 → m + 1 ≤ k → CallJ P f (a :: .slice (some ⟨P.globals.size, 0, none⟩) (m + 1) k :: r).toArray (canon P [(U.cells l', e, row)]) o.Got)
    (hfe : ∀ l r o b m k e row, X l [] r = some o → NoEl b → l.length = m + 1 → m + 1 ≤ 65536 → m + 1 ≤ k → CallJ P f (.slice (some ⟨P.globals.size, 0, none⟩) (m + 1) k :: b :: r).toArray (canon P [(T.cells l, e, row)]) o.Got)
    (hff : ∀ l l' r o m k m' k' e row e' row', X l l' r = some o → l.length = m + 1 → m + 1 ≤ 65536 → m + 1 ≤ k → l'.length = m' + 1 → m' + 1 ≤ 65536 → m' + 1 ≤ k' →
      CallJ P f (.slice (some ⟨P.globals.size, 0, none⟩) (m + 1) k :: .slice (some ⟨P.globals.size + 1, 0, none⟩) (m' + 1) k' :: r).toArray (canon P [(T.cells l, e, row), (U.cells l', e', row')]) o.Got) : OrcOk P (orElse f (twoO P.globals.size T U X) orc) := by
  refine anyO_ok hP ho fun vs B o h _ => ?_
  unfold twoX at h
  split at h
  · rename_i a b r
    split at h
    · split at h
      · rename_i he
        rw [Bool.and_eq_true] at he
        exact ⟨hok _ _ _ _ h, hee _ _ _ _ h (isE_some he.1) (isE_some he.2)⟩
      · cases h
    · rename_i c e row
      split at h
      · rename_i he
        split at h
        · rename_i l hl
          obtain ⟨m, k, h1, h2, h3, rfl, rfl⟩ := fullB_some hl
          exact ⟨hok _ _ _ _ h, hef _ _ _ _ _ _ _ _ h (isE_some he) h1 h2 h3⟩
        · cases h
      · split at h
        · rename_i he'
          split at h
          · rename_i l hl
            obtain ⟨m, k, h1, h2, h3, rfl, rfl⟩ := fullB_some hl
            exact ⟨hok _ _ _ _ h, hfe _ _ _ _ _ _ _ _ h (isE_some he') h1 h2 h3⟩
          · cases h
        · cases h
    · rename_i c e row c' e' row'
      split at h
      · rename_i l l' hl hl'
        obtain ⟨m, k, h1, h2, h3, rfl, rfl⟩ := fullB_some hl
        obtain ⟨m', k', h1', h2', h3', rfl, rfl⟩ := fullB_some hl'
        exact ⟨hok _ _ _ _ h, hff _ _ _ _ _ _ _ _ _ _ _ _ h h1 h2 h3 h1' h2' h3'⟩
      · cases h
    · cases h
  · cases h
end
end Go.Am
