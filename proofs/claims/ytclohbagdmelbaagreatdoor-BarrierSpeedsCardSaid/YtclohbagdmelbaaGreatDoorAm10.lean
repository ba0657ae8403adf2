/-
  OWN WORK. 'Am': loops that append to a slice which is empty at first.
-/
import Derived.Test.YtclohbagdmelbaaGreatDoorAm9
namespace Go.Am
section
variable {P : Program}
noncomputable abbrev gH1 (P : Program) (src : List Value) (e row : Nat) : AHeap := canonT [] (fun _ => 0) P.globals.size [(src, e, row, true)]
noncomputable abbrev gH2 (P : Program) (src : List Value) (e row : Nat) (c : List Value) (el : Nat) : AHeap := canonT [] (fun _ => 0) P.globals.size [(src, e, row, true), (c, el, 2, false)]
theorem gH1_src (src : List Value) (e row : Nat) : (gH1 P src e row).get P.globals.size = some (.cells src e row true) := by
  rw [canonT_get (T := []) rfl, if_pos (Nat.le_refl _), Nat.sub_self]; rfl
theorem gH1_n (src : List Value) (e row : Nat) : (gH1 P src e row).n = P.globals.size + 1 := canonT_n (T := []) rfl _
theorem gH2_src (src : List Value) (e row : Nat) (c : List Value) (el : Nat) : (gH2 P src e row c el).get P.globals.size = some (.cells src e row true) := by
  rw [canonT_get (T := []) rfl, if_pos (Nat.le_refl _), Nat.sub_self]; rfl
theorem gH2_dst (src : List Value) (e row : Nat) (c : List Value) (el : Nat) : (gH2 P src e row c el).get (P.globals.size + 1) = some (.cells c el 2 false) := by
  rw [canonT_get (T := []) rfl, if_pos (Nat.le_succ _), show P.globals.size + 1 - P.globals.size = 1 by omega]; rfl
theorem gH2_n (src : List Value) (e row : Nat) (c : List Value) (el : Nat) : (gH2 P src e row c el).n = P.globals.size + 2 := canonT_n (T := []) rfl _
/-- The state after j rounds: nothing was appended yet, or there is a block of its own. -/
def Grown (P : Program) (src : List Value) (e row el : Nat) (V : Nat → Value → List Value) (xs : Nat → List Value) (j : Nat) (vs : List Value) (h : AHeap) : Prop :=
  h.get P.globals.size = some (.cells src e row true) ∧
    ((xs j = [] ∧ vs = V j (.slice none 0 0)) ∨ ∃ b, (b = P.globals.size + 1 ∨ b = P.globals.size + 2 ∨ b = P.globals.size + 3) ∧ xs j ≠ [] ∧ vs = V j (.slice (some ⟨b, 0, none⟩) (xs j).length (xs j).length) ∧ h.get b = some (.cells (xs j) el 2 false))
theorem grow_rule {n : Nat} {ts : List Nat} {body : Code} {src : List Value} {e row el : Nat} (hP : 0 < P.globals.size) (hts : ts.Nodup) (hlt : ∀ t ∈ ts, t < n) (hsf : src.all (flat 3) = true)
    (V : Nat → Value → List Value) (xs : Nat → List Value) (m : Nat) (Out : Exit → List Value → AHeap → Prop) (hxf : ∀ j, (xs j).all (flat 3) = true)
    (hr0 : ∀ j, amapM (renV P.globals.size [P.globals.size]) (V j (.slice none 0 0)) = some (V j (.slice none 0 0)))
    (hr : ∀ j b q, (b = P.globals.size + 1 ∨ b = P.globals.size + 2 ∨ b = P.globals.size + 3) → amapM (renV P.globals.size [P.globals.size, b]) (V j (.slice (some ⟨b, 0, none⟩) q q)) = some (V j (.slice (some ⟨P.globals.size + 1, 0, none⟩) q q)))
    (hn0 : ∀ j s, ∃ x ∈ ts.zip (V j s), P.globals.size ∈ named x.2) (hn1 : ∀ j b q, ∃ x ∈ ts.zip (V j (.slice (some ⟨b, 0, none⟩) q q)), b ∈ named x.2)
    (stepN : ∀ j, j < m → xs j = [] → ∀ g, J P body (stOf n (ts.zip (V j (.slice none 0 0))) g) (gH1 P src e row) (told n ts fun ex vs h => match ex with
      | .normal => Grown P src e row el V xs (j + 1) vs h
      | ex => Out ex vs h))
    (stepS : ∀ j, j < m → xs j ≠ [] → ∀ g, J P body (stOf n (ts.zip (V j (.slice (some ⟨P.globals.size + 1, 0, none⟩) (xs j).length (xs j).length))) g) (gH2 P src e row (xs j) el) (told n ts fun ex vs h => match ex with
      | .normal => Grown P src e row el V xs (j + 1) vs h
      | ex => Out ex vs h))
    (endN : xs m = [] → ∀ g, J P body (stOf n (ts.zip (V m (.slice none 0 0))) g) (gH1 P src e row) (told n ts fun ex vs h => match ex with
      | .normal => False
      | ex => Out ex vs h))
    (endS : xs m ≠ [] → ∀ g, J P body (stOf n (ts.zip (V m (.slice (some ⟨P.globals.size + 1, 0, none⟩) (xs m).length (xs m).length))) g) (gH2 P src e row (xs m) el) (told n ts fun ex vs h => match ex with
      | .normal => False
      | ex => Out ex vs h)) :
    ∀ a h, Grown P src e row el V xs 0 (ts.map a.tmp) h → a.n = n → a.marks = [] → J P (.loop body) a h (told n ts Out) := by
  intro a h hi ha hm
  refine loop_rule (fun q vs h => ∃ j, j ≤ m ∧ q = m - j ∧ Grown P src e row el V xs j vs h) Out ?_ m _ h a ⟨0, Nat.zero_le _, rfl, hi⟩ ha hm rfl
  rintro q vs h g ⟨j, hj, rfl, hs, ⟨hx, rfl⟩ | ⟨b, hb, hx, rfl, hd⟩⟩
  · refine J.reheap (es := fun _ => 0) (vs₂ := V j (.slice none 0 0)) (B := [(src, e, row, true)]) (ids := [P.globals.size]) hP hts hlt rfl (by simp) (by simp) ?_ (hr0 j) ?_ fun g' => ?_
    · intro q b' i hb hi
      match q, hb, hi with
      | 0, hb, hi => cases hb; cases hi; exact ⟨hs, hsf⟩
    · intro i hi
      simp only [List.mem_cons, List.not_mem_nil, or_false] at hi
      subst hi
      exact hn0 j _
    · by_cases hjm : j < m
      · refine (stepN j hjm hx g').mono fun ex a' h' q => ?_
        obtain ⟨q1, q2, q3⟩ := told_facts q
        simp only [told, q1, q2]
        cases ex with
        | normal => exact (by simpa using ⟨m - (j + 1), by omega, j + 1, by omega, rfl, q3⟩)
        | _ => simpa using q3
      · obtain rfl : j = m := by omega
        refine (endN hx g').mono fun ex a' h' q => ?_
        obtain ⟨q1, q2, q3⟩ := told_facts q
        simp only [told, q1, q2]
        cases ex with
        | normal => exact q3.elim
        | _ => simpa using q3
  · have hne : b ≠ P.globals.size := by rcases hb with rfl | rfl | rfl <;> omega
    refine J.reheap (es := fun _ => 0) (vs₂ := V j (.slice (some ⟨P.globals.size + 1, 0, none⟩) (xs j).length (xs j).length)) (B := [(src, e, row, true), (xs j, el, 2, false)]) (ids := [P.globals.size, b]) hP hts hlt rfl (List.nodup_cons.2 ⟨fun h => hne (List.mem_singleton.1 h).symm, List.nodup_cons.2 ⟨List.not_mem_nil, List.nodup_nil⟩⟩) (fun i hi => by
      simp only [List.mem_cons, List.not_mem_nil, or_false] at hi
      rcases hi with rfl | rfl
      · exact Nat.le_refl _
      · rcases hb with rfl | rfl | rfl <;> omega) ?_ (hr j b _ hb) ?_ fun g' => ?_
    · intro q b' i hb hi
      match q, hb, hi with
      | 0, hb, hi => cases hb; cases hi; exact ⟨hs, hsf⟩
      | 1, hb, hi => cases hb; cases hi; exact ⟨hd, hxf j⟩
    · intro i hi
      simp only [List.mem_cons, List.not_mem_nil, or_false] at hi
      rcases hi with rfl | rfl
      · exact hn0 j _
      · exact hn1 j _ _
    · by_cases hjm : j < m
      · refine (stepS j hjm hx g').mono fun ex a' h' q => ?_
        obtain ⟨q1, q2, q3⟩ := told_facts q
        simp only [told, q1, q2]
        cases ex with
        | normal => exact (by simpa using ⟨m - (j + 1), by omega, j + 1, by omega, rfl, q3⟩)
        | _ => simpa using q3
      · obtain rfl : j = m := by omega
        refine (endS hx g').mono fun ex a' h' q => ?_
        obtain ⟨q1, q2, q3⟩ := told_facts q
        simp only [told, q1, q2]
        cases ex with
        | normal => exact q3.elim
        | _ => simpa using q3
/-- As Grown, with blocks C that stay as they are, the first ones. -/
def GrownC (P : Program) (C : List Blk) (el : Nat) (V : Nat → Value → List Value) (xs : Nat → List Value) (j : Nat) (vs : List Value) (h : AHeap) : Prop :=
  (∀ (q : Nat) b, C[q]? = some b → h.get (P.globals.size + q) = some (.cells b.1 b.2.1 b.2.2.1 b.2.2.2)) ∧
    ((xs j = [] ∧ vs = V j (.slice none 0 0)) ∨ ∃ b d, b = P.globals.size + C.length + d ∧ d ≤ 3 ∧ xs j ≠ [] ∧ vs = V j (.slice (some ⟨b, 0, none⟩) (xs j).length (xs j).length) ∧ h.get b = some (.cells (xs j) el 2 false))
noncomputable abbrev gC (P : Program) (C : List Blk) : AHeap := canonT [] (fun _ => 0) P.globals.size C
noncomputable abbrev gD (P : Program) (C : List Blk) (c : List Value) (el : Nat) : AHeap := canonT [] (fun _ => 0) P.globals.size (C ++ [(c, el, 2, false)])
theorem gC_get {C : List Blk} {q : Nat} {b : Blk} (hb : C[q]? = some b) : (gC P C).get (P.globals.size + q) = some (.cells b.1 b.2.1 b.2.2.1 b.2.2.2) := by
  rw [canonT_get (T := []) rfl, if_pos (by omega), show P.globals.size + q - P.globals.size = q by omega, hb]; rfl
theorem gD_get {C : List Blk} {q : Nat} {b : Blk} {c : List Value} {el : Nat} (hb : C[q]? = some b) : (gD P C c el).get (P.globals.size + q) = some (.cells b.1 b.2.1 b.2.2.1 b.2.2.2) :=
  gC_get (by rw [List.getElem?_append_left (List.getElem?_eq_some_iff.1 hb).1]; exact hb)
theorem gD_dst {C : List Blk} {c : List Value} {el : Nat} : (gD P C c el).get (P.globals.size + C.length) = some (.cells c el 2 false) :=
  gC_get (b := (c, el, 2, false)) (by simp)
theorem growC_rule {n : Nat} {ts : List Nat} {body : Code} {C : List Blk} {el : Nat} (hP : 0 < P.globals.size) (hts : ts.Nodup) (hlt : ∀ t ∈ ts, t < n) (hsf : ∀ b ∈ C, b.1.all (flat 3) = true)
    (V : Nat → Value → List Value) (xs : Nat → List Value) (m : Nat) (Out : Exit → List Value → AHeap → Prop) (hxf : ∀ j, (xs j).all (flat 3) = true)
    (hr0 : ∀ j, amapM (renV P.globals.size ((List.range C.length).map (P.globals.size + ·))) (V j (.slice none 0 0)) = some (V j (.slice none 0 0)))
    (hr : ∀ j q d, d ≤ 3 → amapM (renV P.globals.size ((List.range C.length).map (P.globals.size + ·) ++ [P.globals.size + C.length + d])) (V j (.slice (some ⟨P.globals.size + C.length + d, 0, none⟩) q q)) = some (V j (.slice (some ⟨P.globals.size + C.length, 0, none⟩) q q)))
    (hn0 : ∀ j s (q : Nat), q < C.length → ∃ x ∈ ts.zip (V j s), P.globals.size + q ∈ named x.2) (hn1 : ∀ j b q, ∃ x ∈ ts.zip (V j (.slice (some ⟨b, 0, none⟩) q q)), b ∈ named x.2)
    (stepN : ∀ j, j < m → xs j = [] → ∀ g, J P body (stOf n (ts.zip (V j (.slice none 0 0))) g) (gC P C) (told n ts fun ex vs h => match ex with
      | .normal => GrownC P C el V xs (j + 1) vs h
      | ex => Out ex vs h))
    (stepS : ∀ j, j < m → xs j ≠ [] → ∀ g, J P body (stOf n (ts.zip (V j (.slice (some ⟨P.globals.size + C.length, 0, none⟩) (xs j).length (xs j).length))) g) (gD P C (xs j) el) (told n ts fun ex vs h => match ex with
      | .normal => GrownC P C el V xs (j + 1) vs h
      | ex => Out ex vs h))
    (endN : xs m = [] → ∀ g, J P body (stOf n (ts.zip (V m (.slice none 0 0))) g) (gC P C) (told n ts fun ex vs h => match ex with
      | .normal => False
      | ex => Out ex vs h))
    (endS : xs m ≠ [] → ∀ g, J P body (stOf n (ts.zip (V m (.slice (some ⟨P.globals.size + C.length, 0, none⟩) (xs m).length (xs m).length))) g) (gD P C (xs m) el) (told n ts fun ex vs h => match ex with
      | .normal => False
      | ex => Out ex vs h)) :
    ∀ a h, GrownC P C el V xs 0 (ts.map a.tmp) h → a.n = n → a.marks = [] → J P (.loop body) a h (told n ts Out) := by
  intro a h hi ha hm
  have at0 : ∀ (q i : Nat), ((List.range C.length).map (P.globals.size + ·))[q]? = some i → i = P.globals.size + q := fun q i hi => by
    rw [List.getElem?_map] at hi
    obtain ⟨x, hx, rfl⟩ := Option.map_eq_some_iff.1 hi
    rw [List.getElem?_range (by simpa using (List.getElem?_eq_some_iff.1 hx).1)] at hx
    cases hx; rfl
  have mem0 : ∀ i, i ∈ (List.range C.length).map (P.globals.size + ·) → ∃ q, q < C.length ∧ i = P.globals.size + q := fun i hi => by
    obtain ⟨q, hq, rfl⟩ := List.mem_map.1 hi
    exact ⟨q, by simpa using hq, rfl⟩
  have nod : ((List.range C.length).map (P.globals.size + ·)).Nodup := List.Pairwise.map _ (fun a b h e => h (by omega)) List.nodup_range
  refine loop_rule (fun q vs h => ∃ j, j ≤ m ∧ q = m - j ∧ GrownC P C el V xs j vs h) Out ?_ m _ h a ⟨0, Nat.zero_le _, rfl, hi⟩ ha hm rfl
  rintro q vs h g ⟨j, hj, rfl, hs, ⟨hx, rfl⟩ | ⟨b, d, rfl, hd3, hx, rfl, hd⟩⟩
  · refine J.reheap (es := fun _ => 0) (vs₂ := V j (.slice none 0 0)) (B := C) (ids := (List.range C.length).map (P.globals.size + ·)) hP hts hlt (by simp) nod (fun i hi => by obtain ⟨q, _, rfl⟩ := mem0 i hi; omega) ?_ (hr0 j) ?_ fun g' => ?_
    · intro q b' i hb hi
      obtain rfl := at0 q i hi
      exact ⟨hs q b' hb, hsf b' (List.mem_of_getElem? hb)⟩
    · intro i hi
      obtain ⟨q, hq, rfl⟩ := mem0 i hi
      exact hn0 j _ q hq
    · by_cases hjm : j < m
      · refine (stepN j hjm hx g').mono fun ex a' h' q => ?_
        obtain ⟨q1, q2, q3⟩ := told_facts q
        simp only [told, q1, q2]
        cases ex with
        | normal => exact (by simpa using ⟨m - (j + 1), by omega, j + 1, by omega, rfl, q3⟩)
        | _ => simpa using q3
      · obtain rfl : j = m := by omega
        refine (endN hx g').mono fun ex a' h' q => ?_
        obtain ⟨q1, q2, q3⟩ := told_facts q
        simp only [told, q1, q2]
        cases ex with
        | normal => exact q3.elim
        | _ => simpa using q3
  · refine J.reheap (es := fun _ => 0) (vs₂ := V j (.slice (some ⟨P.globals.size + C.length, 0, none⟩) (xs j).length (xs j).length)) (B := C ++ [(xs j, el, 2, false)]) (ids := (List.range C.length).map (P.globals.size + ·) ++ [P.globals.size + C.length + d]) hP hts hlt (by simp) ?_ (fun i hi => by
      rcases List.mem_append.1 hi with hi | hi
      · obtain ⟨q, _, rfl⟩ := mem0 i hi; omega
      · have := List.mem_singleton.1 hi; omega) ?_ (hr j _ d hd3) ?_ fun g' => ?_
    · rw [List.nodup_append]
      refine ⟨nod, by simp, fun x hx y hy e => ?_⟩
      obtain ⟨q, hq, rfl⟩ := mem0 x hx
      have := List.mem_singleton.1 hy
      omega
    · intro q b' i hb hi
      by_cases hq : q < C.length
      · rw [List.getElem?_append_left hq] at hb
        rw [List.getElem?_append_left (by simpa using hq)] at hi
        obtain rfl := at0 q i hi
        exact ⟨hs q b' hb, hsf b' (List.mem_of_getElem? hb)⟩
      · rw [List.getElem?_append_right (by omega)] at hb
        rw [List.getElem?_append_right (by simpa using Nat.le_of_not_lt hq)] at hi
        simp only [List.length_map, List.length_range] at hi
        match hqq : q - C.length, hb, hi with
        | 0, hb, hi => cases hb; cases hi; exact ⟨hd, hxf j⟩
    · intro i hi
      rcases List.mem_append.1 hi with hi | hi
      · obtain ⟨q, hq, rfl⟩ := mem0 i hi
        exact hn0 j _ q hq
      · obtain rfl := List.mem_singleton.1 hi
        exact hn1 j _ _
    · by_cases hjm : j < m
      · refine (stepS j hjm hx g').mono fun ex a' h' q => ?_
        obtain ⟨q1, q2, q3⟩ := told_facts q
        simp only [told, q1, q2]
        cases ex with
        | normal => exact (by simpa using ⟨m - (j + 1), by omega, j + 1, by omega, rfl, q3⟩)
        | _ => simpa using q3
      · obtain rfl : j = m := by omega
        refine (endS hx g').mono fun ex a' h' q => ?_
        obtain ⟨q1, q2, q3⟩ := told_facts q
        simp only [told, q1, q2]
        cases ex with
        | normal => exact q3.elim
        | _ => simpa using q3
/-- Behind some code, the blocks that some of its temporaries name, under new numbers. -/
theorem J.of_toldR {a : AAct} {h : AHeap} {k : Post} {n : Nat} {ts : List Nat} {c : Code} {Out : Exit → List Value → AHeap → Prop} (hP : 0 < P.globals.size) (hj : J P c a h (told n ts Out))
    (hk : ∀ e vs h', Out e vs h' → ∃ (ts' : List Nat) (vs' vs₂ : List Value) (B : List Blk) (ids : List Nat), (∀ x ∈ ts'.zip vs', x ∈ ts.zip vs) ∧ ids.length = B.length ∧ ids.Nodup ∧ (∀ i ∈ ids, P.globals.size ≤ i) ∧
      (∀ (j : Nat) b i, B[j]? = some b → ids[j]? = some i → h'.get i = some (.cells b.1 b.2.1 b.2.2.1 b.2.2.2) ∧ b.1.all (flat 3) = true) ∧ amapM (renV P.globals.size ids) vs' = some vs₂ ∧ (∀ i ∈ ids, ∃ x ∈ ts'.zip vs', i ∈ named x.2) ∧
      ∀ g, k e (stOf n (ts'.zip vs₂) g) (canonT [] (fun _ => 0) P.globals.size B)) : J P c a h k := by
  refine J.to_view (hj.mono fun e a' h' q => ?_)
  obtain ⟨q1, q2, q3⟩ := told_facts q
  obtain ⟨ts', vs', vs₂, B, ids, sub, hl, hn, hge, hB, hv, hm, hk⟩ := hk _ _ _ q3
  have V : View P h' (canonT [] (typesOf h') P.globals.size B) (preT P.globals.size [] ids) := view_canonT (T := []) rfl rfl hl hn hge hB
  have ce : canonT [] (typesOf h') P.globals.size B = canonT [] (fun _ => 0) P.globals.size B := by
    unfold canonT
    rfl
  rw [ce] at V
  have at' : ∀ x ∈ ts'.zip vs', a'.tmp x.1 = x.2 := fun x hx => zip_facts rfl x (sub x hx)
  refine ⟨_, _, ts'.zip vs₂, 0, V, ?_, ?_, q2, ?_, ?_, fun g => q1 ▸ hk g⟩
  · rw [canonT_n (T := []) rfl]; omega
  · simp only [preT]
    rw [if_neg (by omega)]
    rfl
  · intro x hx
    obtain ⟨v, h1, h2⟩ := zip_at hv hx
    rw [at' _ h1]
    exact renV_spec (T := []) h2
  · intro j i e
    simp only [preT] at e
    split at e
    · obtain ⟨x, hx, hi⟩ := hm i (List.mem_of_getElem? e)
      exact .inr ⟨x.1, by rw [at' _ hx]; exact named_spec hi⟩
    · simp at e
theorem AHeap.get_push_ne {h : AHeap} {o : AObj} {j : Nat} (hn : Nat.beq j h.n = false) : (h.push o).get j = h.get j := by
  rw [AHeap.get_push, if_neg (fun e => by rw [e] at hn; simp at hn)]
theorem AHeap.get_push_eq {h : AHeap} {o : AObj} {j : Nat} (hn : Nat.beq j h.n = true) : (h.push o).get j = some o := by
  rw [AHeap.get_push, if_pos (Nat.eq_of_beq_eq_true hn)]
theorem AHeap.get_set_neB {h : AHeap} {o : AObj} {i j : Nat} (hn : Nat.beq j i = false) : (h.set i o).get j = h.get j := by
  rw [AHeap.get_set, if_neg (fun e => by rw [e] at hn; simp at hn)]
theorem AHeap.get_set_eqB {h : AHeap} {o : AObj} {i j : Nat} (hn : Nat.beq j i = true) : (h.set i o).get j = some o := by
  rw [AHeap.get_set, if_pos (Nat.eq_of_beq_eq_true hn)]
/-- As asksG, for slices that are empty, whatever they name. -/
noncomputable def asksE {α : Type} (f : FuncId) (Y : List α → List Value → (Out → Prop) → Prop) (A : Asks) : Asks := fun f' args h k => match Nat.beq f f' with
  | true => match args.toList with
    | .slice none n xk :: r => match r.all plainB with
      | true => n = 0 ∧ xk = 0 ∧ Y [] r fun o => o.kont h k
      | false => False
    | .slice (some _) n _ :: r => match r.all plainB with
      | true => n = 0 ∧ Y [] r fun o => o.kont h k
      | false => False
    | _ => False
  | false => A f' args h k
theorem asksE_ok {α : Type} {f : FuncId} {d : Value → Option α} {B : Nat} {offs : Bool} {X : List α → List Value → Option Out} {Y : List α → List Value → (Out → Prop) → Prop} (hY : ∀ l r K, Y l r K → ∃ o, X l r = some o ∧ K o) {A : Asks} {orc : Orc} (hA : AsksOk orc A) : AsksOk (orElse f (genO d B offs X) orc) (asksE f Y A) := by
  intro f' args h k hk
  unfold asksE at hk
  split at hk
  · rename_i hf
    split at hk
    · rename_i n xk r hargs
      split at hk
      · rename_i hr
        obtain ⟨rfl, rfl, hk⟩ := hk
        obtain ⟨o, hX, hq⟩ := hY _ _ _ hk
        rw [o.kont_iff] at hq
        refine ⟨_, _, ?_, hq⟩
        have hS : genO d B offs X args h = some (o.val h.n, o.heap h) := by
          unfold genO
          rw [hargs]
          simp only [hr, hX]
        simp only [orElse, hf, hS]
      · exact hk.elim
    · rename_i x n xk r hargs
      split at hk
      · rename_i hr
        obtain ⟨rfl, hk⟩ := hk
        obtain ⟨o, hX, hq⟩ := hY _ _ _ hk
        rw [o.kont_iff] at hq
        refine ⟨_, _, ?_, hq⟩
        have hS : genO d B offs X args h = some (o.val h.n, o.heap h) := by
          unfold genO
          rw [hargs]
          simp only [hr, hX]
        simp only [orElse, hf, hS]
      · exact hk.elim
    · exact hk.elim
  · rename_i hf
    obtain ⟨v, h', e, q⟩ := hA f' args h k hk
    exact ⟨v, h', by simp only [orElse, hf, e], q⟩
end
end Go.Am
