/-
  OWN WORK. 'Am': functions that read one slice, or copy one; smaller views; loops of appends.
-/
import Derived.Test.YtihnnmejkpddeaaGreatDoorAm5
/-! (OWN WORK. 'Am': functions that only read one slice, and return something plain: known calls, and what is asked of them where the slice is not known.) -/
namespace Go.Am
noncomputable section
/-- A list, by its elements. -/
def decs {α : Type} (d : Value → Option α) : List Value → Option (List α)
  | [] => some []
  | v :: r => match d v with
    | some x => (decs d r).map (x :: ·)
    | none => none
theorem decs_map {α : Type} {d : Value → Option α} {e : α → Value} (hd : ∀ x, d (e x) = some x) : ∀ l : List α, decs d (l.map e) = some l
  | [] => rfl
  | x :: l => by simp only [List.map_cons, decs, hd, decs_map hd l, Option.map_some]
theorem decs_some {α : Type} {d : Value → Option α} {e : α → Value} (hd : ∀ v x, d v = some x → v = e x) : ∀ {c : List Value} {l : List α}, decs d c = some l → c = l.map e
  | [], l, h => by cases h; rfl
  | v :: c, l, h => by
    unfold decs at h
    split at h
    · rename_i x hx
      obtain ⟨l', hl, rfl⟩ := Option.map_eq_some_iff.1 h
      rw [hd v x hx, decs_some hd hl]
      rfl
    · cases h
def plainB (v : Value) : Bool := match v with
  | .func (.func _) a b => a.isEmpty && b.isEmpty
  | v => flat 3 v
/-- The calls of a function of a slice (and of plain values behind it). -/
def sliceO {α : Type} (d : Value → Option α) (B : Nat) (T : List Value → Bool) (R : List α → List Value → Value) : Array Value → AHeap → Option (Value × AHeap) := fun args h => match args.toList with
  | .slice none 0 0 :: r => match r.all plainB && T r with
    | true => some (R [] r, h)
    | false => none
  | .slice (some _) 0 _ :: r => match r.all plainB && T r with
    | true => some (R [] r, h)
    | false => none
  | .slice (some ⟨i, 0, none⟩) (m + 1) k :: r => match h.get i with
    | some (.cells c _ _ _) => match decs d c with
      | some l => match Nat.ble (m + 1) l.length && Nat.ble (m + 1) B && Nat.ble (m + 1) k && (r.all plainB && T r) with
        | true => some (R (l.take (m + 1)) r, h)
        | false => none
      | none => none
    | _ => none
  | _ => none
/-- What is asked of such a call where the slice is not known. -/
def asksO {α : Type} (f : FuncId) (e : α → Value) (B : Nat) (T : List Value → Bool) (R : List α → List Value → Value) (A : Asks) : Asks := fun f' args h k => match Nat.beq f f' with
  | true => match args.toList with
    | .slice (some ⟨i, 0, none⟩) n xk :: r => match h.get i, r.all plainB && T r with
      | some (.cells c _ _ _), true => ∃ l : List α, c = l.map e ∧ 0 < n ∧ n ≤ l.length ∧ n ≤ B ∧ n ≤ xk ∧ k (R (l.take n) r) h
      | _, _ => False
    | _ => False
  | false => A f' args h k
theorem asksO_ok {α : Type} {f : FuncId} {d : Value → Option α} {e : α → Value} (hd : ∀ x, d (e x) = some x) {B : Nat} {T : List Value → Bool} {R : List α → List Value → Value} {A : Asks} {orc : Orc} (hA : AsksOk orc A) : AsksOk (orElse f (sliceO d B T R) orc) (asksO f e B T R A) := by
  intro f' args h k hk
  unfold asksO at hk
  split at hk
  · rename_i hf
    split at hk
    · rename_i i n xk r hargs
      split at hk
      · rename_i c _ _ _ hg hr
        obtain ⟨l, rfl, h0, h1, h2, h3, hk⟩ := hk
        obtain ⟨m, rfl⟩ : ∃ m, n = m + 1 := ⟨n - 1, by omega⟩
        refine ⟨R (l.take (m + 1)) r, h, ?_, hk⟩
        have hS : sliceO d B T R args h = some (R (l.take (m + 1)) r, h) := by
          unfold sliceO
          rw [hargs]
          have e1 : Nat.ble (m + 1) l.length = true := by rw [Nat.ble_eq]; exact h1
          have e2 : Nat.ble (m + 1) B = true := by rw [Nat.ble_eq]; exact h2
          have e3 : Nat.ble (m + 1) xk = true := by rw [Nat.ble_eq]; exact h3
          simp only [hg, decs_map hd, e1, e2, e3, hr, Bool.and_self]
        simp only [orElse, hf, hS]
      · exact hk.elim
    · exact hk.elim
  · rename_i hf
    obtain ⟨v, h', e, q⟩ := hA f' args h k hk
    exact ⟨v, h', by simp only [orElse, hf, e], q⟩
/-- What is known of calls stays known. -/
theorem AsksOk.mono {orc orc' : Orc} {A : Asks} (hA : AsksOk orc A) (h : ∀ f args h r, orc f args h = some r → orc' f args h = some r) : AsksOk orc' A := fun f args hp k hk =>
  let ⟨v, h', e, q⟩ := hA f args hp k hk; ⟨v, h', h _ _ _ _ e, q⟩
end
section
variable {P : Program}
noncomputable abbrev rdH (P : Program) (c : List Value) (e row : Nat) : AHeap := canon P [(c, e, row)]
noncomputable abbrev rdP (P : Program) (n k : Nat) : Value := .slice (some ⟨P.globals.size, 0, none⟩) n k
theorem plain_ren {pre : Pre} {v : Value} (h : plainB v = true) : Ren pre v v := by
  unfold plainB at h
  split at h
  · rename_i f a b
    simp only [Bool.and_eq_true, Array.isEmpty_iff] at h
    obtain ⟨rfl, rfl⟩ := h
    exact .fn
  · exact .flat h
theorem sliceO_ok {α : Type} {f : FuncId} {d : Value → Option α} {e : α → Value} (hd : ∀ v x, d v = some x → v = e x) (hfl : ∀ x, flat 3 (e x) = true) (hP : 0 < P.globals.size) {B : Nat} {T : List Value → Bool} {R : List α → List Value → Value} {orc : Orc} (ho : OrcOk P orc)
    (hres : ∀ l r, T r = true → flat 3 (R l r) = true)
    (hnil : ∀ r, T r = true → CallJ P f (.slice none 0 0 :: r).toArray (emp P) (fun u _ => u = R [] r))
    (hemp : ∀ r k, T r = true → CallJ P f (.slice (some ⟨0, 0, none⟩) 0 k :: r).toArray (emp P) (fun u _ => u = R [] r))
    (hfull : ∀ (l : List α) n r el row k, 0 < n → n ≤ l.length → n ≤ B → n ≤ k → T r = true → CallJ P f (rdP P n k :: r).toArray (rdH P (l.map e) el row) (fun u _ => u = R (l.take n) r)) : OrcOk P (orElse f (sliceO d B T R) orc) := by
  refine orElse_ok ho fun args h v h' hk => ?_
  unfold sliceO at hk
  split at hk
  · rename_i r hargs
    split at hk
    · rename_i hr
      simp only [Bool.and_eq_true] at hr
      obtain ⟨hr, hu⟩ := hr
      cases hk
      refine CallJ.plain (hres _ _ hu) (Small.canonE (P := P) (B := []) (ids := []) (args₂ := args) rfl (by simp) (fun j b i hb => by simp at hb) ⟨rfl, fun i x y hx hy => ?_⟩ (fun i hi => by simp at hi)) ?_
      · rw [hx] at hy
        cases hy
        rw [← Array.getElem?_toList, hargs] at hx
        cases i with
        | zero => cases hx; exact .inl (.flat rfl)
        | succ i => exact .inl (plain_ren (List.all_eq_true.1 hr x (List.mem_of_getElem? hx)))
      · rw [show args = (.slice none 0 0 :: r).toArray by rw [← hargs]]
        exact hnil r hu
    · cases hk
  · rename_i a k r hargs
    split at hk
    · rename_i hr
      simp only [Bool.and_eq_true] at hr
      obtain ⟨hr, hu⟩ := hr
      cases hk
      refine CallJ.plain (hres _ _ hu) (Small.canonE (P := P) (B := []) (ids := []) (args₂ := (.slice (some ⟨0, 0, none⟩) 0 k :: r).toArray) rfl (by simp) (fun j b i hb => by simp at hb) ⟨?_, fun i x y hx hy => ?_⟩ (fun i hi => by simp at hi)) (hemp r k hu)
      · rw [← Array.length_toList, hargs]; simp
      · rw [← Array.getElem?_toList, hargs] at hx
        cases i with
        | zero => cases hx; simp at hy; subst hy; exact .inr (.inl ⟨_, 0, k, rfl, rfl, by simp [preOf], hP⟩)
        | succ i =>
          have hy : r[i]? = some y := by simpa using hy
          have hx : r[i]? = some x := hx
          rw [hx] at hy
          cases hy
          exact .inl (plain_ren (List.all_eq_true.1 hr x (List.mem_of_getElem? hx)))
    · cases hk
  · rename_i i m k r hargs
    split at hk
    · rename_i c el row ro hg
      split at hk
      · rename_i l hl
        split at hk
        · rename_i hc
          simp only [Bool.and_eq_true, Nat.ble_eq] at hc
          obtain ⟨⟨⟨h1, h2⟩, h3⟩, hr, hu⟩ := hc
          cases hk
          obtain rfl := decs_some hd hl
          refine CallJ.plain (hres _ _ hu) (Small.canonE (P := P) (B := [(l.map e, el, row)]) (ids := [i]) (args₂ := (rdP P (m + 1) k :: r).toArray) rfl (by simp) (fun j b i' hb hi => ?_) ⟨?_, fun j x y hx hy => ?_⟩ (fun i' hi => ?_)) (hfull l (m + 1) r el row k (by omega) h1 h2 h3 hu)
          · match j, hb, hi with
            | 0, hb, hi =>
              cases hb; cases hi
              refine ⟨⟨ro, hg⟩, ?_⟩
              rw [List.all_eq_true]
              intro x hx
              obtain ⟨y, _, rfl⟩ := List.mem_map.1 hx
              exact hfl y
          · rw [← Array.length_toList, hargs]; simp
          · rw [← Array.getElem?_toList, hargs] at hx
            cases j with
            | zero => cases hx; simp at hy; subst hy; exact .inl (.slice (by simp [preOf]))
            | succ j =>
              have hy : r[j]? = some y := by simpa using hy
              have hx : r[j]? = some x := hx
              rw [hx] at hy
              cases hy
              exact .inl (plain_ren (List.all_eq_true.1 hr x (List.mem_of_getElem? hx)))
          · obtain rfl : i' = i := by simpa using hi
            exact ⟨_, by rw [hargs]; exact .head _, .inl ⟨0, m + 1, k, rfl⟩⟩
        · cases hk
      · cases hk
    · cases hk
  · cases hk
/-- The calls of a function that copies a slice. -/
noncomputable def cloneO {α : Type} (d : Value → Option α) (e : α → Value) (el : TypeId) : Array Value → AHeap → Option (Value × AHeap) := fun args h => match args.toList with
  | [.slice (some ⟨i, 0, none⟩) (m + 1) _] => match h.get i with
    | some (.cells c _ _ _) => match decs d c with
      | some l => match Nat.ble (m + 1) l.length && Nat.ble (m + 1) 1000000 with
        | true => some (.slice (some ⟨h.n, 0, none⟩) (m + 1) (m + 1), h.push (.cells ((l.take (m + 1)).map e) el 2 false))
        | false => none
      | none => none
    | _ => none
  | _ => none
noncomputable def asksC {α : Type} (f : FuncId) (e : α → Value) (el : TypeId) (A : Asks) : Asks := fun f' args h k => match Nat.beq f f' with
  | true => match args.toList with
    | [.slice (some ⟨i, 0, none⟩) n _] => match h.get i with
      | some (.cells c _ _ _) => ∃ l : List α, c = l.map e ∧ 0 < n ∧ n ≤ l.length ∧ n ≤ 1000000 ∧ k (.slice (some ⟨h.n, 0, none⟩) n n) (h.push (.cells ((l.take n).map e) el 2 false))
      | _ => False
    | _ => False
  | false => A f' args h k
theorem asksC_ok {α : Type} {f : FuncId} {d : Value → Option α} {e : α → Value} (hd : ∀ x, d (e x) = some x) {el : TypeId} {A : Asks} {orc : Orc} (hA : AsksOk orc A) : AsksOk (orElse f (cloneO d e el) orc) (asksC f e el A) := by
  intro f' args h k hk
  unfold asksC at hk
  split at hk
  · rename_i hf
    split at hk
    · rename_i i n xk hargs
      split at hk
      · rename_i c _ _ _ hg
        obtain ⟨l, rfl, h0, h1, h2, hk⟩ := hk
        obtain ⟨m, rfl⟩ : ∃ m, n = m + 1 := ⟨n - 1, by omega⟩
        refine ⟨_, _, ?_, hk⟩
        have e1 : Nat.ble (m + 1) l.length = true := by rw [Nat.ble_eq]; exact h1
        have e2 : Nat.ble (m + 1) 1000000 = true := by rw [Nat.ble_eq]; exact h2
        simp only [orElse, hf, cloneO, hargs, hg, decs_map hd, e1, e2, Bool.and_self]
      · exact hk.elim
    · exact hk.elim
  · rename_i hf
    obtain ⟨v, h', e, q⟩ := hA f' args h k hk
    exact ⟨v, h', by simp only [orElse, hf, e], q⟩
theorem cloneO_ok {α : Type} {f : FuncId} {d : Value → Option α} {e : α → Value} (hd : ∀ v x, d v = some x → v = e x) (hfl : ∀ x, flat 3 (e x) = true) {el : TypeId} {orc : Orc} (ho : OrcOk P orc)
    (hfull : ∀ (l : List α) n el' row k, 0 < n → n ≤ l.length → n ≤ 1000000 → CallJ P f #[rdP P n k] (rdH P (l.map e) el' row) (fun v h' => ∃ r, v = .slice (some ⟨r, 0, none⟩) n n ∧ h'.get r = some (.cells ((l.take n).map e) el 2 false))) : OrcOk P (orElse f (cloneO d e el) orc) := by
  refine orElse_ok ho fun args h v h' hk => ?_
  unfold cloneO at hk
  split at hk
  · rename_i i m k hargs
    split at hk
    · rename_i c el' row ro hg
      split at hk
      · rename_i l hl
        split at hk
        · rename_i hc
          simp only [Bool.and_eq_true, Nat.ble_eq] at hc
          obtain ⟨h1, h2⟩ := hc
          cases hk
          obtain rfl := decs_some hd hl
          have hall : ∀ l' : List α, (l'.map e).all (flat 3) = true := fun l' => by
            rw [List.all_eq_true]
            intro x hx
            obtain ⟨y, _, rfl⟩ := List.mem_map.1 hx
            exact hfl y
          obtain rfl : args = #[.slice (some ⟨i, 0, none⟩) (m + 1) k] := by rw [← hargs]
          exact CallJ.fresh (hall _) (fun r => .slice (some ⟨r, 0, none⟩) (m + 1) (m + 1)) (fun r m' => .slice (by simp)) (fun r ρ c hv => by
            obtain ⟨a', k', _, hp, _⟩ := hv.slice_any
            exact hp.born) (Small.one hg (hall _)) (hfull l (m + 1) el' row k (by omega) h1 h2)
        · cases hk
      · cases hk
    · cases hk
  · cases hk
end
end Go.Am
/-! (OWN WORK. 'Am': a state seen with just the blocks that its temporaries name; calls on plain arguments that are known under a condition.) -/
namespace Go.Am
section
variable {P : Program} {h : AHeap} {k : Post}
theorem zip_at {ts : List Nat} {vs vs₂ : List Value} {f : Value → Option Value} (he : amapM f vs = some vs₂) {x : Nat × Value} (hx : x ∈ ts.zip vs₂) : ∃ v, (x.1, v) ∈ ts.zip vs ∧ f v = some x.2 := by
  obtain ⟨h1, h2⟩ := amapM_spec he
  obtain ⟨i, hi⟩ := List.getElem?_of_mem hx
  rw [List.getElem?_zip_eq_some] at hi
  have hlt : i < vs.length := by rw [h1]; exact (List.getElem?_eq_some_iff.1 hi.2).1
  refine ⟨vs[i], ?_, h2 i _ _ (List.getElem?_eq_getElem hlt) hi.2⟩
  refine List.mem_of_getElem? (i := i) ?_
  rw [List.getElem?_zip_eq_some]
  exact ⟨hi.1, List.getElem?_eq_getElem hlt⟩
theorem stOf_zip {n : Nat} {ts : List Nat} {vs : List Value} {g : Nat → Value} (hts : ts.Nodup) (hlt : ∀ t ∈ ts, t < n) {x : Nat × Value} (hx : x ∈ ts.zip vs) : (stOf n (ts.zip vs) g).tmp x.1 = x.2 := by
  have ht : x.1 ∈ ts := (List.of_mem_zip (show (x.1, x.2) ∈ ts.zip vs from hx)).1
  have e : (stOf n (ts.zip vs) g).tmp x.1 = ov (ts.zip vs) g x.1 := by simp only [stOf, AAct.tmp, get_lit, if_pos (hlt _ ht), Option.getD_some]
  rw [e]
  clear e ht hlt
  induction ts generalizing vs with
  | nil => simp at hx
  | cons t ts ih =>
    cases vs with
    | nil => simp at hx
    | cons v vs =>
      have hn := List.nodup_cons.1 hts
      show (Bool.rec (ov (ts.zip vs) g x.1) v (Nat.beq t x.1) : Value) = x.2
      rcases List.mem_cons.1 hx with rfl | hx
      · simp
      · have hm : x.1 ∈ ts := (List.of_mem_zip (show (x.1, x.2) ∈ ts.zip vs from hx)).1
        have : Nat.beq t x.1 = false := by
          cases hb : Nat.beq t x.1 with
          | false => rfl
          | true => exact absurd (Nat.eq_of_beq_eq_true hb ▸ hm) hn.1
        rw [this]
        exact ih hn.2 hx
/-- The blocks of its own that a state's temporaries name, under new numbers. -/
theorem J.reheap {es : Nat → TypeId} {n : Nat} {ts : List Nat} {vs vs₂ : List Value} {g : Nat → Value} {c : Code} {B : List Blk} {ids : List Nat} (hP : 0 < P.globals.size) (hts : ts.Nodup) (hlt : ∀ t ∈ ts, t < n)
    (hl : ids.length = B.length) (hn : ids.Nodup) (hge : ∀ i ∈ ids, P.globals.size ≤ i) (hB : ∀ (j : Nat) b i, B[j]? = some b → ids[j]? = some i → h.get i = some (.cells b.1 b.2.1 b.2.2.1 b.2.2.2) ∧ b.1.all (flat 3) = true)
    (hv : amapM (renV P.globals.size ids) vs = some vs₂) (hm : ∀ i ∈ ids, ∃ x ∈ ts.zip vs, i ∈ named x.2) (hj : ∀ g, J P c (stOf n (ts.zip vs₂) g) (canonT [] es P.globals.size B) k) : J P c (stOf n (ts.zip vs) g) h k := by
  have V : View P h (canonT [] (typesOf h) P.globals.size B) (preT P.globals.size [] ids) := view_canonT (T := []) rfl rfl hl hn hge hB
  have ce : canonT [] (typesOf h) P.globals.size B = canonT [] es P.globals.size B := by
    unfold canonT
    rfl
  rw [ce] at V
  refine J.from_view V (ts.zip vs₂) (D := 0) (by rw [canonT_n (T := []) rfl]; omega) ?_ rfl ?_ ?_ hj
  · simp only [preT]
    rw [if_neg (by omega)]
    rfl
  · intro x hx
    obtain ⟨v, h1, h2⟩ := zip_at hv hx
    rw [stOf_zip hts hlt h1]
    exact renV_spec (T := []) h2
  · intro j i e
    simp only [preT] at e
    split at e
    · obtain ⟨x, hx, hi⟩ := hm i (List.mem_of_getElem? e)
      exact .inr ⟨x.1, by rw [stOf_zip hts hlt hx]; exact named_spec hi⟩
    · simp at e
end
noncomputable section
/-- The calls of a function on plain arguments, under a condition. -/
def condO (S : List Value → Option (Bool × Value)) : Array Value → AHeap → Option (Value × AHeap) := fun args h => match S args.toList with
  | some (true, v) => some (v, h)
  | _ => none
def asksF (f : FuncId) (S : List Value → Option (Bool × Value)) (A : Asks) : Asks := fun f' args h k => match Nat.beq f f' with
  | true => match S args.toList with
    | some (b, v) => b = true ∧ k v h
    | none => False
  | false => A f' args h k
theorem asksF_ok {f : FuncId} {S : List Value → Option (Bool × Value)} {A : Asks} {orc : Orc} (hA : AsksOk orc A) : AsksOk (orElse f (condO S) orc) (asksF f S A) := by
  intro f' args h k hk
  unfold asksF at hk
  split at hk
  · rename_i hf
    split at hk
    · rename_i b v hS
      obtain ⟨rfl, hk⟩ := hk
      exact ⟨v, h, by simp only [orElse, hf, condO, hS], hk⟩
    · exact hk.elim
  · rename_i hf
    obtain ⟨v, h', e, q⟩ := hA f' args h k hk
    exact ⟨v, h', by simp only [orElse, hf, e], q⟩
end
theorem condO_ok {P : Program} {f : FuncId} {S : List Value → Option (Bool × Value)} (hS : ∀ l v, S l = some (true, v) → l.all (flat 3) = true ∧ flat 3 v = true ∧ CallJ P f l.toArray (emp P) (fun u _ => u = v)) {orc : Orc} (ho : OrcOk P orc) : OrcOk P (orElse f (condO S) orc) := by
  refine orElse_ok ho fun args h v h' hk => ?_
  unfold condO at hk
  split at hk
  · rename_i u hu
    cases hk
    obtain ⟨h1, h2, h3⟩ := hS _ _ hu
    exact plain_flat h1 h2 h3
  · cases hk
noncomputable section
/-- The calls of a function that makes a slice of its own, of as many elements, out of one that it reads. -/
def mapO {α : Type} (d : Value → Option α) (B : Nat) (len : Nat → Nat) (T : List Value → Bool) (X : List α → Option (List Value)) (el : TypeId) : Array Value → AHeap → Option (Value × AHeap) := fun args h => match args.toList with
  | .slice (some ⟨i, 0, none⟩) (m + 1) _ :: r => match h.get i with
    | some (.cells c _ _ _) => match decs d c with
      | some l => match Nat.ble (m + 1) l.length && Nat.ble (m + 1) B && (r.all plainB && T r), X (l.take (m + 1)) with
        | true, some xs => some (.slice (some ⟨h.n, 0, none⟩) (len (m + 1)) (len (m + 1)), h.push (.cells xs el 2 false))
        | _, _ => none
      | none => none
    | _ => none
  | _ => none
def asksM {α : Type} (f : FuncId) (e : α → Value) (B : Nat) (len : Nat → Nat) (T : List Value → Bool) (ok : List α → Prop) (xs : List α → List Value) (el : TypeId) (A : Asks) : Asks := fun f' args h k => match Nat.beq f f' with
  | true => match args.toList with
    | .slice (some ⟨i, 0, none⟩) n _ :: r => match h.get i, r.all plainB && T r with
      | some (.cells c _ _ _), true => ∃ l : List α, c = l.map e ∧ 0 < n ∧ n ≤ l.length ∧ n ≤ B ∧ ok (l.take n) ∧ k (.slice (some ⟨h.n, 0, none⟩) (len n) (len n)) (h.push (.cells (xs (l.take n)) el 2 false))
      | _, _ => False
    | _ => False
  | false => A f' args h k
end
theorem asksM_ok {α : Type} {f : FuncId} {d : Value → Option α} {e : α → Value} (hd : ∀ x, d (e x) = some x) {B : Nat} {len : Nat → Nat} {T : List Value → Bool} {X : List α → Option (List Value)} {ok : List α → Prop} {xs : List α → List Value} (hX : ∀ l, ok l → X l = some (xs l)) {el : TypeId} {A : Asks} {orc : Orc} (hA : AsksOk orc A) : AsksOk (orElse f (mapO d B len T X el) orc) (asksM f e B len T ok xs el A) := by
  intro f' args h k hk
  unfold asksM at hk
  split at hk
  · rename_i hf
    split at hk
    · rename_i i n xk r hargs
      split at hk
      · rename_i c _ _ _ hg hr
        obtain ⟨l, rfl, h0, h1, h2, h3, hk⟩ := hk
        obtain ⟨m, rfl⟩ : ∃ m, n = m + 1 := ⟨n - 1, by omega⟩
        refine ⟨_, _, ?_, hk⟩
        have e1 : Nat.ble (m + 1) l.length = true := by rw [Nat.ble_eq]; exact h1
        have e2 : Nat.ble (m + 1) B = true := by rw [Nat.ble_eq]; exact h2
        simp only [orElse, hf, mapO, hargs, hg, decs_map hd, e1, e2, hr, Bool.and_self, hX _ h3]
      · exact hk.elim
    · exact hk.elim
  · rename_i hf
    obtain ⟨v, h', e, q⟩ := hA f' args h k hk
    exact ⟨v, h', by simp only [orElse, hf, e], q⟩
theorem mapO_ok {P : Program} {α : Type} {f : FuncId} {d : Value → Option α} {e : α → Value} (hd : ∀ v x, d v = some x → v = e x) (hfl : ∀ x, flat 3 (e x) = true) {B : Nat} {len : Nat → Nat} {T : List Value → Bool} {X : List α → Option (List Value)} {el : TypeId} {orc : Orc} (ho : OrcOk P orc)
    (hxs : ∀ l xs, X l = some xs → xs.all (flat 3) = true)
    (hfull : ∀ (l : List α) n r xs el' row k, 0 < n → n ≤ l.length → n ≤ B → T r = true → X (l.take n) = some xs → CallJ P f (rdP P n k :: r).toArray (rdH P (l.map e) el' row) (fun v h' => ∃ r, v = .slice (some ⟨r, 0, none⟩) (len n) (len n) ∧ h'.get r = some (.cells xs el 2 false))) : OrcOk P (orElse f (mapO d B len T X el) orc) := by
  refine orElse_ok ho fun args h v h' hk => ?_
  unfold mapO at hk
  split at hk
  · rename_i i m k r hargs
    split at hk
    · rename_i c el' row ro hg
      split at hk
      · rename_i l hl
        split at hk
        · rename_i xs hc hx
          simp only [Bool.and_eq_true, Nat.ble_eq] at hc
          obtain ⟨⟨h1, h2⟩, hr, hu⟩ := hc
          cases hk
          obtain rfl := decs_some hd hl
          refine CallJ.fresh (hxs _ _ hx) (fun r => .slice (some ⟨r, 0, none⟩) (len (m + 1)) (len (m + 1))) (fun r m' => .slice (by simp)) (fun r ρ c hv => by
            obtain ⟨a', k', _, hp, _⟩ := hv.slice_any
            exact hp.born) (Small.canonE (P := P) (B := [(l.map e, el', row)]) (ids := [i]) (args₂ := (rdP P (m + 1) k :: r).toArray) rfl (by simp) (fun j b i' hb hi => ?_) ⟨?_, fun j x y hx hy => ?_⟩ (fun i' hi => ?_)) (hfull l (m + 1) r xs el' row k (by omega) h1 h2 hu hx)
          · match j, hb, hi with
            | 0, hb, hi =>
              cases hb; cases hi
              refine ⟨⟨ro, hg⟩, ?_⟩
              rw [List.all_eq_true]
              intro x hx
              obtain ⟨y, _, rfl⟩ := List.mem_map.1 hx
              exact hfl y
          · rw [← Array.length_toList, hargs]; simp
          · rw [← Array.getElem?_toList, hargs] at hx
            cases j with
            | zero => cases hx; simp at hy; subst hy; exact .inl (.slice (by simp [preOf]))
            | succ j =>
              have hy : r[j]? = some y := by simpa using hy
              have hx : r[j]? = some x := hx
              rw [hx] at hy
              cases hy
              exact .inl (plain_ren (List.all_eq_true.1 hr x (List.mem_of_getElem? hx)))
          · obtain rfl : i' = i := by simpa using hi
            exact ⟨_, by rw [hargs]; exact .head _, .inl ⟨0, m + 1, k, rfl⟩⟩
        · cases hk
      · cases hk
    · cases hk
  · cases hk
end Go.Am
/-! (OWN WORK. 'Am': functions that read one slice, under a condition that speaks of its elements.) -/
namespace Go.Am
noncomputable section
def sliceK {α : Type} (d : Value → Option α) (B : Nat) (C : List α → List Value → Bool) (R : List α → List Value → Value) : Array Value → AHeap → Option (Value × AHeap) := fun args h => match args.toList with
  | .slice none 0 0 :: r => match r.all plainB && C [] r with
    | true => some (R [] r, h)
    | false => none
  | .slice (some _) 0 _ :: r => match r.all plainB && C [] r with
    | true => some (R [] r, h)
    | false => none
  | .slice (some ⟨i, 0, none⟩) (m + 1) k :: r => match h.get i with
    | some (.cells c _ _ _) => match decs d c with
      | some l => match Nat.ble (m + 1) l.length && Nat.ble (m + 1) B && (r.all plainB && C (l.take (m + 1)) r) with
        | true => some (R (l.take (m + 1)) r, h)
        | false => none
      | none => none
    | _ => none
  | _ => none
/-- What is asked of such a call where the slice is not known. -/
def asksK {α : Type} (f : FuncId) (e : α → Value) (B : Nat) (C : List α → List Value → Bool) (R : List α → List Value → Value) (A : Asks) : Asks := fun f' args h k => match Nat.beq f f' with
  | true => match args.toList with
    | .slice (some ⟨i, 0, none⟩) n xk :: r => match h.get i, r.all plainB with
      | some (.cells c _ _ _), true => ∃ l : List α, c = l.map e ∧ 0 < n ∧ n ≤ l.length ∧ n ≤ B ∧ C (l.take n) r = true ∧ k (R (l.take n) r) h
      | _, _ => False
    | _ => False
  | false => A f' args h k
theorem asksK_ok {α : Type} {f : FuncId} {d : Value → Option α} {e : α → Value} (hd : ∀ x, d (e x) = some x) {B : Nat} {C : List α → List Value → Bool} {R : List α → List Value → Value} {A : Asks} {orc : Orc} (hA : AsksOk orc A) : AsksOk (orElse f (sliceK d B C R) orc) (asksK f e B C R A) := by
  intro f' args h k hk
  unfold asksK at hk
  split at hk
  · rename_i hf
    split at hk
    · rename_i i n xk r hargs
      split at hk
      · rename_i c _ _ _ hg hr
        obtain ⟨l, rfl, h0, h1, h2, h4, hk⟩ := hk
        obtain ⟨m, rfl⟩ : ∃ m, n = m + 1 := ⟨n - 1, by omega⟩
        refine ⟨R (l.take (m + 1)) r, h, ?_, hk⟩
        have hS : sliceK d B C R args h = some (R (l.take (m + 1)) r, h) := by
          unfold sliceK
          rw [hargs]
          have e1 : Nat.ble (m + 1) l.length = true := by rw [Nat.ble_eq]; exact h1
          have e2 : Nat.ble (m + 1) B = true := by rw [Nat.ble_eq]; exact h2
          simp only [hg, decs_map hd, e1, e2, hr, h4, Bool.and_self]
        simp only [orElse, hf, hS]
      · exact hk.elim
    · exact hk.elim
  · rename_i hf
    obtain ⟨v, h', e, q⟩ := hA f' args h k hk
    exact ⟨v, h', by simp only [orElse, hf, e], q⟩
end
section
variable {P : Program}
theorem sliceK_ok {α : Type} {f : FuncId} {d : Value → Option α} {e : α → Value} (hd : ∀ v x, d v = some x → v = e x) (hfl : ∀ x, flat 3 (e x) = true) (hP : 0 < P.globals.size) {B : Nat} {C : List α → List Value → Bool} {R : List α → List Value → Value} {orc : Orc} (ho : OrcOk P orc)
    (hres : ∀ l r, C l r = true → flat 3 (R l r) = true)
    (hnil : ∀ r, C [] r = true → CallJ P f (.slice none 0 0 :: r).toArray (emp P) (fun u _ => u = R [] r))
    (hemp : ∀ r k, C [] r = true → CallJ P f (.slice (some ⟨0, 0, none⟩) 0 k :: r).toArray (emp P) (fun u _ => u = R [] r))
    (hfull : ∀ (l : List α) n r el row k, 0 < n → n ≤ l.length → n ≤ B → C (l.take n) r = true → CallJ P f (rdP P n k :: r).toArray (rdH P (l.map e) el row) (fun u _ => u = R (l.take n) r)) : OrcOk P (orElse f (sliceK d B C R) orc) := by
  refine orElse_ok ho fun args h v h' hk => ?_
  unfold sliceK at hk
  split at hk
  · rename_i r hargs
    split at hk
    · rename_i hr
      simp only [Bool.and_eq_true] at hr
      obtain ⟨hr, hu⟩ := hr
      cases hk
      refine CallJ.plain (hres _ _ hu) (Small.canonE (P := P) (B := []) (ids := []) (args₂ := args) rfl (by simp) (fun j b i hb => by simp at hb) ⟨rfl, fun i x y hx hy => ?_⟩ (fun i hi => by simp at hi)) ?_
      · rw [hx] at hy
        cases hy
        rw [← Array.getElem?_toList, hargs] at hx
        cases i with
        | zero => cases hx; exact .inl (.flat rfl)
        | succ i => exact .inl (plain_ren (List.all_eq_true.1 hr x (List.mem_of_getElem? hx)))
      · rw [show args = (.slice none 0 0 :: r).toArray by rw [← hargs]]
        exact hnil r hu
    · cases hk
  · rename_i a k r hargs
    split at hk
    · rename_i hr
      simp only [Bool.and_eq_true] at hr
      obtain ⟨hr, hu⟩ := hr
      cases hk
      refine CallJ.plain (hres _ _ hu) (Small.canonE (P := P) (B := []) (ids := []) (args₂ := (.slice (some ⟨0, 0, none⟩) 0 k :: r).toArray) rfl (by simp) (fun j b i hb => by simp at hb) ⟨?_, fun i x y hx hy => ?_⟩ (fun i hi => by simp at hi)) (hemp r k hu)
      · rw [← Array.length_toList, hargs]; simp
      · rw [← Array.getElem?_toList, hargs] at hx
        cases i with
        | zero => cases hx; simp at hy; subst hy; exact .inr (.inl ⟨_, 0, k, rfl, rfl, by simp [preOf], hP⟩)
        | succ i =>
          have hy : r[i]? = some y := by simpa using hy
          have hx : r[i]? = some x := hx
          rw [hx] at hy
          cases hy
          exact .inl (plain_ren (List.all_eq_true.1 hr x (List.mem_of_getElem? hx)))
    · cases hk
  · rename_i i m k r hargs
    split at hk
    · rename_i c el row ro hg
      split at hk
      · rename_i l hl
        split at hk
        · rename_i hc
          simp only [Bool.and_eq_true, Nat.ble_eq] at hc
          obtain ⟨⟨h1, h2⟩, hr, hu⟩ := hc
          cases hk
          obtain rfl := decs_some hd hl
          refine CallJ.plain (hres _ _ hu) (Small.canonE (P := P) (B := [(l.map e, el, row)]) (ids := [i]) (args₂ := (rdP P (m + 1) k :: r).toArray) rfl (by simp) (fun j b i' hb hi => ?_) ⟨?_, fun j x y hx hy => ?_⟩ (fun i' hi => ?_)) (hfull l (m + 1) r el row k (by omega) h1 h2 hu)
          · match j, hb, hi with
            | 0, hb, hi =>
              cases hb; cases hi
              refine ⟨⟨ro, hg⟩, ?_⟩
              rw [List.all_eq_true]
              intro x hx
              obtain ⟨y, _, rfl⟩ := List.mem_map.1 hx
              exact hfl y
          · rw [← Array.length_toList, hargs]; simp
          · rw [← Array.getElem?_toList, hargs] at hx
            cases j with
            | zero => cases hx; simp at hy; subst hy; exact .inl (.slice (by simp [preOf]))
            | succ j =>
              have hy : r[j]? = some y := by simpa using hy
              have hx : r[j]? = some x := hx
              rw [hx] at hy
              cases hy
              exact .inl (plain_ren (List.all_eq_true.1 hr x (List.mem_of_getElem? hx)))
          · obtain rfl : i' = i := by simpa using hi
            exact ⟨_, by rw [hargs]; exact .head _, .inl ⟨0, m + 1, k, rfl⟩⟩
        · cases hk
      · cases hk
    · cases hk
  · cases hk
end
end Go.Am
/-! (OWN WORK. 'Am': functions that read one slice, with results of any form: something plain, or what names one new block; calls by what is asked of them.) -/
namespace Go.Am
/-- What a call gives: something plain, or a value that names a new block, with its elements. -/
inductive Out where
  | plain (v : Value)
  | fresh (mk : Nat → Value) (xs : List Value) (el : TypeId)
  | wide (mk : Nat → Value) (xs : List Value) (el : TypeId) (row : Nat)
noncomputable section
def Out.val (b : Nat) : Out → Value
  | .plain v => v
  | .fresh mk _ _ => mk b
  | .wide mk _ _ _ => mk b
def Out.heap (h : AHeap) : Out → AHeap
  | .plain _ => h
  | .fresh _ xs el => h.push (.cells xs el 2 false)
  | .wide _ xs el row => h.push (.cells xs el row false)
/-- A value that names one block. -/
structure Names (mk : Nat → Value) : Prop where
  ren : ∀ r m, Ren (fun j => if j = m then some r else none) (mk r) (mk m)
  born : ∀ r ρ c, VRel ρ (mk r) c → ρ r ≠ .unborn
def Out.Ok : Out → Prop
  | .plain v => flat 3 v = true
  | .fresh mk xs _ => Names mk ∧ xs.all (flat 3) = true
  | .wide mk xs _ _ => Names mk ∧ xs.all (flat 3) = true
/-- What is asked of a run: the value, and the elements of the new block. -/
def Out.Got : Out → Value → AHeap → Prop
  | .plain u, v, _ => v = u
  | .fresh mk xs el, v, h' => ∃ r, v = mk r ∧ h'.get r = some (.cells xs el 2 false)
  | .wide mk xs el row, v, h' => ∃ r, v = mk r ∧ h'.get r = some (.cells xs el row false)
def Out.kont (o : Out) (h : AHeap) (k : Value → AHeap → Prop) : Prop := match o with
  | .plain v => k v h
  | .fresh mk xs el => k (mk h.n) (h.push (.cells xs el 2 false))
  | .wide mk xs el row => k (mk h.n) (h.push (.cells xs el row false))
theorem Out.kont_iff (o : Out) (h : AHeap) (k : Value → AHeap → Prop) : o.kont h k = k (o.val h.n) (o.heap h) := by cases o <;> rfl
def slM (n : Nat) : Nat → Value := fun b => .slice (some ⟨b, 0, none⟩) n n
def tupM (pre : List Value) (n : Nat) (post : List Value) : Nat → Value := fun b => .tuple ⟨pre ++ .slice (some ⟨b, 0, none⟩) n n :: post⟩
theorem names_sl (n : Nat) : Names (slM n) where
  ren := fun r m => .slice (by simp)
  born := fun r ρ c hv => by
    obtain ⟨a', k', _, hp, _⟩ := VRel.slice_any hv
    exact hp.born
theorem names_tup {pre post : List Value} {n : Nat} (h1 : pre.all (flat 3) = true) (h2 : post.all (flat 3) = true) : Names (tupM pre n post) where
  ren := fun r m => .tuple (l := pre ++ .slice (some ⟨r, 0, none⟩) n n :: post) (l₂ := pre ++ .slice (some ⟨m, 0, none⟩) n n :: post) (by simp) fun i a b ha hb => by
    rw [List.getElem?_append] at ha hb
    split at ha
    · rename_i hi
      rw [if_pos hi] at hb
      rw [ha] at hb
      cases hb
      exact .flat (List.all_eq_true.1 h1 _ (List.mem_of_getElem? ha))
    · rename_i hi
      rw [if_neg hi] at hb
      cases hj : i - pre.length with
      | zero =>
        rw [hj] at ha hb
        cases ha; cases hb
        exact .slice (by simp)
      | succ j =>
        rw [hj] at ha hb
        have ha : post[j]? = some a := ha
        have hb : post[j]? = some b := hb
        rw [ha] at hb
        cases hb
        exact .flat (List.all_eq_true.1 h2 _ (List.mem_of_getElem? ha))
  born := fun r ρ c hv => by
    obtain ⟨vs, rfl, e1, e2⟩ := hv.unfold
    have hlt : pre.length < vs.size := by rw [← e1]; simp
    refine Mentions.born (.inl ⟨0, n, n, rfl⟩) (e2 pre.length (.slice (some ⟨r, 0, none⟩) n n) vs[pre.length] ?_ (Array.getElem?_eq_getElem hlt))
    simp
/-- The calls of a function of a slice (and of plain values behind it). -/
def genO {α : Type} (d : Value → Option α) (B : Nat) (offs : Bool) (X : List α → List Value → Option Out) : Array Value → AHeap → Option (Value × AHeap) := fun args h => match args.toList with
  | .slice none 0 0 :: r => match r.all plainB, X [] r with
    | true, some o => some (o.val h.n, o.heap h)
    | _, _ => none
  | .slice (some _) 0 _ :: r => match r.all plainB, X [] r with
    | true, some o => some (o.val h.n, o.heap h)
    | _, _ => none
  | .slice (some ⟨i, off, none⟩) (m + 1) k :: r => match h.get i with
    | some (.cells c _ row _) => match decs d c with
      | some l => match Nat.ble (off + (m + 1)) l.length && Nat.ble (m + 1) B && Nat.ble (m + 1) k && (Nat.beq off 0 || offs) && (Nat.beq row 0 || Nat.beq row 2) && r.all plainB, X ((l.drop off).take (m + 1)) r with
        | true, some o => some (o.val h.n, o.heap h)
        | _, _ => none
      | none => none
    | _ => none
  | _ => none
/-- What is asked of such a call, where what it gives is asked for by Y; a slice of a block that is dead, or no block, is empty. -/
def asksG {α : Type} (f : FuncId) (e : α → Value) (B : Nat) (Y : List α → List Value → (Out → Prop) → Prop) (A : Asks) : Asks := fun f' args h k => match Nat.beq f f' with
  | true => match args.toList with
    | .slice none n xk :: r => match r.all plainB with
      | true => n = 0 ∧ xk = 0 ∧ Y [] r fun o => o.kont h k
      | false => False
    | .slice (some ⟨i, 0, none⟩) n xk :: r => match h.get i, r.all plainB with
      | some (.cells c _ row _), true => ∃ l : List α, c = l.map e ∧ (Nat.beq row 0 || Nat.beq row 2) = true ∧ 0 < n ∧ n ≤ l.length ∧ n ≤ B ∧ n ≤ xk ∧ Y (l.take n) r fun o => o.kont h k
      | some .dead, true => n = 0 ∧ Y [] r fun o => o.kont h k
      | none, true => n = 0 ∧ Y [] r fun o => o.kont h k
      | _, _ => False
    | _ => False
  | false => A f' args h k
theorem asksG_ok {α : Type} {f : FuncId} {d : Value → Option α} {e : α → Value} (hd : ∀ x, d (e x) = some x) {B : Nat} {offs : Bool} {X : List α → List Value → Option Out} {Y : List α → List Value → (Out → Prop) → Prop} (hY : ∀ l r K, Y l r K → ∃ o, X l r = some o ∧ K o) {A : Asks} {orc : Orc} (hA : AsksOk orc A) : AsksOk (orElse f (genO d B offs X) orc) (asksG f e B Y A) := by
  intro f' args h k hk
  unfold asksG at hk
  split at hk
  · rename_i hf
    split at hk
    · rename_i n xk r hargs
      split at hk
      · rename_i hr
        obtain ⟨rfl, rfl, hk⟩ := hk
        obtain ⟨o, hX, hq⟩ := hY _ _ _ hk
        rw [o.kont_iff] at hq
        refine ⟨_, _, ?_, hq⟩
        have hS : genO d B offs X args h = some (o.val h.n, o.heap h) := by
          unfold genO
          rw [hargs]
          simp only [hr, hX]
        simp only [orElse, hf, hS]
      · exact hk.elim
    · rename_i i n xk r hargs
      have empty : n = 0 → r.all plainB = true → (Y [] r fun o => o.kont h k) → ∃ v h', orElse f (genO d B offs X) orc f' args h = some (v, h') ∧ k v h' := by
        rintro rfl hr hk
        obtain ⟨o, hX, hq⟩ := hY _ _ _ hk
        rw [o.kont_iff] at hq
        refine ⟨_, _, ?_, hq⟩
        have hS : genO d B offs X args h = some (o.val h.n, o.heap h) := by
          unfold genO
          rw [hargs]
          simp only [hr, hX]
        simp only [orElse, hf, hS]
      split at hk
      · rename_i c _ row _ hg hr
        obtain ⟨l, rfl, hw, h0, h1, h2, h3, hk⟩ := hk
        obtain ⟨o, hX, hq⟩ := hY _ _ _ hk
        rw [o.kont_iff] at hq
        obtain ⟨m, rfl⟩ : ∃ m, n = m + 1 := ⟨n - 1, by omega⟩
        refine ⟨_, _, ?_, hq⟩
        have hS : genO d B offs X args h = some (o.val h.n, o.heap h) := by
          unfold genO
          rw [hargs]
          have e1 : Nat.ble (0 + (m + 1)) l.length = true := by rw [Nat.ble_eq, Nat.zero_add]; exact h1
          have e2 : Nat.ble (m + 1) B = true := by rw [Nat.ble_eq]; exact h2
          have e3 : Nat.ble (m + 1) xk = true := by rw [Nat.ble_eq]; exact h3
          simp only [hg, decs_map hd, e1, e2, e3, hw, hr, Bool.and_self, List.drop_zero, hX, show Nat.beq 0 0 = true from rfl, Bool.true_or]
        simp only [orElse, hf, hS]
      · rename_i hg hr
        exact empty hk.1 hr hk.2
      · rename_i hg hr
        exact empty hk.1 hr hk.2
      · exact hk.elim
    · exact hk.elim
  · rename_i hf
    obtain ⟨v, h', e, q⟩ := hA f' args h k hk
    exact ⟨v, h', by simp only [orElse, hf, e], q⟩
/-- As asksG, for a slice from any index on. -/
def asksGo {α : Type} (f : FuncId) (e : α → Value) (B : Nat) (Y : List α → List Value → (Out → Prop) → Prop) (A : Asks) : Asks := fun f' args h k => match Nat.beq f f' with
  | true => match args.toList with
    | .slice (some ⟨i, off, none⟩) n xk :: r => match h.get i, r.all plainB with
      | some (.cells c _ row _), true => ∃ l : List α, c = l.map e ∧ (Nat.beq row 0 || Nat.beq row 2) = true ∧ 0 < n ∧ off + n ≤ l.length ∧ n ≤ B ∧ n ≤ xk ∧ Y ((l.drop off).take n) r fun o => o.kont h k
      | _, _ => False
    | _ => False
  | false => A f' args h k
theorem asksGo_ok {α : Type} {f : FuncId} {d : Value → Option α} {e : α → Value} (hd : ∀ x, d (e x) = some x) {B : Nat} {X : List α → List Value → Option Out} {Y : List α → List Value → (Out → Prop) → Prop} (hY : ∀ l r K, Y l r K → ∃ o, X l r = some o ∧ K o) {A : Asks} {orc : Orc} (hA : AsksOk orc A) : AsksOk (orElse f (genO d B true X) orc) (asksGo f e B Y A) := by
  intro f' args h k hk
  unfold asksGo at hk
  split at hk
  · rename_i hf
    split at hk
    · rename_i i off n xk r hargs
      split at hk
      · rename_i c _ row _ hg hr
        obtain ⟨l, rfl, hw, h0, h1, h2, h3, hk⟩ := hk
        obtain ⟨o, hX, hq⟩ := hY _ _ _ hk
        rw [o.kont_iff] at hq
        obtain ⟨m, rfl⟩ : ∃ m, n = m + 1 := ⟨n - 1, by omega⟩
        refine ⟨_, _, ?_, hq⟩
        have hS : genO d B true X args h = some (o.val h.n, o.heap h) := by
          unfold genO
          rw [hargs]
          have e1 : Nat.ble (off + (m + 1)) l.length = true := by rw [Nat.ble_eq]; exact h1
          have e2 : Nat.ble (m + 1) B = true := by rw [Nat.ble_eq]; exact h2
          have e3 : Nat.ble (m + 1) xk = true := by rw [Nat.ble_eq]; exact h3
          simp only [hg, decs_map hd, e1, e2, e3, hw, hr, Bool.and_self, hX, Bool.or_true]
        simp only [orElse, hf, hS]
      · exact hk.elim
    · exact hk.elim
  · rename_i hf
    obtain ⟨v, h', e, q⟩ := hA f' args h k hk
    exact ⟨v, h', by simp only [orElse, hf, e], q⟩
def skipA (f : FuncId) (A : Asks) : Asks := fun f' args h k => match Nat.beq f f' with
  | true => False
  | false => A f' args h k
theorem skipA_ok {f : FuncId} {S : Array Value → AHeap → Option (Value × AHeap)} {orc : Orc} {A : Asks} (hA : AsksOk orc A) : AsksOk (orElse f S orc) (skipA f A) := by
  intro f' args h k hk
  unfold skipA at hk
  split at hk
  · exact hk.elim
  · rename_i hf
    obtain ⟨v, h', e, q⟩ := hA f' args h k hk
    exact ⟨v, h', by simp only [orElse, hf, e], q⟩
end
section
variable {P : Program}
theorem Out.call {f : FuncId} {args args₂ : Array Value} {h h₂ : AHeap} {pre : Pre} {o : Out} (ho : o.Ok) (s : Small P args args₂ h h₂ pre) (hc : CallJ P f args₂ h₂ o.Got) :
    ∀ ρ args' w, HRel ρ h w → Globs P ρ → ARel (VRel ρ) args args' → CallsIn (fence none) 0 P f args' w (CPost ρ h w (o.val h.n) (o.heap h)) := by
  cases o with
  | plain v => exact CallJ.plain ho s hc
  | fresh mk xs el => exact CallJ.fresh ho.2 mk ho.1.ren ho.1.born s hc
  | wide mk xs el row => exact CallJ.fresh ho.2 mk ho.1.ren ho.1.born s hc
noncomputable abbrev rdPo (P : Program) (off n k : Nat) : Value := .slice (some ⟨P.globals.size, off, none⟩) n k
theorem small_nil {args : Array Value} {h : AHeap} {r : List Value} (hargs : args.toList = .slice none 0 0 :: r) (hr : r.all plainB = true) : ∃ pre, Small P args args h (emp P) pre := by
  refine ⟨_, Small.canonE (P := P) (B := []) (ids := []) (args₂ := args) rfl (by simp) (fun j b i hb => by simp at hb) ⟨rfl, fun i x y hx hy => ?_⟩ (fun i hi => by simp at hi)⟩
  rw [hx] at hy
  cases hy
  rw [← Array.getElem?_toList, hargs] at hx
  cases i with
  | zero => cases hx; exact .inl (.flat rfl)
  | succ i => exact .inl (plain_ren (List.all_eq_true.1 hr x (List.mem_of_getElem? hx)))
theorem small_emp {args : Array Value} {h : AHeap} {r : List Value} {a : Addr} {k : Nat} (hP : 0 < P.globals.size) (hargs : args.toList = .slice (some a) 0 k :: r) (hr : r.all plainB = true) : ∃ pre, Small P args (.slice (some ⟨0, 0, none⟩) 0 k :: r).toArray h (emp P) pre := by
  refine ⟨_, Small.canonE (P := P) (B := []) (ids := []) (args₂ := (.slice (some ⟨0, 0, none⟩) 0 k :: r).toArray) rfl (by simp) (fun j b i hb => by simp at hb) ⟨?_, fun i x y hx hy => ?_⟩ (fun i hi => by simp at hi)⟩
  · rw [← Array.length_toList, hargs]; simp
  · rw [← Array.getElem?_toList, hargs] at hx
    cases i with
    | zero => cases hx; simp at hy; subst hy; exact .inr (.inl ⟨_, 0, k, rfl, rfl, by simp [preOf], hP⟩)
    | succ i =>
      have hy : r[i]? = some y := by simpa using hy
      have hx : r[i]? = some x := hx
      rw [hx] at hy
      cases hy
      exact .inl (plain_ren (List.all_eq_true.1 hr x (List.mem_of_getElem? hx)))
theorem small_full {α : Type} {e : α → Value} (hfl : ∀ x, flat 3 (e x) = true) {args : Array Value} {h : AHeap} {r : List Value} {i off n k el row : Nat} {ro : Bool} {l : List α} (hargs : args.toList = .slice (some ⟨i, off, none⟩) n k :: r) (hr : r.all plainB = true) (hg : h.get i = some (.cells (l.map e) el row ro)) :
    ∃ pre, Small P args (rdPo P off n k :: r).toArray h (rdH P (l.map e) el row) pre := by
  refine ⟨_, Small.canonE (P := P) (B := [(l.map e, el, row)]) (ids := [i]) (args₂ := (rdPo P off n k :: r).toArray) rfl (by simp) (fun j b i' hb hi => ?_) ⟨?_, fun j x y hx hy => ?_⟩ (fun i' hi => ?_)⟩
  · match j, hb, hi with
    | 0, hb, hi =>
      cases hb; cases hi
      refine ⟨⟨ro, hg⟩, ?_⟩
      rw [List.all_eq_true]
      intro x hx
      obtain ⟨y, _, rfl⟩ := List.mem_map.1 hx
      exact hfl y
  · rw [← Array.length_toList, hargs]; simp
  · rw [← Array.getElem?_toList, hargs] at hx
    cases j with
    | zero => cases hx; simp at hy; subst hy; exact .inl (.slice (by simp [preOf]))
    | succ j =>
      have hy : r[j]? = some y := by simpa using hy
      have hx : r[j]? = some x := hx
      rw [hx] at hy
      cases hy
      exact .inl (plain_ren (List.all_eq_true.1 hr x (List.mem_of_getElem? hx)))
  · obtain rfl : i' = i := by simpa using hi
    exact ⟨_, by rw [hargs]; exact .head _, .inl ⟨off, n, k, rfl⟩⟩
theorem genO_ok {α : Type} {f : FuncId} {d : Value → Option α} {e : α → Value} (hd : ∀ v x, d v = some x → v = e x) (hfl : ∀ x, flat 3 (e x) = true) (hP : 0 < P.globals.size) {B : Nat} {offs : Bool} {X : List α → List Value → Option Out} {orc : Orc} (ho : OrcOk P orc)
    (hok : ∀ l r o, X l r = some o → o.Ok)
    (hnil : ∀ r o, X [] r = some o → CallJ P f (.slice none 0 0 :: r).toArray (emp P) o.Got)
    (hemp : ∀ r k o, X [] r = some o → CallJ P f (.slice (some ⟨0, 0, none⟩) 0 k :: r).toArray (emp P) o.Got)
    (hfull : ∀ (l : List α) off n r el row k o, (offs = false → off = 0) → row = 0 ∨ row = 2 → 0 < n → off + n ≤ l.length → n ≤ B → n ≤ k → X ((l.drop off).take n) r = some o → CallJ P f (rdPo P off n k :: r).toArray (rdH P (l.map e) el row) o.Got) : OrcOk P (orElse f (genO d B offs X) orc) := by
  refine orElse_ok ho fun args h v h' hk => ?_
  unfold genO at hk
  split at hk
  · rename_i r hargs
    split at hk
    · rename_i o hr hX
      cases hk
      obtain ⟨pre, s⟩ := small_nil (P := P) (h := h) hargs hr
      refine Out.call (hok _ _ _ hX) s ?_
      rw [show args = (.slice none 0 0 :: r).toArray by rw [← hargs]]
      exact hnil r o hX
    · cases hk
  · rename_i a k r hargs
    split at hk
    · rename_i o hr hX
      cases hk
      obtain ⟨pre, s⟩ := small_emp (P := P) (h := h) hP hargs hr
      exact Out.call (hok _ _ _ hX) s (hemp r k o hX)
    · cases hk
  · rename_i i off m k r hargs
    split at hk
    · rename_i c el row ro hg
      split at hk
      · rename_i l hl
        split at hk
        · rename_i o hc hX
          simp only [Bool.and_eq_true, Nat.ble_eq, Bool.or_eq_true] at hc
          obtain ⟨⟨⟨⟨⟨h1, h2⟩, h3⟩, h4⟩, hw⟩, hr⟩ := hc
          cases hk
          obtain rfl := decs_some hd hl
          obtain ⟨pre, s⟩ := small_full (P := P) hfl hargs hr hg
          exact Out.call (hok _ _ _ hX) s (hfull l off (m + 1) r el row k o (fun e => by rcases h4 with h4 | h4; exact Nat.eq_of_beq_eq_true h4; rw [e] at h4; cases h4) (hw.imp Nat.eq_of_beq_eq_true Nat.eq_of_beq_eq_true) (by omega) h1 h2 h3 hX)
        · cases hk
      · cases hk
    · cases hk
  · cases hk
end
end Go.Am
/-! (OWN WORK. 'Am': loops that append to a slice which is empty at first.) -/
namespace Go.Am
section
variable {P : Program}
noncomputable abbrev gH1 (P : Program) (src : List Value) (e row : Nat) : AHeap := canonT [] (fun _ => 0) P.globals.size [(src, e, row, true)]
noncomputable abbrev gH2 (P : Program) (src : List Value) (e row : Nat) (c : List Value) (el : Nat) : AHeap := canonT [] (fun _ => 0) P.globals.size [(src, e, row, true), (c, el, 2, false)]
theorem gH1_src (src : List Value) (e row : Nat) : (gH1 P src e row).get P.globals.size = some (.cells src e row true) := by
  rw [canonT_get (T := []) rfl, if_pos (Nat.le_refl _), Nat.sub_self]; rfl
theorem gH1_n (src : List Value) (e row : Nat) : (gH1 P src e row).n = P.globals.size + 1 := canonT_n (T := []) rfl _
theorem gH2_src (src : List Value) (e row : Nat) (c : List Value) (el : Nat) : (gH2 P src e row c el).get P.globals.size = some (.cells src e row true) := by
  rw [canonT_get (T := []) rfl, if_pos (Nat.le_refl _), Nat.sub_self]; rfl
theorem gH2_dst (src : List Value) (e row : Nat) (c : List Value) (el : Nat) : (gH2 P src e row c el).get (P.globals.size + 1) = some (.cells c el 2 false) := by
  rw [canonT_get (T := []) rfl, if_pos (Nat.le_succ _), show P.globals.size + 1 - P.globals.size = 1 by omega]; rfl
theorem gH2_n (src : List Value) (e row : Nat) (c : List Value) (el : Nat) : (gH2 P src e row c el).n = P.globals.size + 2 := canonT_n (T := []) rfl _
/-- The state after j rounds: nothing was appended yet, or there is a block of its own. -/
def Grown (P : Program) (src : List Value) (e row el : Nat) (V : Nat → Value → List Value) (xs : Nat → List Value) (j : Nat) (vs : List Value) (h : AHeap) : Prop :=
  h.get P.globals.size = some (.cells src e row true) ∧
    ((xs j = [] ∧ vs = V j (.slice none 0 0)) ∨ ∃ b, (b = P.globals.size + 1 ∨ b = P.globals.size + 2 ∨ b = P.globals.size + 3) ∧ xs j ≠ [] ∧ vs = V j (.slice (some ⟨b, 0, none⟩) (xs j).length (xs j).length) ∧ h.get b = some (.cells (xs j) el 2 false))
theorem grow_rule {n : Nat} {ts : List Nat} {body : Code} {src : List Value} {e row el : Nat} (hP : 0 < P.globals.size) (hts : ts.Nodup) (hlt : ∀ t ∈ ts, t < n) (hsf : src.all (flat 3) = true)
    (V : Nat → Value → List Value) (xs : Nat → List Value) (m : Nat) (Out : Exit → List Value → AHeap → Prop) (hxf : ∀ j, (xs j).all (flat 3) = true)
    (hr0 : ∀ j, amapM (renV P.globals.size [P.globals.size]) (V j (.slice none 0 0)) = some (V j (.slice none 0 0)))
    (hr : ∀ j b q, (b = P.globals.size + 1 ∨ b = P.globals.size + 2 ∨ b = P.globals.size + 3) → amapM (renV P.globals.size [P.globals.size, b]) (V j (.slice (some ⟨b, 0, none⟩) q q)) = some (V j (.slice (some ⟨P.globals.size + 1, 0, none⟩) q q)))
    (hn0 : ∀ j s, ∃ x ∈ ts.zip (V j s), P.globals.size ∈ named x.2) (hn1 : ∀ j b q, ∃ x ∈ ts.zip (V j (.slice (some ⟨b, 0, none⟩) q q)), b ∈ named x.2)
    (stepN : ∀ j, j < m → xs j = [] → ∀ g, J P body (stOf n (ts.zip (V j (.slice none 0 0))) g) (gH1 P src e row) (told n ts fun ex vs h => match ex with
      | .normal => Grown P src e row el V xs (j + 1) vs h
      | ex => Out ex vs h))
    (stepS : ∀ j, j < m → xs j ≠ [] → ∀ g, J P body (stOf n (ts.zip (V j (.slice (some ⟨P.globals.size + 1, 0, none⟩) (xs j).length (xs j).length))) g) (gH2 P src e row (xs j) el) (told n ts fun ex vs h => match ex with
      | .normal => Grown P src e row el V xs (j + 1) vs h
      | ex => Out ex vs h))
    (endN : xs m = [] → ∀ g, J P body (stOf n (ts.zip (V m (.slice none 0 0))) g) (gH1 P src e row) (told n ts fun ex vs h => match ex with
      | .normal => False
      | ex => Out ex vs h))
    (endS : xs m ≠ [] → ∀ g, J P body (stOf n (ts.zip (V m (.slice (some ⟨P.globals.size + 1, 0, none⟩) (xs m).length (xs m).length))) g) (gH2 P src e row (xs m) el) (told n ts fun ex vs h => match ex with
      | .normal => False
      | ex => Out ex vs h)) :
    ∀ a h, Grown P src e row el V xs 0 (ts.map a.tmp) h → a.n = n → a.marks = [] → J P (.loop body) a h (told n ts Out) := by
  intro a h hi ha hm
  refine loop_rule (fun q vs h => ∃ j, j ≤ m ∧ q = m - j ∧ Grown P src e row el V xs j vs h) Out ?_ m _ h a ⟨0, Nat.zero_le _, rfl, hi⟩ ha hm rfl
  rintro q vs h g ⟨j, hj, rfl, hs, ⟨hx, rfl⟩ | ⟨b, hb, hx, rfl, hd⟩⟩
  · refine J.reheap (es := fun _ => 0) (vs₂ := V j (.slice none 0 0)) (B := [(src, e, row, true)]) (ids := [P.globals.size]) hP hts hlt rfl (by simp) (by simp) ?_ (hr0 j) ?_ fun g' => ?_
    · intro q b' i hb hi
      match q, hb, hi with
      | 0, hb, hi => cases hb; cases hi; exact ⟨hs, hsf⟩
    · intro i hi
      simp only [List.mem_cons, List.not_mem_nil, or_false] at hi
      subst hi
      exact hn0 j _
    · by_cases hjm : j < m
      · refine (stepN j hjm hx g').mono fun ex a' h' q => ?_
        obtain ⟨q1, q2, q3⟩ := told_facts q
        simp only [told, q1, q2]
        cases ex with
        | normal => exact (by simpa using ⟨m - (j + 1), by omega, j + 1, by omega, rfl, q3⟩)
        | _ => simpa using q3
      · obtain rfl : j = m := by omega
        refine (endN hx g').mono fun ex a' h' q => ?_
        obtain ⟨q1, q2, q3⟩ := told_facts q
        simp only [told, q1, q2]
        cases ex with
        | normal => exact q3.elim
        | _ => simpa using q3
  · have hne : b ≠ P.globals.size := by rcases hb with rfl | rfl | rfl <;> omega
    refine J.reheap (es := fun _ => 0) (vs₂ := V j (.slice (some ⟨P.globals.size + 1, 0, none⟩) (xs j).length (xs j).length)) (B := [(src, e, row, true), (xs j, el, 2, false)]) (ids := [P.globals.size, b]) hP hts hlt rfl (List.nodup_cons.2 ⟨fun h => hne (List.mem_singleton.1 h).symm, List.nodup_cons.2 ⟨List.not_mem_nil, List.nodup_nil⟩⟩) (fun i hi => by
      simp only [List.mem_cons, List.not_mem_nil, or_false] at hi
      rcases hi with rfl | rfl
      · exact Nat.le_refl _
      · rcases hb with rfl | rfl | rfl <;> omega) ?_ (hr j b _ hb) ?_ fun g' => ?_
    · intro q b' i hb hi
      match q, hb, hi with
      | 0, hb, hi => cases hb; cases hi; exact ⟨hs, hsf⟩
      | 1, hb, hi => cases hb; cases hi; exact ⟨hd, hxf j⟩
    · intro i hi
      simp only [List.mem_cons, List.not_mem_nil, or_false] at hi
      rcases hi with rfl | rfl
      · exact hn0 j _
      · exact hn1 j _ _
    · by_cases hjm : j < m
      · refine (stepS j hjm hx g').mono fun ex a' h' q => ?_
        obtain ⟨q1, q2, q3⟩ := told_facts q
        simp only [told, q1, q2]
        cases ex with
        | normal => exact (by simpa using ⟨m - (j + 1), by omega, j + 1, by omega, rfl, q3⟩)
        | _ => simpa using q3
      · obtain rfl : j = m := by omega
        refine (endS hx g').mono fun ex a' h' q => ?_
        obtain ⟨q1, q2, q3⟩ := told_facts q
        simp only [told, q1, q2]
        cases ex with
        | normal => exact q3.elim
        | _ => simpa using q3
/-- As Grown, with blocks C that stay as they are, the first ones. -/
def GrownC (P : Program) (C : List Blk) (el : Nat) (V : Nat → Value → List Value) (xs : Nat → List Value) (j : Nat) (vs : List Value) (h : AHeap) : Prop :=
  (∀ (q : Nat) b, C[q]? = some b → h.get (P.globals.size + q) = some (.cells b.1 b.2.1 b.2.2.1 b.2.2.2)) ∧
    ((xs j = [] ∧ vs = V j (.slice none 0 0)) ∨ ∃ b d, b = P.globals.size + C.length + d ∧ d ≤ 3 ∧ xs j ≠ [] ∧ vs = V j (.slice (some ⟨b, 0, none⟩) (xs j).length (xs j).length) ∧ h.get b = some (.cells (xs j) el 2 false))
noncomputable abbrev gC (P : Program) (C : List Blk) : AHeap := canonT [] (fun _ => 0) P.globals.size C
noncomputable abbrev gD (P : Program) (C : List Blk) (c : List Value) (el : Nat) : AHeap := canonT [] (fun _ => 0) P.globals.size (C ++ [(c, el, 2, false)])
theorem gC_get {C : List Blk} {q : Nat} {b : Blk} (hb : C[q]? = some b) : (gC P C).get (P.globals.size + q) = some (.cells b.1 b.2.1 b.2.2.1 b.2.2.2) := by
  rw [canonT_get (T := []) rfl, if_pos (by omega), show P.globals.size + q - P.globals.size = q by omega, hb]; rfl
theorem gD_get {C : List Blk} {q : Nat} {b : Blk} {c : List Value} {el : Nat} (hb : C[q]? = some b) : (gD P C c el).get (P.globals.size + q) = some (.cells b.1 b.2.1 b.2.2.1 b.2.2.2) :=
  gC_get (by rw [List.getElem?_append_left (List.getElem?_eq_some_iff.1 hb).1]; exact hb)
theorem gD_dst {C : List Blk} {c : List Value} {el : Nat} : (gD P C c el).get (P.globals.size + C.length) = some (.cells c el 2 false) :=
  gC_get (b := (c, el, 2, false)) (by simp)
theorem growC_rule {n : Nat} {ts : List Nat} {body : Code} {C : List Blk} {el : Nat} (hP : 0 < P.globals.size) (hts : ts.Nodup) (hlt : ∀ t ∈ ts, t < n) (hsf : ∀ b ∈ C, b.1.all (flat 3) = true)
    (V : Nat → Value → List Value) (xs : Nat → List Value) (m : Nat) (Out : Exit → List Value → AHeap → Prop) (hxf : ∀ j, (xs j).all (flat 3) = true)
    (hr0 : ∀ j, amapM (renV P.globals.size ((List.range C.length).map (P.globals.size + ·))) (V j (.slice none 0 0)) = some (V j (.slice none 0 0)))
    (hr : ∀ j q d, d ≤ 3 → amapM (renV P.globals.size ((List.range C.length).map (P.globals.size + ·) ++ [P.globals.size + C.length + d])) (V j (.slice (some ⟨P.globals.size + C.length + d, 0, none⟩) q q)) = some (V j (.slice (some ⟨P.globals.size + C.length, 0, none⟩) q q)))
    (hn0 : ∀ j s (q : Nat), q < C.length → ∃ x ∈ ts.zip (V j s), P.globals.size + q ∈ named x.2) (hn1 : ∀ j b q, ∃ x ∈ ts.zip (V j (.slice (some ⟨b, 0, none⟩) q q)), b ∈ named x.2)
    (stepN : ∀ j, j < m → xs j = [] → ∀ g, J P body (stOf n (ts.zip (V j (.slice none 0 0))) g) (gC P C) (told n ts fun ex vs h => match ex with
      | .normal => GrownC P C el V xs (j + 1) vs h
      | ex => Out ex vs h))
    (stepS : ∀ j, j < m → xs j ≠ [] → ∀ g, J P body (stOf n (ts.zip (V j (.slice (some ⟨P.globals.size + C.length, 0, none⟩) (xs j).length (xs j).length))) g) (gD P C (xs j) el) (told n ts fun ex vs h => match ex with
      | .normal => GrownC P C el V xs (j + 1) vs h
      | ex => Out ex vs h))
    (endN : xs m = [] → ∀ g, J P body (stOf n (ts.zip (V m (.slice none 0 0))) g) (gC P C) (told n ts fun ex vs h => match ex with
      | .normal => False
      | ex => Out ex vs h))
    (endS : xs m ≠ [] → ∀ g, J P body (stOf n (ts.zip (V m (.slice (some ⟨P.globals.size + C.length, 0, none⟩) (xs m).length (xs m).length))) g) (gD P C (xs m) el) (told n ts fun ex vs h => match ex with
      | .normal => False
      | ex => Out ex vs h)) :
    ∀ a h, GrownC P C el V xs 0 (ts.map a.tmp) h → a.n = n → a.marks = [] → J P (.loop body) a h (told n ts Out) := by
  intro a h hi ha hm
  have at0 : ∀ (q i : Nat), ((List.range C.length).map (P.globals.size + ·))[q]? = some i → i = P.globals.size + q := fun q i hi => by
    rw [List.getElem?_map] at hi
    obtain ⟨x, hx, rfl⟩ := Option.map_eq_some_iff.1 hi
    rw [List.getElem?_range (by simpa using (List.getElem?_eq_some_iff.1 hx).1)] at hx
    cases hx; rfl
  have mem0 : ∀ i, i ∈ (List.range C.length).map (P.globals.size + ·) → ∃ q, q < C.length ∧ i = P.globals.size + q := fun i hi => by
    obtain ⟨q, hq, rfl⟩ := List.mem_map.1 hi
    exact ⟨q, by simpa using hq, rfl⟩
  have nod : ((List.range C.length).map (P.globals.size + ·)).Nodup := List.Pairwise.map _ (fun a b h e => h (by omega)) List.nodup_range
  refine loop_rule (fun q vs h => ∃ j, j ≤ m ∧ q = m - j ∧ GrownC P C el V xs j vs h) Out ?_ m _ h a ⟨0, Nat.zero_le _, rfl, hi⟩ ha hm rfl
  rintro q vs h g ⟨j, hj, rfl, hs, ⟨hx, rfl⟩ | ⟨b, d, rfl, hd3, hx, rfl, hd⟩⟩
  · refine J.reheap (es := fun _ => 0) (vs₂ := V j (.slice none 0 0)) (B := C) (ids := (List.range C.length).map (P.globals.size + ·)) hP hts hlt (by simp) nod (fun i hi => by obtain ⟨q, _, rfl⟩ := mem0 i hi; omega) ?_ (hr0 j) ?_ fun g' => ?_
    · intro q b' i hb hi
      obtain rfl := at0 q i hi
      exact ⟨hs q b' hb, hsf b' (List.mem_of_getElem? hb)⟩
    · intro i hi
      obtain ⟨q, hq, rfl⟩ := mem0 i hi
      exact hn0 j _ q hq
    · by_cases hjm : j < m
      · refine (stepN j hjm hx g').mono fun ex a' h' q => ?_
        obtain ⟨q1, q2, q3⟩ := told_facts q
        simp only [told, q1, q2]
        cases ex with
        | normal => exact (by simpa using ⟨m - (j + 1), by omega, j + 1, by omega, rfl, q3⟩)
        | _ => simpa using q3
      · obtain rfl : j = m := by omega
        refine (endN hx g').mono fun ex a' h' q => ?_
        obtain ⟨q1, q2, q3⟩ := told_facts q
        simp only [told, q1, q2]
        cases ex with
        | normal => exact q3.elim
        | _ => simpa using q3
  · refine J.reheap (es := fun _ => 0) (vs₂ := V j (.slice (some ⟨P.globals.size + C.length, 0, none⟩) (xs j).length (xs j).length)) (B := C ++ [(xs j, el, 2, false)]) (ids := (List.range C.length).map (P.globals.size + ·) ++ [P.globals.size + C.length + d]) hP hts hlt (by simp) ?_ (fun i hi => by
      rcases List.mem_append.1 hi with hi | hi
      · obtain ⟨q, _, rfl⟩ := mem0 i hi; omega
      · have := List.mem_singleton.1 hi; omega) ?_ (hr j _ d hd3) ?_ fun g' => ?_
    · rw [List.nodup_append]
      refine ⟨nod, by simp, fun x hx y hy e => ?_⟩
      obtain ⟨q, hq, rfl⟩ := mem0 x hx
      have := List.mem_singleton.1 hy
      omega
    · intro q b' i hb hi
      by_cases hq : q < C.length
      · rw [List.getElem?_append_left hq] at hb
        rw [List.getElem?_append_left (by simpa using hq)] at hi
        obtain rfl := at0 q i hi
        exact ⟨hs q b' hb, hsf b' (List.mem_of_getElem? hb)⟩
      · rw [List.getElem?_append_right (by omega)] at hb
        rw [List.getElem?_append_right (by simpa using Nat.le_of_not_lt hq)] at hi
        simp only [List.length_map, List.length_range] at hi
        match hqq : q - C.length, hb, hi with
        | 0, hb, hi => cases hb; cases hi; exact ⟨hd, hxf j⟩
    · intro i hi
      rcases List.mem_append.1 hi with hi | hi
      · obtain ⟨q, hq, rfl⟩ := mem0 i hi
        exact hn0 j _ q hq
      · obtain rfl := List.mem_singleton.1 hi
        exact hn1 j _ _
    · by_cases hjm : j < m
      · refine (stepS j hjm hx g').mono fun ex a' h' q => ?_
        obtain ⟨q1, q2, q3⟩ := told_facts q
        simp only [told, q1, q2]
        cases ex with
        | normal => exact (by simpa using ⟨m - (j + 1), by omega, j + 1, by omega, rfl, q3⟩)
        | _ => simpa using q3
      · obtain rfl : j = m := by omega
        refine (endS hx g').mono fun ex a' h' q => ?_
        obtain ⟨q1, q2, q3⟩ := told_facts q
        simp only [told, q1, q2]
        cases ex with
        | normal => exact q3.elim
        | _ => simpa using q3
/-- Behind some code, the blocks that some of its temporaries name, under new numbers. -/
theorem J.of_toldR {a : AAct} {h : AHeap} {k : Post} {n : Nat} {ts : List Nat} {c : Code} {Out : Exit → List Value → AHeap → Prop} (hP : 0 < P.globals.size) (hj : J P c a h (told n ts Out))
    (hk : ∀ e vs h', Out e vs h' → ∃ (ts' : List Nat) (vs' vs₂ : List Value) (B : List Blk) (ids : List Nat), (∀ x ∈ ts'.zip vs', x ∈ ts.zip vs) ∧ ids.length = B.length ∧ ids.Nodup ∧ (∀ i ∈ ids, P.globals.size ≤ i) ∧
      (∀ (j : Nat) b i, B[j]? = some b → ids[j]? = some i → h'.get i = some (.cells b.1 b.2.1 b.2.2.1 b.2.2.2) ∧ b.1.all (flat 3) = true) ∧ amapM (renV P.globals.size ids) vs' = some vs₂ ∧ (∀ i ∈ ids, ∃ x ∈ ts'.zip vs', i ∈ named x.2) ∧
      ∀ g, k e (stOf n (ts'.zip vs₂) g) (canonT [] (fun _ => 0) P.globals.size B)) : J P c a h k := by
  refine J.to_view (hj.mono fun e a' h' q => ?_)
  obtain ⟨q1, q2, q3⟩ := told_facts q
  obtain ⟨ts', vs', vs₂, B, ids, sub, hl, hn, hge, hB, hv, hm, hk⟩ := hk _ _ _ q3
  have V : View P h' (canonT [] (typesOf h') P.globals.size B) (preT P.globals.size [] ids) := view_canonT (T := []) rfl rfl hl hn hge hB
  have ce : canonT [] (typesOf h') P.globals.size B = canonT [] (fun _ => 0) P.globals.size B := by
    unfold canonT
    rfl
  rw [ce] at V
  have at' : ∀ x ∈ ts'.zip vs', a'.tmp x.1 = x.2 := fun x hx => zip_facts rfl x (sub x hx)
  refine ⟨_, _, ts'.zip vs₂, 0, V, ?_, ?_, q2, ?_, ?_, fun g => q1 ▸ hk g⟩
  · rw [canonT_n (T := []) rfl]; omega
  · simp only [preT]
    rw [if_neg (by omega)]
    rfl
  · intro x hx
    obtain ⟨v, h1, h2⟩ := zip_at hv hx
    rw [at' _ h1]
    exact renV_spec (T := []) h2
  · intro j i e
    simp only [preT] at e
    split at e
    · obtain ⟨x, hx, hi⟩ := hm i (List.mem_of_getElem? e)
      exact .inr ⟨x.1, by rw [at' _ hx]; exact named_spec hi⟩
    · simp at e
theorem AHeap.get_push_ne {h : AHeap} {o : AObj} {j : Nat} (hn : Nat.beq j h.n = false) : (h.push o).get j = h.get j := by
  rw [AHeap.get_push, if_neg (fun e => by rw [e] at hn; simp at hn)]
theorem AHeap.get_push_eq {h : AHeap} {o : AObj} {j : Nat} (hn : Nat.beq j h.n = true) : (h.push o).get j = some o := by
  rw [AHeap.get_push, if_pos (Nat.eq_of_beq_eq_true hn)]
theorem AHeap.get_set_neB {h : AHeap} {o : AObj} {i j : Nat} (hn : Nat.beq j i = false) : (h.set i o).get j = h.get j := by
  rw [AHeap.get_set, if_neg (fun e => by rw [e] at hn; simp at hn)]
theorem AHeap.get_set_eqB {h : AHeap} {o : AObj} {i j : Nat} (hn : Nat.beq j i = true) : (h.set i o).get j = some o := by
  rw [AHeap.get_set, if_pos (Nat.eq_of_beq_eq_true hn)]
/-- As asksG, for slices that are empty, whatever they name. -/
noncomputable def asksE {α : Type} (f : FuncId) (Y : List α → List Value → (Out → Prop) → Prop) (A : Asks) : Asks := fun f' args h k => match Nat.beq f f' with
  | true => match args.toList with
    | .slice none n xk :: r => match r.all plainB with
      | true => n = 0 ∧ xk = 0 ∧ Y [] r fun o => o.kont h k
      | false => False
    | .slice (some _) n _ :: r => match r.all plainB with
      | true => n = 0 ∧ Y [] r fun o => o.kont h k
      | false => False
    | _ => False
  | false => A f' args h k
theorem asksE_ok {α : Type} {f : FuncId} {d : Value → Option α} {B : Nat} {offs : Bool} {X : List α → List Value → Option Out} {Y : List α → List Value → (Out → Prop) → Prop} (hY : ∀ l r K, Y l r K → ∃ o, X l r = some o ∧ K o) {A : Asks} {orc : Orc} (hA : AsksOk orc A) : AsksOk (orElse f (genO d B offs X) orc) (asksE f Y A) := by
  intro f' args h k hk
  unfold asksE at hk
  split at hk
  · rename_i hf
    split at hk
    · rename_i n xk r hargs
      split at hk
      · rename_i hr
        obtain ⟨rfl, rfl, hk⟩ := hk
        obtain ⟨o, hX, hq⟩ := hY _ _ _ hk
        rw [o.kont_iff] at hq
        refine ⟨_, _, ?_, hq⟩
        have hS : genO d B offs X args h = some (o.val h.n, o.heap h) := by
          unfold genO
          rw [hargs]
          simp only [hr, hX]
        simp only [orElse, hf, hS]
      · exact hk.elim
    · rename_i x n xk r hargs
      split at hk
      · rename_i hr
        obtain ⟨rfl, hk⟩ := hk
        obtain ⟨o, hX, hq⟩ := hY _ _ _ hk
        rw [o.kont_iff] at hq
        refine ⟨_, _, ?_, hq⟩
        have hS : genO d B offs X args h = some (o.val h.n, o.heap h) := by
          unfold genO
          rw [hargs]
          simp only [hr, hX]
        simp only [orElse, hf, hS]
      · exact hk.elim
    · exact hk.elim
  · rename_i hf
    obtain ⟨v, h', e, q⟩ := hA f' args h k hk
    exact ⟨v, h', by simp only [orElse, hf, e], q⟩
end
end Go.Am
/-! (OWN WORK. 'Am': as growC_rule of Am10, for elements of several cells.) -/
namespace Go.Am
section
variable {P : Program}
/-- As Grown, with blocks C that stay as they are, the first ones. -/
def GrownW (P : Program) (C : List Blk) (el rw : Nat) (V : Nat → Value → List Value) (ln : Nat → Nat) (xs : Nat → List Value) (j : Nat) (vs : List Value) (h : AHeap) : Prop :=
  (∀ (q : Nat) b, C[q]? = some b → h.get (P.globals.size + q) = some (.cells b.1 b.2.1 b.2.2.1 b.2.2.2)) ∧
    ((xs j = [] ∧ vs = V j (.slice none 0 0)) ∨ ∃ b d, b = P.globals.size + C.length + d ∧ d ≤ 3 ∧ xs j ≠ [] ∧ vs = V j (.slice (some ⟨b, 0, none⟩) (ln j) (ln j)) ∧ h.get b = some (.cells (xs j) el rw false))
noncomputable abbrev gW (P : Program) (C : List Blk) (c : List Value) (el rw : Nat) : AHeap := canonT [] (fun _ => 0) P.globals.size (C ++ [(c, el, rw, false)])
theorem gW_get {C : List Blk} {q : Nat} {b : Blk} {c : List Value} {el rw : Nat} (hb : C[q]? = some b) : (gW P C c el rw).get (P.globals.size + q) = some (.cells b.1 b.2.1 b.2.2.1 b.2.2.2) :=
  gC_get (by rw [List.getElem?_append_left (List.getElem?_eq_some_iff.1 hb).1]; exact hb)
theorem gW_dst {C : List Blk} {c : List Value} {el rw : Nat} : (gW P C c el rw).get (P.globals.size + C.length) = some (.cells c el rw false) :=
  gC_get (b := (c, el, rw, false)) (by simp)
theorem growW_rule {n : Nat} {ts : List Nat} {body : Code} {C : List Blk} {el rw : Nat} (hP : 0 < P.globals.size) (hts : ts.Nodup) (hlt : ∀ t ∈ ts, t < n) (hsf : ∀ b ∈ C, b.1.all (flat 3) = true)
    (V : Nat → Value → List Value) (ln : Nat → Nat) (xs : Nat → List Value) (m : Nat) (Out : Exit → List Value → AHeap → Prop) (hxf : ∀ j, (xs j).all (flat 3) = true)
    (hr0 : ∀ j, amapM (renV P.globals.size ((List.range C.length).map (P.globals.size + ·))) (V j (.slice none 0 0)) = some (V j (.slice none 0 0)))
    (hr : ∀ j q d, d ≤ 3 → amapM (renV P.globals.size ((List.range C.length).map (P.globals.size + ·) ++ [P.globals.size + C.length + d])) (V j (.slice (some ⟨P.globals.size + C.length + d, 0, none⟩) q q)) = some (V j (.slice (some ⟨P.globals.size + C.length, 0, none⟩) q q)))
    (hn0 : ∀ j s (q : Nat), q < C.length → ∃ x ∈ ts.zip (V j s), P.globals.size + q ∈ named x.2) (hn1 : ∀ j b q, ∃ x ∈ ts.zip (V j (.slice (some ⟨b, 0, none⟩) q q)), b ∈ named x.2)
    (stepN : ∀ j, j < m → xs j = [] → ∀ g, J P body (stOf n (ts.zip (V j (.slice none 0 0))) g) (gC P C) (told n ts fun ex vs h => match ex with
      | .normal => GrownW P C el rw V ln xs (j + 1) vs h
      | ex => Out ex vs h))
    (stepS : ∀ j, j < m → xs j ≠ [] → ∀ g, J P body (stOf n (ts.zip (V j (.slice (some ⟨P.globals.size + C.length, 0, none⟩) (ln j) (ln j)))) g) (gW P C (xs j) el rw) (told n ts fun ex vs h => match ex with
      | .normal => GrownW P C el rw V ln xs (j + 1) vs h
      | ex => Out ex vs h))
    (endN : xs m = [] → ∀ g, J P body (stOf n (ts.zip (V m (.slice none 0 0))) g) (gC P C) (told n ts fun ex vs h => match ex with
      | .normal => False
      | ex => Out ex vs h))
    (endS : xs m ≠ [] → ∀ g, J P body (stOf n (ts.zip (V m (.slice (some ⟨P.globals.size + C.length, 0, none⟩) (ln m) (ln m)))) g) (gW P C (xs m) el rw) (told n ts fun ex vs h => match ex with
      | .normal => False
      | ex => Out ex vs h)) :
    ∀ a h, GrownW P C el rw V ln xs 0 (ts.map a.tmp) h → a.n = n → a.marks = [] → J P (.loop body) a h (told n ts Out) := by
  intro a h hi ha hm
  have at0 : ∀ (q i : Nat), ((List.range C.length).map (P.globals.size + ·))[q]? = some i → i = P.globals.size + q := fun q i hi => by
    rw [List.getElem?_map] at hi
    obtain ⟨x, hx, rfl⟩ := Option.map_eq_some_iff.1 hi
    rw [List.getElem?_range (by simpa using (List.getElem?_eq_some_iff.1 hx).1)] at hx
    cases hx; rfl
  have mem0 : ∀ i, i ∈ (List.range C.length).map (P.globals.size + ·) → ∃ q, q < C.length ∧ i = P.globals.size + q := fun i hi => by
    obtain ⟨q, hq, rfl⟩ := List.mem_map.1 hi
    exact ⟨q, by simpa using hq, rfl⟩
  have nod : ((List.range C.length).map (P.globals.size + ·)).Nodup := List.Pairwise.map _ (fun a b h e => h (by omega)) List.nodup_range
  refine loop_rule (fun q vs h => ∃ j, j ≤ m ∧ q = m - j ∧ GrownW P C el rw V ln xs j vs h) Out ?_ m _ h a ⟨0, Nat.zero_le _, rfl, hi⟩ ha hm rfl
  rintro q vs h g ⟨j, hj, rfl, hs, ⟨hx, rfl⟩ | ⟨b, d, rfl, hd3, hx, rfl, hd⟩⟩
  · refine J.reheap (es := fun _ => 0) (vs₂ := V j (.slice none 0 0)) (B := C) (ids := (List.range C.length).map (P.globals.size + ·)) hP hts hlt (by simp) nod (fun i hi => by obtain ⟨q, _, rfl⟩ := mem0 i hi; omega) ?_ (hr0 j) ?_ fun g' => ?_
    · intro q b' i hb hi
      obtain rfl := at0 q i hi
      exact ⟨hs q b' hb, hsf b' (List.mem_of_getElem? hb)⟩
    · intro i hi
      obtain ⟨q, hq, rfl⟩ := mem0 i hi
      exact hn0 j _ q hq
    · by_cases hjm : j < m
      · refine (stepN j hjm hx g').mono fun ex a' h' q => ?_
        obtain ⟨q1, q2, q3⟩ := told_facts q
        simp only [told, q1, q2]
        cases ex with
        | normal => exact (by simpa using ⟨m - (j + 1), by omega, j + 1, by omega, rfl, q3⟩)
        | _ => simpa using q3
      · obtain rfl : j = m := by omega
        refine (endN hx g').mono fun ex a' h' q => ?_
        obtain ⟨q1, q2, q3⟩ := told_facts q
        simp only [told, q1, q2]
        cases ex with
        | normal => exact q3.elim
        | _ => simpa using q3
  · refine J.reheap (es := fun _ => 0) (vs₂ := V j (.slice (some ⟨P.globals.size + C.length, 0, none⟩) (ln j) (ln j))) (B := C ++ [(xs j, el, rw, false)]) (ids := (List.range C.length).map (P.globals.size + ·) ++ [P.globals.size + C.length + d]) hP hts hlt (by simp) ?_ (fun i hi => by
      rcases List.mem_append.1 hi with hi | hi
      · obtain ⟨q, _, rfl⟩ := mem0 i hi; omega
      · have := List.mem_singleton.1 hi; omega) ?_ (hr j _ d hd3) ?_ fun g' => ?_
    · rw [List.nodup_append]
      refine ⟨nod, by simp, fun x hx y hy e => ?_⟩
      obtain ⟨q, hq, rfl⟩ := mem0 x hx
      have := List.mem_singleton.1 hy
      omega
    · intro q b' i hb hi
      by_cases hq : q < C.length
      · rw [List.getElem?_append_left hq] at hb
        rw [List.getElem?_append_left (by simpa using hq)] at hi
        obtain rfl := at0 q i hi
        exact ⟨hs q b' hb, hsf b' (List.mem_of_getElem? hb)⟩
      · rw [List.getElem?_append_right (by omega)] at hb
        rw [List.getElem?_append_right (by simpa using Nat.le_of_not_lt hq)] at hi
        simp only [List.length_map, List.length_range] at hi
        match hqq : q - C.length, hb, hi with
        | 0, hb, hi => cases hb; cases hi; exact ⟨hd, hxf j⟩
    · intro i hi
      rcases List.mem_append.1 hi with hi | hi
      · obtain ⟨q, hq, rfl⟩ := mem0 i hi
        exact hn0 j _ q hq
      · obtain rfl := List.mem_singleton.1 hi
        exact hn1 j _ _
    · by_cases hjm : j < m
      · refine (stepS j hjm hx g').mono fun ex a' h' q => ?_
        obtain ⟨q1, q2, q3⟩ := told_facts q
        simp only [told, q1, q2]
        cases ex with
        | normal => exact (by simpa using ⟨m - (j + 1), by omega, j + 1, by omega, rfl, q3⟩)
        | _ => simpa using q3
      · obtain rfl : j = m := by omega
        refine (endS hx g').mono fun ex a' h' q => ?_
        obtain ⟨q1, q2, q3⟩ := told_facts q
        simp only [told, q1, q2]
        cases ex with
        | normal => exact q3.elim
        | _ => simpa using q3
end
end Go.Am
/-! (OWN WORK. 'Am': loops over blocks that stay where they are, whatever they hold after each round.) -/
namespace Go.Am
section
variable {P : Program}
/-- These blocks lie at these places. -/
def Laid (C : List Blk) (at_ : Nat → Nat) (h : AHeap) : Prop := ∀ (q : Nat) b, C[q]? = some b → h.get (at_ q) = some (.cells b.1 b.2.1 b.2.2.1 b.2.2.2)
theorem Laid.two {x y : Blk} {at_ : Nat → Nat} {h : AHeap} (h0 : h.get (at_ 0) = some (.cells x.1 x.2.1 x.2.2.1 x.2.2.2)) (h1 : h.get (at_ 1) = some (.cells y.1 y.2.1 y.2.2.1 y.2.2.2)) : Laid [x, y] at_ h := fun q b hb => by
  match q, hb with
  | 0, hb => cases hb; exact h0
  | 1, hb => cases hb; exact h1
theorem Laid.one {x : Blk} {at_ : Nat → Nat} {h : AHeap} (h0 : h.get (at_ 0) = some (.cells x.1 x.2.1 x.2.2.1 x.2.2.2)) : Laid [x] at_ h := fun q b hb => by
  match q, hb with
  | 0, hb => cases hb; exact h0
theorem Laid.three {x y z : Blk} {at_ : Nat → Nat} {h : AHeap} (h0 : h.get (at_ 0) = some (.cells x.1 x.2.1 x.2.2.1 x.2.2.2)) (h1 : h.get (at_ 1) = some (.cells y.1 y.2.1 y.2.2.1 y.2.2.2)) (h2 : h.get (at_ 2) = some (.cells z.1 z.2.1 z.2.2.1 z.2.2.2)) : Laid [x, y, z] at_ h := fun q b hb => by
  match q, hb with
  | 0, hb => cases hb; exact h0
  | 1, hb => cases hb; exact h1
  | 2, hb => cases hb; exact h2
/-- A loop whose rounds are counted, over blocks (L of them) whose contents are those of the round; V tells the temporaries, by the places of the blocks and the round. -/
theorem fold_rule {n : Nat} {ts : List Nat} {body : Code} (L : Nat) (C : Nat → List Blk) (hP : 0 < P.globals.size) (hts : ts.Nodup) (hlt : ∀ t ∈ ts, t < n)
    (hC : ∀ j, (C j).length = L) (hsf : ∀ j, ∀ b ∈ C j, b.1.all (flat 3) = true)
    (V : (Nat → Nat) → Nat → List Value) (I : Nat → Prop) (m : Nat) (hI : I 0) (Out : Exit → List Value → AHeap → Prop) (at₀ : Nat → Nat) (hnd : ((List.range L).map at₀).Nodup) (hge : ∀ q, q < L → P.globals.size ≤ at₀ q)
    (hr₀ : ∀ j, amapM (renV P.globals.size ((List.range L).map at₀)) (V at₀ j) = some (V (P.globals.size + ·) j))
    (hr : ∀ j, amapM (renV P.globals.size ((List.range L).map (P.globals.size + ·))) (V (P.globals.size + ·) j) = some (V (P.globals.size + ·) j))
    (hn : ∀ at_ j q, q < L → ∃ x ∈ ts.zip (V at_ j), at_ q ∈ named x.2)
    (step : ∀ j, j < m → I j → ∀ g, J P body (stOf n (ts.zip (V (P.globals.size + ·) j)) g) (canonT [] (fun _ => 0) P.globals.size (C j)) (told n ts fun ex vs h => match ex with
      | .normal => I (j + 1) ∧ vs = V (P.globals.size + ·) (j + 1) ∧ Laid (C (j + 1)) (P.globals.size + ·) h
      | ex => Out ex vs h))
    (last : I m → ∀ g, J P body (stOf n (ts.zip (V (P.globals.size + ·) m)) g) (canonT [] (fun _ => 0) P.globals.size (C m)) (told n ts fun ex vs h => match ex with
      | .normal => False
      | ex => Out ex vs h)) :
    ∀ a h, Laid (C 0) at₀ h → a.n = n → a.marks = [] → ts.map a.tmp = V at₀ 0 → J P (.loop body) a h (told n ts Out) := by
  intro a h hi ha hm hv
  have round : ∀ (at_ : Nat → Nat) (j : Nat) (h : AHeap) (g : Nat → Value) (Q : Post), ((List.range L).map at_).Nodup → (∀ q, q < L → P.globals.size ≤ at_ q) → amapM (renV P.globals.size ((List.range L).map at_)) (V at_ j) = some (V (P.globals.size + ·) j) → Laid (C j) at_ h →
      (∀ g, J P body (stOf n (ts.zip (V (P.globals.size + ·) j)) g) (canonT [] (fun _ => 0) P.globals.size (C j)) Q) → J P body (stOf n (ts.zip (V at_ j)) g) h Q := by
    intro at_ j h g Q hnd hge hr hl hq
    have at0 : ∀ (q i : Nat), ((List.range L).map at_)[q]? = some i → q < L ∧ i = at_ q := fun q i hi => by
      rw [List.getElem?_map] at hi
      obtain ⟨x, hx, rfl⟩ := Option.map_eq_some_iff.1 hi
      have hq : q < L := by simpa using (List.getElem?_eq_some_iff.1 hx).1
      rw [List.getElem?_range hq] at hx
      cases hx; exact ⟨hq, rfl⟩
    have mem0 : ∀ i, i ∈ (List.range L).map at_ → ∃ q, q < L ∧ i = at_ q := fun i hi => by
      obtain ⟨q, hq, rfl⟩ := List.mem_map.1 hi
      exact ⟨q, by simpa using hq, rfl⟩
    refine J.reheap (es := fun _ => 0) (vs₂ := V (P.globals.size + ·) j) (B := C j) (ids := (List.range L).map at_) hP hts hlt (by simp [hC j]) hnd (fun i hi => by obtain ⟨q, hq, rfl⟩ := mem0 i hi; exact hge q hq) ?_ hr ?_ hq
    · intro q b i hb hi
      obtain ⟨_, rfl⟩ := at0 q i hi
      exact ⟨hl q b hb, hsf j b (List.mem_of_getElem? hb)⟩
    · intro i hi
      obtain ⟨q, hq, rfl⟩ := mem0 i hi
      exact hn at_ j q hq
  refine loop_rule (fun q vs h => ∃ at_ j, ((at_ = at₀) ∨ at_ = (P.globals.size + ·)) ∧ j ≤ m ∧ q = m - j ∧ I j ∧ vs = V at_ j ∧ Laid (C j) at_ h) Out ?_ m _ h a ⟨at₀, 0, .inl rfl, Nat.zero_le _, rfl, hI, hv, hi⟩ ha hm rfl
  rintro q vs h g ⟨at_, j, hat, hj, rfl, hIj, rfl, hl⟩
  have hh : ((List.range L).map at_).Nodup ∧ (∀ q, q < L → P.globals.size ≤ at_ q) ∧ amapM (renV P.globals.size ((List.range L).map at_)) (V at_ j) = some (V (P.globals.size + ·) j) := by
    rcases hat with rfl | rfl
    · exact ⟨hnd, hge, hr₀ j⟩
    · exact ⟨List.Pairwise.map _ (fun a b h e => h (by omega)) List.nodup_range, fun q _ => by show P.globals.size ≤ P.globals.size + q; omega, hr j⟩
  obtain ⟨k1, k2, k3⟩ := hh
  by_cases hjm : j < m
  · refine round at_ j h g _ k1 k2 k3 hl fun g' => (step j hjm hIj g').mono fun ex a' h' q => ?_
    obtain ⟨q1, q2, q3⟩ := told_facts q
    simp only [told, q1, q2, Nat.beq_refl]
    cases ex with
    | normal => exact (⟨m - (j + 1), by omega, (P.globals.size + ·), j + 1, .inr rfl, by omega, rfl, q3.1, q3.2.1, q3.2.2⟩)
    | _ => simpa using q3
  · obtain rfl : j = m := by omega
    refine round at_ j h g _ k1 k2 k3 hl fun g' => (last hIj g').mono fun ex a' h' q => ?_
    obtain ⟨q1, q2, q3⟩ := told_facts q
    simp only [told, q1, q2]
    cases ex with
    | normal => exact q3.elim
    | _ => simpa using q3
end
end Go.Am
