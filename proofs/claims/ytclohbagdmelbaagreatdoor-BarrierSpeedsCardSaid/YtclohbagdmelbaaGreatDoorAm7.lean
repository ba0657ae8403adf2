/-
  OWN WORK. 'Am': a state seen with just the blocks that its temporaries name; calls on plain arguments that are known under a condition.
-/
import Derived.Test.YtclohbagdmelbaaGreatDoorAm6
namespace Go.Am
section
variable {P : Program} {h : AHeap} {k : Post}
theorem zip_at {ts : List Nat} {vs vs₂ : List Value} {f : Value → Option Value} (he : amapM f vs = some vs₂) {x : Nat × Value} (hx : x ∈ ts.zip vs₂) : ∃ v, (x.1, v) ∈ ts.zip vs ∧ f v = some x.2 := by
  obtain ⟨h1, h2⟩ := amapM_spec he
  obtain ⟨i, hi⟩ := List.getElem?_of_mem hx
  rw [List.getElem?_zip_eq_some] at hi
  have hlt : i < vs.length := by rw [h1]; exact (List.getElem?_eq_some_iff.1 hi.2).1
  refine ⟨vs[i], ?_, h2 i _ _ (List.getElem?_eq_getElem hlt) hi.2⟩
  refine List.mem_of_getElem? (i := i) ?_
  rw [List.getElem?_zip_eq_some]
  exact ⟨hi.1, List.getElem?_eq_getElem hlt⟩
theorem stOf_zip {n : Nat} {ts : List Nat} {vs : List Value} {g : Nat → Value} (hts : ts.Nodup) (hlt : ∀ t ∈ ts, t < n) {x : Nat × Value} (hx : x ∈ ts.zip vs) : (stOf n (ts.zip vs) g).tmp x.1 = x.2 := by
  have ht : x.1 ∈ ts := (List.of_mem_zip (show (x.1, x.2) ∈ ts.zip vs from hx)).1
  have e : (stOf n (ts.zip vs) g).tmp x.1 = ov (ts.zip vs) g x.1 := by simp only [stOf, AAct.tmp, get_lit, if_pos (hlt _ ht), Option.getD_some]
  rw [e]
  clear e ht hlt
  induction ts generalizing vs with
  | nil => simp at hx
  | cons t ts ih =>
    cases vs with
    | nil => simp at hx
    | cons v vs =>
      have hn := List.nodup_cons.1 hts
      show (Bool.rec (ov (ts.zip vs) g x.1) v (Nat.beq t x.1) : Value) = x.2
      rcases List.mem_cons.1 hx with rfl | hx
      · simp
      · have hm : x.1 ∈ ts := (List.of_mem_zip (show (x.1, x.2) ∈ ts.zip vs from hx)).1
        have : Nat.beq t x.1 = false := by
          cases hb : Nat.beq t x.1 with
          | false => rfl
          | true => exact absurd (Nat.eq_of_beq_eq_true hb ▸ hm) hn.1
        rw [this]
        exact ih hn.2 hx
/-- The blocks of its own that a state's temporaries name, under new numbers. -/
theorem J.reheap {es : Nat → TypeId} {n : Nat} {ts : List Nat} {vs vs₂ : List Value} {g : Nat → Value} {c : Code} {B : List Blk} {ids : List Nat} (hP : 0 < P.globals.size) (hts : ts.Nodup) (hlt : ∀ t ∈ ts, t < n)
    (hl : ids.length = B.length) (hn : ids.Nodup) (hge : ∀ i ∈ ids, P.globals.size ≤ i) (hB : ∀ (j : Nat) b i, B[j]? = some b → ids[j]? = some i → h.get i = some (.cells b.1 b.2.1 b.2.2.1 b.2.2.2) ∧ b.1.all (flat 3) = true)
    (hv : amapM (renV P.globals.size ids) vs = some vs₂) (hm : ∀ i ∈ ids, ∃ x ∈ ts.zip vs, i ∈ named x.2) (hj : ∀ g, J P c (stOf n (ts.zip vs₂) g) (canonT [] es P.globals.size B) k) : J P c (stOf n (ts.zip vs) g) h k := by
  have V : View P h (canonT [] (typesOf h) P.globals.size B) (preT P.globals.size [] ids) := view_canonT (T := []) rfl rfl hl hn hge hB
  have ce : canonT [] (typesOf h) P.globals.size B = canonT [] es P.globals.size B := by
    unfold canonT
    rfl
  rw [ce] at V
  refine J.from_view V (ts.zip vs₂) (D := 0) (by rw [canonT_n (T := []) rfl]; omega) ?_ rfl ?_ ?_ hj
  · simp only [preT]
    rw [if_neg (by omega)]
    rfl
  · intro x hx
    obtain ⟨v, h1, h2⟩ := zip_at hv hx
    rw [stOf_zip hts hlt h1]
    exact renV_spec (T := []) h2
  · intro j i e
    simp only [preT] at e
    split at e
    · obtain ⟨x, hx, hi⟩ := hm i (List.mem_of_getElem? e)
      exact .inr ⟨x.1, by rw [stOf_zip hts hlt hx]; exact named_spec hi⟩
    · simp at e
end
noncomputable section
/-- The calls of a function on plain arguments, under a condition. -/
def condO (S : List Value → Option (Bool × Value)) : Array Value → AHeap → Option (Value × AHeap) := fun args h => match S args.toList with
  | some (true, v) => some (v, h)
  | _ => none
def asksF (f : FuncId) (S : List Value → Option (Bool × Value)) (A : Asks) : Asks := fun f' args h k => match Nat.beq f f' with
  | true => match S args.toList with
    | some (b, v) => b = true ∧ k v h
    | none => False
  | false => A f' args h k
theorem asksF_ok {f : FuncId} {S : List Value → Option (Bool × Value)} {A : Asks} {orc : Orc} (hA : AsksOk orc A) : AsksOk (orElse f (condO S) orc) (asksF f S A) := by
  intro f' args h k hk
  unfold asksF at hk
  split at hk
  · rename_i hf
    split at hk
    · rename_i b v hS
      obtain ⟨rfl, hk⟩ := hk
      exact ⟨v, h, by simp only [orElse, hf, condO, hS], hk⟩
    · exact hk.elim
  · rename_i hf
    obtain ⟨v, h', e, q⟩ := hA f' args h k hk
    exact ⟨v, h', by simp only [orElse, hf, e], q⟩
end
theorem condO_ok {P : Program} {f : FuncId} {S : List Value → Option (Bool × Value)} (hS : ∀ l v, S l = some (true, v) → l.all (flat 3) = true ∧ flat 3 v = true ∧ CallJ P f l.toArray (emp P) (fun u _ => u = v)) {orc : Orc} (ho : OrcOk P orc) : OrcOk P (orElse f (condO S) orc) := by
  refine orElse_ok ho fun args h v h' hk => ?_
  unfold condO at hk
  split at hk
  · rename_i u hu
    cases hk
    obtain ⟨h1, h2, h3⟩ := hS _ _ hu
    exact plain_flat h1 h2 h3
  · cases hk
noncomputable section
/-- The calls of a function that makes a slice of its own, of as many elements, out of one that it reads. -/
def mapO {α : Type} (d : Value → Option α) (B : Nat) (len : Nat → Nat) (T : List Value → Bool) (X : List α → Option (List Value)) (el : TypeId) : Array Value → AHeap → Option (Value × AHeap) := fun args h => match args.toList with
  | .slice (some ⟨i, 0, none⟩) (m + 1) _ :: r => match h.get i with
    | some (.cells c _ _ _) => match decs d c with
      | some l => match Nat.ble (m + 1) l.length && Nat.ble (m + 1) B && (r.all plainB && T r), X (l.take (m + 1)) with
        | true, some xs => some (.slice (some ⟨h.n, 0, none⟩) (len (m + 1)) (len (m + 1)), h.push (.cells xs el 2 false))
        | _, _ => none
      | none => none
    | _ => none
  | _ => none
def asksM {α : Type} (f : FuncId) (e : α → Value) (B : Nat) (len : Nat → Nat) (T : List Value → Bool) (ok : List α → Prop) (xs : List α → List Value) (el : TypeId) (A : Asks) : Asks := fun f' args h k => match Nat.beq f f' with
  | true => match args.toList with
    | .slice (some ⟨i, 0, none⟩) n _ :: r => match h.get i, r.all plainB && T r with
      | some (.cells c _ _ _), true => ∃ l : List α, c = l.map e ∧ 0 < n ∧ n ≤ l.length ∧ n ≤ B ∧ ok (l.take n) ∧ k (.slice (some ⟨h.n, 0, none⟩) (len n) (len n)) (h.push (.cells (xs (l.take n)) el 2 false))
      | _, _ => False
    | _ => False
  | false => A f' args h k
end
theorem asksM_ok {α : Type} {f : FuncId} {d : Value → Option α} {e : α → Value} (hd : ∀ x, d (e x) = some x) {B : Nat} {len : Nat → Nat} {T : List Value → Bool} {X : List α → Option (List Value)} {ok : List α → Prop} {xs : List α → List Value} (hX : ∀ l, ok l → X l = some (xs l)) {el : TypeId} {A : Asks} {orc : Orc} (hA : AsksOk orc A) : AsksOk (orElse f (mapO d B len T X el) orc) (asksM f e B len T ok xs el A) := by
  intro f' args h k hk
  unfold asksM at hk
  split at hk
  · rename_i hf
    split at hk
    · rename_i i n xk r hargs
      split at hk
      · rename_i c _ _ _ hg hr
        obtain ⟨l, rfl, h0, h1, h2, h3, hk⟩ := hk
        obtain ⟨m, rfl⟩ : ∃ m, n = m + 1 := ⟨n - 1, by omega⟩
        refine ⟨_, _, ?_, hk⟩
        have e1 : Nat.ble (m + 1) l.length = true := by rw [Nat.ble_eq]; exact h1
        have e2 : Nat.ble (m + 1) B = true := by rw [Nat.ble_eq]; exact h2
        simp only [orElse, hf, mapO, hargs, hg, decs_map hd, e1, e2, hr, Bool.and_self, hX _ h3]
      · exact hk.elim
    · exact hk.elim
  · rename_i hf
    obtain ⟨v, h', e, q⟩ := hA f' args h k hk
    exact ⟨v, h', by simp only [orElse, hf, e], q⟩
theorem mapO_ok {P : Program} {α : Type} {f : FuncId} {d : Value → Option α} {e : α → Value} (hd : ∀ v x, d v = some x → v = e x) (hfl : ∀ x, flat 3 (e x) = true) {B : Nat} {len : Nat → Nat} {T : List Value → Bool} {X : List α → Option (List Value)} {el : TypeId} {orc : Orc} (ho : OrcOk P orc)
    (hxs : ∀ l xs, X l = some xs → xs.all (flat 3) = true)
    (hfull : ∀ (l : List α) n r xs el' row k, 0 < n → n ≤ l.length → n ≤ B → T r = true → X (l.take n) = some xs → CallJ P f (rdP P n k :: r).toArray (rdH P (l.map e) el' row) (fun v h' => ∃ r, v = .slice (some ⟨r, 0, none⟩) (len n) (len n) ∧ h'.get r = some (.cells xs el 2 false))) : OrcOk P (orElse f (mapO d B len T X el) orc) := by
  refine orElse_ok ho fun args h v h' hk => ?_
  unfold mapO at hk
  split at hk
  · rename_i i m k r hargs
    split at hk
    · rename_i c el' row ro hg
      split at hk
      · rename_i l hl
        split at hk
        · rename_i xs hc hx
          simp only [Bool.and_eq_true, Nat.ble_eq] at hc
          obtain ⟨⟨h1, h2⟩, hr, hu⟩ := hc
          cases hk
          obtain rfl := decs_some hd hl
          refine CallJ.fresh (hxs _ _ hx) (fun r => .slice (some ⟨r, 0, none⟩) (len (m + 1)) (len (m + 1))) (fun r m' => .slice (by simp)) (fun r ρ c hv => by
            obtain ⟨a', k', _, hp, _⟩ := hv.slice_any
            exact hp.born) (Small.canonE (P := P) (B := [(l.map e, el', row)]) (ids := [i]) (args₂ := (rdP P (m + 1) k :: r).toArray) rfl (by simp) (fun j b i' hb hi => ?_) ⟨?_, fun j x y hx hy => ?_⟩ (fun i' hi => ?_)) (hfull l (m + 1) r xs el' row k (by omega) h1 h2 hu hx)
          · match j, hb, hi with
            | 0, hb, hi =>
              cases hb; cases hi
              refine ⟨⟨ro, hg⟩, ?_⟩
              rw [List.all_eq_true]
              intro x hx
              obtain ⟨y, _, rfl⟩ := List.mem_map.1 hx
              exact hfl y
          · rw [← Array.length_toList, hargs]; simp
          · rw [← Array.getElem?_toList, hargs] at hx
            cases j with
            | zero => cases hx; simp at hy; subst hy; exact .inl (.slice (by simp [preOf]))
            | succ j =>
              have hy : r[j]? = some y := by simpa using hy
              have hx : r[j]? = some x := hx
              rw [hx] at hy
              cases hy
              exact .inl (plain_ren (List.all_eq_true.1 hr x (List.mem_of_getElem? hx)))
          · obtain rfl : i' = i := by simpa using hi
            exact ⟨_, by rw [hargs]; exact .head _, .inl ⟨0, m + 1, k, rfl⟩⟩
        · cases hk
      · cases hk
    · cases hk
  · cases hk
end Go.Am
