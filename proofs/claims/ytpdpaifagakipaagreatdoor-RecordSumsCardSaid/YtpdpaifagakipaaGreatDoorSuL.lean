/-
  OWN WORK. Lists of integers that are the same.
-/
import Derived.Test.YtpdpaifagakipaaGreatDoorSuK
namespace Go.Proofs.YtpdpaifagakipaaGreatDoor
open Go Go.Am

noncomputable abbrev twoH (c : List Value) (e row : Nat) (c' : List Value) (e' row' : Nat) : AHeap := canon Tryz.prog [(c, e, row), (c', e', row')]
noncomputable abbrev slA (n k : Nat) : Value := .slice (some ⟨Tryz.prog.globals.size, 0, none⟩) n k
noncomputable abbrev slA' (n k : Nat) : Value := .slice (some ⟨Tryz.prog.globals.size + 1, 0, none⟩) n k
theorem same_body (c c' : List Value) (e row e' row' n k m k' j : Nat) (g : Nat → Value) (Q : Exit → List Value → AHeap → Prop) :
    execC Tryz.prog (exec Tryz.prog orcPf 10) (syOf [(14, 1), (19, 2), (20, 3), (23, 2), (24, 3), (25, 1)]) (askPf true) (noLoops _) 40 (loopOf Tryz.prog 36 0) (stOf 26 [(0, slA n k), (1, slA' m k'), (5, goN j)] g) (twoH c e row c' e' row') (told 26 [0, 1, 5] Q) =
    ((Nat.blt j n = true → Nat.blt j n = true ∧ c[0 + j * 1]? = some (gi (intAt c (0 + j * 1))) ∧ Nat.blt j m = true ∧ c'[0 + j * 1]? = some (gi (intAt c' (0 + j * 1))) ∧
      ((!ieq (intAt c (0 + j * 1)) (intAt c' (0 + j * 1))) = true → Q .ret [slA n k, slA' m k', goN j] (twoH c e row c' e' row')) ∧
      ((!ieq (intAt c (0 + j * 1)) (intAt c' (0 + j * 1))) = false → Q .normal [slA n k, slA' m k', .int .i64 (fwrap .i64 (Int.ofNat (j + 1)))] (twoH c e row c' e' row'))) ∧
     (Nat.blt j n = false → Q (.exit 0) [slA n k, slA' m k', goN j] (twoH c e row c' e' row'))) := by kernel_rfl
set_option maxRecDepth 100000 in
theorem same_loop (l : List Int) (hl : l.length ≤ 65536) (e row e' row' k k' : Nat) : ∀ a : AAct, a.n = 26 → a.marks = [] → [0, 1, 5].map a.tmp = [slA l.length k, slA' l.length k', goN 0] →
    J Tryz.prog (.loop (loopOf Tryz.prog 36 0)) a (twoH (l.map gi) e row (l.map gi) e' row') (told 26 [0, 1, 5] fun ex vs h => ex = .exit 0 ∧ h = twoH (l.map gi) e row (l.map gi) e' row') := by
  intro a hn hm hv
  refine loop_rule (fun m vs h => ∃ j, j ≤ l.length ∧ m = l.length - j ∧ vs = [slA l.length k, slA' l.length k', goN j] ∧ h = twoH (l.map gi) e row (l.map gi) e' row') _ ?_ l.length _ _ a ⟨0, Nat.zero_le _, rfl, rfl, rfl⟩ hn hm hv
  rintro m vs h g ⟨j, hj, rfl, rfl, rfl⟩
  refine execC_ok mixed orcPf_ok (askPf_ok true) (noLoops _) (Eq.mpr (same_body _ _ e row e' row' _ k _ k' j g _) ?_)
  refine ⟨fun hlt => ?_, fun hge => ⟨rfl, rfl⟩⟩
  have hl' := blt_true hlt
  obtain ⟨h1, _⟩ := int_at (List.getElem?_eq_getElem hl')
  refine ⟨hlt, h1, hlt, h1, fun h3 => ?_, fun _ => ⟨l.length - (j + 1), by omega, j + 1, hl', rfl, by rw [fwrap_nat (by omega)], rfl⟩⟩
  rw [ieq_dec] at h3
  simp at h3
noncomputable def sameLoops (l : List Int) (e row e' row' k k' : Nat) : Loops Tryz.prog where
  body := fun _ => loopOf Tryz.prog 36 0
  spec := fun _ a h c => entry a 26 [(0, slA l.length k), (1, slA' l.length k'), (5, goN 0)] (h = twoH (l.map gi) e row (l.map gi) e' row' ∧ l.length ≤ 65536 ∧ ∀ g, c (.exit 0) (stOf 26 [] g) (twoH (l.map gi) e row (l.map gi) e' row'))
  ok := fun i a h c q => by
    obtain ⟨h1, h2, h3, rfl, hs, h4⟩ := entry_facts q
    refine J.of_told (same_loop l hs e row e' row' k k' a h1 h2 ?_) ?_
    · simp only [List.map_cons, List.map_nil]
      rw [h3 (0, slA l.length k) (by simp), h3 (1, slA' l.length k') (by simp), h3 (5, goN 0) (by simp)]
    · rintro ex vs h' g ⟨rfl, rfl⟩
      exact h4 (ov ([0, 1, 5].zip vs) g)
theorem same_run (l : List Int) (e row e' row' k k' : Nat) (K : Value → AHeap → Prop) : callC Tryz.prog (exec Tryz.prog orcPf 10) (syOf [(10, 1)]) (askPf true) (sameLoops l e row e' row' k k') 40 36 #[slA l.length k, slA' l.length k'] (twoH (l.map gi) e row (l.map gi) e' row') K =
  (((!ieq (Int.ofNat l.length) (Int.ofNat l.length)) = true → K (.bool false) (twoH (l.map gi) e row (l.map gi) e' row')) ∧
   ((!ieq (Int.ofNat l.length) (Int.ofNat l.length)) = false → loopOf Tryz.prog 36 0 = loopOf Tryz.prog 36 0 ∧ slA l.length k = slA l.length k ∧ slA' l.length k' = slA' l.length k' ∧ goN 0 = goN 0 ∧
     twoH (l.map gi) e row (l.map gi) e' row' = twoH (l.map gi) e row (l.map gi) e' row' ∧ l.length ≤ 65536 ∧ ∀ _ : Nat → Value, K (.bool true) (twoH (l.map gi) e row (l.map gi) e' row'))) := by kernel_rfl
theorem same_nil : (call Tryz.prog orcPf 60 36 #[nilV, nilV] (emp Tryz.prog)).map (·.1) = some (.bool true) := by kernel_rfl
theorem same_none (c : List Value) (e row k : Nat) : (call Tryz.prog orcPf 60 36 #[slA 0 k, nilV] (canon Tryz.prog [(c, e, row)])).map (·.1) = some (.bool true) := by kernel_rfl

open Classical in
noncomputable def sameO : Array Value → AHeap → Option (Value × AHeap) := fun args h => match args.toList with
  | [.slice none 0 0, .slice none 0 0] => some (.bool true, h)
  | [.slice (some ⟨i, 0, none⟩) n _, .slice none 0 0] => match h.get i with
    | some (.cells c _ _ _) => if n = 0 ∧ c.all (flat 3) = true then some (.bool true, h) else none
    | _ => none
  | [.slice (some ⟨i, 0, none⟩) n _, .slice (some ⟨j, 0, none⟩) m _] => match h.get i with
    | some (.cells c _ _ _) => match h.get j with
      | some (.cells d _ _ _) => if i ≠ j ∧ ∃ l : List Int, c = l.map gi ∧ d = l.map gi ∧ n = l.length ∧ m = l.length ∧ l.length ≤ 65536 then some (.bool true, h) else none
      | _ => none
    | _ => none
  | _ => none
theorem rens_two {pre : Pre} {a b a' b' : Value} (h1 : Ren pre a a') (h2 : Ren pre b b') : (#[a, b] : Array Value).size = #[a', b'].size ∧ ∀ (i : Nat) x y, (#[a, b] : Array Value)[i]? = some x → (#[a', b'] : Array Value)[i]? = some y → Ren pre x y :=
  ⟨rfl, fun i x y hx hy => by
    match i, hx, hy with
    | 0, hx, hy => cases hx; cases hy; exact h1
    | 1, hx, hy => cases hx; cases hy; exact h2⟩
noncomputable def orcPg : Orc := orElse 36 sameO orcPf
set_option maxRecDepth 100000 in
theorem orcPg_ok : OrcOk Tryz.prog orcPg := by
  refine orElse_ok orcPf_ok fun args h v h' hk => ?_
  unfold sameO at hk
  split at hk
  · rename_i ha
    have : args = #[nilV, nilV] := by rw [← ha]
    subst this
    cases hk
    exact plain_flat rfl rfl (CallJ.of_call mixed orcPf_ok same_nil fun _ => rfl)
  · rename_i i n k ha
    have : args = #[.slice (some ⟨i, 0, none⟩) n k, nilV] := by rw [← ha]
    subst this
    split at hk
    · rename_i c e row ro hg
      split at hk
      · rename_i hc
        obtain ⟨rfl, hc⟩ := hc
        cases hk
        refine CallJ.plain rfl (Small.canon (ids := [i]) (B := [(c, e, row)]) rfl (by simp) (fun j b i' hb hi => ?_) (rens_two (.slice (j := Tryz.prog.globals.size) (by simp [preOf])) (.flat rfl)) (fun i' hi => ?_)) (CallJ.of_call mixed orcPf_ok (same_none c e row k) fun _ => rfl)
        · match j, hb, hi with
          | 0, hb, hi => cases hb; cases hi; exact ⟨⟨ro, hg⟩, hc⟩
        · obtain rfl : i' = i := by simpa using hi
          exact ⟨_, .head _, .inl ⟨0, 0, k, rfl⟩⟩
      · cases hk
    · cases hk
  · rename_i i n k j m k' ha
    have : args = #[.slice (some ⟨i, 0, none⟩) n k, .slice (some ⟨j, 0, none⟩) m k'] := by rw [← ha]
    subst this
    split at hk
    · rename_i c e row ro hg
      split at hk
      · rename_i d e' row' ro' hg'
        split at hk
        · rename_i hc
          obtain ⟨hne, l, rfl, rfl, rfl, rfl, hl⟩ := hc
          cases hk
          refine CallJ.plain rfl (Small.two hne hg (flat_ints l) hg' (flat_ints l)) (callC_ok mixed orcPf_ok (askPf_ok true) (Eq.mpr (same_run l e row e' row' k k' _) ⟨fun h1 => ?_, fun _ => ⟨rfl, rfl, rfl, rfl, rfl, hl, fun _ => rfl⟩⟩))
          rw [ieq_dec] at h1
          simp at h1
        · cases hk
      · cases hk
    · cases hk
  · cases hk
noncomputable def askPg (b : Bool) : Asks := fun f' args h k => match Nat.beq 36 f' with
  | true => match args.toList with
    | [.slice none 0 0, .slice none 0 0] => k (.bool true) h
    | [.slice (some ⟨i, 0, none⟩) n _, .slice (some ⟨j, 0, none⟩) m _] => match h.get i, h.get j with
      | some (.cells c _ _ _), some (.cells d _ _ _) => Nat.beq i j = false ∧ ∃ l : List Int, c = l.map gi ∧ d = l.map gi ∧ n = l.length ∧ m = l.length ∧ l.length ≤ 65536 ∧ k (.bool true) h
      | _, _ => False
    | _ => False
  | false => askPf b f' args h k
theorem askPg_ok (b : Bool) : AsksOk orcPg (askPg b) := by
  intro f' args h k hk
  unfold askPg at hk
  split at hk
  · rename_i hf
    split at hk
    · rename_i hargs
      exact ⟨_, _, by simp only [orcPg, orElse, hf, sameO, hargs], hk⟩
    · rename_i i n _ j m _ hargs
      split at hk
      · rename_i c _ _ _ d _ _ _ hg hg'
        obtain ⟨hne, l, rfl, rfl, rfl, rfl, hl, hk⟩ := hk
        have hne : i ≠ j := fun e => by subst e; simp at hne
        refine ⟨_, _, ?_, hk⟩
        have : i ≠ j ∧ ∃ l' : List Int, l.map gi = l'.map gi ∧ l.map gi = l'.map gi ∧ l.length = l'.length ∧ l.length = l'.length ∧ l'.length ≤ 65536 := ⟨hne, l, rfl, rfl, rfl, rfl, hl⟩
        simp only [orcPg, orElse, hf, sameO, hargs, hg, hg', if_pos this]
      · exact hk.elim
    · exact hk.elim
  · rename_i hf
    obtain ⟨v, h', e, q⟩ := askPf_ok b f' args h k hk
    exact ⟨v, h', by simp only [orcPg, orElse, hf, e], q⟩
end Go.Proofs.YtpdpaifagakipaaGreatDoor
