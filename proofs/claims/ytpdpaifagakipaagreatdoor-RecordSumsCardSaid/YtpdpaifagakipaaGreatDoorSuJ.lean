/-
  OWN WORK. Prefix sums of samples, by the program: Prefixes.
-/
import Derived.Test.YtpdpaifagakipaaGreatDoorSuI
namespace Go.Proofs.YtpdpaifagakipaaGreatDoor
open Go Go.Am

theorem firstS_zero : ∀ {l : List Int}, firstS l = 0 → ∀ x ∈ l, x = 0
  | [], _ => fun x hx => by cases hx
  | y :: l, h => by
    unfold firstS at h
    cases hy : ieq y 0 with
    | true =>
      rw [hy] at h
      rw [ieq_dec] at hy
      intro x hx
      rcases List.mem_cons.1 hx with rfl | hx
      · simpa using hy
      · exact firstS_zero h x hx
    | false =>
      rw [hy] at h
      rw [ieq_dec] at hy
      exact absurd h (by simpa using hy)
theorem cs_zero {l : List Nat} (h : csE l = 0) : validL l ∧ l.length ≤ 4096 := by
  have h1 := firstS_zero h
  have h2 := h1 _ (.head _)
  have h3 := h1 (smpsE l) (.tail _ (.head _))
  refine ⟨fun x hx => firstS_zero (l := l.map smpE) h3 _ (List.mem_map.2 ⟨x, hx, rfl⟩), ?_⟩
  unfold whenS at h2
  rw [ilt_dec] at h2
  by_cases hl : (4096 : Int) < Int.ofNat l.length
  · rw [decide_eq_true hl] at h2; cases h2
  · simp only [Int.ofNat_eq_natCast] at hl; omega
theorem pre_run (l : List Nat) (n e row k : Nat) (K : Value → AHeap → Prop) : callC Tryz.prog (exec Tryz.prog orcPd 10) (syOf [(6, 7), (8, 1), (11, 7), (12, 7)]) askPd (noLoops _) 20 31 #[liP n k] (liH (l.map gf) e row) K =
  (∃ l₁ : List Nat, l.map gf = l₁.map gf ∧ 0 < n ∧ n ≤ l₁.length ∧ n ≤ 1000000 ∧ n ≤ k ∧
    ((!ieq (csE (l₁.take n)) 0) = true → K (.tuple #[nilV, gi (csE (l₁.take n))]) (liH (l.map gf) e row)) ∧
    ((!ieq (csE (l₁.take n)) 0) = false → ∃ l₂ : List Nat, l.map gf = l₂.map gf ∧ 0 < n ∧ n ≤ l₂.length ∧ n ≤ 65536 ∧ validL (l₂.take n) ∧
      ∃ l₃ : List Int, unitsL (l₂.take n) = l₃.map gi ∧ 0 < n ∧ n ≤ l₃.length ∧ n ≤ 65535 ∧ True ∧
        K (.tuple #[.slice (some ⟨N1 + 2, 0, none⟩) (n + 1) (n + 1), gi 0]) (((liH (l.map gf) e row).push (icv (unitsL (l₂.take n)))).push (icv (preV (l₃.take n)))))) := by kernel_rfl
theorem small_one {h : AHeap} {i n k el row : Nat} {ro : Bool} {l : List Nat} (hg : h.get i = some (.cells (l.map gf) el row ro)) : ∃ pre, Small Tryz.prog #[.slice (some ⟨i, 0, none⟩) n k] #[liP n k] h (liH (l.map gf) el row) pre := by
  refine ⟨_, Small.canon (ids := [i]) (B := [(l.map gf, el, row)]) rfl (by simp) (fun j b i' hb hi => ?_) ⟨rfl, fun j x y hx hy => ?_⟩ (fun i' hi => ?_)⟩
  · match j, hb, hi with
    | 0, hb, hi => cases hb; cases hi; exact ⟨⟨ro, hg⟩, flat_floats l⟩
  · match j, hx, hy with
    | 0, hx, hy => cases hx; cases hy; exact .slice (j := Tryz.prog.globals.size) (by simp [preOf])
  · obtain rfl : i' = i := by simpa using hi
    exact ⟨_, .head _, .inl ⟨0, n, k, rfl⟩⟩
noncomputable abbrev tupS (b n : Nat) : Value := .tuple #[.slice (some ⟨b, 0, none⟩) n n, gi 0]
noncomputable abbrev tupE (x : Int) : Value := .tuple #[nilV, gi x]
theorem fresh_tup {h : AHeap} {f : FuncId} {i n k q el row : Nat} {ro : Bool} {l : List Nat} {xs : List Int} (hg : h.get i = some (.cells (l.map gf) el row ro)) (hc : CallJ Tryz.prog f #[liP n k] (liH (l.map gf) el row) (fun v h' => ∃ r, v = tupS r q ∧ h'.get r = some (icv (xs.map gi)))) :
    ∀ ρ args' w, HRel ρ h w → Globs Tryz.prog ρ → ARel (VRel ρ) #[.slice (some ⟨i, 0, none⟩) n k] args' → CallsIn (fence none) 0 Tryz.prog f args' w (CPost ρ h w (tupS h.n q) (h.push (icv (xs.map gi)))) := by
  obtain ⟨pre, s⟩ := small_one (n := n) (k := k) hg
  exact CallJ.fresh (flat_ints xs) (fun r => tupS r q)
    (fun r m => .tuple (l := [.slice (some ⟨r, 0, none⟩) q q, gi 0]) (l₂ := [.slice (some ⟨m, 0, none⟩) q q, gi 0]) rfl fun i a b ha hb => by
      match i, ha, hb with
      | 0, ha, hb => cases ha; cases hb; exact .slice (by simp)
      | 1, ha, hb => cases ha; cases hb; exact .flat rfl)
    (fun r ρ c hv => by
      obtain ⟨vs, rfl, h1, h2⟩ := hv.unfold
      have hlt : 0 < vs.size := by rw [← h1]; exact Nat.zero_lt_succ _
      exact Mentions.born (.inl ⟨0, q, q, rfl⟩) (h2 0 _ vs[0] rfl (Array.getElem?_eq_getElem hlt)))
    s hc
noncomputable def prO : Array Value → AHeap → Option (Value × AHeap) := fun args h => match args.toList with
  | [.slice (some ⟨i, 0, none⟩) (m + 1) k] => match h.get i with
    | some (.cells c _ _ _) => match decs dF c with
      | some l => match Nat.ble (m + 1) l.length && Nat.ble (m + 1) 1000000 && Nat.ble (m + 1) k with
        | true => match ieq (csE (l.take (m + 1))) 0 with
          | true => some (tupS h.n (m + 2), h.push (icv (preU (l.take (m + 1)))))
          | false => some (tupE (csE (l.take (m + 1))), h)
        | false => none
      | none => none
    | _ => none
  | _ => none
noncomputable def askPr (b : Bool) (A : Asks) : Asks := fun f' args h k => match Nat.beq 31 f' with
  | true => match args.toList with
    | [.slice (some ⟨i, 0, none⟩) n xk] => match h.get i with
      | some (.cells c _ _ _) => ∃ l : List Nat, c = l.map gf ∧ 0 < n ∧ n ≤ l.length ∧ n ≤ 1000000 ∧ n ≤ xk ∧ ieq (csE (l.take n)) 0 = b ∧
          Bool.rec (motive := fun _ => Prop) (k (tupE (csE (l.take n))) h) (k (tupS h.n (n + 1)) (h.push (icv (preU (l.take n))))) b
      | _ => False
    | _ => False
  | false => A f' args h k
theorem askPr_ok {b : Bool} {A : Asks} {orc : Orc} (hA : AsksOk orc A) : AsksOk (orElse 31 prO orc) (askPr b A) := by
  intro f' args h k hk
  unfold askPr at hk
  split at hk
  · rename_i hf
    split at hk
    · rename_i i n xk hargs
      split at hk
      · rename_i c _ _ _ hg
        obtain ⟨l, rfl, h0, h1, h2, h3, h4, hk⟩ := hk
        obtain ⟨m, rfl⟩ : ∃ m, n = m + 1 := ⟨n - 1, by omega⟩
        have e1 : Nat.ble (m + 1) l.length = true := by rw [Nat.ble_eq]; exact h1
        have e2 : Nat.ble (m + 1) 1000000 = true := by rw [Nat.ble_eq]; exact h2
        have e3 : Nat.ble (m + 1) xk = true := by rw [Nat.ble_eq]; exact h3
        cases b with
        | true => exact ⟨_, _, by simp only [orElse, hf, prO, hargs, hg, decs_map (d := dF) (e := gf) (fun _ => rfl), e1, e2, e3, Bool.and_self, h4], hk⟩
        | false => exact ⟨_, _, by simp only [orElse, hf, prO, hargs, hg, decs_map (d := dF) (e := gf) (fun _ => rfl), e1, e2, e3, Bool.and_self, h4], hk⟩
      · exact hk.elim
    · exact hk.elim
  · rename_i hf
    obtain ⟨v, h', e, q⟩ := hA f' args h k hk
    exact ⟨v, h', by simp only [orElse, hf, e], q⟩
noncomputable def orcPe : Orc := orElse 31 prO orcPd
set_option maxRecDepth 100000 in
theorem pre_call (l : List Nat) (n e row k : Nat) (h0 : 0 < n) (h1 : n ≤ l.length) (h2 : n ≤ 1000000) (h3 : n ≤ k) (K : Value → AHeap → Prop)
    (hv : csE (l.take n) = 0 → ∀ h', h'.get (N1 + 2) = some (icv (preU (l.take n))) → K (tupS (N1 + 2) (n + 1)) h') (hi : csE (l.take n) ≠ 0 → K (tupE (csE (l.take n))) (liH (l.map gf) e row)) :
    CallJ Tryz.prog 31 #[liP n k] (liH (l.map gf) e row) K := by
  refine callC_ok mixed orcPd_ok askPd_ok (Eq.mpr (pre_run l n e row k K) ⟨l, rfl, h0, h1, h2, h3, fun h => hi ?_, fun h => ?_⟩)
  · rw [ieq_dec] at h
    simpa using h
  · rw [ieq_dec] at h
    have hz : csE (l.take n) = 0 := by simpa using h
    obtain ⟨hva, hle⟩ := cs_zero hz
    rw [List.length_take] at hle
    have ht : ((l.take n).map unitE).take n = (l.take n).map unitE := List.take_of_length_le (by rw [List.length_map, List.length_take]; omega)
    refine ⟨l, rfl, h0, h1, by omega, hva, (l.take n).map unitE, rfl, h0, by rw [List.length_map, List.length_take]; omega, by omega, trivial, hv hz _ ?_⟩
    rw [AHeap.get_push, if_pos (by rfl), ht]
    rfl
set_option maxRecDepth 100000 in
theorem orcPe_ok : OrcOk Tryz.prog orcPe := by
  refine orElse_ok orcPd_ok fun args h v h' hk => ?_
  unfold prO at hk
  split at hk
  · rename_i i m k ha
    have : args = #[.slice (some ⟨i, 0, none⟩) (m + 1) k] := by rw [← ha]
    subst this
    split at hk
    · rename_i c el row ro hg
      split at hk
      · rename_i l hl
        obtain rfl := decs_some dF_some hl
        split at hk
        · rename_i hc
          simp only [Bool.and_eq_true, Nat.ble_eq] at hc
          obtain ⟨⟨h1, h2⟩, h3⟩ := hc
          split at hk
          · rename_i he
            rw [ieq_dec] at he
            have he : csE (l.take (m + 1)) = 0 := by simpa using he
            cases hk
            exact fresh_tup hg (pre_call l (m + 1) el row k (by omega) h1 h2 h3 _ (fun _ h' hg => ⟨_, rfl, hg⟩) (fun hn => absurd he hn))
          · rename_i he
            rw [ieq_dec] at he
            have he : csE (l.take (m + 1)) ≠ 0 := by simpa using he
            cases hk
            obtain ⟨pre, s⟩ := small_one (n := m + 1) (k := k) hg
            exact CallJ.plain rfl s (pre_call l (m + 1) el row k (by omega) h1 h2 h3 _ (fun hn => absurd hn he) (fun _ => rfl))
        · cases hk
      · cases hk
    · cases hk
  · cases hk
theorem askPe_ok (b : Bool) : AsksOk orcPe (askPr b askPd) := askPr_ok askPd_ok
end Go.Proofs.YtpdpaifagakipaaGreatDoor
