/-
  OWN WORK. Lists of samples that are the same.
-/
import Derived.Test.YtgomacijdadjpaaGreatDoorLw0
import Derived.Test.YtgomacijdadjpaaGreatDoorAm12
import Derived.Test.YtgomacijdadjpaaGreatDoorAmFu
namespace Go.Proofs.YtgomacijdadjpaaGreatDoor
open Go Go.Am Ieee

noncomputable abbrev nilS : Value := .slice none 0 0
noncomputable def ne32 (x y : Nat) : Bool := Ieee.single.order x y != some .eq
theorem ss_body (c c' : List Value) (e row e' row' n k m k' j : Nat) (g : Nat → Value) (Q : Exit → List Value → AHeap → Prop) : execC Tryz.prog (exec Tryz.prog orcZ 10) (syOf [(14, 1), (19, 2), (20, 3), (23, 2), (24, 3), (25, 1)]) askZ (noLoops _) 40 (loopOf Tryz.prog 19 0) (stOf 26 [(0, slA n k), (1, slA' m k'), (5, goN j)] g) (twoH c e row c' e' row') (told 26 [0, 1, 5] Q) = (((Nat.blt j n = true → (Nat.blt j n = true ∧ c[(0 + (j * 1))]? = Option.some (gf (floatAt c (0 + (j * 1)))) ∧ Nat.blt j m = true ∧ c'[(0 + (j * 1))]? = Option.some (gf (floatAt c' (0 + (j * 1)))) ∧ (bne (Ieee.Format.order (FloatKind.format FloatKind.f32) (floatAt c (0 + (j * 1))) (floatAt c' (0 + (j * 1)))) (Option.some Ordering.eq) = true → Q .ret [slA n k, slA' m k', goN j] (twoH c e row c' e' row')) ∧ (bne (Ieee.Format.order (FloatKind.format FloatKind.f32) (floatAt c (0 + (j * 1))) (floatAt c' (0 + (j * 1)))) (Option.some Ordering.eq) = false → Q .normal [slA n k, slA' m k', gi (fwrap IntKind.i64 (Int.ofNat (j + 1)))] (twoH c e row c' e' row')))) ∧ (Nat.blt j n = false → Q (.exit 0) [slA n k, slA' m k', goN j] (twoH c e row c' e' row')))) := by kernel_rfl
theorem ne32_self {x : Nat} (h : fin32 x) : ne32 x x = false := by
  obtain ⟨m, a, h1, _, _, _⟩ := sread_fin h
  unfold ne32 Format.order
  rw [h1]
  have : ∀ z : Int, compare z z = .eq := fun z => by simp
  simp only [Datum.order, this]
  rfl
def SameF (A B : List Nat) : Prop := A.length = B.length ∧ ∀ (j : Nat) (h : j < A.length) (h' : j < B.length), ne32 A[j] B[j] = false
theorem SameF.self {A : List Nat} (h : validL A) : SameF A A := ⟨rfl, fun j h1 _ => ne32_self (smp_valid (h _ (List.getElem_mem h1))).1⟩
set_option maxRecDepth 100000 in
theorem ss_loop (A B : List Nat) (hS : SameF A B) (hl : A.length ≤ 65536) (e row e' row' k k' : Nat) : ∀ a : AAct, a.n = 26 → a.marks = [] → [0, 1, 5].map a.tmp = [slA A.length k, slA' B.length k', goN 0] →
    J Tryz.prog (.loop (loopOf Tryz.prog 19 0)) a (twoH (A.map gf) e row (B.map gf) e' row') (told 26 [0, 1, 5] fun ex vs h => ex = .exit 0 ∧ h = twoH (A.map gf) e row (B.map gf) e' row') := by
  intro a hn hm hv
  refine loop_rule (fun m vs h => ∃ j, j ≤ A.length ∧ m = A.length - j ∧ vs = [slA A.length k, slA' B.length k', goN j] ∧ h = twoH (A.map gf) e row (B.map gf) e' row') _ ?_ A.length _ _ a ⟨0, Nat.zero_le _, rfl, rfl, rfl⟩ hn hm hv
  rintro m vs h g ⟨j, hj, rfl, rfl, rfl⟩
  refine execC_ok mixed orcZ_ok askZ_ok (noLoops _) (Eq.mpr (ss_body _ _ e row e' row' _ k _ k' j g _) ?_)
  refine ⟨fun hlt => ?_, fun hge => ⟨rfl, rfl⟩⟩
  have hl' := blt_true hlt
  have hlb : j < B.length := by rw [← hS.1]; exact hl'
  obtain ⟨h1, h2⟩ := float_at hl'
  obtain ⟨h3, h4⟩ := float_at hlb
  have hne := hS.2 j hl' hlb
  refine ⟨hlt, h1, by rw [← hS.1]; exact hlt, h3, fun hc => ?_, fun _ => ⟨A.length - (j + 1), by omega, j + 1, hl', rfl, by rw [fwrap_nat (by omega)], rfl⟩⟩
  rw [h2, h4] at hc
  exact absurd hne (by rw [show ne32 A[j] B[j] = true from hc]; decide)
noncomputable def ssLoops (A B : List Nat) (e row e' row' k k' : Nat) : Loops Tryz.prog where
  body := fun _ => loopOf Tryz.prog 19 0
  spec := fun _ a h c => entry a 26 [(0, slA A.length k), (1, slA' B.length k'), (5, goN 0)] (h = twoH (A.map gf) e row (B.map gf) e' row' ∧ (SameF A B ∧ A.length ≤ 65536) ∧ ∀ g, c (.exit 0) (stOf 26 [] g) (twoH (A.map gf) e row (B.map gf) e' row'))
  ok := fun i a h c q => by
    obtain ⟨h1, h2, h3, rfl, ⟨hs, hs2⟩, h4⟩ := entry_facts q
    refine J.of_told (ss_loop A B hs hs2 e row e' row' k k' a h1 h2 ?_) ?_
    · simp only [List.map_cons, List.map_nil]
      rw [h3 (0, slA A.length k) (by simp), h3 (1, slA' B.length k') (by simp), h3 (5, goN 0) (by simp)]
    · rintro ex vs h' g ⟨rfl, rfl⟩
      exact h4 (ov ([0, 1, 5].zip vs) g)
theorem ss_run (A B : List Nat) (e row e' row' k k' : Nat) (K : Value → Prop) : callC Tryz.prog (exec Tryz.prog orcZ 10) (syOf [(10, 1)]) askZ (ssLoops A B e row e' row' k k') 40 19 #[slA A.length k, slA' B.length k'] (twoH (A.map gf) e row (B.map gf) e' row') (fun v _ => K v) = ((((!(ieq (Int.ofNat (List.length A)) (Int.ofNat (List.length B)))) = true → K (Value.bool false)) ∧ ((!(ieq (Int.ofNat (List.length A)) (Int.ofNat (List.length B)))) = false → (loopOf Tryz.prog 19 0 = loopOf Tryz.prog 19 0 ∧ slA (List.length A) k = slA (List.length A) k ∧ slA' (List.length B) k' = slA' (List.length B) k' ∧ gi 0 = goN 0 ∧ twoH (List.map gf A) e row (List.map gf B) e' row' = twoH (List.map gf A) e row (List.map gf B) e' row' ∧ (SameF A B ∧ (List.length A : Nat) ≤ 65536) ∧ (∀ _ : Nat → Value, K (Value.bool true)))))) := by kernel_rfl
theorem ss_nn : (call Tryz.prog orcZ 60 19 #[nilS, nilS] (emp Tryz.prog)).map (·.1) = some (.bool true) := by kernel_rfl
theorem ss_ne (k : Nat) : (call Tryz.prog orcZ 60 19 #[nilS, .slice (some ⟨0, 0, none⟩) 0 k] (emp Tryz.prog)).map (·.1) = some (.bool true) := by kernel_rfl
theorem ss_en (k : Nat) : (call Tryz.prog orcZ 60 19 #[.slice (some ⟨0, 0, none⟩) 0 k, nilS] (emp Tryz.prog)).map (·.1) = some (.bool true) := by kernel_rfl
theorem ss_ee (k k' : Nat) : (call Tryz.prog orcZ 60 19 #[.slice (some ⟨0, 0, none⟩) 0 k, .slice (some ⟨0, 0, none⟩) 0 k'] (emp Tryz.prog)).map (·.1) = some (.bool true) := by kernel_rfl
open Classical in
noncomputable def ssO : Array Value → AHeap → Option (Value × AHeap) := fun args h => match args.toList with
  | [.slice none 0 0, .slice none 0 0] => some (.bool true, h)
  | [.slice none 0 0, .slice (some _) 0 _] => some (.bool true, h)
  | [.slice (some _) 0 _, .slice none 0 0] => some (.bool true, h)
  | [.slice (some _) 0 _, .slice (some _) 0 _] => some (.bool true, h)
  | [.slice (some ⟨i, 0, none⟩) n _, .slice (some ⟨j, 0, none⟩) m _] => match h.get i with
    | some (.cells c _ _ _) => match h.get j with
      | some (.cells d _ _ _) => if i ≠ j ∧ ∃ A B : List Nat, c = A.map gf ∧ d = B.map gf ∧ n = A.length ∧ m = B.length ∧ A.length ≤ 65536 ∧ SameF A B then some (.bool true, h) else none
      | _ => none
    | _ => none
  | _ => none
theorem small_2e {a b a' b' : Value} {h : AHeap} (h1 : (a' = a ∧ flat 3 a = true) ∨ ∃ x k, a = .slice (some x) 0 k ∧ a' = .slice (some ⟨0, 0, none⟩) 0 k) (h2 : (b' = b ∧ flat 3 b = true) ∨ ∃ x k, b = .slice (some x) 0 k ∧ b' = .slice (some ⟨0, 0, none⟩) 0 k) : ∃ pre, Small Tryz.prog #[a, b] #[a', b'] h (emp Tryz.prog) pre := by
  refine ⟨_, Small.canonE (P := Tryz.prog) (B := []) (ids := []) (args₂ := #[a', b']) rfl (by simp) (fun j b i hb => by simp at hb) ⟨rfl, fun i x y hx hy => ?_⟩ (fun i hi => by simp at hi)⟩
  match i, hx, hy with
  | 0, hx, hy =>
    cases hx; cases hy
    rcases h1 with ⟨rfl, h1⟩ | ⟨x, k, rfl, rfl⟩
    · exact .inl (.flat h1)
    · exact .inr ⟨_, 0, k, rfl, rfl, by simp [preOf], globs_pos⟩
  | 1, hx, hy =>
    cases hx; cases hy
    rcases h2 with ⟨rfl, h2⟩ | ⟨x, k, rfl, rfl⟩
    · exact .inl (.flat h2)
    · exact .inr ⟨_, 0, k, rfl, rfl, by simp [preOf], globs_pos⟩
noncomputable def orcSs : Orc := orElse 19 ssO orcZ
set_option maxRecDepth 100000 in
theorem orcSs_ok : OrcOk Tryz.prog orcSs := by
  refine orElse_ok orcZ_ok fun args h v h' hk => ?_
  unfold ssO at hk
  split at hk
  · rename_i ha
    have : args = #[nilS, nilS] := by rw [← ha]
    subst this
    cases hk
    exact plain_flat rfl rfl (CallJ.of_call mixed orcZ_ok ss_nn fun _ => rfl)
  · rename_i x k ha
    have : args = #[nilS, .slice (some x) 0 k] := by rw [← ha]
    subst this
    cases hk
    obtain ⟨pre, s⟩ := small_2e (h := h) (a := nilS) (a' := nilS) (.inl ⟨rfl, rfl⟩) (.inr ⟨x, k, rfl, rfl⟩)
    exact CallJ.plain rfl s (CallJ.of_call mixed orcZ_ok (ss_ne k) fun _ => rfl)
  · rename_i x k ha
    have : args = #[.slice (some x) 0 k, nilS] := by rw [← ha]
    subst this
    cases hk
    obtain ⟨pre, s⟩ := small_2e (h := h) (b := nilS) (b' := nilS) (.inr ⟨x, k, rfl, rfl⟩) (.inl ⟨rfl, rfl⟩)
    exact CallJ.plain rfl s (CallJ.of_call mixed orcZ_ok (ss_en k) fun _ => rfl)
  · rename_i x k x' k' ha
    have : args = #[.slice (some x) 0 k, .slice (some x') 0 k'] := by rw [← ha]
    subst this
    cases hk
    obtain ⟨pre, s⟩ := small_2e (h := h) (.inr ⟨x, k, rfl, rfl⟩) (.inr ⟨x', k', rfl, rfl⟩)
    exact CallJ.plain rfl s (CallJ.of_call mixed orcZ_ok (ss_ee k k') fun _ => rfl)
  · rename_i i n k j m k' _ ha
    have : args = #[.slice (some ⟨i, 0, none⟩) n k, .slice (some ⟨j, 0, none⟩) m k'] := by rw [← ha]
    subst this
    split at hk
    · rename_i c e row ro hg
      split at hk
      · rename_i d e' row' ro' hg'
        split at hk
        · rename_i hc
          obtain ⟨hne, A, B, rfl, rfl, rfl, rfl, hl, hS⟩ := hc
          cases hk
          refine CallJ.plain rfl (Small.two hne hg (flat_floats A) hg' (flat_floats B)) (callC_ok mixed orcZ_ok askZ_ok (Eq.mpr (ss_run A B e row e' row' k k' _) ⟨fun h1 => ?_, fun _ => ⟨rfl, rfl, rfl, rfl, rfl, ⟨hS, hl⟩, fun _ => rfl⟩⟩))
          rw [ieq_dec, hS.1] at h1
          simp at h1
        · cases hk
      · cases hk
    · cases hk
  · cases hk
noncomputable def askSS (A : Asks) : Asks := fun f' args h k => match Nat.beq 19 f' with
  | true => match args.toList with
    | [.slice none n k1, .slice none m k2] => n = 0 ∧ k1 = 0 ∧ m = 0 ∧ k2 = 0 ∧ k (.bool true) h
    | [.slice none n k1, .slice (some _) m _] => n = 0 ∧ k1 = 0 ∧ m = 0 ∧ k (.bool true) h
    | [.slice (some _) n _, .slice none m k2] => n = 0 ∧ m = 0 ∧ k2 = 0 ∧ k (.bool true) h
    | [.slice (some ⟨i, 0, none⟩) n _, .slice (some ⟨j, 0, none⟩) m _] => match h.get i, h.get j with
      | some (.cells c _ _ _), some (.cells d _ _ _) => Nat.beq i j = false ∧ 0 < n ∧ ∃ A B : List Nat, c = A.map gf ∧ d = B.map gf ∧ n = A.length ∧ m = B.length ∧ A.length ≤ 65536 ∧ SameF A B ∧ k (.bool true) h
      | _, _ => n = 0 ∧ m = 0 ∧ k (.bool true) h
    | _ => False
  | false => A f' args h k
theorem askSS_ok {A : Asks} (hA : AsksOk orcZ A) : AsksOk orcSs (askSS A) := by
  intro f' args h k hk
  unfold askSS at hk
  split at hk
  · rename_i hf
    split at hk
    · rename_i n k1 m k2 hargs
      obtain ⟨rfl, rfl, rfl, rfl, hk⟩ := hk
      exact ⟨_, _, by simp only [orcSs, orElse, hf, ssO, hargs], hk⟩
    · rename_i n k1 x m k2 hargs
      obtain ⟨rfl, rfl, rfl, hk⟩ := hk
      exact ⟨_, _, by simp only [orcSs, orElse, hf, ssO, hargs], hk⟩
    · rename_i x n k1 m k2 hargs
      obtain ⟨rfl, rfl, rfl, hk⟩ := hk
      exact ⟨_, _, by simp only [orcSs, orElse, hf, ssO, hargs], hk⟩
    · rename_i i n k1 j m k2 hargs
      split at hk
      · rename_i c _ _ _ d _ _ _ hg hg'
        obtain ⟨hne, h0, A, B, rfl, rfl, rfl, rfl, hl, hS, hk⟩ := hk
        have hne : i ≠ j := fun e => by subst e; simp at hne
        refine ⟨_, _, ?_, hk⟩
        have : i ≠ j ∧ ∃ A' B' : List Nat, A.map gf = A'.map gf ∧ B.map gf = B'.map gf ∧ A.length = A'.length ∧ B.length = B'.length ∧ A'.length ≤ 65536 ∧ SameF A' B' := ⟨hne, A, B, rfl, rfl, rfl, rfl, hl, hS⟩
        obtain ⟨x, A', rfl⟩ : ∃ x A', A = x :: A' := by cases A with
          | nil => simp at h0
          | cons x A' => exact ⟨x, A', rfl⟩
        have e : ssO args h = some (.bool true, h) := by
          unfold ssO
          rw [hargs]
          simp only [List.length_cons, hg, hg']
          exact if_pos this
        simp only [orcSs, orElse, hf, e]
      · obtain ⟨rfl, rfl, hk⟩ := hk
        exact ⟨_, _, by simp only [orcSs, orElse, hf, ssO, hargs], hk⟩
    · exact hk.elim
  · rename_i hf
    obtain ⟨v, h', e, q⟩ := hA f' args h k hk
    exact ⟨v, h', by simp only [orcSs, orElse, hf, e], q⟩
end Go.Proofs.YtgomacijdadjpaaGreatDoor
