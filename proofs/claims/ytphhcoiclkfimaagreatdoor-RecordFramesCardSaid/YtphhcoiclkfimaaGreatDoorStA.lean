/-
  OWN WORK. Lists of bytes that are the same.
-/
import Derived.Test.YtphhcoiclkfimaaGreatDoorSlZ
namespace Go.Proofs.YtphhcoiclkfimaaGreatDoor
open Go Go.Am

theorem askSk_ok : AsksOk orcSb (askSb askSm) := askSb_ok askSm_ok
theorem sb_run (A B : List Int) (e row e' row' k k' : Nat) (K : Value → Prop) : callC Tryz.prog (exec Tryz.prog orcSb 10) (syOf [(6, 36), (8, 36)]) (askSb askSm) (noLoops _) 40 34 #[slA A.length k, slA' B.length k'] (twoH (A.map gb) e row (B.map gb) e' row') (fun v _ => K v) = ((∃ x1 : List Int, (List.map gb A = List.map (Value.int IntKind.u8) x1 ∧ (0 : Nat) < List.length A ∧ ((0 + List.length A) : Nat) ≤ List.length x1 ∧ (∃ x2 : List Int, (List.map gb B = List.map (Value.int IntKind.u8) x2 ∧ (0 : Nat) < List.length B ∧ ((0 + List.length B) : Nat) ≤ List.length x2 ∧ K (Value.bool (BEq.beq (ByteArray.toList (strB (List.take (List.length A) (List.drop 0 x1)))) (ByteArray.toList (strB (List.take (List.length B) (List.drop 0 x2))))))))))) := by kernel_rfl
theorem sb_nn : (call Tryz.prog orcSb 60 34 #[nilS, nilS] (emp Tryz.prog)).map (·.1) = some (.bool true) := by kernel_rfl
theorem sb_ne (k : Nat) : (call Tryz.prog orcSb 60 34 #[nilS, .slice (some ⟨0, 0, none⟩) 0 k] (emp Tryz.prog)).map (·.1) = some (.bool true) := by kernel_rfl
theorem sb_en (k : Nat) : (call Tryz.prog orcSb 60 34 #[.slice (some ⟨0, 0, none⟩) 0 k, nilS] (emp Tryz.prog)).map (·.1) = some (.bool true) := by kernel_rfl
theorem sb_ee (k k' : Nat) : (call Tryz.prog orcSb 60 34 #[.slice (some ⟨0, 0, none⟩) 0 k, .slice (some ⟨0, 0, none⟩) 0 k'] (emp Tryz.prog)).map (·.1) = some (.bool true) := by kernel_rfl
open Classical in
noncomputable def sbO : Array Value → AHeap → Option (Value × AHeap) := fun args h => match args.toList with
  | [.slice none 0 0, .slice none 0 0] => some (.bool true, h)
  | [.slice none 0 0, .slice (some _) 0 _] => some (.bool true, h)
  | [.slice (some _) 0 _, .slice none 0 0] => some (.bool true, h)
  | [.slice (some _) 0 _, .slice (some _) 0 _] => some (.bool true, h)
  | [.slice (some ⟨i, 0, none⟩) n _, .slice (some ⟨j, 0, none⟩) m _] => match h.get i with
    | some (.cells c _ _ _) => match h.get j with
      | some (.cells d _ _ _) => if i ≠ j ∧ ∃ A B : List Int, c = A.map gb ∧ d = B.map gb ∧ n = A.length ∧ m = B.length ∧ A.length ≤ 1000000 ∧ 0 < A.length ∧ A = B then some (.bool true, h) else none
      | _ => none
    | _ => none
  | _ => none
noncomputable def orcSc : Orc := orElse 34 sbO orcSb
set_option maxRecDepth 100000 in
theorem orcSc_ok : OrcOk Tryz.prog orcSc := by
  refine orElse_ok orcSb_ok fun args h v h' hk => ?_
  unfold sbO at hk
  split at hk
  · rename_i ha
    have : args = #[nilS, nilS] := by rw [← ha]
    subst this
    cases hk
    exact plain_flat rfl rfl (CallJ.of_call mixed orcSb_ok sb_nn fun _ => rfl)
  · rename_i x k ha
    have : args = #[nilS, .slice (some x) 0 k] := by rw [← ha]
    subst this
    cases hk
    obtain ⟨pre, s⟩ := small_2e (h := h) (a := nilS) (a' := nilS) (.inl ⟨rfl, rfl⟩) (.inr ⟨x, k, rfl, rfl⟩)
    exact CallJ.plain rfl s (CallJ.of_call mixed orcSb_ok (sb_ne k) fun _ => rfl)
  · rename_i x k ha
    have : args = #[.slice (some x) 0 k, nilS] := by rw [← ha]
    subst this
    cases hk
    obtain ⟨pre, s⟩ := small_2e (h := h) (b := nilS) (b' := nilS) (.inr ⟨x, k, rfl, rfl⟩) (.inl ⟨rfl, rfl⟩)
    exact CallJ.plain rfl s (CallJ.of_call mixed orcSb_ok (sb_en k) fun _ => rfl)
  · rename_i x k x' k' ha
    have : args = #[.slice (some x) 0 k, .slice (some x') 0 k'] := by rw [← ha]
    subst this
    cases hk
    obtain ⟨pre, s⟩ := small_2e (h := h) (.inr ⟨x, k, rfl, rfl⟩) (.inr ⟨x', k', rfl, rfl⟩)
    exact CallJ.plain rfl s (CallJ.of_call mixed orcSb_ok (sb_ee k k') fun _ => rfl)
  · rename_i i n k j m k' _ ha
    have : args = #[.slice (some ⟨i, 0, none⟩) n k, .slice (some ⟨j, 0, none⟩) m k'] := by rw [← ha]
    subst this
    split at hk
    · rename_i c e row ro hg
      split at hk
      · rename_i d e' row' ro' hg'
        split at hk
        · rename_i hc
          obtain ⟨hne, A, B, rfl, rfl, rfl, rfl, hl, h0, rfl⟩ := hc
          cases hk
          refine CallJ.plain rfl (Small.two hne hg (flat_bytes A) hg' (flat_bytes A)) (callC_ok mixed orcSb_ok askSk_ok (Eq.mpr (sb_run A A e row e' row' k k' _) ⟨A, rfl, h0, by omega, A, rfl, h0, by omega, ?_⟩))
          rw [beq_self_eq_true]
        · cases hk
      · cases hk
    · cases hk
  · cases hk
noncomputable def askSB (A : Asks) : Asks := fun f' args h k => match Nat.beq 34 f' with
  | true => match args.toList with
    | [.slice none n k1, .slice none m k2] => n = 0 ∧ k1 = 0 ∧ m = 0 ∧ k2 = 0 ∧ k (.bool true) h
    | [.slice none n k1, .slice (some _) m _] => n = 0 ∧ k1 = 0 ∧ m = 0 ∧ k (.bool true) h
    | [.slice (some _) n _, .slice none m k2] => n = 0 ∧ m = 0 ∧ k2 = 0 ∧ k (.bool true) h
    | [.slice (some ⟨i, 0, none⟩) n _, .slice (some ⟨j, 0, none⟩) m _] => match h.get i, h.get j with
      | some (.cells c _ _ _), some (.cells d _ _ _) => Nat.beq i j = false ∧ 0 < n ∧ ∃ A B : List Int, c = A.map gb ∧ d = B.map gb ∧ n = A.length ∧ m = B.length ∧ A.length ≤ 1000000 ∧ A = B ∧ k (.bool true) h
      | _, _ => n = 0 ∧ m = 0 ∧ k (.bool true) h
    | _ => False
  | false => A f' args h k
theorem askSB_ok {A : Asks} (hA : AsksOk orcSb A) : AsksOk orcSc (askSB A) := by
  intro f' args h k hk
  unfold askSB at hk
  split at hk
  · rename_i hf
    split at hk
    · rename_i n k1 m k2 hargs
      obtain ⟨rfl, rfl, rfl, rfl, hk⟩ := hk
      exact ⟨_, _, by simp only [orcSc, orElse, hf, sbO, hargs], hk⟩
    · rename_i n k1 x m k2 hargs
      obtain ⟨rfl, rfl, rfl, hk⟩ := hk
      exact ⟨_, _, by simp only [orcSc, orElse, hf, sbO, hargs], hk⟩
    · rename_i x n k1 m k2 hargs
      obtain ⟨rfl, rfl, rfl, hk⟩ := hk
      exact ⟨_, _, by simp only [orcSc, orElse, hf, sbO, hargs], hk⟩
    · rename_i i n k1 j m k2 hargs
      split at hk
      · rename_i c _ _ _ d _ _ _ hg hg'
        obtain ⟨hne, h0, A, B, rfl, rfl, rfl, rfl, hl, hS, hk⟩ := hk
        have hne : i ≠ j := fun e => by subst e; simp at hne
        refine ⟨_, _, ?_, hk⟩
        have : i ≠ j ∧ ∃ A' B' : List Int, A.map gb = A'.map gb ∧ B.map gb = B'.map gb ∧ A.length = A'.length ∧ B.length = B'.length ∧ A'.length ≤ 1000000 ∧ 0 < A'.length ∧ A' = B' := ⟨hne, A, B, rfl, rfl, rfl, rfl, hl, h0, hS⟩
        obtain ⟨x, A', rfl⟩ : ∃ x A', A = x :: A' := by cases A with
          | nil => simp at h0
          | cons x A' => exact ⟨x, A', rfl⟩
        have e : sbO args h = some (.bool true, h) := by
          unfold sbO
          rw [hargs]
          simp only [List.length_cons, hg, hg']
          exact if_pos this
        simp only [orcSc, orElse, hf, e]
      · obtain ⟨rfl, rfl, hk⟩ := hk
        exact ⟨_, _, by simp only [orcSc, orElse, hf, sbO, hargs], hk⟩
    · exact hk.elim
  · rename_i hf
    obtain ⟨v, h', e, q⟩ := hA f' args h k hk
    exact ⟨v, h', by simp only [orcSc, orElse, hf, e], q⟩
end Go.Proofs.YtphhcoiclkfimaaGreatDoor
