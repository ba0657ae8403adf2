/-
  OWN WORK. The law on numbers: its call returns true.
-/
import Derived.Test.YtmfepbkpojafnaaGreatDoorLawB
namespace Go.Proofs.YtmfepbkpojafnaaGreatDoor
open Go Go.Am

set_option maxRecDepth 100000 in
theorem numAsks_ok : AsksOk orcK numAsks := by
  intro f args h k hk
  unfold numAsks at hk
  split at hk
  · rename_i hf
    obtain rfl : 15 = f := by symm; simpa using hf
    refine ⟨_, _, ?_, hk.2⟩
    show orElse _ sameO orcJ _ args h = _
    unfold orElse
    simp only [hk.1, show Nat.beq 15 15 = true from rfl]
  · split at hk
    · rename_i x y ha
      have : args = #[gi x, gi y] := by rw [← ha]
      subst this
      split at hk
      · rename_i hf
        obtain rfl : 10 = f := by symm; simpa using hf
        by_cases he : drawE x y = 0
        · refine ⟨_, _, ?_, hk.1 he⟩
          show (match drawO #[gi x, gi y] h with
            | some r => some r
            | none => orcF _ _ h) = _
          rw [show drawO #[gi x, gi y] h = _ from if_pos he]
        · refine ⟨_, _, ?_, hk.2 he⟩
          show (match drawO #[gi x, gi y] h with
            | some r => some r
            | none => orcF _ _ h) = _
          rw [show drawO #[gi x, gi y] h = _ from if_neg he]
      · split at hk
        · rename_i hf
          obtain rfl : 12 = f := by symm; simpa using hf
          obtain ⟨he, h1, h2⟩ := hk
          by_cases hz : y.toNat = 0
          · refine ⟨_, _, ?_, h1 hz⟩
            show (match DrawO #[gi x, gi y] h with
              | some r => some r
              | none => orcH _ _ h) = _
            rw [show DrawO #[gi x, gi y] h = _ from (if_pos he).trans (if_pos hz)]
          · refine ⟨_, _, ?_, h2 hz⟩
            show (match DrawO #[gi x, gi y] h with
              | some r => some r
              | none => orcH _ _ h) = _
            rw [show DrawO #[gi x, gi y] h = _ from (if_pos he).trans (if_neg hz)]
        · exact hk.elim
    · exact hk.elim
def r8 (es : Nat → TypeId) (s : ByteArray) (a b c d : Int) (v7 v8 v9 v10 : Value) (h : AHeap) (cont : Prop) : Prop :=
  (∃ e, v8 = gi e ∧ v9 = gi e) ∧ (h = HL es a b c d ∨ (∃ L, h = (HL es a b c d).push (ic L)) ∨ (∃ L, h = ((HL es a b c d).push (ic L)).push (ic L))) ∧ sameO #[v7, v10] h = some (.bool true, h) ∧ cont
set_option maxRecDepth 100000 in
theorem last_ok (es : Nat → TypeId) (s : ByteArray) (a b c d e : Int) (v7 v10 : Value) (h : AHeap) (hh : h = HL es a b c d ∨ (∃ L, h = (HL es a b c d).push (ic L)) ∨ (∃ L, h = ((HL es a b c d).push (ic L)).push (ic L))) (hs : sameO #[v7, v10] h = some (.bool true, h)) (g : Nat → Value) :
    J Tryz.prog (regionOf Tryz.prog 3 8) (stOf 60 [(0, .string s), (5, boxR), (7, v7), (8, gi e), (9, gi e), (10, v10)] g) h (told 60 [6] fun ex vs h' => ex = .normal ∧ vs = [.bool true] ∧ h' = h) := by
  have e1 : ieq e e = true := by rw [ieq_dec]; simp
  have e2 : ieq (ratioR c d) (ratioR c d) = true := by rw [ieq_dec]; simp
  have fin : ∀ (A : Prop) (h : AHeap), A → A ∧ ((ieq e e) = true → (Value.agg #[gi c, gi d] = .agg #[gi c, gi d]) ∧ ((ieq (ratioR c d) (ratioR c d)) = true → (Exit.normal = .normal ∧ [Value.bool true] = [.bool true] ∧ h = h)) ∧ ((ieq (ratioR c d) (ratioR c d)) = false → (Exit.normal = .normal ∧ [Value.bool false] = [.bool true] ∧ h = h))) ∧ ((ieq e e) = false → (Exit.normal = .normal ∧ [Value.bool false] = [.bool true] ∧ h = h)) :=
    fun A h hA => ⟨hA, fun _ => ⟨rfl, fun _ => ⟨rfl, rfl, rfl⟩, fun x => by rw [e2] at x; cases x⟩, fun x => by rw [e1] at x; cases x⟩
  rcases hh with rfl | ⟨L, rfl⟩ | ⟨L, rfl⟩
  · refine execC_ok mixed orcK_ok numAsks_ok (noLoops _) (Eq.mpr (last_0 es s a b c d e v7 v10 g _) ⟨fun n1 => ⟨fun _ => fin _ _ hs, fun n2 => ?_⟩, fun n1 => ⟨fun n2 => ?_, fun _ => fin _ _ hs⟩⟩) <;> rw [n1] at n2 <;> cases n2
  · refine execC_ok mixed orcK_ok numAsks_ok (noLoops _) (Eq.mpr (last_1 es s a b c d e v7 v10 L g _) ⟨fun n1 => ⟨fun _ => fin _ _ hs, fun n2 => ?_⟩, fun n1 => ⟨fun n2 => ?_, fun _ => fin _ _ hs⟩⟩) <;> rw [n1] at n2 <;> cases n2
  · refine execC_ok mixed orcK_ok numAsks_ok (noLoops _) (Eq.mpr (last_2 es s a b c d e v7 v10 L g _) ⟨fun n1 => ⟨fun _ => fin _ _ hs, fun n2 => ?_⟩, fun n1 => ⟨fun n2 => ?_, fun _ => fin _ _ hs⟩⟩) <;> rw [n1] at n2 <;> cases n2
set_option maxRecDepth 100000 in
noncomputable def lawCuts (es : Nat → TypeId) (s : ByteArray) (a b c d : Int) : Loops Tryz.prog where
  body := fun _ => .skip
  spec := fun _ _ _ _ => False
  ok := fun _ _ _ _ h => h.elim
  reg := fun r => match Nat.beq r 8 with
    | true => some (regionOf Tryz.prog 3 8)
    | false => none
  rspec := fun r st h k => match Nat.beq r 8 with
    | true => entry st 60 [(0, .string s), (5, boxR)] (r8 es s a b c d (st.tmp 7) (st.tmp 8) (st.tmp 9) (st.tmp 10) h (∀ g, k .normal (stOf 60 [(6, .bool true)] g) h))
    | false => False
  rok := fun r cc st h k hc q => by
    split at hc
    · rename_i h8
      rw [h8] at q
      cases hc
      obtain ⟨h1, h2, h3, ⟨e, t8, t9⟩, hh, hs, h4⟩ := entry_facts q
      refine J.of_facts (l := [(0, .string s), (5, boxR), (7, st.tmp 7), (8, gi e), (9, gi e), (10, st.tmp 10)]) h1 h2 ?_ fun g => J.of_told (last_ok es s a b c d e _ _ h hh hs g) ?_
      · intro x hx
        simp only [List.mem_cons, List.not_mem_nil, or_false] at hx
        rcases hx with rfl | rfl | rfl | rfl | rfl | rfl
        · exact h3 _ (by simp)
        · exact h3 _ (by simp)
        · rfl
        · exact t8
        · exact t9
        · rfl
      · rintro ex vs h' g ⟨rfl, rfl, rfl⟩
        exact h4 g
    · cases hc
theorem law_run (es : Nat → TypeId) (s : ByteArray) (a b c d : Int) (K : Value → AHeap → Prop) :
    callC Tryz.prog (exec Tryz.prog orcK 10) (syOf [(13, 1), (20, 7), (29, 1), (34, 7)]) numAsks (lawCuts es s a b c d) 60 3 #[.string s, .agg #[gi a, gi b], .agg #[gi c, gi d]] (base tabs es Tryz.prog.globals.size) K =
    ((ilt 40 (Int.ofNat s.size) = true → K (.bool true) (HL es a b c d)) ∧ (ilt 40 (Int.ofNat s.size) = false →
      (drawE a b = 0 → (ieq (drawE a b) 0 = true → drawE a b = 0 ∧ (b.toNat = 0 → regionOf Tryz.prog 3 8 = regionOf Tryz.prog 3 8 ∧ Value.string s = .string s ∧ boxR = boxR ∧ r8 es s a b c d (slB (Tryz.prog.globals.size + 2) b.toNat) (gi 0) (gi (drawE a b)) nilS ((HL es a b c d).push (ic ((drawS a b.toNat).map gi))) (∀ _ : Nat → Value, K (.bool true) ((HL es a b c d).push (ic ((drawS a b.toNat).map gi))))) ∧ (b.toNat ≠ 0 → regionOf Tryz.prog 3 8 = regionOf Tryz.prog 3 8 ∧ Value.string s = .string s ∧ boxR = boxR ∧ r8 es s a b c d (slB (Tryz.prog.globals.size + 2) b.toNat) (gi 0) (gi (drawE a b)) (slB (Tryz.prog.globals.size + 3) b.toNat) (((HL es a b c d).push (ic ((drawS a b.toNat).map gi))).push (ic ((drawS a b.toNat).map gi))) (∀ _ : Nat → Value, K (.bool true) (((HL es a b c d).push (ic ((drawS a b.toNat).map gi))).push (ic ((drawS a b.toNat).map gi)))))) ∧ (ieq (drawE a b) 0 = false → regionOf Tryz.prog 3 8 = regionOf Tryz.prog 3 8 ∧ Value.string s = .string s ∧ boxR = boxR ∧ r8 es s a b c d (slB (Tryz.prog.globals.size + 2) b.toNat) (gi 0) (gi (drawE a b)) nilS ((HL es a b c d).push (ic ((drawS a b.toNat).map gi))) (∀ _ : Nat → Value, K (.bool true) ((HL es a b c d).push (ic ((drawS a b.toNat).map gi)))))) ∧
      (drawE a b ≠ 0 → (ieq (drawE a b) 0 = true → drawE a b = 0 ∧ (b.toNat = 0 → regionOf Tryz.prog 3 8 = regionOf Tryz.prog 3 8 ∧ Value.string s = .string s ∧ boxR = boxR ∧ r8 es s a b c d nilS (gi (drawE a b)) (gi (drawE a b)) nilS (HL es a b c d) (∀ _ : Nat → Value, K (.bool true) (HL es a b c d))) ∧ (b.toNat ≠ 0 → regionOf Tryz.prog 3 8 = regionOf Tryz.prog 3 8 ∧ Value.string s = .string s ∧ boxR = boxR ∧ r8 es s a b c d nilS (gi (drawE a b)) (gi (drawE a b)) (slB (Tryz.prog.globals.size + 2) b.toNat) ((HL es a b c d).push (ic ((drawS a b.toNat).map gi))) (∀ _ : Nat → Value, K (.bool true) ((HL es a b c d).push (ic ((drawS a b.toNat).map gi)))))) ∧ (ieq (drawE a b) 0 = false → regionOf Tryz.prog 3 8 = regionOf Tryz.prog 3 8 ∧ Value.string s = .string s ∧ boxR = boxR ∧ r8 es s a b c d nilS (gi (drawE a b)) (gi (drawE a b)) nilS (HL es a b c d) (∀ _ : Nat → Value, K (.bool true) (HL es a b c d)))))) := by kernel_rfl
end Go.Proofs.YtmfepbkpojafnaaGreatDoor
