/-
  OWN WORK. RecordSamples on the abstract machine: it returns true, for each sample and all samples.
-/
import Derived.Test.YtpdpaifagakipaaGreatDoorFlH
namespace Go.Proofs.YtpdpaifagakipaaGreatDoor
open Go Go.Am

noncomputable abbrev argH (es : Nat → TypeId) (c : List Value) (e : TypeId) : AHeap := (base tabs es Tryz.prog.globals.size).push (.cells c e 0 true)
theorem samples_run (x : Nat) (l : List Nat) (n k e : Nat) (es : Nat → TypeId) (K : Value → Prop) : callC Tryz.prog (exec Tryz.prog orcX 10) (syOf [(6, 7), (7, 1), (13, 31), (16, 7), (17, 7), (19, 7), (20, 31)]) askX (noLoops _) 20 3 #[gf x, liP n k] (argH es (l.map gf) e) (fun v _ => K v) =
  (∃ l₁ : List Nat, l.map gf = l₁.map gf ∧ 0 < n ∧ n ≤ l₁.length ∧ n ≤ 9223372036854775807 ∧ n ≤ k ∧ ((!shortB (l₁.take n).length) = true → K (.bool true)) ∧
    ((!shortB (l₁.take n).length) = false → ieq (smpE x) (smpE x) = true ∧ ∃ l₂ : List Nat, l.map gf = l₂.map gf ∧ 0 < n ∧ n ≤ l₂.length ∧ n ≤ 1000000 ∧
      ∃ l₃ : List Nat, (l₂.take n).map gf = l₃.map gf ∧ 0 < n ∧ n ≤ l₃.length ∧ n ≤ 1000000 ∧ n ≤ n ∧
      ∃ l₄ : List Nat, l.map gf = l₄.map gf ∧ 0 < n ∧ n ≤ l₄.length ∧ n ≤ 1000000 ∧ n ≤ k ∧ ieq (csE (l₃.take n)) (csE (l₄.take n)) = true ∧ K (.bool true))) := by kernel_rfl
theorem samples_nil (x : Nat) (es : Nat → TypeId) (K : Value → Prop) : callC Tryz.prog (exec Tryz.prog orcX 10) (syOf [(13, 31)]) askX (noLoops _) 20 3 #[gf x, .slice none 0 0] (base tabs es Tryz.prog.globals.size) (fun v _ => K v) =
  (ieq (smpE x) (smpE x) = true ∧ K (.bool true)) := by kernel_rfl
theorem samples_emp (x k : Nat) (es : Nat → TypeId) (K : Value → Prop) : callC Tryz.prog (exec Tryz.prog orcX 10) (syOf [(13, 31)]) askX (noLoops _) 20 3 #[gf x, .slice (some ⟨Tryz.prog.globals.size, 0, none⟩) 0 k] ((base tabs es Tryz.prog.globals.size).push .dead) (fun v _ => K v) =
  (ieq (smpE x) (smpE x) = true ∧ K (.bool true)) := by kernel_rfl
theorem ieq_self (a : Int) : ieq a a = true := by rw [ieq_dec]; simp
theorem short_le {n : Nat} (h : (!shortB n) = false) : n ≤ 4097 := by
  unfold shortB at h
  rw [ilt_dec, ieq_dec] at h
  simp at h
  omega
set_option maxRecDepth 100000 in
theorem samples_full (x : Nat) (l : List Nat) (k e : Nat) (es : Nat → TypeId) (h0 : 0 < l.length) (h1 : l.length ≤ 9223372036854775807) (hk : l.length ≤ k) : CallJ Tryz.prog 3 #[gf x, liP l.length k] (argH es (l.map gf) e) (fun v _ => v = .bool true) := by
  refine callC_ok mixed orcX_ok askX_ok (Eq.mpr (samples_run x l l.length k e es _) ⟨l, rfl, h0, Nat.le_refl _, h1, hk, fun _ => rfl, fun hs => ?_⟩)
  rw [List.take_length] at hs
  have := short_le hs
  refine ⟨ieq_self _, l, rfl, h0, Nat.le_refl _, by omega, l, by rw [List.take_length], h0, Nat.le_refl _, by omega, Nat.le_refl _, l, rfl, h0, Nat.le_refl _, by omega, hk, ieq_self _, rfl⟩
end Go.Proofs.YtpdpaifagakipaaGreatDoor
