/-
  OWN WORK. The sum of a span, by the reference: known for all samples that are valid.
-/
import Derived.Test.YtpdpaifagakipaaGreatDoorSuE
import Derived.Test.YtpdpaifagakipaaGreatDoorAm8
namespace Go.Proofs.YtpdpaifagakipaaGreatDoor
open Go Go.Am

theorem spanW_take {l : List Nat} {n a b : Nat} (hb : b ≤ n) : spanW (l.take n) a b = spanW l a b := by
  unfold spanW spanU
  rw [List.take_take, Nat.min_eq_left hb]
theorem sum_run (l : List Nat) (n e row k a b : Nat) (K : Value → AHeap → Prop) : callC Tryz.prog (exec Tryz.prog orcPa 10) (syOf []) askPa (smLoops l n e row k a b) 20 35 #[liP n k, .agg #[gi (Int.ofNat a), gi (Int.ofNat b)]] (liH (l.map gf) e row) K =
  (loopOf Tryz.prog 35 0 = loopOf Tryz.prog 35 0 ∧ liP n k = liP n k ∧ spP = spP ∧ gi 0 = gi 0 ∧ gi (Int.ofNat a) = gi (Int.ofNat a) ∧
    spH (l.map gf) e row (Int.ofNat a) (Int.ofNat b) = spH (l.map gf) e row (Int.ofNat a) (Int.ofNat b) ∧ (a ≤ b ∧ b ≤ n ∧ n ≤ l.length ∧ n ≤ 1000000 ∧ ∀ x ∈ l.take n, smpE x = 0) ∧
    ∀ (_ : Nat → Value) (h' : AHeap), K (gi (spanW l a b)) h') := by kernel_rfl
theorem sum_nil : (call Tryz.prog orcPb 40 35 #[.slice none 0 0, .agg #[gi 0, gi 0]] (emp Tryz.prog)).map (·.1) = some (gi 0) := by kernel_rfl
theorem sum_emp (k : Nat) : (call Tryz.prog orcPb 40 35 #[.slice (some ⟨0, 0, none⟩) 0 k, .agg #[gi 0, gi 0]] (emp Tryz.prog)).map (·.1) = some (gi 0) := by kernel_rfl
noncomputable def allB (l : List Nat) : Bool := l.all fun x => ieq (smpE x) 0
theorem allB_iff {l : List Nat} : allB l = true ↔ validL l := by
  unfold allB validL
  rw [List.all_eq_true]
  refine ⟨fun h x hx => ?_, fun h x hx => ?_⟩
  · have := h x hx
    rw [ieq_dec] at this
    simpa using this
  · rw [h x hx]; rfl
noncomputable def spC : List Nat → List Value → Bool := fun l r => match r with
  | [.agg x] => match x.toList with
    | [.int .i64 f, .int .i64 t] => !spanB f t (Int.ofNat l.length) && allB l
    | _ => false
  | _ => false
noncomputable def spR : List Nat → List Value → Value := fun l r => match r with
  | [.agg x] => match x.toList with
    | [.int .i64 f, .int .i64 t] => gi (spanW l f.toNat t.toNat)
    | _ => gi 0
  | _ => gi 0
theorem spC_some {l : List Nat} {r : List Value} (h : spC l r = true) : ∃ a b : Nat, r = [.agg #[gi (Int.ofNat a), gi (Int.ofNat b)]] ∧ a ≤ b ∧ b ≤ l.length ∧ validL l ∧ spR l r = gi (spanW l a b) := by
  unfold spC at h
  split at h
  · rename_i x
    split at h
    · rename_i f t hx
      rw [Bool.and_eq_true, Bool.not_eq_true'] at h
      obtain ⟨h1, h2⟩ := h
      unfold spanB at h1
      simp only [Bool.or_eq_false_iff, ilt_dec, decide_eq_false_iff_not, Int.not_lt, Int.ofNat_eq_natCast] at h1
      obtain ⟨h1, h3, h4⟩ := h1
      obtain ⟨a, rfl⟩ := Int.eq_ofNat_of_zero_le h1
      obtain ⟨b, rfl⟩ := Int.eq_ofNat_of_zero_le (Int.le_trans h1 h3)
      refine ⟨a, b, by rw [show x = #[Value.int .i64 (a : Int), .int .i64 (b : Int)] by rw [← hx]]; rfl, by omega, by omega, allB_iff.1 h2, ?_⟩
      unfold spR
      simp only [hx]
      rfl
    · cases h
  · cases h
noncomputable def orcPc : Orc := orElse 35 (sliceK dF 1000000 spC spR) orcPb
set_option maxRecDepth 100000 in
theorem orcPc_ok : OrcOk Tryz.prog orcPc := by
  refine sliceK_ok dF_some (fun _ => rfl) globs_pos orcPb_ok ?_ ?_ ?_ ?_
  · intro l r h
    obtain ⟨a, b, _, _, _, _, h6⟩ := spC_some h
    rw [h6]; rfl
  · intro r h
    obtain ⟨a, b, rfl, h2, h3, _, h6⟩ := spC_some h
    obtain rfl : b = 0 := by simpa using h3
    obtain rfl : a = 0 := by omega
    rw [h6, spanW_zero]
    exact CallJ.of_call mixed orcPb_ok sum_nil fun _ => rfl
  · intro r k h
    obtain ⟨a, b, rfl, h2, h3, _, h6⟩ := spC_some h
    obtain rfl : b = 0 := by simpa using h3
    obtain rfl : a = 0 := by omega
    rw [h6, spanW_zero]
    exact CallJ.of_call mixed orcPb_ok (sum_emp k) fun _ => rfl
  · intro l n r el row k h0 h1 h2 h
    obtain ⟨a, b, rfl, h4, h5, h6, h7⟩ := spC_some h
    have hb : b ≤ n := by rw [List.length_take] at h5; omega
    rw [h7, spanW_take hb]
    exact callC_ok mixed orcPa_ok askPa_ok (Eq.mpr (sum_run l n el row k a b _) ⟨rfl, rfl, rfl, rfl, rfl, rfl, ⟨h4, hb, h1, h2, h6⟩, fun _ _ => rfl⟩)
noncomputable def skipA (f : FuncId) (A : Asks) : Asks := fun f' args h k => match Nat.beq f f' with
  | true => False
  | false => A f' args h k
theorem skipA_ok {f : FuncId} {S : Array Value → AHeap → Option (Value × AHeap)} {orc : Orc} {A : Asks} (hA : AsksOk orc A) : AsksOk (orElse f S orc) (skipA f A) := by
  intro f' args h k hk
  unfold skipA at hk
  split at hk
  · exact hk.elim
  · rename_i hf
    obtain ⟨v, h', e, q⟩ := hA f' args h k hk
    exact ⟨v, h', by simp only [orElse, hf, e], q⟩
noncomputable def askPb : Asks := skipA 33 (skipA 73 askPa)
theorem askPb_ok : AsksOk orcPb askPb := skipA_ok (skipA_ok askPa_ok)
noncomputable def askPc : Asks := asksK 35 gf 1000000 spC spR askPb
theorem askPc_ok : AsksOk orcPc askPc := asksK_ok (d := dF) (e := gf) (fun _ => rfl) askPb_ok
end Go.Proofs.YtpdpaifagakipaaGreatDoor
