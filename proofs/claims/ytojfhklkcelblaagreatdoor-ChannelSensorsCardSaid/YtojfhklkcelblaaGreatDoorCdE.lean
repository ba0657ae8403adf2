/-
  OWN WORK. Codes: marks, the check letter.
-/
import Derived.Test.YtojfhklkcelblaaGreatDoorCdD
import Derived.Test.YtojfhklkcelblaaGreatDoorAm16
namespace Go.Proofs.YtojfhklkcelblaaGreatDoor
open Go Go.Am

noncomputable abbrev N1 : Nat := Tryz.prog.globals.size
noncomputable abbrev bT (es : Nat → TypeId) : AHeap := base tabs2 es Tryz.prog.globals.size
def mD : ByteArray := ⟨#[45]⟩
def mX : ByteArray := ⟨#[120, 121, 122]⟩
def mS : ByteArray := ⟨#[43, 45]⟩
def mL : ByteArray := ⟨#[65, 66, 67, 68, 69, 70, 71, 72, 73, 74, 75, 76, 77, 78, 79, 80, 81, 82, 83, 84, 85, 86, 87, 88, 89, 90]⟩
def sub1 (s : ByteArray) (j : Int) : ByteArray := s.extract j.toNat (j + 1).toNat
theorem CheckName_run (s : ByteArray) (K : Value → AHeap → Prop) : callC Tryz.prog (exec Tryz.prog orcCm 10) (syOf []) noAsks (noLoops _) 40 53 #[.string s] (emp Tryz.prog) K = K (gi (whenS (!(nameS s)) 8)) (emp Tryz.prog) := by kernel_rfl
theorem mark_run (es : Nat → TypeId) (j : Int) (K : Value → AHeap → Prop) : callC Tryz.prog (exec Tryz.prog orcCm 10) (syOf [(11, 42)]) noAsks (noLoops _) 40 99 #[gi 3, gi j] (bT es) K = (0 ≤ j ∧ j ≤ fwrap .i64 (j + 1) ∧ fwrap .i64 (j + 1) ≤ Int.ofNat mL.size ∧ K (.string (mL.extract j.toNat (fwrap .i64 (j + 1)).toNat)) (bT es)) := by kernel_rfl
noncomputable def markS : List Value → Option Value
  | [.int .i64 w, .int .i64 j] => if w = 3 ∧ 0 ≤ j ∧ j < 26 then some (.string (sub1 mL j)) else none
  | _ => none
noncomputable def markY : List Value → (Value → Prop) → Prop
  | [.int .i64 w, .int .i64 j], K => w = 3 ∧ 0 ≤ j ∧ j < 26 ∧ K (.string (sub1 mL j))
  | _, _ => False
theorem markY_ok (l : List Value) (K : Value → Prop) (h : markY l K) : ∃ v, markS l = some v ∧ K v := by
  unfold markY at h
  split at h
  · exact ⟨_, if_pos ⟨h.1, h.2.1, h.2.2.1⟩, h.2.2.2⟩
  · exact h.elim
noncomputable def nameC : List Value → Option Value
  | [.string s] => some (gi (whenS (!(nameS s)) 8))
  | _ => none
noncomputable def orcEa : Orc := orElse 99 (tabSpec tabs2 markS) (orElse 53 (flatSpec nameC) orcCm)
theorem fwrap_small {j : Int} (h0 : 0 ≤ j) (h1 : j < 1000000000) : fwrap .i64 j = j := by
  obtain ⟨n, rfl⟩ : ∃ n : Nat, j = Int.ofNat n := ⟨j.toNat, by simp only [Int.ofNat_eq_natCast]; omega⟩
  exact fwrap_nat (by simp only [Int.ofNat_eq_natCast] at h1; omega)
set_option maxRecDepth 100000 in
theorem orcEa_ok : OrcOk Tryz.prog orcEa := by
  refine tabSpec_ok tabs2_flat (fun l v h => ?_) (flatSpec_ok (fun l v h => ?_) orcCm_ok)
  · unfold markS at h
    split at h
    · rename_i w j
      split at h
      · rename_i hj
        obtain ⟨rfl, h0, h1⟩ := hj
        cases h
        refine ⟨rfl, rfl, fun es => callC_ok mixed orcCm_ok (noAsks_ok _) (Eq.mpr (mark_run es j _) ?_)⟩
        rw [fwrap_small (by omega) (by omega)]
        exact ⟨h0, by omega, by show j + 1 ≤ 26; omega, rfl⟩
      · cases h
    · cases h
  · unfold nameC at h
    split at h
    · rename_i s
      cases h
      exact ⟨rfl, rfl, callC_ok mixed orcCm_ok (noAsks_ok _) (Eq.mpr (CheckName_run s _) rfl)⟩
    · cases h
theorem byteAt_range (s : ByteArray) (i : Nat) : 0 ≤ byteAt s i ∧ byteAt s i ≤ 255 := by
  unfold byteAt
  split
  · rename_i b _
    have := b.toNat_lt
    omega
  · omega
noncomputable def askEa : Asks := asksT tabs2 99 markY noAsks
theorem askEa_ok : AsksOk orcEa askEa := asksT_ok markY_ok (noAsks_ok _)
theorem text_body (s : ByteArray) (t i n : Nat) (h : AHeap) (g : Nat → Value) (Q : Exit → List Value → AHeap → Prop) : execC Tryz.prog (exec Tryz.prog orcEa 10) (syOf [(23, 1), (28, 8)]) noAsks (noLoops _) 40 (loopOf Tryz.prog 48 0) (stOf 40 [(3, .string s), (4, goN t), (21, goN n), (22, goN i)] g) h (told 40 [3, 4, 21, 22] Q) = (((Nat.blt i n = true → (Nat.blt i (ByteArray.size s) = true ∧ Q .normal [Value.string s, gi (fwrap IntKind.i64 (Int.ofNat t + fwrap IntKind.i64 (byteAt s i))), goN n, gi (fwrap IntKind.i64 (Int.ofNat (i + 1)))] h)) ∧ (Nat.blt i n = false → Q (.exit 0) [Value.string s, goN t, goN n, goN i] h))) := by kernel_rfl
theorem Letter_body (s : ByteArray) (t i : Nat) (h : AHeap) (g : Nat → Value) (Q : Exit → List Value → AHeap → Prop) : execC Tryz.prog (exec Tryz.prog orcEa 10) (syOf [(9, 1), (15, 8)]) noAsks (noLoops _) 40 (loopOf Tryz.prog 56 0) (stOf 25 [(0, .string s), (3, goN t), (4, goN i)] g) h (told 25 [0, 3, 4] Q) = (((Nat.blt i (ByteArray.size s) = true → (Nat.blt i (ByteArray.size s) = true ∧ Q .normal [Value.string s, gi (fwrap IntKind.i64 (Int.ofNat t + fwrap IntKind.i64 (byteAt s i))), gi (fwrap IntKind.i64 (Int.ofNat (i + 1)))] h)) ∧ (Nat.blt i (ByteArray.size s) = false → Q (.exit 0) [Value.string s, goN t, goN i] h))) := by kernel_rfl
end Go.Proofs.YtojfhklkcelblaaGreatDoor
