/-
  OWN WORK. The index of a byte, or of a letter, in a string: where there is none; in the marks of codes.
-/
import Derived.Test.YtojfhklkcelblaaGreatDoorCdE
namespace Go.Proofs.YtojfhklkcelblaaGreatDoor
open Go Go.Am

/-- Whether a string has no such byte. -/
def noB (t : ByteArray) (b : Int) : Bool := t.data.toList.all fun x => !(x == UInt8.ofNat b.toNat)
theorem ixb_run (t : ByteArray) (b : Int) (K : Value → AHeap → Prop) : callC Tryz.prog (exec Tryz.prog orcEa 10) (syOf [(7, 43)]) noAsks (noLoops _) 20 152 #[.string t, .int .u8 b] (emp Tryz.prog) K = (∃ v, pureRun Tryz.prog (callFunc 164 #[.string t, .int .u8 b]) = some (.value v) ∧ flat 3 v = true ∧ K v (emp Tryz.prog)) := by kernel_rfl
noncomputable def ixbS : List Value → Option Value
  | [.string t, .int .u8 b] => match noB t b with
    | true => some (gi (-1))
    | false => none
  | _ => none
noncomputable def ixbY : List Value → (Value → Prop) → Prop
  | [.string t, .int .u8 b], K => noB t b = true ∧ K (gi (-1))
  | _, _ => False
theorem ixbY_ok (l : List Value) (K : Value → Prop) (h : ixbY l K) : ∃ v, ixbS l = some v ∧ K v := by
  unfold ixbY at h
  split at h
  · exact ⟨_, by simp only [ixbS, h.1], h.2⟩
  · exact h.elim
theorem ixbS_some {l : List Value} {v : Value} (h : ixbS l = some v) : ∃ t b, l = [.string t, .int .u8 b] ∧ noB t b = true ∧ v = gi (-1) := by
  unfold ixbS at h
  split at h
  · split at h
    · rename_i hn
      cases h
      exact ⟨_, _, rfl, hn, rfl⟩
    · cases h
  · cases h
theorem vr_run (c : Int) (K : Value → AHeap → Prop) : callC Tryz.prog (exec Tryz.prog orcEa 10) (syOf [(5, 1), (8, 1), (12, 1), (15, 1)]) noAsks (noLoops _) 30 138 #[.int .i32 c] (emp Tryz.prog) K = ((((!(ilt c 0)) = true → ((ilt c 55296 = true → K (Value.bool true) (emp Tryz.prog)) ∧ (ilt c 55296 = false → ((ilt 57343 c = true → (((!(ilt 1114111 c)) = true → K (Value.bool true) (emp Tryz.prog)) ∧ ((!(ilt 1114111 c)) = false → K (Value.bool false) (emp Tryz.prog)))) ∧ (ilt 57343 c = false → K (Value.bool false) (emp Tryz.prog)))))) ∧ ((!(ilt c 0)) = false → ((ilt 57343 c = true → (((!(ilt 1114111 c)) = true → K (Value.bool true) (emp Tryz.prog)) ∧ ((!(ilt 1114111 c)) = false → K (Value.bool false) (emp Tryz.prog)))) ∧ (ilt 57343 c = false → K (Value.bool false) (emp Tryz.prog)))))) := by kernel_rfl
/-- Whether a number is that of a letter. -/
def vrB (c : Int) : Bool := (!ilt c 0 && ilt c 55296) || (ilt 57343 c && !ilt 1114111 c)
def vrS : List Value → Option Value
  | [.int .i32 c] => some (.bool (vrB c))
  | _ => none
noncomputable def orcGv : Orc := orElse 138 (flatSpec vrS) orcEa
theorem orcGv_ok : OrcOk Tryz.prog orcGv := by
  refine flatSpec_ok (fun l v h => ?_) orcEa_ok
  unfold vrS at h
  split at h
  · rename_i c
    cases h
    refine ⟨rfl, rfl, callC_ok mixed orcEa_ok (noAsks_ok _) (by
      rw [vr_run]
      unfold vrB
      generalize ilt c 0 = b1
      generalize ilt c 55296 = b2
      generalize ilt 57343 c = b3
      generalize ilt 1114111 c = b4
      cases b1 <;> cases b2 <;> cases b3 <;> cases b4 <;> simp)⟩
  · cases h
theorem ixb_pure {t : ByteArray} {b : Int} (h : noB t b = true) : pureRun Tryz.prog (callFunc 164 #[.string t, .int .u8 b]) = some (.value (gi (-1))) := by
  have e : pureRun Tryz.prog (callFunc 164 #[.string t, .int .u8 b]) = pureRun Tryz.prog (do let v ← Extern.BytealgIndexByte.indexByte #[.string t, .int .u8 b]; pure (.value v)) := by kernel_rfl
  have hf : (List.range t.size).find? (fun i => t[i]! == b.toNat.toUInt8) = none := by
    rw [List.find?_eq_none]
    intro i hi
    have hi : i < t.size := by simpa using hi
    unfold noB at h
    rw [List.all_eq_true] at h
    have h1 : t[i]! = t.data[i]'hi := by
      rw [getElem!_pos t i hi]; rfl
    have h2 := h (t.data[i]'hi) (by simp)
    rw [h1]
    simpa using h2
  have e2 : Extern.BytealgIndexByte.indexByte #[.string t, .int .u8 b] = (match (List.range t.size).find? (fun i => t[i]! == b.toNat.toUInt8) with
    | some i => pure (goInt i)
    | none => pure (goInt (-1)) : Sem Value) := by kernel_rfl
  rw [e, e2, hf]
  rfl
noncomputable def orcGa : Orc := orElse 152 (flatSpec ixbS) orcGv
set_option maxRecDepth 100000 in
theorem orcGa_ok : OrcOk Tryz.prog orcGa := by
  refine flatSpec_ok (fun l v h => ?_) orcGv_ok
  obtain ⟨t, b, rfl, hn, rfl⟩ := ixbS_some h
  exact ⟨rfl, rfl, callC_ok mixed orcEa_ok (noAsks_ok _) (Eq.mpr (ixb_run t b _) ⟨_, ixb_pure hn, rfl, rfl⟩)⟩
noncomputable def askGa : Asks := asksP 152 ixbY noAsks
theorem askGa_ok : AsksOk orcGa askGa := asksQ_ok ixbY_ok (noAsks_ok _)
theorem IXB_run (t : ByteArray) (b : Int) (K : Value → AHeap → Prop) : callC Tryz.prog (exec Tryz.prog orcGa 10) (syOf [(7, 7)]) askGa (noLoops _) 20 137 #[.string t, .int .u8 b] (emp Tryz.prog) K = (noB t b = true ∧ K (gi (-1)) (emp Tryz.prog)) := by kernel_rfl
noncomputable def orcGb : Orc := orElse 137 (flatSpec ixbS) orcGa
set_option maxRecDepth 100000 in
theorem orcGb_ok : OrcOk Tryz.prog orcGb := by
  refine flatSpec_ok (fun l v h => ?_) orcGa_ok
  obtain ⟨t, b, rfl, hn, rfl⟩ := ixbS_some h
  exact ⟨rfl, rfl, callC_ok mixed orcGa_ok askGa_ok (Eq.mpr (IXB_run t b _) ⟨hn, rfl⟩)⟩
noncomputable def askGb : Asks := asksP 137 ixbY askGa
theorem askGb_ok : AsksOk orcGb askGb := asksQ_ok ixbY_ok askGa_ok
theorem ixr_run (s : ByteArray) (c : Int) (K : Value → AHeap → Prop) : callE Tryz.prog orcGb (syOf [(162, 31), (165, 32), (173, 32), (186, 32), (26, 1), (29, 8), (32, 8), (33, 31), (37, 42), (40, 8), (41, 7)]) askGb 60 100 #[.string s, .int .i32 c] (emp Tryz.prog) K = (((!(ilt c 0)) = true ∧ ilt c 128 = false ∧ ieq c 65533 = false ∧ (!(vrB c)) = false ∧ (ilt (fwrap IntKind.i64 (Int.ofNat (ByteArray.size (Utf8.encode c)) - 1)) (Int.ofNat (ByteArray.size s)) = true → (ahasIndex (fwrap IntKind.i64 (Int.ofNat (ByteArray.size (Utf8.encode c)) - 1)) (ByteArray.size s) = true ∧ ahasIndex (fwrap IntKind.i64 (Int.ofNat (ByteArray.size (Utf8.encode c)) - 1)) (ByteArray.size (Utf8.encode c)) = true ∧ (!(ieq (byteAt s (Int.toNat (fwrap IntKind.i64 (Int.ofNat (ByteArray.size (Utf8.encode c)) - 1)))) (byteAt (Utf8.encode c) (Int.toNat (fwrap IntKind.i64 (Int.ofNat (ByteArray.size (Utf8.encode c)) - 1)))))) = true ∧ (0 : Int) ≤ fwrap IntKind.i64 (fwrap IntKind.i64 (Int.ofNat (ByteArray.size (Utf8.encode c)) - 1) + 1) ∧ (fwrap IntKind.i64 (fwrap IntKind.i64 (Int.ofNat (ByteArray.size (Utf8.encode c)) - 1) + 1) : Int) ≤ Int.ofNat (ByteArray.size s) ∧ ahasIndex (fwrap IntKind.i64 (Int.ofNat (ByteArray.size (Utf8.encode c)) - 1)) (ByteArray.size (Utf8.encode c)) = true ∧ noB (ByteArray.extract s (Int.toNat (fwrap IntKind.i64 (fwrap IntKind.i64 (Int.ofNat (ByteArray.size (Utf8.encode c)) - 1) + 1))) (ByteArray.size s)) (byteAt (Utf8.encode c) (Int.toNat (fwrap IntKind.i64 (Int.ofNat (ByteArray.size (Utf8.encode c)) - 1)))) = true ∧ K (gi (-1)) (emp Tryz.prog))) ∧ (ilt (fwrap IntKind.i64 (Int.ofNat (ByteArray.size (Utf8.encode c)) - 1)) (Int.ofNat (ByteArray.size s)) = false → K (gi (-1)) (emp Tryz.prog)))) := by kernel_rfl
theorem ixr_no (s : ByteArray) (c : Int) (K : Value → AHeap → Prop) : callE Tryz.prog orcGb (syOf [(162, 1), (165, 32), (173, 32), (186, 31)]) askGb 60 100 #[.string s, .int .i32 c] (emp Tryz.prog) K = ((((!(ilt c 0)) = true → (ilt c 128 = false ∧ ieq c 65533 = false ∧ (!(vrB c)) = true ∧ K (gi (-1)) (emp Tryz.prog))) ∧ ((!(ilt c 0)) = false → (ieq c 65533 = false ∧ (!(vrB c)) = true ∧ K (gi (-1)) (emp Tryz.prog))))) := by kernel_rfl
end Go.Proofs.YtojfhklkcelblaaGreatDoor
