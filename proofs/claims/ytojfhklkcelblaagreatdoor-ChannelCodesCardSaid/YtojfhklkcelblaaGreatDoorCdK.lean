/-
  OWN WORK. Codes: the end of a code is read, by the program.
-/
import Derived.Test.YtojfhklkcelblaaGreatDoorCdJ
namespace Go.Proofs.YtojfhklkcelblaaGreatDoor
open Go Go.Am

noncomputable abbrev z0 : List Value := [.string ⟨#[]⟩, gi 0, gi 0]
noncomputable abbrev rdG (es : Nat → TypeId) (c0 c1 c2 c3 : Int) (e : ByteArray) (q : Nat) : AHeap := (((bT es).push (.cells z0 28 0 false)).push (.cells [gi c0, gi c1, gi c2, gi c3] 167 0 false)).push (.iter e q)
noncomputable abbrev pt (i : Nat) : Value := .pointer (some ⟨Tryz.prog.globals.size + i, 0, none⟩)
noncomputable abbrev rune (e : ByteArray) (q : Nat) : Int := Int.ofNat (Utf8.decode e q).1
noncomputable abbrev rdS : List Value := [pt 0, .bool false, pt 1, pt 2]
theorem rd_body0 (es : Nat → TypeId) (e : ByteArray) (c0 c1 c2 c3 : Int) (g : Nat → Value) (Q : Exit → List Value → AHeap → Prop) : execC Tryz.prog (exec Tryz.prog orcJb 10) (syOf [(9, 5), (23, 1)]) askJb (noLoops _) 40 (loopOf Tryz.prog 49 0) (stOf 32 [(2, pt 0), (3, .bool false), (4, pt 1), (8, pt 2)] g) (rdG es c0 c1 c2 c3 e 0) (told 32 [2, 3, 4, 8] Q) = ((Nat.blt 0 e.size = true → ((ilt (ixC mD (rune e 0)) 0 = true → Q .ret rdS (rdG es (ixC mD (rune e 0)) c1 c2 c3 e (0 + (Utf8.decode e 0).2))) ∧ (ilt (ixC mD (rune e 0)) 0 = false → Q .normal rdS (rdG es (ixC mD (rune e 0)) c1 c2 c3 e (0 + (Utf8.decode e 0).2))))) ∧ (Nat.blt 0 e.size = false → Q (.exit 0) rdS (rdG es c0 c1 c2 c3 e 0))) := by kernel_rfl
theorem rd_body1 (es : Nat → TypeId) (e : ByteArray) (c0 c1 c2 c3 : Int) (g : Nat → Value) (Q : Exit → List Value → AHeap → Prop) : execC Tryz.prog (exec Tryz.prog orcJb 10) (syOf [(9, 5), (23, 1)]) askJb (noLoops _) 40 (loopOf Tryz.prog 49 0) (stOf 32 [(2, pt 0), (3, .bool false), (4, pt 1), (8, pt 2)] g) (rdG es c0 c1 c2 c3 e 1) (told 32 [2, 3, 4, 8] Q) = ((Nat.blt 1 e.size = true → ((ilt (ixC mX (rune e 1)) 0 = true → Q .ret rdS (rdG es c0 (ixC mX (rune e 1)) c2 c3 e (1 + (Utf8.decode e 1).2))) ∧ (ilt (ixC mX (rune e 1)) 0 = false → Q .normal rdS (rdG es c0 (ixC mX (rune e 1)) c2 c3 e (1 + (Utf8.decode e 1).2))))) ∧ (Nat.blt 1 e.size = false → Q (.exit 0) rdS (rdG es c0 c1 c2 c3 e 1))) := by kernel_rfl
theorem rd_body2 (es : Nat → TypeId) (e : ByteArray) (c0 c1 c2 c3 : Int) (g : Nat → Value) (Q : Exit → List Value → AHeap → Prop) : execC Tryz.prog (exec Tryz.prog orcJb 10) (syOf [(9, 5), (23, 1)]) askJb (noLoops _) 40 (loopOf Tryz.prog 49 0) (stOf 32 [(2, pt 0), (3, .bool false), (4, pt 1), (8, pt 2)] g) (rdG es c0 c1 c2 c3 e 2) (told 32 [2, 3, 4, 8] Q) = ((Nat.blt 2 e.size = true → ((ilt (ixC mS (rune e 2)) 0 = true → Q .ret rdS (rdG es c0 c1 (ixC mS (rune e 2)) c3 e (2 + (Utf8.decode e 2).2))) ∧ (ilt (ixC mS (rune e 2)) 0 = false → Q .normal rdS (rdG es c0 c1 (ixC mS (rune e 2)) c3 e (2 + (Utf8.decode e 2).2))))) ∧ (Nat.blt 2 e.size = false → Q (.exit 0) rdS (rdG es c0 c1 c2 c3 e 2))) := by kernel_rfl
theorem rd_body3 (es : Nat → TypeId) (e : ByteArray) (c0 c1 c2 c3 : Int) (g : Nat → Value) (Q : Exit → List Value → AHeap → Prop) : execC Tryz.prog (exec Tryz.prog orcJb 10) (syOf [(9, 5), (23, 1)]) askJb (noLoops _) 40 (loopOf Tryz.prog 49 0) (stOf 32 [(2, pt 0), (3, .bool false), (4, pt 1), (8, pt 2)] g) (rdG es c0 c1 c2 c3 e 3) (told 32 [2, 3, 4, 8] Q) = ((Nat.blt 3 e.size = true → ((ilt (ixC mL (rune e 3)) 0 = true → Q .ret rdS (rdG es c0 c1 c2 (ixC mL (rune e 3)) e (3 + (Utf8.decode e 3).2))) ∧ (ilt (ixC mL (rune e 3)) 0 = false → Q .normal rdS (rdG es c0 c1 c2 (ixC mL (rune e 3)) e (3 + (Utf8.decode e 3).2))))) ∧ (Nat.blt 3 e.size = false → Q (.exit 0) rdS (rdG es c0 c1 c2 c3 e 3))) := by kernel_rfl
theorem rd_body4 (es : Nat → TypeId) (e : ByteArray) (c0 c1 c2 c3 : Int) (g : Nat → Value) (Q : Exit → List Value → AHeap → Prop) : execC Tryz.prog (exec Tryz.prog orcJb 10) (syOf [(9, 5), (23, 1)]) askJb (noLoops _) 40 (loopOf Tryz.prog 49 0) (stOf 32 [(2, pt 0), (3, .bool false), (4, pt 1), (8, pt 2)] g) (rdG es c0 c1 c2 c3 e 4) (told 32 [2, 3, 4, 8] Q) = ((Nat.blt 4 e.size = true → False) ∧ (Nat.blt 4 e.size = false → Q (.exit 0) rdS (rdG es c0 c1 c2 c3 e 4))) := by kernel_rfl
theorem ixC_high (m : ByteArray) {c : Int} (h : 128 ≤ c) : ixC m c = -1 := by
  unfold ixC
  rw [ilt_dec, ilt_dec, decide_eq_false (by omega), decide_eq_false (by omega)]
  rfl
theorem dec_ix (m : ByteArray) {e : ByteArray} {q : Nat} (hq : q < e.size) : ixC m (rune e q) = ixC m (byteAt e q) ∧ (ilt (ixC m (byteAt e q)) 0 = false → (Utf8.decode e q).2 = 1) := by
  rw [byteAt_eq hq]
  by_cases hb : (e[q]).toNat < 128
  · unfold rune
    rw [decode_ascii e q hq hb]
    exact ⟨rfl, fun _ => rfl⟩
  · have hb : 128 ≤ (e[q]).toNat := Nat.le_of_not_lt hb
    have h1 := (decode_high e q hq hb).1
    rw [ixC_high m (by unfold rune; simp only [Int.ofNat_eq_natCast]; omega), ixC_high m (by simp only [Int.ofNat_eq_natCast]; omega)]
    exact ⟨rfl, fun h => by cases h⟩
/-- What the bytes of an end are, by number. -/
noncomputable def enD (e : ByteArray) : Int := ixC mD (byteAt e 0)
noncomputable def enX (e : ByteArray) : Int := ixC mX (byteAt e 1)
noncomputable def enS (e : ByteArray) : Int := ixC mS (byteAt e 2)
noncomputable def enL (e : ByteArray) : Int := ixC mL (byteAt e 3)
noncomputable def enO (e : ByteArray) : Bool := !ilt (enD e) 0 && (!ilt (enX e) 0 && (!ilt (enS e) 0 && !ilt (enL e) 0))
set_option maxRecDepth 100000 in
theorem rd_loop (es : Nat → TypeId) (e : ByteArray) (he : e.size = 4) : ∀ a : AAct, a.n = 32 → a.marks = [] → [2, 3, 4, 8].map a.tmp = rdS →
    J Tryz.prog (.loop (loopOf Tryz.prog 49 0)) a (rdG es 0 0 0 0 e 0) (told 32 [2, 3, 4, 8] fun ex vs h => vs = rdS ∧ ((ex = .exit 0 ∧ enO e = true ∧ h = rdG es (enD e) (enX e) (enS e) (enL e) e 4) ∨ (ex = .ret ∧ enO e = false ∧ ∃ c0 c1 c2 c3 q, h = rdG es c0 c1 c2 c3 e q))) := by
  intro a hn hm hv
  refine loop_rule (fun m vs h => vs = rdS ∧ ((m = 4 ∧ h = rdG es 0 0 0 0 e 0) ∨ (m = 3 ∧ ilt (enD e) 0 = false ∧ h = rdG es (enD e) 0 0 0 e 1) ∨ (m = 2 ∧ (ilt (enD e) 0 = false ∧ ilt (enX e) 0 = false) ∧ h = rdG es (enD e) (enX e) 0 0 e 2) ∨ (m = 1 ∧ (ilt (enD e) 0 = false ∧ ilt (enX e) 0 = false ∧ ilt (enS e) 0 = false) ∧ h = rdG es (enD e) (enX e) (enS e) 0 e 3) ∨ (m = 0 ∧ enO e = true ∧ h = rdG es (enD e) (enX e) (enS e) (enL e) e 4))) _ ?_ 4 _ _ a ⟨rfl, .inl ⟨rfl, rfl⟩⟩ hn hm hv
  have b0 : Nat.blt 0 e.size = true := by rw [he]; rfl
  have b1 : Nat.blt 1 e.size = true := by rw [he]; rfl
  have b2 : Nat.blt 2 e.size = true := by rw [he]; rfl
  have b3 : Nat.blt 3 e.size = true := by rw [he]; rfl
  have b4 : Nat.blt 4 e.size = false := by rw [he]; rfl
  rintro m vs h g ⟨rfl, ⟨rfl, rfl⟩ | ⟨rfl, h0, rfl⟩ | ⟨rfl, ⟨h0, h1⟩, rfl⟩ | ⟨rfl, ⟨h0, h1, h2⟩, rfl⟩ | ⟨rfl, ho, rfl⟩⟩
  · obtain ⟨d1, d2⟩ := dec_ix mD (e := e) (q := 0) (by omega)
    refine execC_ok mixed orcJb_ok askJb_ok (noLoops _) (Eq.mpr (rd_body0 es e _ _ _ _ g _) ⟨fun _ => ⟨fun hl => ⟨rfl, .inr ⟨rfl, ?_, _, _, _, _, _, rfl⟩⟩, fun hl => ?_⟩, fun hf => by rw [b0] at hf; cases hf⟩)
    · rw [d1] at hl
      unfold enO enD
      rw [hl]; rfl
    · rw [d1] at hl ⊢
      rw [d2 hl]
      exact ⟨3, by omega, rfl, .inr (.inl ⟨rfl, hl, rfl⟩)⟩
  · obtain ⟨d1, d2⟩ := dec_ix mX (e := e) (q := 1) (by omega)
    refine execC_ok mixed orcJb_ok askJb_ok (noLoops _) (Eq.mpr (rd_body1 es e _ _ _ _ g _) ⟨fun _ => ⟨fun hl => ⟨rfl, .inr ⟨rfl, ?_, _, _, _, _, _, rfl⟩⟩, fun hl => ?_⟩, fun hf => by rw [b1] at hf; cases hf⟩)
    · rw [d1] at hl
      unfold enO enX
      rw [hl]; exact Bool.and_false _
    · rw [d1] at hl ⊢
      rw [d2 hl]
      exact ⟨2, by omega, rfl, .inr (.inr (.inl ⟨rfl, ⟨h0, hl⟩, rfl⟩))⟩
  · obtain ⟨d1, d2⟩ := dec_ix mS (e := e) (q := 2) (by omega)
    refine execC_ok mixed orcJb_ok askJb_ok (noLoops _) (Eq.mpr (rd_body2 es e _ _ _ _ g _) ⟨fun _ => ⟨fun hl => ⟨rfl, .inr ⟨rfl, ?_, _, _, _, _, _, rfl⟩⟩, fun hl => ?_⟩, fun hf => by rw [b2] at hf; cases hf⟩)
    · rw [d1] at hl
      unfold enO enS
      rw [hl]
      simp
    · rw [d1] at hl ⊢
      rw [d2 hl]
      exact ⟨1, by omega, rfl, .inr (.inr (.inr (.inl ⟨rfl, ⟨h0, h1, hl⟩, rfl⟩)))⟩
  · obtain ⟨d1, d2⟩ := dec_ix mL (e := e) (q := 3) (by omega)
    refine execC_ok mixed orcJb_ok askJb_ok (noLoops _) (Eq.mpr (rd_body3 es e _ _ _ _ g _) ⟨fun _ => ⟨fun hl => ⟨rfl, .inr ⟨rfl, ?_, _, _, _, _, _, rfl⟩⟩, fun hl => ?_⟩, fun hf => by rw [b3] at hf; cases hf⟩)
    · rw [d1] at hl
      unfold enO enL
      rw [hl]
      simp
    · rw [d1] at hl ⊢
      rw [d2 hl]
      refine ⟨0, by omega, rfl, .inr (.inr (.inr (.inr ⟨rfl, ?_, rfl⟩)))⟩
      have hl : ilt (enL e) 0 = false := hl
      unfold enO
      rw [h0, h1, h2, hl]; rfl
  · refine execC_ok mixed orcJb_ok askJb_ok (noLoops _) (Eq.mpr (rd_body4 es e _ _ _ _ g _) ⟨fun hf => (by rw [b4] at hf; cases hf), fun _ => ⟨rfl, .inl ⟨rfl, ho, rfl⟩⟩⟩)
noncomputable def rdLoops (es : Nat → TypeId) (e : ByteArray) : Loops Tryz.prog where
  body := fun _ => loopOf Tryz.prog 49 0
  spec := fun _ a h k => entry a 32 [(2, pt 0), (3, .bool false), (4, pt 1), (8, pt 2)] (h = rdG es 0 0 0 0 e 0 ∧ e.size = 4 ∧ (enO e = true → ∀ g, k (.exit 0) (stOf 32 [(2, pt 0), (3, .bool false), (4, pt 1), (8, pt 2)] g) (rdG es (enD e) (enX e) (enS e) (enL e) e 4)) ∧ (enO e = false → ∀ g c0 c1 c2 c3 q, k .ret (stOf 32 [(2, pt 0), (3, .bool false), (4, pt 1), (8, pt 2)] g) (rdG es c0 c1 c2 c3 e q)))
  ok := fun i a h k q => by
    obtain ⟨h1, h2, h3, rfl, hs, h4, h5⟩ := entry_facts q
    refine J.of_told (rd_loop es e hs a h1 h2 ?_) ?_
    · simp only [List.map_cons, List.map_nil]
      rw [h3 (2, pt 0) (by simp), h3 (3, .bool false) (by simp), h3 (4, pt 1) (by simp), h3 (8, pt 2) (by simp)]
    · rintro ex vs h' g ⟨rfl, ⟨rfl, ho, rfl⟩ | ⟨rfl, ho, c0, c1, c2, c3, q, rfl⟩⟩
      · exact h4 ho g
      · exact h5 ho g c0 c1 c2 c3 q
noncomputable def rdA (e : ByteArray) : Int := bif enO e then enX e else 0
noncomputable def rdB (e : ByteArray) : Int := bif enO e then fwrap .i64 (1 - fwrap .i64 (2 * enS e)) else 0
noncomputable abbrev rdV (e : ByteArray) : Value := .tuple #[.agg #[.string ⟨#[]⟩, gi (rdA e), gi (rdB e)], .bool (enO e)]
theorem rd_run (es : Nat → TypeId) (e : ByteArray) (K : Value → AHeap → Prop) : callC Tryz.prog (exec Tryz.prog orcJb 10) (syOf []) askJb (rdLoops es e) 40 49 #[.string e] (bT es) K = (loopOf Tryz.prog 49 0 = loopOf Tryz.prog 49 0 ∧ pt 0 = pt 0 ∧ Value.bool false = Value.bool false ∧ pt 1 = pt 1 ∧ pt 2 = pt 2 ∧ rdG es 0 0 0 0 e 0 = rdG es 0 0 0 0 e 0 ∧ e.size = 4 ∧
  (enO e = true → (∀ _ : Nat → Value, K (.tuple #[.agg #[.string ⟨#[]⟩, gi (enX e), gi (fwrap .i64 (1 - fwrap .i64 (2 * enS e)))], .bool true]) ((rdG es (enD e) (enX e) (enS e) (enL e) e 4).set N1 (.cells [.string ⟨#[]⟩, gi (enX e), gi (fwrap .i64 (1 - fwrap .i64 (2 * enS e)))] 28 0 false)))) ∧
  (enO e = false → (∀ _ : Nat → Value, ∀ y2 y3 y4 y5 : Int, ∀ y6 : Nat, K (.tuple #[.agg #[.string ⟨#[]⟩, gi 0, gi 0], .bool false]) (rdG es y2 y3 y4 y5 e y6)))) := by kernel_rfl
noncomputable def rdF : List Value → Option Value
  | [.string e] => if e.size = 4 then some (rdV e) else none
  | _ => none
noncomputable def rdY : List Value → (Value → Prop) → Prop
  | [.string e], K => e.size = 4 ∧ K (rdV e)
  | _, _ => False
theorem rdY_ok (l : List Value) (K : Value → Prop) (h : rdY l K) : ∃ v, rdF l = some v ∧ K v := by
  unfold rdY at h
  split at h
  · exact ⟨_, if_pos h.1, h.2⟩
  · exact h.elim
noncomputable def orcK : Orc := orElse 49 (tabSpec tabs2 rdF) orcJb
set_option maxRecDepth 100000 in
theorem orcK_ok : OrcOk Tryz.prog orcK := by
  refine tabSpec_ok tabs2_flat (fun l v h => ?_) orcJb_ok
  unfold rdF at h
  split at h
  · rename_i e
    split at h
    · rename_i he
      cases h
      refine ⟨rfl, rfl, fun es => callC_ok mixed orcJb_ok askJb_ok (Eq.mpr (rd_run es e _) ⟨rfl, rfl, rfl, rfl, rfl, rfl, he, fun ho _ => ?_, fun ho _ _ _ _ _ _ => ?_⟩)⟩
      · unfold rdV rdA rdB
        rw [ho]; rfl
      · unfold rdV rdA rdB
        rw [ho]; rfl
    · cases h
  · cases h
noncomputable def askK : Asks := asksT tabs2 49 rdY askJb
theorem askK_ok : AsksOk orcK askK := asksT_ok rdY_ok askJb_ok
end Go.Proofs.YtojfhklkcelblaaGreatDoor
