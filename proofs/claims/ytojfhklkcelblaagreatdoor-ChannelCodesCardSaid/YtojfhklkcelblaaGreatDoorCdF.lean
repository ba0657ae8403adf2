/-
  OWN WORK. Codes: the sum of the bytes of a string; the string of a code, by the program; the check letter, by the reference.
-/
import Derived.Test.YtojfhklkcelblaaGreatDoorCdE
namespace Go.Proofs.YtojfhklkcelblaaGreatDoor
open Go Go.Am

/-- The sum of the first bytes of a string. -/
noncomputable def bsum (s : ByteArray) : Nat → Nat
  | 0 => 0
  | i + 1 => bsum s i + (byteAt s i).toNat
theorem bsum_le (s : ByteArray) (i : Nat) : bsum s i ≤ 255 * i := by
  induction i with
  | zero => exact Nat.le_refl _
  | succ i ih =>
    have := (byteAt_range s i).2
    show bsum s i + (byteAt s i).toNat ≤ _
    omega
theorem bsum_next (s : ByteArray) {i : Nat} (hi : i < 1000000) : fwrap IntKind.i64 (Int.ofNat (bsum s i) + fwrap IntKind.i64 (byteAt s i)) = Int.ofNat (bsum s (i + 1)) := by
  have h1 := byteAt_range s i
  have h2 := bsum_le s i
  rw [fwrap_small h1.1 (by omega), fwrap_small (by simp only [Int.ofNat_eq_natCast]; omega) (by simp only [Int.ofNat_eq_natCast]; omega)]
  show _ = Int.ofNat (bsum s i + (byteAt s i).toNat)
  simp only [Int.ofNat_eq_natCast]
  omega
set_option maxRecDepth 100000 in
theorem text_loop (s : ByteArray) (hs : s.size ≤ 1000000) (h0 : AHeap) : ∀ a : AAct, a.n = 40 → a.marks = [] → [3, 4, 21, 22].map a.tmp = [.string s, goN 0, goN s.size, goN 0] →
    J Tryz.prog (.loop (loopOf Tryz.prog 48 0)) a h0 (told 40 [3, 4, 21, 22] fun e vs h => e = .exit 0 ∧ vs = [.string s, goN (bsum s s.size), goN s.size, goN s.size] ∧ h = h0) := by
  intro a hn hm hv
  refine loop_rule (fun m vs h => ∃ i, i ≤ s.size ∧ m = s.size - i ∧ vs = [.string s, goN (bsum s i), goN s.size, goN i] ∧ h = h0) _ ?_ s.size _ _ a ⟨0, Nat.zero_le _, rfl, rfl, rfl⟩ hn hm hv
  rintro m vs h g ⟨i, hi, rfl, rfl, rfl⟩
  refine execC_ok mixed orcEa_ok (noAsks_ok _) (noLoops _) (Eq.mpr (text_body s _ i _ h g _) ?_)
  refine ⟨fun hlt => ⟨hlt, ?_⟩, fun hge => ?_⟩
  · have hl := blt_true hlt
    rw [bsum_next s (by omega), fwrap_nat (by omega)]
    exact ⟨s.size - (i + 1), by omega, i + 1, hl, rfl, rfl, rfl⟩
  · have := blt_false hge
    obtain rfl : i = s.size := by omega
    exact ⟨rfl, rfl, rfl⟩
set_option maxRecDepth 100000 in
theorem Letter_loop (s : ByteArray) (hs : s.size ≤ 1000000) (h0 : AHeap) : ∀ a : AAct, a.n = 25 → a.marks = [] → [0, 3, 4].map a.tmp = [.string s, goN 0, goN 0] →
    J Tryz.prog (.loop (loopOf Tryz.prog 56 0)) a h0 (told 25 [0, 3, 4] fun e vs h => e = .exit 0 ∧ vs = [.string s, goN (bsum s s.size), goN s.size] ∧ h = h0) := by
  intro a hn hm hv
  refine loop_rule (fun m vs h => ∃ i, i ≤ s.size ∧ m = s.size - i ∧ vs = [.string s, goN (bsum s i), goN i] ∧ h = h0) _ ?_ s.size _ _ a ⟨0, Nat.zero_le _, rfl, rfl, rfl⟩ hn hm hv
  rintro m vs h g ⟨i, hi, rfl, rfl, rfl⟩
  refine execC_ok mixed orcEa_ok (noAsks_ok _) (noLoops _) (Eq.mpr (Letter_body s _ i h g _) ?_)
  refine ⟨fun hlt => ⟨hlt, ?_⟩, fun hge => ?_⟩
  · have hl := blt_true hlt
    rw [bsum_next s (by omega), fwrap_nat (by omega)]
    exact ⟨s.size - (i + 1), by omega, i + 1, hl, rfl, rfl, rfl⟩
  · have := blt_false hge
    obtain rfl : i = s.size := by omega
    exact ⟨rfl, rfl, rfl⟩
noncomputable def textLoops (s : ByteArray) (h0 : AHeap) : Loops Tryz.prog where
  body := fun _ => loopOf Tryz.prog 48 0
  spec := fun _ a h k => entry a 40 [(3, .string s), (4, goN 0), (21, goN s.size), (22, goN 0)] (h = h0 ∧ s.size ≤ 1000000 ∧ ∀ g, k (.exit 0) (stOf 40 [(3, .string s), (4, goN (bsum s s.size)), (21, goN s.size), (22, goN s.size)] g) h0)
  ok := fun i a h k q => by
    obtain ⟨h1, h2, h3, rfl, hs, h4⟩ := entry_facts q
    refine J.of_told (text_loop s hs h a h1 h2 ?_) ?_
    · simp only [List.map_cons, List.map_nil]
      rw [h3 (3, .string s) (by simp), h3 (4, goN 0) (by simp), h3 (21, goN s.size) (by simp), h3 (22, goN 0) (by simp)]
    · rintro e vs h' g ⟨rfl, rfl, rfl⟩
      exact h4 g
noncomputable def letterLoops (s : ByteArray) (h0 : AHeap) : Loops Tryz.prog where
  body := fun _ => loopOf Tryz.prog 56 0
  spec := fun _ a h k => entry a 25 [(0, .string s), (3, goN 0), (4, goN 0)] (h = h0 ∧ s.size ≤ 1000000 ∧ ∀ g, k (.exit 0) (stOf 25 [(0, .string s), (3, goN (bsum s s.size)), (4, goN s.size)] g) h0)
  ok := fun i a h k q => by
    obtain ⟨h1, h2, h3, rfl, hs, h4⟩ := entry_facts q
    refine J.of_told (Letter_loop s hs h a h1 h2 ?_) ?_
    · simp only [List.map_cons, List.map_nil]
      rw [h3 (0, .string s) (by simp), h3 (3, goN 0) (by simp), h3 (4, goN 0) (by simp)]
    · rintro e vs h' g ⟨rfl, rfl, rfl⟩
      exact h4 g
/-- The index of a check letter. -/
noncomputable def letN (s : ByteArray) : Int := Int.tmod (Int.ofNat (bsum s s.size)) 26
theorem letN_range (s : ByteArray) : 0 ≤ letN s ∧ letN s < 26 := by
  unfold letN
  have : Int.tmod (Int.ofNat (bsum s s.size)) 26 = Int.ofNat (bsum s s.size % 26) := rfl
  rw [this]
  simp only [Int.ofNat_eq_natCast]
  omega
theorem Letter_run (s : ByteArray) (K : Value → AHeap → Prop) : callC Tryz.prog (exec Tryz.prog orcEa 10) (syOf [(20, 6), (22, 6), (24, 42)]) noAsks (letterLoops s (emp Tryz.prog)) 40 56 #[.string s] (emp Tryz.prog) K = (loopOf Tryz.prog 56 0 = loopOf Tryz.prog 56 0 ∧ Value.string s = Value.string s ∧ gi 0 = goN 0 ∧ gi 0 = goN 0 ∧ emp Tryz.prog = emp Tryz.prog ∧ s.size ≤ 1000000 ∧ (∀ _ : Nat → Value, (((26 : Int) = 0 → False) ∧ ((26 : Int) = 0 → False) ∧ 0 ≤ letN s ∧ letN s ≤ fwrap .i64 (letN s + 1) ∧ fwrap .i64 (letN s + 1) ≤ Int.ofNat mL.size ∧ K (.string (mL.extract (letN s).toNat (fwrap .i64 (letN s + 1)).toNat)) (emp Tryz.prog)))) := by kernel_rfl
/-- A code's string without its check letter. -/
def axB (x : Int) : ByteArray := mX.extract x.toNat (x + 1).toNat
def sgB (g : Int) : ByteArray := bif ieq g (-1) then ⟨#[45]⟩ else ⟨#[43]⟩
noncomputable def cdS (p : ByteArray) (x g : Int) : ByteArray := ((p ++ mD) ++ axB x) ++ sgB g
noncomputable def textB (p : ByteArray) (x g : Int) : ByteArray := cdS p x g ++ sub1 mL (letN (cdS p x g))
noncomputable abbrev cdC (p : ByteArray) (x g : Int) : List Value := [.string p, gi x, gi g]
noncomputable abbrev cdH (es : Nat → TypeId) (p : ByteArray) (x g : Int) : AHeap := (bT es).push (.cells (cdC p x g) 28 0 false)
noncomputable abbrev textQ (es : Nat → TypeId) (p : ByteArray) (x g : Int) (K : Value → AHeap → Prop) : Prop := callC Tryz.prog (exec Tryz.prog orcEa 20) (syOf [(9, 44), (13, 44), (19, 44), (37, 6), (38, 7), (39, 44)]) askEa (textLoops (cdS p x g) (cdH es p x g)) 60 48 #[.agg #[.string p, gi x, gi g]] (bT es) K
noncomputable abbrev textR (es : Nat → TypeId) (p : ByteArray) (x g : Int) (K : Value → AHeap → Prop) : Prop :=
  (cdC p x g)[2]? = some (gi g) ∧ (cdC p x g)[1]? = some (gi x) ∧ (cdC p x g)[0]? = some (.string p) ∧ p.size + 1 ≤ 1000000000 ∧ (cdC p x g)[2]? = some (gi g) ∧ (cdC p x g)[0]? = some (.string p) ∧ (p ++ mD).size + 1 ≤ 1000000000 ∧ (cdC p x g)[0]? = some (.string p) ∧ ((p ++ mD) ++ axB x).size + 1 ≤ 1000000000 ∧
  loopOf Tryz.prog 48 0 = loopOf Tryz.prog 48 0 ∧ Value.string (cdS p x g) = Value.string (cdS p x g) ∧ gi 0 = goN 0 ∧ goN (cdS p x g).size = goN (cdS p x g).size ∧ gi 0 = goN 0 ∧ cdH es p x g = cdH es p x g ∧ (cdS p x g).size ≤ 1000000 ∧
  (∀ _ : Nat → Value, (((26 : Int) = 0 → False) ∧ (3 : Int) = 3 ∧ 0 ≤ letN (cdS p x g) ∧ letN (cdS p x g) < 26 ∧ (cdS p x g).size + (sub1 mL (letN (cdS p x g))).size ≤ 1000000000 ∧ K (.string (textB p x g)) (cdH es p x g)))
theorem text_0p (es : Nat → TypeId) (p : ByteArray) (K : Value → AHeap → Prop) : textQ es p 0 1 K = textR es p 0 1 K := by kernel_rfl
theorem text_0m (es : Nat → TypeId) (p : ByteArray) (K : Value → AHeap → Prop) : textQ es p 0 (-1) K = textR es p 0 (-1) K := by kernel_rfl
theorem text_0z (es : Nat → TypeId) (p : ByteArray) (K : Value → AHeap → Prop) : textQ es p 0 0 K = textR es p 0 0 K := by kernel_rfl
theorem text_1p (es : Nat → TypeId) (p : ByteArray) (K : Value → AHeap → Prop) : textQ es p 1 1 K = textR es p 1 1 K := by kernel_rfl
theorem text_1m (es : Nat → TypeId) (p : ByteArray) (K : Value → AHeap → Prop) : textQ es p 1 (-1) K = textR es p 1 (-1) K := by kernel_rfl
theorem text_1z (es : Nat → TypeId) (p : ByteArray) (K : Value → AHeap → Prop) : textQ es p 1 0 K = textR es p 1 0 K := by kernel_rfl
theorem text_2p (es : Nat → TypeId) (p : ByteArray) (K : Value → AHeap → Prop) : textQ es p 2 1 K = textR es p 2 1 K := by kernel_rfl
theorem text_2m (es : Nat → TypeId) (p : ByteArray) (K : Value → AHeap → Prop) : textQ es p 2 (-1) K = textR es p 2 (-1) K := by kernel_rfl
theorem text_2z (es : Nat → TypeId) (p : ByteArray) (K : Value → AHeap → Prop) : textQ es p 2 0 K = textR es p 2 0 K := by kernel_rfl
theorem cdS_size {p : ByteArray} {x g : Int} (hx : x = 0 ∨ x = 1 ∨ x = 2) : (p ++ mD).size = p.size + 1 ∧ ((p ++ mD) ++ axB x).size = p.size + 2 ∧ (cdS p x g).size = p.size + 3 := by
  have h1 : (axB x).size = 1 := by rcases hx with rfl | rfl | rfl <;> rfl
  have h2 : (sgB g).size = 1 := by unfold sgB; cases ieq g (-1) <;> rfl
  have h3 : mD.size = 1 := rfl
  unfold cdS
  have e1 : (p ++ mD).size = p.size + mD.size := ByteArray.size_append
  have e2 : ((p ++ mD) ++ axB x).size = (p ++ mD).size + (axB x).size := ByteArray.size_append
  have e3 : (((p ++ mD) ++ axB x) ++ sgB g).size = ((p ++ mD) ++ axB x).size + (sgB g).size := ByteArray.size_append
  rw [h3] at e1
  rw [e1, h1] at e2
  rw [e2, h2] at e3
  exact ⟨e1, e2, e3⟩
theorem sub1_size (s : ByteArray) {j : Int} (h0 : 0 ≤ j) : (sub1 s j).size ≤ 1 := by
  unfold sub1
  rw [ByteArray.size_extract]
  omega
set_option maxRecDepth 100000 in
theorem text_call (es : Nat → TypeId) {p : ByteArray} {x g : Int} (hp : p.size ≤ 1000) (hx : x = 0 ∨ x = 1 ∨ x = 2) (hg : g = 1 ∨ g = -1 ∨ g = 0) : CallJ Tryz.prog 48 #[.agg #[.string p, gi x, gi g]] (bT es) (fun v _ => v = .string (textB p x g)) := by
  obtain ⟨h1, h2, h3⟩ := cdS_size (p := p) (g := g) hx
  have h4 := letN_range (cdS p x g)
  have h5 := sub1_size mL h4.1
  have key : textR es p x g (fun v _ => v = .string (textB p x g)) := ⟨rfl, rfl, rfl, by omega, rfl, rfl, by omega, rfl, by omega, rfl, rfl, rfl, rfl, rfl, rfl, by omega, fun _ => ⟨by omega, rfl, h4.1, h4.2, by omega, rfl⟩⟩
  refine callC_ok mixed orcEa_ok askEa_ok (L := textLoops (cdS p x g) (cdH es p x g)) (m := 20) (n := 60) (sy := syOf [(9, 44), (13, 44), (19, 44), (37, 6), (38, 7), (39, 44)]) ?_
  rcases hx with rfl | rfl | rfl <;> rcases hg with rfl | rfl | rfl
  · exact Eq.mpr (text_0p es p _) key
  · exact Eq.mpr (text_0m es p _) key
  · exact Eq.mpr (text_0z es p _) key
  · exact Eq.mpr (text_1p es p _) key
  · exact Eq.mpr (text_1m es p _) key
  · exact Eq.mpr (text_1z es p _) key
  · exact Eq.mpr (text_2p es p _) key
  · exact Eq.mpr (text_2m es p _) key
  · exact Eq.mpr (text_2z es p _) key
set_option maxRecDepth 100000 in
theorem Letter_call {s : ByteArray} (hs : s.size ≤ 1000000) : CallJ Tryz.prog 56 #[.string s] (emp Tryz.prog) (fun v _ => v = .string (sub1 mL (letN s))) := by
  have h4 := letN_range s
  refine callC_ok mixed orcEa_ok (noAsks_ok _) (Eq.mpr (Letter_run s _) ⟨rfl, rfl, rfl, rfl, rfl, hs, fun _ => ⟨by omega, by omega, h4.1, ?_, ?_, ?_⟩⟩)
  · rw [fwrap_small (by omega) (by omega)]; omega
  · rw [fwrap_small (by omega) (by omega)]; show letN s + 1 ≤ 26; omega
  · rw [fwrap_small (by omega) (by omega)]; rfl
noncomputable def textS : List Value → Option Value
  | [.agg a] => match a.toList with
    | [.string p, .int .i64 x, .int .i64 g] => if p.size ≤ 1000 ∧ (x = 0 ∨ x = 1 ∨ x = 2) ∧ (g = 1 ∨ g = -1 ∨ g = 0) then some (.string (textB p x g)) else none
    | _ => none
  | _ => none
noncomputable def textY : List Value → (Value → Prop) → Prop
  | [.agg a], K => match a.toList with
    | [.string p, .int .i64 x, .int .i64 g] => p.size ≤ 1000 ∧ (x = 0 ∨ x = 1 ∨ x = 2) ∧ (g = 1 ∨ g = -1 ∨ g = 0) ∧ K (.string (textB p x g))
    | _ => False
  | _, _ => False
theorem textY_ok (l : List Value) (K : Value → Prop) (h : textY l K) : ∃ v, textS l = some v ∧ K v := by
  unfold textY at h
  split at h
  · rename_i a
    split at h
    · rename_i p x g ha
      refine ⟨_, ?_, h.2.2.2⟩
      unfold textS
      simp only [ha]
      exact if_pos ⟨h.1, h.2.1, h.2.2.1⟩
    · exact h.elim
  · exact h.elim
noncomputable def letS : List Value → Option Value
  | [.string s] => if s.size ≤ 1000000 then some (.string (sub1 mL (letN s))) else none
  | _ => none
noncomputable def letY : List Value → (Value → Prop) → Prop
  | [.string s], K => s.size ≤ 1000000 ∧ K (.string (sub1 mL (letN s)))
  | _, _ => False
theorem letY_ok (l : List Value) (K : Value → Prop) (h : letY l K) : ∃ v, letS l = some v ∧ K v := by
  unfold letY at h
  split at h
  · exact ⟨_, if_pos h.1, h.2⟩
  · exact h.elim
end Go.Proofs.YtojfhklkcelblaaGreatDoor
