/-
  OWN WORK. Stage 6: the sums, carried out.
-/
import Derived.Test.YtihnnmejkpddeaaGreatDoorBsAB
import Derived.Test.YtihnnmejkpddeaaGreatDoorLvJO
import Derived.Test.YtihnnmejkpddeaaGreatDoorAmU
/-! (OWN WORK. Stage 6: the sums of the first integers of a series: a round, and the loop.) -/
namespace Go.Proofs.YtihnnmejkpddeaaGreatDoor
open Go Go.Am
noncomputable abbrev mpV (i : Nat) : Value := .map (some (Tryz.prog.globals.size + i))
noncomputable abbrev smH (c : List Value) (e row j : Nat) : AHeap := (liH c e row).push (.map (mpE c j) (j + 1))
theorem sm_body (c : List Value) (e row n k j : Nat) (g : Nat → Value) (Q : Exit → List Value → AHeap → Prop) : execC Tryz.prog (exec Tryz.prog orcJc 10) (syOf [(11, 1), (13, 2), (14, 3), (20, 60), (10015, 61)]) askJc (noLoops _) 40 (loopOf Tryz.prog 86 0) (stOf 25 [(3, mpV 1), (8, liP n k), (9, goN n), (10, goN j)] g) (smH c e row j) (told 25 [3, 8, 9, 10] Q) = (((Nat.blt j n = true → (Nat.blt j n = true ∧ c[(0 + (j * 1))]? = Option.some (gi (intAt c (0 + (j * 1)))) ∧ MapInt (mpE c j) ∧ (MapInt (mpE c j) ∧ MapNo (mpE c j) (fwrap IntKind.i64 (Int.ofNat (j + 1)))) ∧ Q .normal [mpV 1, liP n k, goN n, gi (fwrap IntKind.i64 (Int.ofNat (j + 1)))] ((smH c e row j).set (nG1 + 1) (AObj.map (mpE c j ++ [MapEntry.mk (gi (fwrap IntKind.i64 (Int.ofNat (j + 1)))) (gi (fwrap IntKind.i64 (mapAt (mpE c j) (Int.ofNat j) + intAt c (0 + (j * 1))))) (j + 1)]) ((j + 1) + 1))))) ∧ (Nat.blt j n = false → Q (.exit 0) [mpV 1, liP n k, goN n, goN j] (smH c e row j)))) := by kernel_rfl
structure BsOk (c : List Value) (_row n _k : Nat) : Prop where
 cf : c.all (flat 3) = true
 n0 : 0 < n
 n1 : n ≤ 128
 at_ : ∀ j, j < n → c[j]? = some (gi (intAt c j)) ∧ -2097152 ≤ intAt c j ∧ intAt c j ≤ 16384
theorem smB {c : List Value} {row n k : Nat} (C : BsOk c row n k) : ∀ j, j ≤ n → -(2097152 * (j : Int)) ≤ smC c j ∧ smC c j ≤ 16384 * (j : Int)
 | 0, _ => by simp [smC]
 | j + 1, hj => by
  obtain ⟨i1, i2⟩ := smB C j (by omega)
  obtain ⟨_, h1, h2⟩ := C.at_ j (by omega)
  show -(2097152 * ((j + 1 : Nat) : Int)) ≤ smC c j + intAt c (0 + j * 1) ∧ smC c j + intAt c (0 + j * 1) ≤ 16384 * ((j + 1 : Nat) : Int)
  rw [show 0 + j * 1 = j by omega]
  omega
theorem smB' {c : List Value} {row n k : Nat} (C : BsOk c row n k) {j : Nat} (hj : j ≤ n) : -268435456 ≤ smC c j ∧ smC c j ≤ 2097152 := by
 have h := smB C j hj
 have := C.n1
 omega
set_option maxRecDepth 100000 in
theorem sm_loop {c : List Value} {row n k : Nat} (C : BsOk c row n k) (e : Nat) : ∀ a : AAct, a.n = 25 → a.marks = [] → [3, 8, 9, 10].map a.tmp = [mpV 1, liP n k, goN n, goN 0] →
  J Tryz.prog (.loop (loopOf Tryz.prog 86 0)) a (smH c e row 0) (told 25 [3, 8, 9, 10] fun ex vs h => ex = .exit 0 ∧ vs = [mpV 1, liP n k, goN n, goN n] ∧ h = smH c e row n) := by
 refine heap_rule (fun j => smH c e row j) (fun j => [mpV 1, liP n k, goN n, goN j]) (fun _ => True) n trivial _ ?_ ?_
 ·intro j hj _ g
  have hat := (C.at_ j hj)
  have e0 : 0 + j * 1 = j := by omega
  have hn1 := C.n1
  have b1 := smB' C (j := j) (by omega)
  have b2 := smB' C (j := j + 1) (by omega)
  have es : smC c (j + 1) = smC c j + intAt c (0 + j * 1) := rfl
  have ew : fwrap IntKind.i64 (Int.ofNat (j + 1)) = Int.ofNat (j + 1) := fwrap_nat (by omega)
  refine execC_ok mixed orcJc_ok askJc_ok (noLoops _) (Eq.mpr (sm_body c e row n k j g _) ⟨fun hlt => ⟨hlt, by rw [e0]; exact hat.1, mpE_int c j, ⟨mpE_int c j, by rw [ew]; exact mpE_no c (by omega)⟩, ⟨trivial, by rw [ew], ?_⟩⟩, fun hge => absurd (blt_false hge) (by omega)⟩)
  rw [ew, mpE_at c (Nat.le_refl j), ← es, fwrap_mid (by omega) (by omega)]
  show (smH c e row j).set (nG1 + 1) (.map (mpE c j ++ [mpN c (j + 1)]) (j + 1 + 1)) = smH c e row (j + 1)
  rw [← mpE_succ]
  kernel_rfl
 ·intro _ g
  exact execC_ok mixed orcJc_ok askJc_ok (noLoops _) (Eq.mpr (sm_body c e row n k n g _) ⟨fun hlt => absurd (blt_true hlt) (by omega), fun _ => ⟨rfl, rfl, rfl⟩⟩)
noncomputable def smLp (c : List Value) (n e row k : Nat) : Loops Tryz.prog where
 body := fun _ => loopOf Tryz.prog 86 0
 spec := fun _ a h q => entry a 25 [(3, mpV 1), (8, liP n k), (9, goN n), (10, goN 0)] (h = smH c e row 0 ∧ BsOk c row n k ∧ ∀ g, q (.exit 0) (stOf 25 [(3, mpV 1)] g) (smH c e row n))
 ok := fun i a h q p => by
  obtain ⟨h1, h2, h3, rfl, C, h4⟩ := entry_facts p
  refine J.of_told (sm_loop C e a h1 h2 ?_) ?_
  ·simp only [List.map_cons, List.map_nil]
   rw [h3 (3, mpV 1) (by simp), h3 (8, liP n k) (by simp), h3 (9, goN n) (by simp), h3 (10, goN 0) (by simp)]
  ·rintro ex vs h' g ⟨rfl, rfl, rfl⟩
   exact h4 (ov ([8, 9, 10].zip [liP n k, goN n, goN n]) g)
end Go.Proofs.YtihnnmejkpddeaaGreatDoor
/-! (OWN WORK. Stage 6: the sums of the first integers of a series, carried out; the worth of a window.) -/
namespace Go.Proofs.YtihnnmejkpddeaaGreatDoor
open Go Go.Am
theorem sm_run (c : List Value) (m e row k : Nat) (K : Value → AHeap → Prop) : callC Tryz.prog (exec Tryz.prog orcJc 10) (syOf []) askJc (smLp c (m + 1) e row k) 40 86 #[liP (m + 1) k] (liH c e row) K = ((loopOf Tryz.prog 86 0 = loopOf Tryz.prog 86 0 ∧ Value.map (Option.some ((liH c e row).n)) = mpV 1 ∧ liP (m + 1) k = liP (m + 1) k ∧ goN (m + 1) = goN (m + 1) ∧ gi 0 = goN 0 ∧ ((liH c e row).push (AObj.map [] 0)).set (nG1 + 1) (AObj.map ([] ++ [MapEntry.mk (gi 0) (gi 0) 0]) 1) = smH c e row 0 ∧ BsOk c row (m + 1) k ∧ (∀ _ : Nat → Value, K (mpV 1) (smH c e row (m + 1))))) := by kernel_rfl
noncomputable abbrev wrH (es : List MapEntry) (ck : Nat) : AHeap := (emp Tryz.prog).push (.map es ck)
end Go.Proofs.YtihnnmejkpddeaaGreatDoor
