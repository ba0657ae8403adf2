/-
  OWN WORK. Checks and small functions.
-/
import Derived.Test.YtihnnmejkpddeaaGreatDoorSgM
/-! (OWN WORK. Small functions of the program and of the reference.) -/
namespace Go.Proofs.YtihnnmejkpddeaaGreatDoor
open Go Go.Am
noncomputable section
abbrev goN (i : Nat) : Value := .int .i64 (Int.ofNat i)
def orc0 : Orc := fun _ _ _ => none
theorem orc0_ok : OrcOk Tryz.prog orc0 := fun _ _ _ _ _ h => by cases h
def whenS (b : Bool) (e : Int) : Int := bif b then e else 0
def withinS (x lo hi : Int) : Int := whenS (ilt x lo || ilt hi x) 3
theorem When_run (b : Bool) (e : Int) (K : Value → AHeap → Prop) : callC Tryz.prog (exec Tryz.prog orc0 10) (syOf [(5, 1)]) noAsks (noLoops _) 20 26 #[.bool b, .int .i64 e] (emp Tryz.prog) K =
 ((b = true → K (.int .i64 e) (emp Tryz.prog)) ∧ (b = false → K (.int .i64 0) (emp Tryz.prog))) := by kernel_rfl
def whenL : List Value → Option Value
 | [.bool b, .int .i64 e] => some (.int .i64 (whenS b e))
 | _ => none
theorem whenL_some {l : List Value} {v : Value} (h : whenL l = some v) : ∃ b e, l = [.bool b, .int .i64 e] ∧ v = .int .i64 (whenS b e) := by
 unfold whenL at h
 split at h
 ·cases h; exact ⟨_, _, rfl, rfl⟩
 ·cases h
def orcA : Orc := orElse 26 (flatSpec whenL) orc0
theorem orcA_ok : OrcOk Tryz.prog orcA := by
 refine flatSpec_ok (fun l v h => ?_) orc0_ok
 obtain ⟨b, e, rfl, rfl⟩ := whenL_some h
 refine ⟨rfl, rfl, callC_ok mixed orc0_ok (noAsks_ok _) (by rw [When_run]; cases b <;> simp [whenS])⟩
theorem CheckRange_run (x lo hi : Int) (K : Value → AHeap → Prop) : callC Tryz.prog (exec Tryz.prog orcA 10) (syOf [(9, 1), (13, 1)]) noAsks (noLoops _) 20 39 #[.int .i64 x, .int .i64 lo, .int .i64 hi] (emp Tryz.prog) K =
 ((ilt x lo = true → K (.int .i64 3) (emp Tryz.prog)) ∧ (ilt x lo = false → (ilt hi x = true → K (.int .i64 3) (emp Tryz.prog)) ∧ (ilt hi x = false → K (.int .i64 0) (emp Tryz.prog)))) := by kernel_rfl
def withinL : List Value → Option Value
 | [.int .i64 x, .int .i64 lo, .int .i64 hi] => some (.int .i64 (withinS x lo hi))
 | _ => none
theorem withinL_some {l : List Value} {v : Value} (h : withinL l = some v) : ∃ x lo hi, l = [.int .i64 x, .int .i64 lo, .int .i64 hi] ∧ v = .int .i64 (withinS x lo hi) := by
 unfold withinL at h
 split at h
 ·cases h; exact ⟨_, _, _, rfl, rfl⟩
 ·cases h
def orcC : Orc := orElse 39 (flatSpec withinL) orcA
theorem orcC_ok : OrcOk Tryz.prog orcC := by
 refine flatSpec_ok (fun l v h => ?_) orcA_ok
 obtain ⟨x, lo, hi, rfl, rfl⟩ := withinL_some h
 refine ⟨rfl, rfl, callC_ok mixed orcA_ok (noAsks_ok _) (by
  rw [CheckRange_run]
  unfold withinS whenS
  generalize ilt x lo = b1
  generalize ilt hi x = b2
  cases b1 <;> cases b2 <;> simp)⟩
end
end Go.Proofs.YtihnnmejkpddeaaGreatDoor
/-! (OWN WORK. The first error of some: check, and the reference.) -/
namespace Go.Proofs.YtihnnmejkpddeaaGreatDoor
open Go Go.Am
noncomputable abbrev gi (x : Int) : Value := .int .i64 x
noncomputable def firstS : List Int → Int
 | [] => 0
 | x :: l => bif ieq x 0 then firstS l else x
noncomputable abbrev liH (c : List Value) (e row : Nat) : AHeap := canon Tryz.prog [(c, e, row)]
noncomputable abbrev liP (n k : Nat) : Value := .slice (some ⟨Tryz.prog.globals.size, 0, none⟩) n k
theorem First_body (c : List Value) (e row n k j : Nat) (g : Nat → Value) (Q : Exit → List Value → AHeap → Prop) :
  execC Tryz.prog (exec Tryz.prog orcC 10) (syOf [(7, 1), (12, 2), (13, 3), (14, 1), (17, 2), (18, 3)]) noAsks (noLoops _) 40 (loopOf Tryz.prog 20 0) (stOf 19 [(0, liP n k), (2, gi 0), (3, goN j)] g) (liH c e row) (told 19 [0, 2, 3] Q) =
  ((Nat.blt j n = true → Nat.blt j n = true ∧ c[0 + j * 1]? = some (gi (intAt c (0 + j * 1))) ∧
   ((!ieq (intAt c (0 + j * 1)) 0) = true → Nat.blt j n = true ∧ c[0 + j * 1]? = some (gi (intAt c (0 + j * 1))) ∧ Q .ret [liP n k, gi (intAt c (0 + j * 1)), goN j] (liH c e row)) ∧
   ((!ieq (intAt c (0 + j * 1)) 0) = false → Q .normal [liP n k, gi 0, .int .i64 (fwrap .i64 (Int.ofNat (j + 1)))] (liH c e row))) ∧
   (Nat.blt j n = false → Q (.exit 0) [liP n k, gi 0, goN j] (liH c e row))) := by kernel_rfl
theorem first_at {l : List Int} {j : Nat} (hj : j < l.length) : (l.map gi)[0 + j * 1]? = some (gi (intAt (l.map gi) (0 + j * 1))) ∧ intAt (l.map gi) (0 + j * 1) = l[j] := by
 have e : (l.map gi)[0 + j * 1]? = some (gi l[j]) := by
  rw [show 0 + j * 1 = j by omega, List.getElem?_map, List.getElem?_eq_getElem hj]
  rfl
 have e2 : intAt (l.map gi) (0 + j * 1) = l[j] := by
  unfold intAt
  rw [e]
 rw [e2]
 exact ⟨e, rfl⟩
theorem firstS_drop {l : List Int} {j : Nat} (hj : j < l.length) : firstS (l.drop j) = bif ieq l[j] 0 then firstS (l.drop (j + 1)) else l[j] := by
 rw [List.drop_eq_getElem_cons hj]
 rfl
theorem firstS_end {l : List Int} {j : Nat} (hj : l.length ≤ j) : firstS (l.drop j) = 0 := by
 rw [List.drop_eq_nil_of_le hj]
 rfl
theorem blt_true {i j : Nat} (h : Nat.blt i j = true) : i < j := by rw [Nat.blt_eq] at h; exact h
theorem blt_false {i j : Nat} (h : Nat.blt i j = false) : j ≤ i := by
 apply Nat.le_of_not_lt
 intro hl
 rw [show Nat.blt i j = true by rw [Nat.blt_eq]; exact hl] at h
 cases h
set_option maxRecDepth 100000 in
theorem First_loop (l : List Int) (e row k : Nat) (hl : l.length ≤ 1000000) : ∀ a : AAct, a.n = 19 → a.marks = [] → [0, 2, 3].map a.tmp = [liP l.length k, gi 0, goN 0] →
  J Tryz.prog (.loop (loopOf Tryz.prog 20 0)) a (liH (l.map gi) e row) (told 19 [0, 2, 3] fun ex vs h => h = liH (l.map gi) e row ∧ ((ex = .exit 0 ∧ firstS l = 0) ∨ (ex = .ret ∧ ∃ j, vs = [liP l.length k, gi (firstS l), goN j]))) := by
 intro a hn hm hv
 refine loop_rule (fun m vs h => ∃ j, j ≤ l.length ∧ m = l.length - j ∧ vs = [liP l.length k, gi 0, goN j] ∧ h = liH (l.map gi) e row ∧ firstS l = firstS (l.drop j)) _ ?_ l.length _ _ a ⟨0, Nat.zero_le _, rfl, rfl, rfl, rfl⟩ hn hm hv
 rintro m vs h g ⟨j, hj, rfl, rfl, rfl, hf⟩
 refine execC_ok mixed orcC_ok (noAsks_ok _) (noLoops _) (Eq.mpr (First_body _ e row _ k j g _) ?_)
 refine ⟨fun hlt => ?_, fun hge => ?_⟩
 ·have hl' := blt_true hlt
  obtain ⟨h1, h2⟩ := first_at hl'
  refine ⟨hlt, h1, fun h3 => ⟨hlt, h1, rfl, .inr ⟨rfl, j, ?_⟩⟩, fun h3 => ?_⟩
  ·rw [h2] at h3 ⊢
   rw [hf, firstS_drop hl', show ieq l[j] 0 = false by simpa using h3]
   rfl
  ·rw [h2] at h3
   rw [fwrap_nat (by omega)]
   refine ⟨l.length - (j + 1), by omega, j + 1, hl', rfl, rfl, rfl, ?_⟩
   rw [hf, firstS_drop hl', show ieq l[j] 0 = true by simpa using h3]
   rfl
 ·exact ⟨rfl, .inl ⟨rfl, by rw [hf, firstS_end (blt_false hge)]⟩⟩
noncomputable def FirstLoops (l : List Int) (e row k : Nat) : Loops Tryz.prog where
 body := fun _ => loopOf Tryz.prog 20 0
 spec := fun _ a h c => entry a 19 [(0, liP l.length k), (2, gi 0), (3, goN 0)] (h = liH (l.map gi) e row ∧ l.length ≤ 1000000 ∧ (firstS l = 0 → ∀ g, c (.exit 0) (stOf 19 [] g) (liH (l.map gi) e row)) ∧ ∀ g j, c .ret (stOf 19 [(0, liP l.length k), (2, gi (firstS l)), (3, goN j)] g) (liH (l.map gi) e row))
 ok := fun i a h c q => by
  obtain ⟨h1, h2, h3, rfl, hs, h4, h5⟩ := entry_facts q
  refine J.of_told (First_loop l e row k hs a h1 h2 ?_) ?_
  ·simp only [List.map_cons, List.map_nil]
   rw [h3 (0, liP l.length k) (by simp), h3 (2, gi 0) (by simp), h3 (3, goN 0) (by simp)]
  ·rintro ex vs h' g ⟨rfl, ⟨rfl, ha⟩ | ⟨rfl, j, rfl⟩⟩
   ·exact h4 ha (ov ([0, 2, 3].zip vs) g)
   ·exact h5 g j
theorem First_run (l : List Int) (e row k : Nat) (K : Value → AHeap → Prop) : callC Tryz.prog (exec Tryz.prog orcC 10) (syOf []) noAsks (FirstLoops l e row k) 40 20 #[liP l.length k] (liH (l.map gi) e row) K =
 (loopOf Tryz.prog 20 0 = loopOf Tryz.prog 20 0 ∧ liP l.length k = liP l.length k ∧ gi 0 = gi 0 ∧ goN 0 = goN 0 ∧ liH (l.map gi) e row = liH (l.map gi) e row ∧ l.length ≤ 1000000 ∧
  (firstS l = 0 → ∀ _ : Nat → Value, K (gi 0) (liH (l.map gi) e row)) ∧ ∀ (_ : Nat → Value) (_ : Nat), K (gi (firstS l)) (liH (l.map gi) e row)) := by kernel_rfl
noncomputable def ints? : List Value → Option (List Int)
 | [] => some []
 | .int .i64 x :: r => (ints? r).map (x :: ·)
 | _ :: _ => none
theorem ints?_some : ∀ {c : List Value} {l : List Int}, ints? c = some l → c = l.map gi
 | [], l, h => by cases h; rfl
 | v :: r, l, h => by
  unfold ints? at h
  split at h
  ·rename_i e; cases e
  ·rename_i x r' e
   cases e
   obtain ⟨l', hl', rfl⟩ := Option.map_eq_some_iff.1 h
   rw [ints?_some hl']
   rfl
  ·cases h
noncomputable def firstO : Array Value → AHeap → Option (Value × AHeap) := fun args h => match args.toList with
 | [.slice (some ⟨i, 0, none⟩) n _] => match h.get i with
  | some (.cells c _ _ _) => match ints? c with
   | some l => match Nat.beq n l.length && Nat.ble l.length 1000000 with
    | true => some (gi (firstS l), h)
    | false => none
   | none => none
  | _ => none
 | _ => none
theorem flat_ints (l : List Int) : (l.map gi).all (flat 3) = true := by
 rw [List.all_eq_true]
 intro x hx
 obtain ⟨y, _, rfl⟩ := List.mem_map.1 hx
 rfl
theorem firstO_ok {f : FuncId} {orc : Orc} (ho : OrcOk Tryz.prog orc) (hf : ∀ l e row k, l.length ≤ 1000000 → CallJ Tryz.prog f #[liP l.length k] (liH (l.map gi) e row) (fun v _ => v = gi (firstS l))) : OrcOk Tryz.prog (orElse f firstO orc) := by
 refine orElse_ok ho fun args h v h' hk => ?_
 unfold firstO at hk
 split at hk
 ·rename_i i n k ha
  split at hk
  ·rename_i c e row ro hg
   split at hk
   ·rename_i l hi
    split at hk
    ·rename_i hn
     cases hk
     simp only [Bool.and_eq_true, Nat.beq_eq, Nat.ble_eq] at hn
     obtain ⟨rfl, hn2⟩ := hn
     obtain rfl := ints?_some hi
     have : args = #[.slice (some ⟨i, 0, none⟩) l.length k] := by rw [← ha]
     subst this
     exact CallJ.plain rfl (Small.one hg (flat_ints l)) (hf l e row k hn2)
    ·cases hk
   ·cases hk
  ·cases hk
 ·cases hk
noncomputable def orcR : Orc := orElse 20 firstO orcC
set_option maxRecDepth 100000 in
theorem orcR_ok : OrcOk Tryz.prog orcR := by
 refine firstO_ok orcC_ok fun l e row k hl => ?_
 ·exact callC_ok mixed orcC_ok (noAsks_ok _) (Eq.mpr (First_run l e row k _) ⟨rfl, rfl, rfl, rfl, rfl, hl, fun h _ => by rw [h], fun _ _ => rfl⟩)
theorem cwhen_run (b : Bool) (e : Int) (K : Value → AHeap → Prop) : callC Tryz.prog (exec Tryz.prog orcR 10) (syOf [(5, 1)]) noAsks (noLoops _) 20 92 #[.bool b, .int .i64 e] (emp Tryz.prog) K =
 ((b = true → K (.int .i64 e) (emp Tryz.prog)) ∧ (b = false → K (.int .i64 0) (emp Tryz.prog))) := by kernel_rfl
noncomputable def orcCk : Orc := orElse 92 (flatSpec whenL) orcR
theorem orcCk_ok : OrcOk Tryz.prog orcCk := by
 refine flatSpec_ok (fun l v h => ?_) orcR_ok
 obtain ⟨b, e, rfl, rfl⟩ := whenL_some h
 exact ⟨rfl, rfl, callC_ok mixed orcR_ok (noAsks_ok _) (by rw [cwhen_run]; cases b <;> simp [whenS])⟩
theorem cwithin_run (x lo hi : Int) (K : Value → AHeap → Prop) : callC Tryz.prog (exec Tryz.prog orcCk 10) (syOf [(9, 1), (13, 1)]) noAsks (noLoops _) 20 109 #[.int .i64 x, .int .i64 lo, .int .i64 hi] (emp Tryz.prog) K =
 ((ilt x lo = true → K (.int .i64 3) (emp Tryz.prog)) ∧ (ilt x lo = false → (ilt hi x = true → K (.int .i64 3) (emp Tryz.prog)) ∧ (ilt hi x = false → K (.int .i64 0) (emp Tryz.prog)))) := by kernel_rfl
noncomputable def orcCl : Orc := orElse 109 (flatSpec withinL) orcCk
theorem orcCl_ok : OrcOk Tryz.prog orcCl := by
 refine flatSpec_ok (fun l v h => ?_) orcCk_ok
 obtain ⟨x, lo, hi, rfl, rfl⟩ := withinL_some h
 exact ⟨rfl, rfl, callC_ok mixed orcCk_ok (noAsks_ok _) (by
  rw [cwithin_run]
  unfold withinS whenS
  generalize ilt x lo = b1
  generalize ilt hi x = b2
  cases b1 <;> cases b2 <;> simp)⟩
theorem cfirst_body (c : List Value) (e row n k j : Nat) (g : Nat → Value) (Q : Exit → List Value → AHeap → Prop) :
  execC Tryz.prog (exec Tryz.prog orcCl 10) (syOf [(8, 1), (9, 2), (10, 3), (12, 1)]) noAsks (noLoops _) 40 (loopOf Tryz.prog 84 0) (stOf 15 [(2, gi 0), (5, liP n k), (6, goN n), (7, goN j)] g) (liH c e row) (told 15 [2, 5, 6, 7] Q) =
  ((Nat.blt j n = true → Nat.blt j n = true ∧ c[0 + j * 1]? = some (gi (intAt c (0 + j * 1))) ∧
   ((!ieq (intAt c (0 + j * 1)) 0) = true → Q .ret [gi (intAt c (0 + j * 1)), liP n k, goN n, goN j] (liH c e row)) ∧
   ((!ieq (intAt c (0 + j * 1)) 0) = false → Q .normal [gi 0, liP n k, goN n, .int .i64 (fwrap .i64 (Int.ofNat (j + 1)))] (liH c e row))) ∧
   (Nat.blt j n = false → Q (.exit 0) [gi 0, liP n k, goN n, goN j] (liH c e row))) := by kernel_rfl
set_option maxRecDepth 100000 in
theorem cfirst_loop (l : List Int) (e row k : Nat) (hl : l.length ≤ 1000000) : ∀ a : AAct, a.n = 15 → a.marks = [] → [2, 5, 6, 7].map a.tmp = [gi 0, liP l.length k, goN l.length, goN 0] →
  J Tryz.prog (.loop (loopOf Tryz.prog 84 0)) a (liH (l.map gi) e row) (told 15 [2, 5, 6, 7] fun ex vs h => h = liH (l.map gi) e row ∧ ((ex = .exit 0 ∧ firstS l = 0) ∨ (ex = .ret ∧ ∃ j, vs = [gi (firstS l), liP l.length k, goN l.length, goN j]))) := by
 intro a hn hm hv
 refine loop_rule (fun m vs h => ∃ j, j ≤ l.length ∧ m = l.length - j ∧ vs = [gi 0, liP l.length k, goN l.length, goN j] ∧ h = liH (l.map gi) e row ∧ firstS l = firstS (l.drop j)) _ ?_ l.length _ _ a ⟨0, Nat.zero_le _, rfl, rfl, rfl, rfl⟩ hn hm hv
 rintro m vs h g ⟨j, hj, rfl, rfl, rfl, hf⟩
 refine execC_ok mixed orcCl_ok (noAsks_ok _) (noLoops _) (Eq.mpr (cfirst_body _ e row _ k j g _) ?_)
 refine ⟨fun hlt => ?_, fun hge => ?_⟩
 ·have hl' := blt_true hlt
  obtain ⟨h1, h2⟩ := first_at hl'
  refine ⟨hlt, h1, fun h3 => ⟨rfl, .inr ⟨rfl, j, ?_⟩⟩, fun h3 => ?_⟩
  ·rw [h2] at h3 ⊢
   rw [hf, firstS_drop hl', show ieq l[j] 0 = false by simpa using h3]
   rfl
  ·rw [h2] at h3
   rw [fwrap_nat (by omega)]
   refine ⟨l.length - (j + 1), by omega, j + 1, hl', rfl, rfl, rfl, ?_⟩
   rw [hf, firstS_drop hl', show ieq l[j] 0 = true by simpa using h3]
   rfl
 ·exact ⟨rfl, .inl ⟨rfl, by rw [hf, firstS_end (blt_false hge)]⟩⟩
noncomputable def cfirstLoops (l : List Int) (e row k : Nat) : Loops Tryz.prog where
 body := fun _ => loopOf Tryz.prog 84 0
 spec := fun _ a h c => entry a 15 [(2, gi 0), (5, liP l.length k), (6, goN l.length), (7, goN 0)] (h = liH (l.map gi) e row ∧ l.length ≤ 1000000 ∧ (firstS l = 0 → ∀ g, c (.exit 0) (stOf 15 [] g) (liH (l.map gi) e row)) ∧ ∀ g, c .ret (stOf 15 [(2, gi (firstS l))] g) (liH (l.map gi) e row))
 ok := fun i a h c q => by
  obtain ⟨h1, h2, h3, rfl, hs, h4, h5⟩ := entry_facts q
  refine J.of_told (cfirst_loop l e row k hs a h1 h2 ?_) ?_
  ·simp only [List.map_cons, List.map_nil]
   rw [h3 (2, gi 0) (by simp), h3 (5, liP l.length k) (by simp), h3 (6, goN l.length) (by simp), h3 (7, goN 0) (by simp)]
  ·rintro ex vs h' g ⟨rfl, ⟨rfl, ha⟩ | ⟨rfl, j, rfl⟩⟩
   ·exact h4 ha (ov ([2, 5, 6, 7].zip vs) g)
   ·exact h5 (ov [(5, liP l.length k), (6, goN l.length), (7, goN j)] g)
theorem cfirst_run (l : List Int) (e row k : Nat) (K : Value → AHeap → Prop) : callC Tryz.prog (exec Tryz.prog orcCl 10) (syOf []) noAsks (cfirstLoops l e row k) 40 84 #[liP l.length k] (liH (l.map gi) e row) K =
 (loopOf Tryz.prog 84 0 = loopOf Tryz.prog 84 0 ∧ gi 0 = gi 0 ∧ liP l.length k = liP l.length k ∧ goN l.length = goN l.length ∧ goN 0 = goN 0 ∧ liH (l.map gi) e row = liH (l.map gi) e row ∧ l.length ≤ 1000000 ∧
  (firstS l = 0 → ∀ _ : Nat → Value, K (gi 0) (liH (l.map gi) e row)) ∧ ∀ _ : Nat → Value, K (gi (firstS l)) (liH (l.map gi) e row)) := by kernel_rfl
noncomputable def orcCm : Orc := orElse 84 firstO orcCl
set_option maxRecDepth 100000 in
theorem orcCm_ok : OrcOk Tryz.prog orcCm := by
 refine firstO_ok orcCl_ok fun l e row k hl => ?_
 exact callC_ok mixed orcCl_ok (noAsks_ok _) (Eq.mpr (cfirst_run l e row k _) ⟨rfl, rfl, rfl, rfl, rfl, rfl, hl, fun h _ => by rw [h], fun _ => rfl⟩)
end Go.Proofs.YtihnnmejkpddeaaGreatDoor
