/-
  OWN WORK. Values: checks, copies and peaks: their loops, and as known calls.
-/
import Derived.Test.YtcifkiinilaglaaGreatDoorCsQ
import Derived.Test.YtcifkiinilaglaaGreatDoorAm15
import Derived.Test.YtcifkiinilaglaaGreatDoorAm16
import Derived.Test.YtcifkiinilaglaaGreatDoorAm17
import Derived.Test.YtcifkiinilaglaaGreatDoorAm18
import Derived.Test.YtcifkiinilaglaaGreatDoorAm19
/-! (OWN WORK. Values: the errors of intervals, known for all; lists of values given to the program.) -/
namespace Go.Proofs.YtcifkiinilaglaaGreatDoor
open Go Go.Am

theorem vi_run (a b l h : Int) (K : Value → Prop) : callC Tryz.prog (exec Tryz.prog orcZ 10) (syOf []) askZ (noLoops _) 20 130 #[.agg #[gi a, gi b], gi l, gi h] (emp Tryz.prog) (fun v _ => K v) = (([gi a, gi b][1]? = Option.some (gi b) ∧ [gi a, gi b][0]? = Option.some (gi a) ∧ [gi a, gi b][1]? = Option.some (gi b) ∧ [gi a, gi b][1]? = Option.some (gi b) ∧ [gi a, gi b][0]? = Option.some (gi a) ∧ K (gi (firstS [withinS a l h, withinS b l h, whenS (ilt b a) 11])))) := by kernel_rfl
theorem Vi_run (a b l h : Int) (K : Value → Prop) : callC Tryz.prog (exec Tryz.prog orcZ 10) (syOf []) askZ (noLoops _) 20 87 #[.agg #[gi a, gi b], gi l, gi h] (emp Tryz.prog) (fun v _ => K v) = (([gi a, gi b][1]? = Option.some (gi b) ∧ [gi a, gi b][0]? = Option.some (gi a) ∧ [gi a, gi b][1]? = Option.some (gi b) ∧ [gi a, gi b][1]? = Option.some (gi b) ∧ [gi a, gi b][0]? = Option.some (gi a) ∧ K (gi (firstS [withinS a l h, withinS b l h, whenS (ilt b a) 11])))) := by kernel_rfl
noncomputable def itvE (a b l h : Int) : Int := firstS [withinS a l h, withinS b l h, whenS (ilt b a) 11]
noncomputable def itvL : List Value → Option Value
  | [.agg a, .int .i64 l, .int .i64 h] => match a.toList with
    | [.int .i64 x, .int .i64 y] => some (gi (itvE x y l h))
    | _ => none
  | _ => none
theorem itvL_some {l : List Value} {v : Value} (h : itvL l = some v) : ∃ x y l' h', l = [.agg #[gi x, gi y], gi l', gi h'] ∧ v = gi (itvE x y l' h') := by
  unfold itvL at h
  split at h
  · rename_i a l' h'
    split at h
    · rename_i x y ha
      cases h
      obtain rfl : a = #[gi x, gi y] := by rw [← ha]
      exact ⟨x, y, l', h', rfl, rfl⟩
    · cases h
  · cases h
noncomputable def orcVa : Orc := orElse 87 (flatSpec itvL) (orElse 130 (flatSpec itvL) orcZ)
set_option maxRecDepth 100000 in
theorem orcVa_ok : OrcOk Tryz.prog orcVa := by
  refine flatSpec_ok (fun l v h => ?_) (flatSpec_ok (fun l v h => ?_) orcZ_ok)
  · obtain ⟨x, y, l', h', rfl, rfl⟩ := itvL_some h
    exact ⟨rfl, rfl, callC_ok mixed orcZ_ok askZ_ok (Eq.mpr (Vi_run x y l' h' _) ⟨rfl, rfl, rfl, rfl, rfl, rfl⟩)⟩
  · obtain ⟨x, y, l', h', rfl, rfl⟩ := itvL_some h
    exact ⟨rfl, rfl, callC_ok mixed orcZ_ok askZ_ok (Eq.mpr (vi_run x y l' h' _) ⟨rfl, rfl, rfl, rfl, rfl, rfl⟩)⟩
noncomputable def askVa : Asks := skipA 87 (skipA 130 askZ)
theorem askVa_ok : AsksOk orcVa askVa := skipA_ok (skipA_ok askZ_ok)
theorem sz_run (a b : Int) (K : Value → Prop) : callC Tryz.prog (exec Tryz.prog orcVa 10) (syOf []) askVa (noLoops _) 20 83 #[.agg #[gi a, gi b]] (emp Tryz.prog) (fun v _ => K v) = (K (gi (itvE a b (-200000) 200000))) := by kernel_rfl
theorem vc_run (a b : Int) (c d : Bool) (K : Value → Prop) : callC Tryz.prog (exec Tryz.prog orcVa 10) (syOf []) askVa (noLoops _) 20 91 #[.agg #[gi a, gi b, .bool c, .bool d]] (emp Tryz.prog) (fun v _ => K v) = (K (gi (itvE a b (-200000) 200000))) := by kernel_rfl
end Go.Proofs.YtcifkiinilaglaaGreatDoor
/-! (OWN WORK. Values: runs of the bodies of loops.) -/
namespace Go.Proofs.YtcifkiinilaglaaGreatDoor
open Go Go.Am

noncomputable def szL : List Value → Option Value
  | [.agg a] => match a.toList with
    | [.int .i64 x, .int .i64 y] => some (gi (itvE x y (-200000) 200000))
    | _ => none
  | _ => none
noncomputable def vcL : List Value → Option Value
  | [.agg a] => match a.toList with
    | [.int .i64 x, .int .i64 y, .bool _, .bool _] => some (gi (itvE x y (-200000) 200000))
    | _ => none
  | _ => none
noncomputable def orcVb : Orc := orElse 91 (flatSpec vcL) (orElse 83 (flatSpec szL) orcVa)
set_option maxRecDepth 100000 in
theorem orcVb_ok : OrcOk Tryz.prog orcVb := by
  refine flatSpec_ok (fun l v h => ?_) (flatSpec_ok (fun l v h => ?_) orcVa_ok)
  · unfold vcL at h
    split at h
    · rename_i a
      split at h
      · rename_i x y c d ha
        cases h
        obtain rfl : a = #[gi x, gi y, .bool c, .bool d] := by rw [← ha]
        exact ⟨rfl, rfl, callC_ok mixed orcVa_ok askVa_ok (Eq.mpr (vc_run x y c d _) rfl)⟩
      · cases h
    · cases h
  · unfold szL at h
    split at h
    · rename_i a
      split at h
      · rename_i x y ha
        cases h
        obtain rfl : a = #[gi x, gi y] := by rw [← ha]
        exact ⟨rfl, rfl, callC_ok mixed orcVa_ok askVa_ok (Eq.mpr (sz_run x y _) rfl)⟩
      · cases h
    · cases h
noncomputable def askVb : Asks := skipA 91 (skipA 83 askVa)
theorem askVb_ok : AsksOk orcVb askVb := skipA_ok (skipA_ok askVa_ok)
noncomputable abbrev vF : Value := .func (.func 91) #[] #[]
noncomputable abbrev roH (c : List Value) (e row : Nat) : AHeap := canonT [] (fun _ => 0) Tryz.prog.globals.size [(c, e, row, true)]
noncomputable abbrev goH (c : List Value) (e row : Nat) (d : List Value) (el rw : Nat) : AHeap := canonT [] (fun _ => 0) Tryz.prog.globals.size [(c, e, row, true), (d, el, rw, false)]
noncomputable abbrev ptN (i : Nat) : Value := .pointer (some ⟨Tryz.prog.globals.size + i, 0, none⟩)
noncomputable abbrev slP (i n k : Nat) : Value := .slice (some ⟨Tryz.prog.globals.size + i, 0, none⟩) n k
theorem ea_body (c : List Value) (n k e row j : Nat) (g : Nat → Value) (Q : Exit → List Value → AHeap → Prop) : execC Tryz.prog (exec Tryz.prog orcVb 10) (syOf [(11, 1), (12, 2), (13, 46), (18, 1)]) askVb (noLoops _) 40 (loopOf Tryz.prog 134 0) (stOf 21 [(1, vF), (4, gi 0), (8, liP n k), (9, goN n), (10, goN j)] g) (roH c e row) (told 21 [1, 4, 8, 9, 10] Q) = (((Nat.blt j n = true → (Nat.blt j n = true ∧ c[(0 + (j * 4))]? = Option.some (gi (intAt c (0 + (j * 4)))) ∧ c[((0 + (j * 4)) + 1)]? = Option.some (gi (intAt c ((0 + (j * 4)) + 1))) ∧ c[(((0 + (j * 4)) + 1) + 1)]? = Option.some (Value.bool (boolAt c (((0 + (j * 4)) + 1) + 1))) ∧ c[((((0 + (j * 4)) + 1) + 1) + 1)]? = Option.some (Value.bool (boolAt c ((((0 + (j * 4)) + 1) + 1) + 1))) ∧ ((!(ieq (itvE (intAt c (0 + (j * 4))) (intAt c ((0 + (j * 4)) + 1)) (-200000) 200000) 0)) = true → Q .ret [vF, gi (itvE (intAt c (0 + (j * 4))) (intAt c ((0 + (j * 4)) + 1)) (-200000) 200000), liP n k, goN n, goN j] (((roH c e row).push (.cells [gi 0, gi 0, Value.bool false, Value.bool false] 110 0 false)).set (nG1 + 1) (.cells ([] ++ ([gi (intAt c (0 + (j * 4))), gi (intAt c ((0 + (j * 4)) + 1)), Value.bool (boolAt c (((0 + (j * 4)) + 1) + 1)), Value.bool (boolAt c ((((0 + (j * 4)) + 1) + 1) + 1))] ++ [])) 110 0 false))) ∧ ((!(ieq (itvE (intAt c (0 + (j * 4))) (intAt c ((0 + (j * 4)) + 1)) (-200000) 200000) 0)) = false → Q .normal [vF, gi 0, liP n k, goN n, gi (fwrap IntKind.i64 (Int.ofNat (j + 1)))] (((roH c e row).push (.cells [gi 0, gi 0, Value.bool false, Value.bool false] 110 0 false)).set (nG1 + 1) (.cells ([] ++ ([gi (intAt c (0 + (j * 4))), gi (intAt c ((0 + (j * 4)) + 1)), Value.bool (boolAt c (((0 + (j * 4)) + 1) + 1)), Value.bool (boolAt c ((((0 + (j * 4)) + 1) + 1) + 1))] ++ [])) 110 0 false))))) ∧ (Nat.blt j n = false → Q (.exit 0) [vF, gi 0, liP n k, goN n, goN j] (roH c e row)))) := by kernel_rfl
theorem ci_body (c : List Value) (n k e row j : Nat) (g : Nat → Value) (Q : Exit → List Value → AHeap → Prop) : execC Tryz.prog (exec Tryz.prog orcVb 10) (syOf [(22, 1), (27, 2), (28, 46), (31, 1)]) askVb (noLoops _) 40 (loopOf Tryz.prog 27 0) (stOf 33 [(0, liP n k), (2, gi 0), (4, goN j)] g) (roH c e row) (told 33 [0, 2, 4] Q) = (((Nat.blt j n = true → (Nat.blt j n = true ∧ c[(0 + (j * 2))]? = Option.some (gi (intAt c (0 + (j * 2)))) ∧ c[((0 + (j * 2)) + 1)]? = Option.some (gi (intAt c ((0 + (j * 2)) + 1))) ∧ ((!(ieq (itvE (intAt c (0 + (j * 2))) (intAt c ((0 + (j * 2)) + 1)) (-200000) 200000) 0)) = true → Q .ret [liP n k, gi (itvE (intAt c (0 + (j * 2))) (intAt c ((0 + (j * 2)) + 1)) (-200000) 200000), goN j] (roH c e row)) ∧ ((!(ieq (itvE (intAt c (0 + (j * 2))) (intAt c ((0 + (j * 2)) + 1)) (-200000) 200000) 0)) = false → Q .normal [liP n k, gi 0, gi (fwrap IntKind.i64 (Int.ofNat (j + 1)))] (roH c e row)))) ∧ (Nat.blt j n = false → Q (.exit 0) [liP n k, gi 0, goN j] (roH c e row)))) := by kernel_rfl
theorem gv_bodyA (c : List Value) (n k e row j : Nat) (g : Nat → Value) (Q : Exit → List Value → AHeap → Prop) : execC Tryz.prog (exec Tryz.prog orcVb 10) (syOf [(9, 1), (10, 2), (11, 46)]) askVb (noLoops _) 40 (loopOf Tryz.prog 32 0) (stOf 18 [(3, .slice none 0 0), (6, liP n k), (7, goN n), (8, goN j)] g) (roH c e row) (told 18 [3, 6, 7, 8] Q) = (((Nat.blt j n = true → (Nat.blt j n = true ∧ c[(0 + (j * 4))]? = Option.some (gi (intAt c (0 + (j * 4)))) ∧ c[((0 + (j * 4)) + 1)]? = Option.some (gi (intAt c ((0 + (j * 4)) + 1))) ∧ c[(((0 + (j * 4)) + 1) + 1)]? = Option.some (Value.bool (boolAt c (((0 + (j * 4)) + 1) + 1))) ∧ c[((((0 + (j * 4)) + 1) + 1) + 1)]? = Option.some (Value.bool (boolAt c ((((0 + (j * 4)) + 1) + 1) + 1))) ∧ Q .normal [Value.slice (some ⟨nG1 + 3, 0, none⟩) 1 1, liP n k, goN n, gi (fwrap IntKind.i64 (Int.ofNat (j + 1)))] (((((roH c e row).push (.cells [gi 0, gi 0, Value.bool false, Value.bool false] 108 0 false)).set (nG1 + 1) (.cells ([] ++ ([gi (intAt c (0 + (j * 4))), gi (intAt c ((0 + (j * 4)) + 1)), Value.bool (boolAt c (((0 + (j * 4)) + 1) + 1)), Value.bool (boolAt c ((((0 + (j * 4)) + 1) + 1) + 1))] ++ [])) 108 0 false)).push (.cells [gi (intAt c (0 + (j * 4))), gi (intAt c ((0 + (j * 4)) + 1)), Value.bool (boolAt c (((0 + (j * 4)) + 1) + 1)), Value.bool (boolAt c ((((0 + (j * 4)) + 1) + 1) + 1))] 110 5 false)).push (.cells ([] ++ [gi (intAt c (0 + (j * 4))), gi (intAt c ((0 + (j * 4)) + 1)), Value.bool (boolAt c (((0 + (j * 4)) + 1) + 1)), Value.bool (boolAt c ((((0 + (j * 4)) + 1) + 1) + 1))]) 110 5 false)))) ∧ (Nat.blt j n = false → Q (.exit 0) [nilS, liP n k, goN n, goN j] (roH c e row)))) := by kernel_rfl
theorem gv_bodyD (c d : List Value) (n k e row j q : Nat) (g : Nat → Value) (Q : Exit → List Value → AHeap → Prop) : execC Tryz.prog (exec Tryz.prog orcVb 10) (syOf [(9, 1), (10, 2), (11, 46), (15, 10)]) askVb (noLoops _) 40 (loopOf Tryz.prog 32 0) (stOf 18 [(3, slP 1 q q), (6, liP n k), (7, goN n), (8, goN j)] g) (goH c e row d 110 5) (told 18 [3, 6, 7, 8] Q) = (((Nat.blt j n = true → (Nat.blt j n = true ∧ c[(0 + (j * 4))]? = Option.some (gi (intAt c (0 + (j * 4)))) ∧ c[((0 + (j * 4)) + 1)]? = Option.some (gi (intAt c ((0 + (j * 4)) + 1))) ∧ c[(((0 + (j * 4)) + 1) + 1)]? = Option.some (Value.bool (boolAt c (((0 + (j * 4)) + 1) + 1))) ∧ c[((((0 + (j * 4)) + 1) + 1) + 1)]? = Option.some (Value.bool (boolAt c ((((0 + (j * 4)) + 1) + 1) + 1))) ∧ Nat.ble (q + 1) q = false ∧ Nat.ble (((2 * (q + 1)) + 256) * 24) 281474976710656 = true ∧ (q * 4) = List.length d ∧ Q .normal [Value.slice (some ⟨nG1 + 4, 0, none⟩) (q + 1) (q + 1), liP n k, goN n, gi (fwrap IntKind.i64 (Int.ofNat (j + 1)))] ((((((goH c e row d 110 5).push (.cells [gi 0, gi 0, Value.bool false, Value.bool false] 108 0 false)).set (nG1 + 2) (.cells ([] ++ ([gi (intAt c (0 + (j * 4))), gi (intAt c ((0 + (j * 4)) + 1)), Value.bool (boolAt c (((0 + (j * 4)) + 1) + 1)), Value.bool (boolAt c ((((0 + (j * 4)) + 1) + 1) + 1))] ++ [])) 108 0 false)).push (.cells [gi (intAt c (0 + (j * 4))), gi (intAt c ((0 + (j * 4)) + 1)), Value.bool (boolAt c (((0 + (j * 4)) + 1) + 1)), Value.bool (boolAt c ((((0 + (j * 4)) + 1) + 1) + 1))] 110 5 false)).set (nG1 + 1) (.dead)).push (.cells (d ++ [gi (intAt c (0 + (j * 4))), gi (intAt c ((0 + (j * 4)) + 1)), Value.bool (boolAt c (((0 + (j * 4)) + 1) + 1)), Value.bool (boolAt c ((((0 + (j * 4)) + 1) + 1) + 1))]) 110 5 false)))) ∧ (Nat.blt j n = false → Q (.exit 0) [slP 1 q q, liP n k, goN n, goN j] (goH c e row d 110 5)))) := by kernel_rfl
theorem cv_bodyA (c : List Value) (n k e row j : Nat) (g : Nat → Value) (Q : Exit → List Value → AHeap → Prop) : execC Tryz.prog (exec Tryz.prog orcVb 10) (syOf [(8, 1), (14, 2), (16, 3), (19, 2), (21, 3)]) askVb (noLoops _) 40 (loopOf Tryz.prog 34 0) (stOf 27 [(0, liP n k), (3, .slice none 0 0), (4, goN j)] g) (roH c e row) (told 27 [0, 3, 4] Q) = (((Nat.blt j n = true → (Nat.blt j n = true ∧ c[((0 + (j * 4)) + 0)]? = Option.some (gi (intAt c ((0 + (j * 4)) + 0))) ∧ Nat.blt j n = true ∧ c[((0 + (j * 4)) + 1)]? = Option.some (gi (intAt c ((0 + (j * 4)) + 1))) ∧ c[((0 + (j * 4)) + 1)]? = Option.some (gi (intAt c ((0 + (j * 4)) + 1))) ∧ c[((0 + (j * 4)) + 0)]? = Option.some (gi (intAt c ((0 + (j * 4)) + 0))) ∧ Q .normal [liP n k, Value.slice (some ⟨nG1 + 2, 0, none⟩) 1 1, gi (fwrap IntKind.i64 (Int.ofNat (j + 1)))] (((roH c e row).push (.cells [gi (intAt c ((0 + (j * 4)) + 0)), gi (intAt c ((0 + (j * 4)) + 1))] 57 3 false)).push (.cells ([] ++ [gi (intAt c ((0 + (j * 4)) + 0)), gi (intAt c ((0 + (j * 4)) + 1))]) 57 3 false)))) ∧ (Nat.blt j n = false → Q (.exit 0) [liP n k, nilS, goN j] (roH c e row)))) := by kernel_rfl
theorem cv_bodyD (c d : List Value) (n k e row j q : Nat) (g : Nat → Value) (Q : Exit → List Value → AHeap → Prop) : execC Tryz.prog (exec Tryz.prog orcVb 10) (syOf [(8, 1), (14, 2), (16, 3), (19, 2), (21, 3), (24, 10)]) askVb (noLoops _) 40 (loopOf Tryz.prog 34 0) (stOf 27 [(0, liP n k), (3, slP 1 q q), (4, goN j)] g) (goH c e row d 57 3) (told 27 [0, 3, 4] Q) = (((Nat.blt j n = true → (Nat.blt j n = true ∧ c[((0 + (j * 4)) + 0)]? = Option.some (gi (intAt c ((0 + (j * 4)) + 0))) ∧ Nat.blt j n = true ∧ c[((0 + (j * 4)) + 1)]? = Option.some (gi (intAt c ((0 + (j * 4)) + 1))) ∧ c[((0 + (j * 4)) + 1)]? = Option.some (gi (intAt c ((0 + (j * 4)) + 1))) ∧ c[((0 + (j * 4)) + 0)]? = Option.some (gi (intAt c ((0 + (j * 4)) + 0))) ∧ Nat.ble (q + 1) q = false ∧ Nat.ble (((2 * (q + 1)) + 256) * 16) 281474976710656 = true ∧ (q * 2) = List.length d ∧ Q .normal [liP n k, Value.slice (some ⟨nG1 + 3, 0, none⟩) (q + 1) (q + 1), gi (fwrap IntKind.i64 (Int.ofNat (j + 1)))] ((((goH c e row d 57 3).push (.cells [gi (intAt c ((0 + (j * 4)) + 0)), gi (intAt c ((0 + (j * 4)) + 1))] 57 3 false)).set (nG1 + 1) (.dead)).push (.cells (d ++ [gi (intAt c ((0 + (j * 4)) + 0)), gi (intAt c ((0 + (j * 4)) + 1))]) 57 3 false)))) ∧ (Nat.blt j n = false → Q (.exit 0) [liP n k, slP 1 q q, goN j] (goH c e row d 57 3)))) := by kernel_rfl
noncomputable abbrev pkH (c : List Value) (e row : Nat) (z p : List Value) : AHeap := canonT [] (fun _ => 0) Tryz.prog.globals.size [(c, e, row, true), (z, 57, 0, false), (p, 57, 0, false)]
theorem pk_body (c z : List Value) (n k e row j : Nat) (lo hi : Int) (has open' : Bool) (g : Nat → Value) (Q : Exit → List Value → AHeap → Prop) : execC Tryz.prog (exec Tryz.prog orcVb 10) (syOf [(21, 1), (22, 2), (23, 46), (31, 1), (37, 1)]) askVb (noLoops _) 40 (loopOf Tryz.prog 31 0) (stOf 50 [(2, ptN 1), (6, ptN 2), (7, .bool has), (8, .bool open'), (18, liP n k), (19, goN n), (20, goN j)] g) (pkH c e row z [gi lo, gi hi]) (told 50 [2, 6, 7, 8, 18, 19, 20] Q) = (((Nat.blt j n = true → (Nat.blt j n = true ∧ c[(0 + (j * 4))]? = Option.some (gi (intAt c (0 + (j * 4)))) ∧ c[((0 + (j * 4)) + 1)]? = Option.some (gi (intAt c ((0 + (j * 4)) + 1))) ∧ c[(((0 + (j * 4)) + 1) + 1)]? = Option.some (Value.bool (boolAt c (((0 + (j * 4)) + 1) + 1))) ∧ c[((((0 + (j * 4)) + 1) + 1) + 1)]? = Option.some (Value.bool (boolAt c ((((0 + (j * 4)) + 1) + 1) + 1))) ∧ (open' = true → (((!(boolAt c (((0 + (j * 4)) + 1) + 1))) = true → Q .normal [ptN 1, ptN 2, Value.bool true, Value.bool true, liP n k, goN n, gi (fwrap IntKind.i64 (Int.ofNat (j + 1)))] (((((pkH c e row z [gi lo, gi hi]).push (.cells [gi 0, gi 0, Value.bool false, Value.bool false] 110 0 false)).set (nG1 + 3) (.cells ([] ++ ([gi (intAt c (0 + (j * 4))), gi (intAt c ((0 + (j * 4)) + 1)), Value.bool (boolAt c (((0 + (j * 4)) + 1) + 1)), Value.bool (boolAt c ((((0 + (j * 4)) + 1) + 1) + 1))] ++ [])) 110 0 false)).set (nG1 + 2) (.cells ([gi lo] ++ ([gi (if (intAt c ((0 + (j * 4)) + 1) : Int) > hi then intAt c ((0 + (j * 4)) + 1) else hi)] ++ [])) 57 0 false)).set (nG1 + 2) (.cells (splice ([gi lo] ++ ([gi (if (intAt c ((0 + (j * 4)) + 1) : Int) > hi then intAt c ((0 + (j * 4)) + 1) else hi)] ++ [])) 0 [gi (if (intAt c (0 + (j * 4)) : Int) > lo then intAt c (0 + (j * 4)) else lo)]) 57 0 false))) ∧ ((!(boolAt c (((0 + (j * 4)) + 1) + 1))) = false → Q .normal [ptN 1, ptN 2, Value.bool has, Value.bool true, liP n k, goN n, gi (fwrap IntKind.i64 (Int.ofNat (j + 1)))] ((((pkH c e row z [gi lo, gi hi]).push (.cells [gi 0, gi 0, Value.bool false, Value.bool false] 110 0 false)).set (nG1 + 3) (.cells ([] ++ ([gi (intAt c (0 + (j * 4))), gi (intAt c ((0 + (j * 4)) + 1)), Value.bool (boolAt c (((0 + (j * 4)) + 1) + 1)), Value.bool (boolAt c ((((0 + (j * 4)) + 1) + 1) + 1))] ++ [])) 110 0 false)).set (nG1 + 2) (.cells ([gi lo] ++ ([gi (if (intAt c ((0 + (j * 4)) + 1) : Int) > hi then intAt c ((0 + (j * 4)) + 1) else hi)] ++ [])) 57 0 false))))) ∧ (open' = false → (((!(boolAt c (((0 + (j * 4)) + 1) + 1))) = true → Q .normal [ptN 1, ptN 2, Value.bool true, Value.bool (boolAt c ((((0 + (j * 4)) + 1) + 1) + 1)), liP n k, goN n, gi (fwrap IntKind.i64 (Int.ofNat (j + 1)))] (((((pkH c e row z [gi lo, gi hi]).push (.cells [gi 0, gi 0, Value.bool false, Value.bool false] 110 0 false)).set (nG1 + 3) (.cells ([] ++ ([gi (intAt c (0 + (j * 4))), gi (intAt c ((0 + (j * 4)) + 1)), Value.bool (boolAt c (((0 + (j * 4)) + 1) + 1)), Value.bool (boolAt c ((((0 + (j * 4)) + 1) + 1) + 1))] ++ [])) 110 0 false)).set (nG1 + 2) (.cells ([gi lo] ++ ([gi (if (intAt c ((0 + (j * 4)) + 1) : Int) > hi then intAt c ((0 + (j * 4)) + 1) else hi)] ++ [])) 57 0 false)).set (nG1 + 2) (.cells (splice ([gi lo] ++ ([gi (if (intAt c ((0 + (j * 4)) + 1) : Int) > hi then intAt c ((0 + (j * 4)) + 1) else hi)] ++ [])) 0 [gi (if (intAt c (0 + (j * 4)) : Int) > lo then intAt c (0 + (j * 4)) else lo)]) 57 0 false))) ∧ ((!(boolAt c (((0 + (j * 4)) + 1) + 1))) = false → Q .normal [ptN 1, ptN 2, Value.bool has, Value.bool (boolAt c ((((0 + (j * 4)) + 1) + 1) + 1)), liP n k, goN n, gi (fwrap IntKind.i64 (Int.ofNat (j + 1)))] ((((pkH c e row z [gi lo, gi hi]).push (.cells [gi 0, gi 0, Value.bool false, Value.bool false] 110 0 false)).set (nG1 + 3) (.cells ([] ++ ([gi (intAt c (0 + (j * 4))), gi (intAt c ((0 + (j * 4)) + 1)), Value.bool (boolAt c (((0 + (j * 4)) + 1) + 1)), Value.bool (boolAt c ((((0 + (j * 4)) + 1) + 1) + 1))] ++ [])) 110 0 false)).set (nG1 + 2) (.cells ([gi lo] ++ ([gi (if (intAt c ((0 + (j * 4)) + 1) : Int) > hi then intAt c ((0 + (j * 4)) + 1) else hi)] ++ [])) 57 0 false))))))) ∧ (Nat.blt j n = false → Q (.exit 0) [ptN 1, ptN 2, Value.bool has, Value.bool open', liP n k, goN n, goN j] (pkH c e row z [gi lo, gi hi])))) := by kernel_rfl
theorem Pk_body (c z : List Value) (n k e row j : Nat) (lo hi : Int) (has open' : Bool) (g : Nat → Value) (Q : Exit → List Value → AHeap → Prop) : execC Tryz.prog (exec Tryz.prog orcVb 10) (syOf [(13, 1), (18, 2), (20, 3), (21, 1), (26, 2), (28, 3), (35, 2), (37, 3), (41, 1), (44, 2), (46, 3)]) askVb (noLoops _) 40 (loopOf Tryz.prog 35 0) (stOf 53 [(0, liP n k), (2, ptN 1), (5, ptN 2), (6, .bool has), (7, .bool open'), (8, goN j)] g) (pkH c e row z [gi lo, gi hi]) (told 53 [0, 2, 5, 6, 7, 8] Q) = (((Nat.blt j n = true → (Nat.blt j n = true ∧ c[((0 + (j * 4)) + 2)]? = Option.some (Value.bool (boolAt c ((0 + (j * 4)) + 2))) ∧ ((!(boolAt c ((0 + (j * 4)) + 2))) = true → (Nat.blt j n = true ∧ c[((0 + (j * 4)) + 0)]? = Option.some (gi (intAt c ((0 + (j * 4)) + 0))) ∧ Nat.blt j n = true ∧ c[((0 + (j * 4)) + 1)]? = Option.some (gi (intAt c ((0 + (j * 4)) + 1))) ∧ (open' = true → Q .normal [liP n k, ptN 1, ptN 2, Value.bool true, Value.bool true, gi (fwrap IntKind.i64 (Int.ofNat (j + 1)))] (((pkH c e row z [gi lo, gi hi]).set (nG1 + 2) (.cells ([] ++ ([gi (if (intAt c ((0 + (j * 4)) + 0) : Int) > lo then intAt c ((0 + (j * 4)) + 0) else lo)] ++ [gi hi])) 57 0 false)).set (nG1 + 2) (.cells (splice ([] ++ ([gi (if (intAt c ((0 + (j * 4)) + 0) : Int) > lo then intAt c ((0 + (j * 4)) + 0) else lo)] ++ [gi hi])) 1 [gi (if (intAt c ((0 + (j * 4)) + 1) : Int) > hi then intAt c ((0 + (j * 4)) + 1) else hi)]) 57 0 false))) ∧ (open' = false → (Nat.blt j n = true ∧ c[((0 + (j * 4)) + 3)]? = Option.some (Value.bool (boolAt c ((0 + (j * 4)) + 3))) ∧ Q .normal [liP n k, ptN 1, ptN 2, Value.bool true, Value.bool (boolAt c ((0 + (j * 4)) + 3)), gi (fwrap IntKind.i64 (Int.ofNat (j + 1)))] (((pkH c e row z [gi lo, gi hi]).set (nG1 + 2) (.cells ([] ++ ([gi (if (intAt c ((0 + (j * 4)) + 0) : Int) > lo then intAt c ((0 + (j * 4)) + 0) else lo)] ++ [gi hi])) 57 0 false)).set (nG1 + 2) (.cells (splice ([] ++ ([gi (if (intAt c ((0 + (j * 4)) + 0) : Int) > lo then intAt c ((0 + (j * 4)) + 0) else lo)] ++ [gi hi])) 1 [gi (if (intAt c ((0 + (j * 4)) + 1) : Int) > hi then intAt c ((0 + (j * 4)) + 1) else hi)]) 57 0 false)))))) ∧ ((!(boolAt c ((0 + (j * 4)) + 2))) = false → (Nat.blt j n = true ∧ c[((0 + (j * 4)) + 1)]? = Option.some (gi (intAt c ((0 + (j * 4)) + 1))) ∧ (open' = true → Q .normal [liP n k, ptN 1, ptN 2, Value.bool has, Value.bool true, gi (fwrap IntKind.i64 (Int.ofNat (j + 1)))] ((pkH c e row z [gi lo, gi hi]).set (nG1 + 2) (.cells ([gi lo] ++ ([gi (if (intAt c ((0 + (j * 4)) + 1) : Int) > hi then intAt c ((0 + (j * 4)) + 1) else hi)] ++ [])) 57 0 false))) ∧ (open' = false → (Nat.blt j n = true ∧ c[((0 + (j * 4)) + 3)]? = Option.some (Value.bool (boolAt c ((0 + (j * 4)) + 3))) ∧ Q .normal [liP n k, ptN 1, ptN 2, Value.bool has, Value.bool (boolAt c ((0 + (j * 4)) + 3)), gi (fwrap IntKind.i64 (Int.ofNat (j + 1)))] ((pkH c e row z [gi lo, gi hi]).set (nG1 + 2) (.cells ([gi lo] ++ ([gi (if (intAt c ((0 + (j * 4)) + 1) : Int) > hi then intAt c ((0 + (j * 4)) + 1) else hi)] ++ [])) 57 0 false)))))))) ∧ (Nat.blt j n = false → Q (.exit 0) [liP n k, ptN 1, ptN 2, Value.bool has, Value.bool open', goN j] (pkH c e row z [gi lo, gi hi])))) := by kernel_rfl
end Go.Proofs.YtcifkiinilaglaaGreatDoor
/-! (OWN WORK. Values: the loops of checks, copies and peaks, for all lists.) -/
namespace Go.Proofs.YtcifkiinilaglaaGreatDoor
open Go Go.Am

noncomputable def firstE {α : Type} (f : α → Int) : List α → Int
  | [] => 0
  | x :: l => bif ieq (f x) 0 then firstE f l else f x
theorem firstE_drop {α : Type} {f : α → Int} {l : List α} {j : Nat} (hj : j < l.length) : firstE f (l.drop j) = bif ieq (f l[j]) 0 then firstE f (l.drop (j + 1)) else f l[j] := by
  rw [List.drop_eq_getElem_cons hj]; rfl
theorem firstE_end {α : Type} {f : α → Int} {l : List α} {j : Nat} (hj : l.length ≤ j) : firstE f (l.drop j) = 0 := by
  rw [List.drop_eq_nil_of_le hj]; rfl
theorem firstE_map {α β : Type} (f : β → Int) (g : α → β) : ∀ l : List α, firstE f (l.map g) = firstE (fun x => f (g x)) l
  | [] => rfl
  | x :: l => by
    show (bif ieq (f (g x)) 0 then firstE f (l.map g) else f (g x)) = _
    rw [firstE_map f g l]; rfl
/-! pairs -/
abbrev P2 := Int × Int
noncomputable def cellsP : List P2 → List Value
  | [] => []
  | q :: l => [gi q.1, gi q.2] ++ cellsP l
noncomputable def decP : List Value → Option (List P2)
  | [] => some []
  | .int .i64 a :: .int .i64 b :: r => (decP r).map ((a, b) :: ·)
  | _ => none
theorem decP_cells : ∀ l : List P2, decP (cellsP l) = some l
  | [] => rfl
  | q :: l => by
    show (decP (cellsP l)).map ((q.1, q.2) :: ·) = _
    rw [decP_cells l]; rfl
theorem decP_some {c : List Value} {l : List P2} (h : decP c = some l) : c = cellsP l := by
  induction c using decP.induct generalizing l with
  | case1 => cases h; rfl
  | case2 a b r ih =>
    unfold decP at h
    obtain ⟨l', hl, rfl⟩ := Option.map_eq_some_iff.1 h
    rw [ih hl]; rfl
  | case3 c h1 h2 =>
    unfold decP at h
    split at h
    · exact absurd rfl h1
    · exact absurd rfl (h2 _ _ _)
    · cases h
theorem cellsP_len : ∀ l : List P2, (cellsP l).length = l.length * 2
  | [] => rfl
  | q :: l => by
    show (gi q.1 :: gi q.2 :: cellsP l).length = (q :: l).length * 2
    rw [List.length_cons, List.length_cons, List.length_cons, cellsP_len l]
    omega
theorem cellsP_app : ∀ l m : List P2, cellsP (l ++ m) = cellsP l ++ cellsP m
  | [], m => rfl
  | q :: l, m => by
    show [gi q.1, gi q.2] ++ cellsP (l ++ m) = ([gi q.1, gi q.2] ++ cellsP l) ++ _
    rw [cellsP_app l m, List.append_assoc]
theorem cellsP_flat : ∀ l : List P2, (cellsP l).all (flat 3) = true
  | [] => rfl
  | q :: l => by
    show ([gi q.1, gi q.2] ++ cellsP l).all (flat 3) = true
    rw [List.all_append, cellsP_flat l]
    rfl
theorem cellsP_get {l : List P2} {j i : Nat} (hj : j < l.length) (hi : i < 2) : (cellsP l)[j * 2 + i]? = [gi l[j].1, gi l[j].2][i]? := by
  have h1 : cellsP l = cellsP (l.take j) ++ ([gi l[j].1, gi l[j].2] ++ cellsP (l.drop (j + 1))) := by
    rw [show [gi l[j].1, gi l[j].2] ++ cellsP (l.drop (j + 1)) = cellsP (l.drop j) by rw [List.drop_eq_getElem_cons hj]; rfl, ← cellsP_app, List.take_append_drop]
  have h2 : (cellsP (l.take j)).length = j * 2 := by rw [cellsP_len, List.length_take, Nat.min_eq_left (by omega)]
  rw [h1, List.getElem?_append_right (by omega), h2, Nat.add_sub_cancel_left, List.getElem?_append_left (by show i < 2; exact hi)]
theorem cellsP_at {l : List P2} {j : Nat} (hj : j < l.length) : ((cellsP l)[0 + j * 2]? = some (gi (intAt (cellsP l) (0 + j * 2))) ∧ (cellsP l)[0 + j * 2 + 1]? = some (gi (intAt (cellsP l) (0 + j * 2 + 1)))) ∧ intAt (cellsP l) (0 + j * 2) = l[j].1 ∧ intAt (cellsP l) (0 + j * 2 + 1) = l[j].2 := by
  have e0 : (cellsP l)[0 + j * 2]? = some (gi l[j].1) := by rw [Nat.zero_add]; exact cellsP_get (i := 0) hj (by omega)
  have e1 : (cellsP l)[0 + j * 2 + 1]? = some (gi l[j].2) := by rw [Nat.zero_add]; exact cellsP_get (i := 1) hj (by omega)
  have i0 : intAt (cellsP l) (0 + j * 2) = l[j].1 := by unfold intAt; rw [e0]
  have i1 : intAt (cellsP l) (0 + j * 2 + 1) = l[j].2 := by unfold intAt; rw [e1]
  rw [i0, i1]
  exact ⟨⟨e0, e1⟩, rfl, rfl⟩
theorem cellsP_take {l : List P2} {j : Nat} (hj : j < l.length) : cellsP (l.take (j + 1)) = cellsP (l.take j) ++ [gi l[j].1, gi l[j].2] := by
  rw [List.take_add_one, List.getElem?_eq_getElem hj, cellsP_app]
  show _ ++ ([gi l[j].1, gi l[j].2] ++ []) = _
  rw [List.append_nil]
noncomputable def tP : Tell P2 := ⟨cellsP, decP, decP_cells, decP_some, cellsP_flat⟩
noncomputable def tQ : Tell Q4 := ⟨cellsQ, decQ, decQ_cells, decQ_some, cellsQ_flat⟩
theorem cellsQ_at' {l : List Q4} {j : Nat} (hj : j < l.length) : ((cellsQ l)[0 + j * 4 + 0]? = some (gi (intAt (cellsQ l) (0 + j * 4 + 0))) ∧ (cellsQ l)[0 + j * 4 + 1]? = some (gi (intAt (cellsQ l) (0 + j * 4 + 1))) ∧ (cellsQ l)[0 + j * 4 + 2]? = some (.bool (boolAt (cellsQ l) (0 + j * 4 + 2))) ∧ (cellsQ l)[0 + j * 4 + 3]? = some (.bool (boolAt (cellsQ l) (0 + j * 4 + 3)))) ∧
    intAt (cellsQ l) (0 + j * 4 + 0) = l[j].1 ∧ intAt (cellsQ l) (0 + j * 4 + 1) = l[j].2.1 ∧ boolAt (cellsQ l) (0 + j * 4 + 2) = l[j].2.2.1 ∧ boolAt (cellsQ l) (0 + j * 4 + 3) = l[j].2.2.2 := cellsQ_at hj
noncomputable def qE (q : Q4) : Int := itvE q.1 q.2.1 (-200000) 200000
noncomputable def pE (q : P2) : Int := itvE q.1 q.2 (-200000) 200000
theorem not_ieqF {x : Int} (h : (!ieq x 0) = false) : ieq x 0 = true := by simpa using h
theorem not_ieqT {x : Int} (h : (!ieq x 0) = true) : ieq x 0 = false := by simpa using h
/-! Each -/
set_option maxRecDepth 100000 in
theorem ea_loop (l : List Q4) (n e row k : Nat) (hn : l.length = n) (hle : n ≤ 65536) : ∀ (a : AAct) (h : AHeap), Laid [(cellsQ l, e, row, true)] (Tryz.prog.globals.size + ·) h → a.n = 21 → a.marks = [] → [1, 4, 8, 9, 10].map a.tmp = [vF, gi 0, liP n k, goN n, goN 0] →
    J Tryz.prog (.loop (loopOf Tryz.prog 134 0)) a h (told 21 [1, 4, 8, 9, 10] fun ex vs _ => (ex = .exit 0 ∧ firstE qE l = 0) ∨ (ex = .ret ∧ ∃ r, vs = vF :: gi (firstE qE l) :: r)) := by
  refine fold_rule (L := 1) (C := fun _ => [(cellsQ l, e, row, true)]) globs_pos (by decide) (by decide) (fun _ => rfl) (fun _ b hb => by
      simp only [List.mem_cons, List.not_mem_nil, or_false] at hb
      subst hb; exact cellsQ_flat l) (V := fun at_ j => [vF, gi 0, .slice (some ⟨at_ 0, 0, none⟩) n k, goN n, goN j]) (I := fun j => firstE qE l = firstE qE (l.drop j)) (m := n) rfl _ _ (by simp) (fun q _ => Nat.le_add_right _ _) (fun j => by kernel_rfl) (fun j => by kernel_rfl)
    (fun at_ j q hq => by match q, hq with | 0, _ => exact ⟨(8, .slice (some ⟨at_ 0, 0, none⟩) n k), by simp, by simp [named]⟩) ?_ ?_
  · intro j hj hI g
    have hjl : j < l.length := by omega
    obtain ⟨⟨f0, f1, f2, f3⟩, i0, i1, i2, i3⟩ := cellsQ_at hjl
    refine execC_ok mixed orcVb_ok askVb_ok (noLoops _) (Eq.mpr (ea_body (cellsQ l) n k e row j g _) ⟨fun hlt => ?_, fun hge => ?_⟩)
    · refine ⟨hlt, f0, f1, f2, f3, fun hx => ?_, fun hx => ?_⟩
      · rw [i0, i1] at hx ⊢
        refine .inr ⟨rfl, [liP n k, goN n, goN j], ?_⟩
        rw [hI, firstE_drop hjl, show ieq (qE l[j]) 0 = false from not_ieqT hx]; rfl
      · rw [i0, i1] at hx
        refine ⟨?_, by rw [fwrap_nat (by omega)]; rfl, .one ?_⟩
        · rw [hI, firstE_drop hjl, show ieq (qE l[j]) 0 = true from not_ieqF hx]; rfl
        · rw [AHeap.get_set_neB (by kernel_rfl), AHeap.get_push_ne (by kernel_rfl)]; exact gC_get (q := 0) rfl
    · have := blt_false hge; omega
  · intro hI g
    refine execC_ok mixed orcVb_ok askVb_ok (noLoops _) (Eq.mpr (ea_body (cellsQ l) n k e row n g _) ⟨fun hlt => ?_, fun _ => ?_⟩)
    · have := blt_true hlt; omega
    · exact .inl ⟨rfl, by rw [hI, firstE_end (by omega)]⟩
noncomputable def eaL (l : List Q4) (n e row k : Nat) : Loops Tryz.prog where
  body := fun _ => loopOf Tryz.prog 134 0
  spec := fun _ a h c => entry a 21 [(1, vF), (4, gi 0), (8, liP n k), (9, goN n), (10, goN 0)] (h.get Tryz.prog.globals.size = some (.cells (cellsQ l) e row true) ∧ (l.length = n ∧ n ≤ 65536) ∧
    (firstE qE l = 0 → ∀ g h', c (.exit 0) (stOf 21 [] g) h') ∧ ∀ g h', c .ret (stOf 21 [(4, gi (firstE qE l))] g) h')
  ok := fun i a h c q => by
    obtain ⟨h1, h2, h3, g0, ⟨hs1, hs2⟩, h4, h5⟩ := entry_facts q
    refine J.of_told (ea_loop l n e row k hs1 hs2 a h (.one g0) h1 h2 ?_) ?_
    · simp only [List.map_cons, List.map_nil]
      rw [h3 (1, vF) (by simp), h3 (4, gi 0) (by simp), h3 (8, liP n k) (by simp), h3 (9, goN n) (by simp), h3 (10, goN 0) (by simp)]
    · rintro ex vs h' g (⟨rfl, hz⟩ | ⟨rfl, r, rfl⟩)
      · exact h4 hz (ov ([1, 4, 8, 9, 10].zip vs) g) h'
      · exact h5 (ov ((1, vF) :: [8, 9, 10].zip r) g) h'
theorem ea_run (l : List Q4) (n e row k : Nat) (K : Value → Prop) : callC Tryz.prog (exec Tryz.prog orcVb 10) (syOf []) askVb (eaL l n e row k) 20 134 #[liP n k, vF] (canon Tryz.prog [(cellsQ l, e, row)]) (fun v _ => K v) = ((loopOf Tryz.prog 134 0 = loopOf Tryz.prog 134 0 ∧ vF = vF ∧ gi 0 = gi 0 ∧ liP n k = liP n k ∧ goN n = goN n ∧ gi 0 = goN 0 ∧ (canon Tryz.prog [Prod.mk (cellsQ l) (Prod.mk e row)]).get (nG1) = Option.some (.cells (cellsQ l) e row true) ∧ (List.length l = n ∧ (n : Nat) ≤ 65536) ∧ (firstE qE l = 0 → (∀ _ : Nat → Value, (∀ _ : AHeap, K (gi 0)))) ∧ (∀ _ : Nat → Value, (∀ _ : AHeap, K (gi (firstE qE l)))))) := by kernel_rfl
theorem ea_nil : (call Tryz.prog orcVb 40 134 #[nilS, vF] (emp Tryz.prog)).map (·.1) = some (gi 0) := by kernel_rfl
theorem ea_emp (k : Nat) : (call Tryz.prog orcVb 40 134 #[.slice (some ⟨0, 0, none⟩) 0 k, vF] (emp Tryz.prog)).map (·.1) = some (gi 0) := by kernel_rfl
end Go.Proofs.YtcifkiinilaglaaGreatDoor
/-! (OWN WORK. Values: checks and copies as known calls; loops of peaks.) -/
namespace Go.Proofs.YtcifkiinilaglaaGreatDoor
open Go Go.Am

noncomputable abbrev eaC : List Q4 → List Value → Prop := fun _ r => r = [vF]
noncomputable abbrev eaO : List Q4 → List Value → Out := fun l _ => .plain (gi (firstE qE l))
noncomputable def orcVc : Orc := orElse 134 (lstI Tryz.prog.globals.size tQ eaC eaO) orcVb
set_option maxRecDepth 100000 in
theorem orcVc_ok : OrcOk Tryz.prog orcVc := by
  refine lstI_ok globs_pos orcVb_ok (fun _ _ _ => rfl) ?_ ?_ ?_
  · rintro r rfl; exact CallJ.of_call mixed orcVb_ok ea_nil fun _ => rfl
  · rintro r k rfl; exact CallJ.of_call mixed orcVb_ok (ea_emp k) fun _ => rfl
  · rintro l r m e row k rfl hm h1
    exact callC_ok mixed orcVb_ok askVb_ok (Eq.mpr (ea_run l _ e row k _) ⟨rfl, rfl, rfl, rfl, rfl, rfl, by rw [canon_get, if_pos (Nat.le_refl _), Nat.sub_self]; rfl, ⟨hm, h1⟩, fun h _ _ => (show gi 0 = gi (firstE qE l) by rw [h]), fun _ _ => rfl⟩)
noncomputable def askVc : Asks := asksI' Tryz.prog.globals.size 134 tQ eaC eaO askVb
theorem askVc_ok : AsksOk orcVc askVc := asksI'_ok askVb_ok
theorem cs_runQ (l : List Q4) (m e row k : Nat) (K : Value → Prop) : callC Tryz.prog (exec Tryz.prog orcVc 10) (syOf [(15, 7)]) askVc (noLoops _) 20 90 #[liP (m + 1) k, vF] (canon Tryz.prog [(cellsQ l, e, row)]) (fun v _ => K v) = (((List.all (cellsQ l) (flat 3) = true ∧ True) ∧ (true && List.all [vF] (fun v => match v with | Value.func (Fn.func f) a b => a.isEmpty && b.isEmpty | v => flat 3 v)) = true ∧ (∃ x1 : List Q4, (cellsQ l = cellsQ x1 ∧ ((0 : Nat) < (m + 1) ∧ List.length x1 = (m + 1) ∧ ((m + 1) : Nat) ≤ 65536) ∧ eaC x1 [vF] ∧ K (gi (firstS [whenS (ieq (Int.ofNat (m + 1)) 0) 12, whenS (ilt 4096 (Int.ofNat (m + 1))) 5, firstE qE x1])))))) := by kernel_rfl
theorem cs_nilQ (K : Value → Prop) : callC Tryz.prog (exec Tryz.prog orcVc 10) (syOf [(15, 7)]) askVc (noLoops _) 20 90 #[nilS, vF] (emp Tryz.prog) (fun v _ => K v) = ((True ∧ eaC [] [vF] ∧ K (gi 12))) := by kernel_rfl
theorem cs_empQ (k : Nat) (K : Value → Prop) : callC Tryz.prog (exec Tryz.prog orcVc 10) (syOf [(15, 7)]) askVc (noLoops _) 20 90 #[.slice (some ⟨0, 0, none⟩) 0 k, vF] (emp Tryz.prog) (fun v _ => K v) = ((True ∧ eaC [] [vF] ∧ K (gi 12))) := by kernel_rfl
end Go.Proofs.YtcifkiinilaglaaGreatDoor
/-! (OWN WORK. Values: checks of sizes as known calls; loops of copies and of peaks, for all lists.) -/
namespace Go.Proofs.YtcifkiinilaglaaGreatDoor
open Go Go.Am

noncomputable def valE (l : List Q4) : Int := firstS [whenS (ieq (Int.ofNat l.length) 0) 12, whenS (ilt 4096 (Int.ofNat l.length)) 5, firstE qE l]
noncomputable abbrev szO : List Q4 → List Value → Out := fun l _ => .plain (gi (valE l))
noncomputable def orcVd : Orc := orElse 90 (lstI Tryz.prog.globals.size tQ eaC szO) orcVc
theorem cellsQ_inj {l m : List Q4} (h : cellsQ l = cellsQ m) : l = m := by
  have := congrArg decQ h
  rw [decQ_cells, decQ_cells] at this
  exact Option.some.inj this
theorem cellsP_inj {l m : List P2} (h : cellsP l = cellsP m) : l = m := by
  have := congrArg decP h
  rw [decP_cells, decP_cells] at this
  exact Option.some.inj this
set_option maxRecDepth 100000 in
theorem orcVd_ok : OrcOk Tryz.prog orcVd := by
  refine lstI_ok globs_pos orcVc_ok (fun _ _ _ => rfl) ?_ ?_ ?_
  · rintro r rfl; exact callC_ok mixed orcVc_ok askVc_ok (Eq.mpr (cs_nilQ _) ⟨trivial, rfl, rfl⟩)
  · rintro r k rfl; exact callC_ok mixed orcVc_ok askVc_ok (Eq.mpr (cs_empQ k _) ⟨trivial, rfl, rfl⟩)
  · rintro l r m e row k rfl hm h1
    exact callC_ok mixed orcVc_ok askVc_ok (Eq.mpr (cs_runQ l m e row k _) ⟨⟨cellsQ_flat l, trivial⟩, rfl, l, rfl, ⟨Nat.succ_pos _, hm, h1⟩, rfl, (show gi _ = gi (valE l) by unfold valE; rw [hm])⟩)
noncomputable def askVd : Asks := asksI' Tryz.prog.globals.size 90 tQ eaC szO askVc
theorem askVd_ok : AsksOk orcVd askVd := asksI'_ok askVc_ok
theorem ble_noV {a b : Nat} (h : ¬ a ≤ b) : Nat.ble a b = false := by
  cases q : Nat.ble a b with
  | false => rfl
  | true => rw [Nat.ble_eq] at q; exact absurd q h
/-! CheckIntervals -/
set_option maxRecDepth 100000 in
theorem ci_loop (l : List P2) (n e row k : Nat) (hn : l.length = n) (hle : n ≤ 65536) : ∀ (a : AAct) (h : AHeap), Laid [(cellsP l, e, row, true)] (Tryz.prog.globals.size + ·) h → a.n = 33 → a.marks = [] → [0, 2, 4].map a.tmp = [liP n k, gi 0, goN 0] →
    J Tryz.prog (.loop (loopOf Tryz.prog 27 0)) a h (told 33 [0, 2, 4] fun ex vs _ => (ex = .exit 0 ∧ firstE pE l = 0) ∨ (ex = .ret ∧ ∃ r, vs = liP n k :: gi (firstE pE l) :: r)) := by
  refine fold_rule (L := 1) (C := fun _ => [(cellsP l, e, row, true)]) globs_pos (by decide) (by decide) (fun _ => rfl) (fun _ b hb => by
      simp only [List.mem_cons, List.not_mem_nil, or_false] at hb
      subst hb; exact cellsP_flat l) (V := fun at_ j => [.slice (some ⟨at_ 0, 0, none⟩) n k, gi 0, goN j]) (I := fun j => firstE pE l = firstE pE (l.drop j)) (m := n) rfl _ _ (by simp) (fun q _ => Nat.le_add_right _ _) (fun j => by kernel_rfl) (fun j => by kernel_rfl)
    (fun at_ j q hq => by match q, hq with | 0, _ => exact ⟨(0, .slice (some ⟨at_ 0, 0, none⟩) n k), by simp, by simp [named]⟩) ?_ ?_
  · intro j hj hI g
    have hjl : j < l.length := by omega
    obtain ⟨⟨f0, f1⟩, i0, i1⟩ := cellsP_at hjl
    refine execC_ok mixed orcVb_ok askVb_ok (noLoops _) (Eq.mpr (ci_body (cellsP l) n k e row j g _) ⟨fun hlt => ?_, fun hge => ?_⟩)
    · refine ⟨hlt, f0, f1, fun hx => ?_, fun hx => ?_⟩
      · rw [i0, i1] at hx ⊢
        refine .inr ⟨rfl, [goN j], ?_⟩
        rw [hI, firstE_drop hjl, show ieq (pE l[j]) 0 = false from not_ieqT hx]; rfl
      · rw [i0, i1] at hx
        refine ⟨?_, by rw [fwrap_nat (by omega)]; rfl, .one (gC_get (q := 0) rfl)⟩
        rw [hI, firstE_drop hjl, show ieq (pE l[j]) 0 = true from not_ieqF hx]; rfl
    · have := blt_false hge; omega
  · intro hI g
    refine execC_ok mixed orcVb_ok askVb_ok (noLoops _) (Eq.mpr (ci_body (cellsP l) n k e row n g _) ⟨fun hlt => ?_, fun _ => ?_⟩)
    · have := blt_true hlt; omega
    · exact .inl ⟨rfl, by rw [hI, firstE_end (by omega)]⟩
noncomputable def ciL (l : List P2) (n e row k : Nat) : Loops Tryz.prog where
  body := fun _ => loopOf Tryz.prog 27 0
  spec := fun _ a h c => entry a 33 [(0, liP n k), (2, gi 0), (4, goN 0)] (h.get Tryz.prog.globals.size = some (.cells (cellsP l) e row true) ∧ (l.length = n ∧ n ≤ 65536) ∧
    (firstE pE l = 0 → ∀ g h', c (.exit 0) (stOf 33 [] g) h') ∧ ∀ g h', c .ret (stOf 33 [(2, gi (firstE pE l))] g) h')
  ok := fun i a h c q => by
    obtain ⟨h1, h2, h3, g0, ⟨hs1, hs2⟩, h4, h5⟩ := entry_facts q
    refine J.of_told (ci_loop l n e row k hs1 hs2 a h (.one g0) h1 h2 ?_) ?_
    · simp only [List.map_cons, List.map_nil]
      rw [h3 (0, liP n k) (by simp), h3 (2, gi 0) (by simp), h3 (4, goN 0) (by simp)]
    · rintro ex vs h' g (⟨rfl, hz⟩ | ⟨rfl, r, rfl⟩)
      · exact h4 hz (ov ([0, 2, 4].zip vs) g) h'
      · exact h5 (ov ((0, liP n k) :: [4].zip r) g) h'
theorem ci_run (l : List P2) (m e row k : Nat) (K : Value → Prop) : callC Tryz.prog (exec Tryz.prog orcVb 10) (syOf [(17, 1)]) askVb (ciL l (m + 1) e row k) 20 27 #[liP (m + 1) k] (canon Tryz.prog [(cellsP l, e, row)]) (fun v _ => K v) = ((((!(ieq (firstS [whenS (ieq (Int.ofNat (m + 1)) 0) 12, whenS (ilt 4096 (Int.ofNat (m + 1))) 5]) 0)) = true → K (gi (firstS [whenS (ieq (Int.ofNat (m + 1)) 0) 12, whenS (ilt 4096 (Int.ofNat (m + 1))) 5]))) ∧ ((!(ieq (firstS [whenS (ieq (Int.ofNat (m + 1)) 0) 12, whenS (ilt 4096 (Int.ofNat (m + 1))) 5]) 0)) = false → (loopOf Tryz.prog 27 0 = loopOf Tryz.prog 27 0 ∧ liP (m + 1) k = liP (m + 1) k ∧ gi 0 = gi 0 ∧ gi 0 = goN 0 ∧ ((canon Tryz.prog [Prod.mk (cellsP l) (Prod.mk e row)]).push (.cells [gi (whenS (ieq (Int.ofNat (m + 1)) 0) 12), gi (whenS (ilt 4096 (Int.ofNat (m + 1))) 5)] 3 2 false)).get (nG1) = Option.some (.cells (cellsP l) e row true) ∧ (List.length l = (m + 1) ∧ ((m + 1) : Nat) ≤ 65536) ∧ (firstE pE l = 0 → (∀ _ : Nat → Value, (∀ _ : AHeap, K (gi 0)))) ∧ (∀ _ : Nat → Value, (∀ _ : AHeap, K (gi (firstE pE l)))))))) := by kernel_rfl
theorem ci_nil : (call Tryz.prog orcVb 40 27 #[nilS] (emp Tryz.prog)).map (·.1) = some (gi 12) := by kernel_rfl
theorem ci_emp (k : Nat) : (call Tryz.prog orcVb 40 27 #[.slice (some ⟨0, 0, none⟩) 0 k] (emp Tryz.prog)).map (·.1) = some (gi 12) := by kernel_rfl
/-! given -/
noncomputable def gvV (n k : Nat) : Nat → Value → List Value := fun j w => [w, liP n k, goN n, goN j]
set_option maxRecDepth 100000 in
theorem gv_loop (l : List Q4) (n e row k : Nat) (h0 : 0 < n) (hn : l.length = n) (hle : n ≤ 65536) : ∀ (a : AAct) (h : AHeap), GrownW Tryz.prog [(cellsQ l, e, row, true)] 110 5 (gvV n k) (fun j => j) (fun j => cellsQ (l.take j)) 0 ([3, 6, 7, 8].map a.tmp) h → a.n = 18 → a.marks = [] →
    J Tryz.prog (.loop (loopOf Tryz.prog 32 0)) a h (told 18 [3, 6, 7, 8] fun ex vs h' => ex = .exit 0 ∧ vs = [slP 1 n n, liP n k, goN n, goN n] ∧ h'.get (Tryz.prog.globals.size + 1) = some (.cells (cellsQ l) 110 5 false)) := by
  intro a h hG ha hk
  refine growW_rule (C := [(cellsQ l, e, row, true)]) (el := 110) (rw := 5) globs_pos (by decide) (by decide) (fun b hb => by
      simp only [List.mem_cons, List.not_mem_nil, or_false] at hb
      subst hb
      exact cellsQ_flat l) (gvV n k) (fun j => j) (fun j => cellsQ (l.take j)) n _ (fun j => cellsQ_flat _) (fun j => by kernel_rfl) (fun j q d hd => by
      obtain rfl | rfl | rfl | rfl : d = 0 ∨ d = 1 ∨ d = 2 ∨ d = 3 := by omega
      all_goals kernel_rfl)
    (fun j v q hq => by match q, hq with | 0, _ => exact ⟨(6, liP n k), by simp [gvV], by simp [named]⟩) (fun j b q => ⟨(3, .slice (some ⟨b, 0, none⟩) q q), by simp [gvV], by simp [named]⟩) ?_ ?_ ?_ ?_ a h hG ha hk
  · intro j hj hx g
    have hjl : j < l.length := by omega
    obtain ⟨⟨f0, f1, f2, f3⟩, i0, i1, i2, i3⟩ := cellsQ_at hjl
    refine execC_ok mixed orcVb_ok askVb_ok (noLoops _) (Eq.mpr (gv_bodyA _ n k e row j g _) ⟨fun hlt => ?_, fun hge => ?_⟩)
    · refine ⟨hlt, f0, f1, f2, f3, ?_⟩
      rw [i0, i1, i2, i3]
      have j0 := cellsQ_nil (by omega) hx
      refine ⟨fun p b hb => ?_, .inr ⟨nG1 + 3, 2, rfl, by omega, ?_, ?_, ?_⟩⟩
      · match p, hb with
        | 0, hb => cases hb; rw [AHeap.get_push_ne (by kernel_rfl), AHeap.get_push_ne (by kernel_rfl), AHeap.get_set_neB (by kernel_rfl), AHeap.get_push_ne (by kernel_rfl)]; exact gC_get (q := 0) rfl
      · intro hh
        have := cellsQ_nil (by omega) hh
        omega
      · rw [fwrap_nat (by omega), j0]; rfl
      · rw [AHeap.get_push_eq (by kernel_rfl)]
        show _ = some (AObj.cells (cellsQ (l.take (j + 1))) _ _ _)
        rw [cellsQ_take hjl]
        have hx : cellsQ (l.take j) = [] := hx
        rw [hx]; rfl
    · have := blt_false hge; omega
  · intro j hj hx g
    have hjl : j < l.length := by omega
    obtain ⟨⟨f0, f1, f2, f3⟩, i0, i1, i2, i3⟩ := cellsQ_at hjl
    refine execC_ok mixed orcVb_ok askVb_ok (noLoops _) (Eq.mpr (gv_bodyD _ (cellsQ (l.take j)) n k e row j j g _) ⟨fun hlt => ?_, fun hge => ?_⟩)
    · refine ⟨hlt, f0, f1, f2, f3, ble_noV (by omega), by rw [Nat.ble_eq]; omega, by rw [cellsQ_len, List.length_take, Nat.min_eq_left (by omega)], ?_⟩
      rw [i0, i1, i2, i3]
      refine ⟨fun p b hb => ?_, .inr ⟨nG1 + 4, 3, rfl, by omega, ?_, ?_, ?_⟩⟩
      · match p, hb with
        | 0, hb => cases hb; rw [AHeap.get_push_ne (by kernel_rfl), AHeap.get_set_neB (by kernel_rfl), AHeap.get_push_ne (by kernel_rfl), AHeap.get_set_neB (by kernel_rfl), AHeap.get_push_ne (by kernel_rfl)]; exact gW_get (C := [(cellsQ l, e, row, true)]) (q := 0) rfl
      · intro hh
        have := cellsQ_nil (by omega) hh
        omega
      · rw [fwrap_nat (by omega)]; rfl
      · rw [AHeap.get_push_eq (by kernel_rfl)]
        show _ = some (AObj.cells (cellsQ (l.take (j + 1))) _ _ _)
        rw [cellsQ_take hjl]
        rfl
    · have := blt_false hge; omega
  · intro hx g
    have := cellsQ_nil (by omega) hx
    omega
  · intro hx g
    refine execC_ok mixed orcVb_ok askVb_ok (noLoops _) (Eq.mpr (gv_bodyD _ (cellsQ (l.take n)) n k e row n n g _) ⟨fun hlt => ?_, fun _ => ⟨rfl, rfl, ?_⟩⟩)
    · have := blt_true hlt
      omega
    · rw [show cellsQ l = cellsQ (l.take n) by rw [List.take_of_length_le (by omega)]]
      exact gW_dst (C := [(cellsQ (l.take n), e, row, true)])
noncomputable def gvL (l : List Q4) (n e row k : Nat) : Loops Tryz.prog where
  body := fun _ => loopOf Tryz.prog 32 0
  spec := fun _ a h c => entry a 18 [(3, .slice none 0 0), (6, liP n k), (7, goN n), (8, goN 0)] (h.get Tryz.prog.globals.size = some (.cells (cellsQ l) e row true) ∧ (0 < n ∧ l.length = n ∧ n ≤ 65536) ∧
    ∀ g h', h'.get (Tryz.prog.globals.size + 1) = some (.cells (cellsQ l) 110 5 false) → c (.exit 0) (stOf 18 [(3, slP 1 n n)] g) h')
  ok := fun i a h c q => by
    obtain ⟨h1, h2, h3, g0, ⟨hs1, hs2, hs3⟩, h4⟩ := entry_facts q
    refine J.of_told (gv_loop l n e row k hs1 hs2 hs3 a h ?_ h1 h2) ?_
    · refine ⟨fun p b hb => ?_, .inl ⟨rfl, ?_⟩⟩
      · match p, hb with
        | 0, hb => cases hb; exact g0
      · simp only [List.map_cons, List.map_nil]
        rw [h3 (3, .slice none 0 0) (by simp), h3 (6, liP n k) (by simp), h3 (7, goN n) (by simp), h3 (8, goN 0) (by simp)]
        rfl
    · rintro ex vs h' g ⟨rfl, rfl, hg⟩
      exact h4 (ov [(6, liP n k), (7, goN n), (8, goN n)] g) h' hg
theorem gv_run (l : List Q4) (m e row k : Nat) (K : Value → AHeap → Prop) : callC Tryz.prog (exec Tryz.prog orcVb 10) (syOf []) askVb (gvL l (m + 1) e row k) 20 32 #[liP (m + 1) k] (canon Tryz.prog [(cellsQ l, e, row)]) K = ((loopOf Tryz.prog 32 0 = loopOf Tryz.prog 32 0 ∧ nilS = nilS ∧ liP (m + 1) k = liP (m + 1) k ∧ goN (m + 1) = goN (m + 1) ∧ gi 0 = goN 0 ∧ (canon Tryz.prog [Prod.mk (cellsQ l) (Prod.mk e row)]).get (nG1) = Option.some (.cells (cellsQ l) e row true) ∧ ((0 : Nat) < (m + 1) ∧ List.length l = (m + 1) ∧ ((m + 1) : Nat) ≤ 65536) ∧ (∀ _ : Nat → Value, (∀ y2 : AHeap, (y2.get (nG1 + 1) = Option.some (.cells (cellsQ l) 110 5 false) → K (slP 1 (m + 1) (m + 1)) y2))))) := by kernel_rfl
theorem gv_nil : (call Tryz.prog orcVb 40 32 #[nilS] (emp Tryz.prog)).map (·.1) = some nilS := by kernel_rfl
theorem gv_emp (k : Nat) : (call Tryz.prog orcVb 40 32 #[.slice (some ⟨0, 0, none⟩) 0 k] (emp Tryz.prog)).map (·.1) = some nilS := by kernel_rfl
end Go.Proofs.YtcifkiinilaglaaGreatDoor
/-! (OWN WORK. Values: copies and checks as known calls; the loops of peaks, for all lists.) -/
namespace Go.Proofs.YtcifkiinilaglaaGreatDoor
open Go Go.Am

noncomputable def itvsE (l : List P2) : Int := firstS [whenS (ieq (Int.ofNat l.length) 0) 12, whenS (ilt 4096 (Int.ofNat l.length)) 5, firstE pE l]
abbrev noC {α : Type} : List α → List Value → Prop := fun _ r => r = []
noncomputable abbrev ciO : List P2 → List Value → Out := fun l _ => .plain (gi (itvsE l))
noncomputable abbrev gvO : List Q4 → List Value → Out := fun l _ => match l with
  | [] => .plain nilS
  | _ :: _ => .wide (slM l.length) (cellsQ l) 110 5
theorem gvO_full {l : List Q4} {m : Nat} {r : List Value} (h : l.length = m + 1) : gvO l r = .wide (slM (m + 1)) (cellsQ l) 110 5 := by
  match l, h with
  | _ :: _, h => show Out.wide (slM _) _ _ _ = _; rw [h]
noncomputable def orcVe : Orc := orElse 32 (lstI Tryz.prog.globals.size tQ noC gvO) (orElse 27 (lstI Tryz.prog.globals.size tP noC ciO) orcVd)
set_option maxRecDepth 100000 in
theorem firstS_two {a b x : Int} (h : ieq (firstS [a, b]) 0 = true) : firstS [a, b, x] = x := by
  unfold firstS at h ⊢
  cases ha : ieq a 0 <;> rw [ha] at h
  · exact absurd h (by rw [show (bif false then _ else a) = a from rfl, ha]; decide)
  · have h : ieq (firstS [b]) 0 = true := h
    show firstS [b, x] = x
    unfold firstS at h ⊢
    cases hb : ieq b 0 <;> rw [hb] at h
    · exact absurd h (by rw [show (bif false then _ else b) = b from rfl, hb]; decide)
    · show firstS [x] = x
      unfold firstS
      cases hx : ieq x 0
      · rfl
      · rw [ieq_dec] at hx
        have : x = 0 := by simpa using hx
        rw [this]; rfl
theorem firstS_bad {a b x : Int} (h : ieq (firstS [a, b]) 0 = false) : firstS [a, b, x] = firstS [a, b] := by
  unfold firstS at h ⊢
  cases ha : ieq a 0 <;> rw [ha] at h
  · rfl
  · have h : ieq (firstS [b]) 0 = false := h
    show firstS [b, x] = firstS [b]
    unfold firstS at h ⊢
    cases hb : ieq b 0 <;> rw [hb] at h
    · rfl
    · exact absurd h (by show ieq 0 0 ≠ false; decide)
set_option maxRecDepth 100000 in
theorem given_ok {orc : Orc} (ho : OrcOk Tryz.prog orc) : OrcOk Tryz.prog (orElse 32 (lstI Tryz.prog.globals.size tQ noC gvO) orc) := by
  refine lstI_ok globs_pos ho (fun l r _ => ?_) ?_ ?_ ?_
  · cases l with
    | nil => exact (rfl : flat 3 nilS = true)
    | cons x l => exact ⟨names_sl _, cellsQ_flat _⟩
  · rintro r rfl; exact CallJ.of_call mixed orcVb_ok gv_nil fun _ => rfl
  · rintro r k rfl; exact CallJ.of_call mixed orcVb_ok (gv_emp k) fun _ => rfl
  · rintro l r m e row k rfl hm h1
    rw [gvO_full hm]
    refine callC_ok mixed orcVb_ok askVb_ok (Eq.mpr (gv_run l m e row k _) ⟨rfl, rfl, rfl, rfl, rfl, ?_, ⟨Nat.succ_pos _, hm, h1⟩, fun _ h' hg => ⟨_, rfl, hg⟩⟩)
    rw [canon_get, if_pos (Nat.le_refl _), Nat.sub_self]; rfl
set_option maxRecDepth 100000 in
theorem orcVe_ok : OrcOk Tryz.prog orcVe := by
  refine given_ok (lstI_ok globs_pos orcVd_ok (fun _ _ _ => rfl) ?_ ?_ ?_)
  · rintro r rfl; exact CallJ.of_call mixed orcVb_ok ci_nil fun _ => rfl
  · rintro r k rfl; exact CallJ.of_call mixed orcVb_ok (ci_emp k) fun _ => rfl
  · rintro l r m e row k rfl hm h1
    refine callC_ok mixed orcVb_ok askVb_ok (Eq.mpr (ci_run l m e row k _) ⟨fun hx => ?_, fun hx => ⟨rfl, rfl, rfl, rfl, ?_, ⟨hm, h1⟩, fun hz _ _ => ?_, fun _ _ => ?_⟩⟩)
    · show gi _ = gi (itvsE l)
      unfold itvsE
      rw [hm, firstS_bad (not_ieqT hx)]
    · rw [AHeap.get_push_ne (by kernel_rfl), canon_get, if_pos (Nat.le_refl _), Nat.sub_self]; rfl
    · show gi _ = gi (itvsE l)
      unfold itvsE
      rw [hm, firstS_two (not_ieqF hx), hz]
    · show gi _ = gi (itvsE l)
      unfold itvsE
      rw [hm, firstS_two (not_ieqF hx)]
noncomputable def askVe : Asks := asksI' Tryz.prog.globals.size 32 tQ noC gvO (asksI' Tryz.prog.globals.size 27 tP noC ciO askVd)
theorem askVe_ok : AsksOk orcVe askVe := asksI'_ok (asksI'_ok askVd_ok)
/-! CheckValues -/
noncomputable def prQ (q : Q4) : P2 := (q.1, q.2.1)
noncomputable def cvW (n k : Nat) : Nat → Value → List Value := fun j w => [liP n k, w, goN j]
theorem cellsP_prs {l : List Q4} {j : Nat} (hj : j < l.length) : cellsP ((l.take (j + 1)).map prQ) = cellsP ((l.take j).map prQ) ++ [gi l[j].1, gi l[j].2.1] := by
  rw [List.map_take, List.map_take, cellsP_take (by rw [List.length_map]; exact hj), List.getElem_map]
  rfl
theorem cellsP_prs_nil {l : List Q4} {j : Nat} (hj : j ≤ l.length) (h : cellsP ((l.take j).map prQ) = []) : j = 0 := by
  have := congrArg List.length h
  rw [cellsP_len, List.length_map, List.length_take, Nat.min_eq_left hj] at this
  simp at this
  omega
set_option maxRecDepth 100000 in
theorem cv_loop (l : List Q4) (n e row k : Nat) (h0 : 0 < n) (hn : l.length = n) (hle : n ≤ 65536) : ∀ (a : AAct) (h : AHeap), GrownW Tryz.prog [(cellsQ l, e, row, true)] 57 3 (cvW n k) (fun j => j) (fun j => cellsP ((l.take j).map prQ)) 0 ([0, 3, 4].map a.tmp) h → a.n = 27 → a.marks = [] →
    J Tryz.prog (.loop (loopOf Tryz.prog 34 0)) a h (told 27 [0, 3, 4] fun ex vs h' => ex = .exit 0 ∧ vs = [liP n k, slP 1 n n, goN n] ∧ h'.get (Tryz.prog.globals.size + 1) = some (.cells (cellsP (l.map prQ)) 57 3 false)) := by
  intro a h hG ha hk
  refine growW_rule (C := [(cellsQ l, e, row, true)]) (el := 57) (rw := 3) globs_pos (by decide) (by decide) (fun b hb => by
      simp only [List.mem_cons, List.not_mem_nil, or_false] at hb
      subst hb
      exact cellsQ_flat l) (cvW n k) (fun j => j) (fun j => cellsP ((l.take j).map prQ)) n _ (fun j => cellsP_flat _) (fun j => by kernel_rfl) (fun j q d hd => by
      obtain rfl | rfl | rfl | rfl : d = 0 ∨ d = 1 ∨ d = 2 ∨ d = 3 := by omega
      all_goals kernel_rfl)
    (fun j v q hq => by match q, hq with | 0, _ => exact ⟨(0, liP n k), by simp [cvW], by simp [named]⟩) (fun j b q => ⟨(3, .slice (some ⟨b, 0, none⟩) q q), by simp [cvW], by simp [named]⟩) ?_ ?_ ?_ ?_ a h hG ha hk
  · intro j hj hx g
    have hjl : j < l.length := by omega
    obtain ⟨⟨f0, f1, f2, f3⟩, i0, i1, i2, i3⟩ := cellsQ_at' hjl
    refine execC_ok mixed orcVb_ok askVb_ok (noLoops _) (Eq.mpr (cv_bodyA _ n k e row j g _) ⟨fun hlt => ?_, fun hge => ?_⟩)
    · refine ⟨hlt, f0, hlt, f1, f1, f0, ?_⟩
      rw [i0, i1]
      have j0 := cellsP_prs_nil (by omega) hx
      refine ⟨fun p b hb => ?_, .inr ⟨nG1 + 2, 1, rfl, by omega, ?_, ?_, ?_⟩⟩
      · match p, hb with
        | 0, hb => cases hb; rw [AHeap.get_push_ne (by kernel_rfl), AHeap.get_push_ne (by kernel_rfl)]; exact gC_get (q := 0) rfl
      · intro hh
        have := cellsP_prs_nil (by omega) hh
        omega
      · rw [fwrap_nat (by omega), j0]; rfl
      · rw [AHeap.get_push_eq (by kernel_rfl)]
        show _ = some (AObj.cells (cellsP ((l.take (j + 1)).map prQ)) _ _ _)
        rw [cellsP_prs hjl]
        have hx : cellsP ((l.take j).map prQ) = [] := hx
        rw [hx]
    · have := blt_false hge; omega
  · intro j hj hx g
    have hjl : j < l.length := by omega
    obtain ⟨⟨f0, f1, f2, f3⟩, i0, i1, i2, i3⟩ := cellsQ_at' hjl
    refine execC_ok mixed orcVb_ok askVb_ok (noLoops _) (Eq.mpr (cv_bodyD _ (cellsP ((l.take j).map prQ)) n k e row j j g _) ⟨fun hlt => ?_, fun hge => ?_⟩)
    · refine ⟨hlt, f0, hlt, f1, f1, f0, ble_noV (by omega), by rw [Nat.ble_eq]; omega, by rw [cellsP_len, List.length_map, List.length_take, Nat.min_eq_left (by omega)], ?_⟩
      rw [i0, i1]
      refine ⟨fun p b hb => ?_, .inr ⟨nG1 + 3, 2, rfl, by omega, ?_, ?_, ?_⟩⟩
      · match p, hb with
        | 0, hb => cases hb; rw [AHeap.get_push_ne (by kernel_rfl), AHeap.get_set_neB (by kernel_rfl), AHeap.get_push_ne (by kernel_rfl)]; exact gW_get (C := [(cellsQ l, e, row, true)]) (q := 0) rfl
      · intro hh
        have := cellsP_prs_nil (by omega) hh
        omega
      · rw [fwrap_nat (by omega)]; rfl
      · rw [AHeap.get_push_eq (by kernel_rfl)]
        show _ = some (AObj.cells (cellsP ((l.take (j + 1)).map prQ)) _ _ _)
        rw [cellsP_prs hjl]
    · have := blt_false hge; omega
  · intro hx g
    have := cellsP_prs_nil (by omega) hx
    omega
  · intro hx g
    refine execC_ok mixed orcVb_ok askVb_ok (noLoops _) (Eq.mpr (cv_bodyD _ (cellsP ((l.take n).map prQ)) n k e row n n g _) ⟨fun hlt => ?_, fun _ => ⟨rfl, rfl, ?_⟩⟩)
    · have := blt_true hlt
      omega
    · rw [show l.map prQ = (l.take n).map prQ by rw [List.take_of_length_le (by omega)]]
      exact gW_dst (C := [(cellsQ l, e, row, true)])
noncomputable def cvL (l : List Q4) (n e row k : Nat) : Loops Tryz.prog where
  body := fun _ => loopOf Tryz.prog 34 0
  spec := fun _ a h c => entry a 27 [(0, liP n k), (3, .slice none 0 0), (4, goN 0)] (h.get Tryz.prog.globals.size = some (.cells (cellsQ l) e row true) ∧ (0 < n ∧ l.length = n ∧ n ≤ 65536) ∧
    ∀ g, c (.exit 0) (stOf 27 [(3, liP n n)] g) (canonT [] (fun _ => 0) Tryz.prog.globals.size [(cellsP (l.map prQ), 57, 3, false)]))
  ok := fun i a h c q => by
    obtain ⟨h1, h2, h3, g0, ⟨hs1, hs2, hs3⟩, h4⟩ := entry_facts q
    refine J.of_toldR globs_pos (cv_loop l n e row k hs1 hs2 hs3 a h ?_ h1 h2) ?_
    · refine ⟨fun p b hb => ?_, .inl ⟨rfl, ?_⟩⟩
      · match p, hb with
        | 0, hb => cases hb; exact g0
      · simp only [List.map_cons, List.map_nil]
        rw [h3 (0, liP n k) (by simp), h3 (3, .slice none 0 0) (by simp), h3 (4, goN 0) (by simp)]
        rfl
    · rintro ex vs h' ⟨rfl, rfl, hg⟩
      refine ⟨[3], [slP 1 n n], [liP n n], [(cellsP (l.map prQ), 57, 3, false)], [Tryz.prog.globals.size + 1], by simp, rfl, by simp, by simp, fun q b i hb hi => ?_, by kernel_rfl, fun i hi => ?_, h4⟩
      · match q, hb, hi with
        | 0, hb, hi => cases hb; cases hi; exact ⟨hg, cellsP_flat _⟩
      · have := List.mem_singleton.1 hi
        subst this
        exact ⟨(3, slP 1 n n), by simp, by simp [named]⟩
theorem cv_run (l : List Q4) (m e row k : Nat) (K : Value → Prop) : callC Tryz.prog (exec Tryz.prog orcVe 10) (syOf [(26, 7)]) askVe (cvL l (m + 1) e row k) 20 34 #[liP (m + 1) k] (canon Tryz.prog [(cellsQ l, e, row)]) (fun v _ => K v) = ((loopOf Tryz.prog 34 0 = loopOf Tryz.prog 34 0 ∧ liP (m + 1) k = liP (m + 1) k ∧ nilS = nilS ∧ gi 0 = goN 0 ∧ (canon Tryz.prog [Prod.mk (cellsQ l) (Prod.mk e row)]).get (nG1) = Option.some (.cells (cellsQ l) e row true) ∧ ((0 : Nat) < (m + 1) ∧ List.length l = (m + 1) ∧ ((m + 1) : Nat) ≤ 65536) ∧ (∀ _ : Nat → Value, ((List.all (cellsP (List.map prQ l)) (flat 3) = true ∧ True) ∧ true = true ∧ (∃ x2 : List P2, (cellsP (List.map prQ l) = cellsP x2 ∧ ((0 : Nat) < (m + 1) ∧ List.length x2 = (m + 1) ∧ ((m + 1) : Nat) ≤ 65536) ∧ noC x2 [] ∧ K (gi (itvsE x2)))))))) := by kernel_rfl
theorem cv_nil0 : (call Tryz.prog orcVb 40 34 #[nilS] (emp Tryz.prog)).map (·.1) = some (gi 12) := by kernel_rfl
theorem cv_emp0 (k : Nat) : (call Tryz.prog orcVb 40 34 #[.slice (some ⟨0, 0, none⟩) 0 k] (emp Tryz.prog)).map (·.1) = some (gi 12) := by kernel_rfl
end Go.Proofs.YtcifkiinilaglaaGreatDoor
/-! (OWN WORK. Values: checks as known calls; peaks, for all lists.) -/
namespace Go.Proofs.YtcifkiinilaglaaGreatDoor
open Go Go.Am

theorem itvs_val (l : List Q4) : itvsE (l.map prQ) = valE l := by
  unfold itvsE valE
  rw [List.length_map, firstE_map]
  rfl
noncomputable abbrev cvO : List Q4 → List Value → Out := fun l _ => .plain (gi (valE l))
noncomputable def orcVf : Orc := orElse 34 (lstI Tryz.prog.globals.size tQ noC cvO) orcVe
set_option maxRecDepth 100000 in
theorem orcVf_ok : OrcOk Tryz.prog orcVf := by
  refine lstI_ok globs_pos orcVe_ok (fun _ _ _ => rfl) ?_ ?_ ?_
  · rintro r rfl; exact CallJ.of_call mixed orcVb_ok cv_nil0 fun _ => rfl
  · rintro r k rfl; exact CallJ.of_call mixed orcVb_ok (cv_emp0 k) fun _ => rfl
  · rintro l r m e row k rfl hm h1
    refine callC_ok mixed orcVe_ok askVe_ok (Eq.mpr (cv_run l m e row k _) ⟨rfl, rfl, rfl, rfl, ?_, ⟨Nat.succ_pos _, hm, h1⟩, fun _ => ⟨⟨cellsP_flat _, trivial⟩, rfl, l.map prQ, rfl, ⟨Nat.succ_pos _, by rw [List.length_map]; exact hm, h1⟩, rfl, ?_⟩⟩)
    · rw [canon_get, if_pos (Nat.le_refl _), Nat.sub_self]; rfl
    · show gi _ = gi (valE l)
      rw [itvs_val]
noncomputable def askVf : Asks := asksI' Tryz.prog.globals.size 34 tQ noC cvO askVe
theorem askVf_ok : AsksOk orcVf askVf := asksI'_ok askVe_ok
/-! peaks -/
noncomputable def pkM (x y : Int) : Int := if y > x then y else x
noncomputable def pkS (s q : Q4) : Q4 := (bif q.2.2.1 then s.1 else pkM s.1 q.1, pkM s.2.1 q.2.1, !q.2.2.1 || s.2.2.1, s.2.2.2 || q.2.2.2)
noncomputable def pkF (l : List Q4) (j : Nat) : Q4 := (l.take j).foldl pkS (-200000, -200000, false, false)
theorem pkF_succ {l : List Q4} {j : Nat} (hj : j < l.length) : pkF l (j + 1) = pkS (pkF l j) l[j] := by
  unfold pkF
  rw [List.take_add_one, List.getElem?_eq_getElem hj, List.foldl_append]; rfl
noncomputable abbrev pkC (l : List Q4) (e row : Nat) (j : Nat) : List Blk := [(cellsQ l, e, row, true), ([gi 0, gi 0], 57, 0, false), ([gi (pkF l j).1, gi (pkF l j).2.1], 57, 0, false)]
theorem pkC_flat (l : List Q4) (e row j : Nat) : ∀ b ∈ pkC l e row j, b.1.all (flat 3) = true := by
  intro b hb
  simp only [List.mem_cons, List.not_mem_nil, or_false] at hb
  rcases hb with rfl | rfl | rfl
  · exact cellsQ_flat l
  · rfl
  · rfl
theorem plus_nodup (N L : Nat) : ((List.range L).map (N + ·)).Nodup := List.Pairwise.map _ (fun a b h e => h (by omega)) List.nodup_range
theorem or_t {b : Bool} (h : b = true) (c : Bool) : (b || c) = true := by rw [h]; rfl
set_option maxRecDepth 100000 in
theorem pk_loop (l : List Q4) (n e row k : Nat) (hn : l.length = n) (hle : n ≤ 65536) : ∀ (a : AAct) (h : AHeap), Laid (pkC l e row 0) (Tryz.prog.globals.size + ·) h → a.n = 50 → a.marks = [] → [2, 6, 7, 8, 18, 19, 20].map a.tmp = [ptN 1, ptN 2, .bool false, .bool false, liP n k, goN n, goN 0] →
    J Tryz.prog (.loop (loopOf Tryz.prog 31 0)) a h (told 50 [2, 6, 7, 8, 18, 19, 20] fun ex vs h' => ex = .exit 0 ∧ vs = [ptN 1, ptN 2, .bool (pkF l n).2.2.1, .bool (pkF l n).2.2.2, liP n k, goN n, goN n] ∧ h' = canonT [] (fun _ => 0) Tryz.prog.globals.size (pkC l e row n)) := by
  refine fold_rule (L := 3) (C := pkC l e row) globs_pos (by decide) (by decide) (fun _ => rfl) (pkC_flat l e row) (V := fun at_ j => [.pointer (some ⟨at_ 1, 0, none⟩), .pointer (some ⟨at_ 2, 0, none⟩), .bool (pkF l j).2.2.1, .bool (pkF l j).2.2.2, .slice (some ⟨at_ 0, 0, none⟩) n k, goN n, goN j]) (I := fun j => True) (m := n) trivial _ _ (plus_nodup _ _) (fun q _ => Nat.le_add_right _ _) (fun j => by kernel_rfl) (fun j => by kernel_rfl)
    (fun at_ j q hq => by
      match q, hq with
      | 0, _ => exact ⟨(18, .slice (some ⟨at_ 0, 0, none⟩) n k), by simp, by simp [named]⟩
      | 1, _ => exact ⟨(2, .pointer (some ⟨at_ 1, 0, none⟩)), by simp, by simp [named]⟩
      | 2, _ => exact ⟨(6, .pointer (some ⟨at_ 2, 0, none⟩)), by simp, by simp [named]⟩) ?_ ?_
  · intro j hj hI g
    have hjl : j < l.length := by omega
    obtain ⟨⟨f0, f1, f2, f3⟩, i0, i1, i2, i3⟩ := cellsQ_at hjl
    have hs := pkF_succ hjl
    refine execC_ok mixed orcVb_ok askVb_ok (noLoops _) (Eq.mpr (pk_body (cellsQ l) [gi 0, gi 0] n k e row j (pkF l j).1 (pkF l j).2.1 (pkF l j).2.2.1 (pkF l j).2.2.2 g _) ⟨fun hlt => ⟨hlt, f0, f1, f2, f3, fun ho => ⟨fun hu => ?_, fun hu => ?_⟩, fun ho => ⟨fun hu => ?_, fun hu => ?_⟩⟩, fun hge => ?_⟩)
    · rw [i2] at hu
      rw [i0, i1, fwrap_nat (by omega)]
      have hu : l[j].2.2.1 = false := by simpa using hu
      refine ⟨trivial, ?_, .three ?_ ?_ ?_⟩
      · show _ = [_, _, Value.bool (pkF l (j + 1)).2.2.1, Value.bool (pkF l (j + 1)).2.2.2, _, _, _]
        rw [hs]; unfold pkS; rw [hu, ho]; rfl
      · rw [AHeap.get_set_neB (by kernel_rfl), AHeap.get_set_neB (by kernel_rfl), AHeap.get_set_neB (by kernel_rfl), AHeap.get_push_ne (by kernel_rfl)]; exact gC_get (q := 0) rfl
      · rw [AHeap.get_set_neB (by kernel_rfl), AHeap.get_set_neB (by kernel_rfl), AHeap.get_set_neB (by kernel_rfl), AHeap.get_push_ne (by kernel_rfl)]; exact gC_get (q := 1) rfl
      · rw [AHeap.get_set_eqB (by kernel_rfl)]
        show _ = some (AObj.cells [gi (pkF l (j + 1)).1, gi (pkF l (j + 1)).2.1] _ _ _)
        rw [hs]; unfold pkS; rw [hu]; rfl
    · rw [i2] at hu
      rw [i1, fwrap_nat (by omega)]
      have hu : l[j].2.2.1 = true := by simpa using hu
      refine ⟨trivial, ?_, .three ?_ ?_ ?_⟩
      · show _ = [_, _, Value.bool (pkF l (j + 1)).2.2.1, Value.bool (pkF l (j + 1)).2.2.2, _, _, _]
        rw [hs]; unfold pkS; rw [hu, ho]; rfl
      · rw [AHeap.get_set_neB (by kernel_rfl), AHeap.get_set_neB (by kernel_rfl), AHeap.get_push_ne (by kernel_rfl)]; exact gC_get (q := 0) rfl
      · rw [AHeap.get_set_neB (by kernel_rfl), AHeap.get_set_neB (by kernel_rfl), AHeap.get_push_ne (by kernel_rfl)]; exact gC_get (q := 1) rfl
      · rw [AHeap.get_set_eqB (by kernel_rfl)]
        show _ = some (AObj.cells [gi (pkF l (j + 1)).1, gi (pkF l (j + 1)).2.1] _ _ _)
        rw [hs]; unfold pkS; rw [hu]; rfl
    · rw [i2] at hu
      rw [i0, i1, i3, fwrap_nat (by omega)]
      have hu : l[j].2.2.1 = false := by simpa using hu
      refine ⟨trivial, ?_, .three ?_ ?_ ?_⟩
      · show _ = [_, _, Value.bool (pkF l (j + 1)).2.2.1, Value.bool (pkF l (j + 1)).2.2.2, _, _, _]
        rw [hs]; unfold pkS; rw [hu, ho]; rfl
      · rw [AHeap.get_set_neB (by kernel_rfl), AHeap.get_set_neB (by kernel_rfl), AHeap.get_set_neB (by kernel_rfl), AHeap.get_push_ne (by kernel_rfl)]; exact gC_get (q := 0) rfl
      · rw [AHeap.get_set_neB (by kernel_rfl), AHeap.get_set_neB (by kernel_rfl), AHeap.get_set_neB (by kernel_rfl), AHeap.get_push_ne (by kernel_rfl)]; exact gC_get (q := 1) rfl
      · rw [AHeap.get_set_eqB (by kernel_rfl)]
        show _ = some (AObj.cells [gi (pkF l (j + 1)).1, gi (pkF l (j + 1)).2.1] _ _ _)
        rw [hs]; unfold pkS; rw [hu]; rfl
    · rw [i2] at hu
      rw [i1, i3, fwrap_nat (by omega)]
      have hu : l[j].2.2.1 = true := by simpa using hu
      refine ⟨trivial, ?_, .three ?_ ?_ ?_⟩
      · show _ = [_, _, Value.bool (pkF l (j + 1)).2.2.1, Value.bool (pkF l (j + 1)).2.2.2, _, _, _]
        rw [hs]; unfold pkS; rw [hu, ho]; rfl
      · rw [AHeap.get_set_neB (by kernel_rfl), AHeap.get_set_neB (by kernel_rfl), AHeap.get_push_ne (by kernel_rfl)]; exact gC_get (q := 0) rfl
      · rw [AHeap.get_set_neB (by kernel_rfl), AHeap.get_set_neB (by kernel_rfl), AHeap.get_push_ne (by kernel_rfl)]; exact gC_get (q := 1) rfl
      · rw [AHeap.get_set_eqB (by kernel_rfl)]
        show _ = some (AObj.cells [gi (pkF l (j + 1)).1, gi (pkF l (j + 1)).2.1] _ _ _)
        rw [hs]; unfold pkS; rw [hu]; rfl
    · have := blt_false hge; omega
  · intro hI g
    refine execC_ok mixed orcVb_ok askVb_ok (noLoops _) (Eq.mpr (pk_body (cellsQ l) [gi 0, gi 0] n k e row n (pkF l n).1 (pkF l n).2.1 (pkF l n).2.2.1 (pkF l n).2.2.2 g _) ⟨fun hlt => ?_, fun _ => ⟨rfl, rfl, rfl⟩⟩)
    have := blt_true hlt; omega
set_option maxRecDepth 100000 in
theorem Pk_loop (l : List Q4) (n e row k : Nat) (hn : l.length = n) (hle : n ≤ 65536) : ∀ (a : AAct) (h : AHeap), Laid (pkC l e row 0) (Tryz.prog.globals.size + ·) h → a.n = 53 → a.marks = [] → [0, 2, 5, 6, 7, 8].map a.tmp = [liP n k, ptN 1, ptN 2, .bool false, .bool false, goN 0] →
    J Tryz.prog (.loop (loopOf Tryz.prog 35 0)) a h (told 53 [0, 2, 5, 6, 7, 8] fun ex vs h' => ex = .exit 0 ∧ vs = [liP n k, ptN 1, ptN 2, .bool (pkF l n).2.2.1, .bool (pkF l n).2.2.2, goN n] ∧ h' = canonT [] (fun _ => 0) Tryz.prog.globals.size (pkC l e row n)) := by
  refine fold_rule (L := 3) (C := pkC l e row) globs_pos (by decide) (by decide) (fun _ => rfl) (pkC_flat l e row) (V := fun at_ j => [.slice (some ⟨at_ 0, 0, none⟩) n k, .pointer (some ⟨at_ 1, 0, none⟩), .pointer (some ⟨at_ 2, 0, none⟩), .bool (pkF l j).2.2.1, .bool (pkF l j).2.2.2, goN j]) (I := fun j => True) (m := n) trivial _ _ (plus_nodup _ _) (fun q _ => Nat.le_add_right _ _) (fun j => by kernel_rfl) (fun j => by kernel_rfl)
    (fun at_ j q hq => by
      match q, hq with
      | 0, _ => exact ⟨(0, .slice (some ⟨at_ 0, 0, none⟩) n k), by simp, by simp [named]⟩
      | 1, _ => exact ⟨(2, .pointer (some ⟨at_ 1, 0, none⟩)), by simp, by simp [named]⟩
      | 2, _ => exact ⟨(5, .pointer (some ⟨at_ 2, 0, none⟩)), by simp, by simp [named]⟩) ?_ ?_
  · intro j hj hI g
    have hjl : j < l.length := by omega
    obtain ⟨⟨f0, f1, f2, f3⟩, i0, i1, i2, i3⟩ := cellsQ_at' hjl
    have hs := pkF_succ hjl
    refine execC_ok mixed orcVb_ok askVb_ok (noLoops _) (Eq.mpr (Pk_body (cellsQ l) [gi 0, gi 0] n k e row j (pkF l j).1 (pkF l j).2.1 (pkF l j).2.2.1 (pkF l j).2.2.2 g _) ⟨fun hlt => ⟨hlt, f2, fun hu => ⟨hlt, f0, hlt, f1, fun ho => ?_, fun ho => ⟨hlt, f3, ?_⟩⟩, fun hu => ⟨hlt, f1, fun ho => ?_, fun ho => ⟨hlt, f3, ?_⟩⟩⟩, fun hge => ?_⟩)
    · rw [i2] at hu
      rw [i0, i1, fwrap_nat (by omega)]
      have hu : l[j].2.2.1 = false := by simpa using hu
      refine ⟨trivial, ?_, .three ?_ ?_ ?_⟩
      · show _ = [_, _, _, Value.bool (pkF l (j + 1)).2.2.1, Value.bool (pkF l (j + 1)).2.2.2, _]
        rw [hs]; unfold pkS; rw [hu, ho]; rfl
      · rw [AHeap.get_set_neB (by kernel_rfl), AHeap.get_set_neB (by kernel_rfl)]; exact gC_get (q := 0) rfl
      · rw [AHeap.get_set_neB (by kernel_rfl), AHeap.get_set_neB (by kernel_rfl)]; exact gC_get (q := 1) rfl
      · rw [AHeap.get_set_eqB (by kernel_rfl)]
        show _ = some (AObj.cells [gi (pkF l (j + 1)).1, gi (pkF l (j + 1)).2.1] _ _ _)
        rw [hs]; unfold pkS; rw [hu]; rfl
    · rw [i2] at hu
      rw [i0, i1, i3, fwrap_nat (by omega)]
      have hu : l[j].2.2.1 = false := by simpa using hu
      refine ⟨trivial, ?_, .three ?_ ?_ ?_⟩
      · show _ = [_, _, _, Value.bool (pkF l (j + 1)).2.2.1, Value.bool (pkF l (j + 1)).2.2.2, _]
        rw [hs]; unfold pkS; rw [hu, ho]; rfl
      · rw [AHeap.get_set_neB (by kernel_rfl), AHeap.get_set_neB (by kernel_rfl)]; exact gC_get (q := 0) rfl
      · rw [AHeap.get_set_neB (by kernel_rfl), AHeap.get_set_neB (by kernel_rfl)]; exact gC_get (q := 1) rfl
      · rw [AHeap.get_set_eqB (by kernel_rfl)]
        show _ = some (AObj.cells [gi (pkF l (j + 1)).1, gi (pkF l (j + 1)).2.1] _ _ _)
        rw [hs]; unfold pkS; rw [hu]; rfl
    · rw [i2] at hu
      rw [i1, fwrap_nat (by omega)]
      have hu : l[j].2.2.1 = true := by simpa using hu
      refine ⟨trivial, ?_, .three ?_ ?_ ?_⟩
      · show _ = [_, _, _, Value.bool (pkF l (j + 1)).2.2.1, Value.bool (pkF l (j + 1)).2.2.2, _]
        rw [hs]; unfold pkS; rw [hu, ho]; rfl
      · rw [AHeap.get_set_neB (by kernel_rfl)]; exact gC_get (q := 0) rfl
      · rw [AHeap.get_set_neB (by kernel_rfl)]; exact gC_get (q := 1) rfl
      · rw [AHeap.get_set_eqB (by kernel_rfl)]
        show _ = some (AObj.cells [gi (pkF l (j + 1)).1, gi (pkF l (j + 1)).2.1] _ _ _)
        rw [hs]; unfold pkS; rw [hu]; rfl
    · rw [i2] at hu
      rw [i1, i3, fwrap_nat (by omega)]
      have hu : l[j].2.2.1 = true := by simpa using hu
      refine ⟨trivial, ?_, .three ?_ ?_ ?_⟩
      · show _ = [_, _, _, Value.bool (pkF l (j + 1)).2.2.1, Value.bool (pkF l (j + 1)).2.2.2, _]
        rw [hs]; unfold pkS; rw [hu, ho]; rfl
      · rw [AHeap.get_set_neB (by kernel_rfl)]; exact gC_get (q := 0) rfl
      · rw [AHeap.get_set_neB (by kernel_rfl)]; exact gC_get (q := 1) rfl
      · rw [AHeap.get_set_eqB (by kernel_rfl)]
        show _ = some (AObj.cells [gi (pkF l (j + 1)).1, gi (pkF l (j + 1)).2.1] _ _ _)
        rw [hs]; unfold pkS; rw [hu]; rfl
    · have := blt_false hge; omega
  · intro hI g
    refine execC_ok mixed orcVb_ok askVb_ok (noLoops _) (Eq.mpr (Pk_body (cellsQ l) [gi 0, gi 0] n k e row n (pkF l n).1 (pkF l n).2.1 (pkF l n).2.2.1 (pkF l n).2.2.2 g _) ⟨fun hlt => ?_, fun _ => ⟨rfl, rfl, rfl⟩⟩)
    have := blt_true hlt; omega
noncomputable abbrev pkE (l : List Q4) (e row n : Nat) : AHeap := canonT [] (fun _ => 0) Tryz.prog.globals.size (pkC l e row n)
noncomputable def pkL (l : List Q4) (n e row k : Nat) : Loops Tryz.prog where
  body := fun _ => loopOf Tryz.prog 31 0
  spec := fun _ a h c => entry a 50 [(2, ptN 1), (6, ptN 2), (7, .bool false), (8, .bool false), (18, liP n k), (19, goN n), (20, goN 0)] ((h.get Tryz.prog.globals.size = some (.cells (cellsQ l) e row true) ∧ h.get (Tryz.prog.globals.size + 1) = some (.cells [gi 0, gi 0] 57 0 false) ∧ h.get (Tryz.prog.globals.size + 2) = some (.cells [gi (-200000), gi (-200000)] 57 0 false)) ∧ (l.length = n ∧ n ≤ 65536) ∧
    ∀ g, c (.exit 0) (stOf 50 [(2, ptN 1), (6, ptN 2), (7, .bool (pkF l n).2.2.1), (8, .bool (pkF l n).2.2.2)] g) (pkE l e row n))
  ok := fun i a h c q => by
    obtain ⟨h1, h2, h3, ⟨g0, g1, g2⟩, ⟨hs1, hs2⟩, h4⟩ := entry_facts q
    refine J.of_told (pk_loop l n e row k hs1 hs2 a h (.three g0 g1 g2) h1 h2 ?_) ?_
    · simp only [List.map_cons, List.map_nil]
      rw [h3 (2, ptN 1) (by simp), h3 (6, ptN 2) (by simp), h3 (7, .bool false) (by simp), h3 (8, .bool false) (by simp), h3 (18, liP n k) (by simp), h3 (19, goN n) (by simp), h3 (20, goN 0) (by simp)]
    · rintro ex vs h' g ⟨rfl, rfl, rfl⟩
      exact h4 (ov [(18, liP n k), (19, goN n), (20, goN n)] g)
noncomputable def PkL (l : List Q4) (n e row k : Nat) : Loops Tryz.prog where
  body := fun _ => loopOf Tryz.prog 35 0
  spec := fun _ a h c => entry a 53 [(0, liP n k), (2, ptN 1), (5, ptN 2), (6, .bool false), (7, .bool false), (8, goN 0)] ((h.get Tryz.prog.globals.size = some (.cells (cellsQ l) e row true) ∧ h.get (Tryz.prog.globals.size + 1) = some (.cells [gi 0, gi 0] 57 0 false) ∧ h.get (Tryz.prog.globals.size + 2) = some (.cells [gi (-200000), gi (-200000)] 57 0 false)) ∧ (l.length = n ∧ n ≤ 65536) ∧
    ∀ g, c (.exit 0) (stOf 53 [(2, ptN 1), (5, ptN 2), (6, .bool (pkF l n).2.2.1), (7, .bool (pkF l n).2.2.2)] g) (pkE l e row n))
  ok := fun i a h c q => by
    obtain ⟨h1, h2, h3, ⟨g0, g1, g2⟩, ⟨hs1, hs2⟩, h4⟩ := entry_facts q
    refine J.of_told (Pk_loop l n e row k hs1 hs2 a h (.three g0 g1 g2) h1 h2 ?_) ?_
    · simp only [List.map_cons, List.map_nil]
      rw [h3 (0, liP n k) (by simp), h3 (2, ptN 1) (by simp), h3 (5, ptN 2) (by simp), h3 (6, .bool false) (by simp), h3 (7, .bool false) (by simp), h3 (8, goN 0) (by simp)]
    · rintro ex vs h' g ⟨rfl, rfl, rfl⟩
      exact h4 (ov [(0, liP n k), (8, goN n)] g)
end Go.Proofs.YtcifkiinilaglaaGreatDoor
