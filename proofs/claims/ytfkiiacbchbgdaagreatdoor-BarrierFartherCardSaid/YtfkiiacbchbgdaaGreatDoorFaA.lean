/-
  OWN WORK. Farther walls: copies of parts of slices; a round of the law's loop, carried out.
-/
import Derived.Test.YtfkiiacbchbgdaaGreatDoorTbEG
import Derived.Test.YtfkiiacbchbgdaaGreatDoorAm31
namespace Go.Proofs.YtfkiiacbchbgdaaGreatDoor
open Go Go.Am

noncomputable abbrev itO (cs : List Value) (n : Nat) : Out := .wide (slM n) (((decI cs).take n).map gi) 3 2
def itC (cs : List Value) (n : Nat) (r : List Value) : Prop := (decI cs).map gi = cs ∧ 0 < n ∧ n ≤ (decI cs).length ∧ n ≤ 65536 ∧ r = []
open Classical in
noncomputable def itX (vs : List Value) (B : List Cells) : Option Out := sliFY none (fun cs n r => if itC cs n r then some (itO cs n) else none) vs B
noncomputable def itY (vs : List Value) (B : List Cells) (K : Out → Prop) : Prop := sliFY False (fun cs n r => itC cs n r ∧ K (itO cs n)) vs B
theorem itY_ok (vs : List Value) (B : List Cells) (K : Out → Prop) (h : itY vs B K) : ∃ o, itX vs B = some o ∧ K o :=
  sliFY_prop (fun _ _ _ hf => ⟨_, if_pos hf.1, hf.2⟩) h
set_option maxRecDepth 100000 in
theorem it_ok {orc : Orc} (ho : OrcOk Tryz.prog orc) : OrcOk Tryz.prog (orElse 27 (anyO Tryz.prog.globals.size itX) orc) := by
  refine anyO_ok globs_pos ho fun vs B o h _ => ?_
  obtain ⟨cs, n, k, e, row, r, rfl, rfl, h'⟩ := sliFY_some h
  split at h'
  · rename_i hc
    cases h'
    obtain ⟨h1, h2, h3, h4, rfl⟩ := hc
    refine ⟨⟨names_sl _, flat_ints _⟩, ?_⟩
    obtain ⟨l, rfl⟩ : ∃ l : List Int, cs = l.map gi := ⟨decI cs, h1.symm⟩
    rw [decI_map] at h3
    show CallJ _ _ _ _ (fun v h => ∃ b, v = slM n b ∧ h.get b = some (.cells (((decI (l.map gi)).take n).map gi) 3 2 false))
    rw [decI_map]
    obtain ⟨m, rfl⟩ : ∃ m, n = m + 1 := ⟨n - 1, by omega⟩
    have ht : List.take (m + 1) (List.drop 0 (l.map gi)) = (l.take (m + 1)).map gi := by rw [List.drop_zero, List.map_take]
    refine (callC_ok mixed orcUd_ok askUd_ok (Eq.mpr (ii_run l m e row k _) ?_)).mono fun v h' q => skK_wide (mk := slM (m + 1)) (fun _ => rfl) q
    rw [ht]
    exact ⟨by rw [Nat.ble_eq, List.length_map]; omega, by rw [Nat.ble_eq]; omega, ints_one _, rfl, rfl, by kernel_rfl⟩
  · cases h'
noncomputable def orcFa : Orc := orElse 27 (anyO Tryz.prog.globals.size itX) orcG1
theorem orcFa_ok : OrcOk Tryz.prog orcFa := it_ok orcG1_ok
noncomputable def askFa (b : Bool) : Asks := asksV Tryz.prog.globals.size 27 itY (askG1 b)
theorem askFa_ok (b : Bool) : AsksOk orcFa (askFa b) := asksV_ok itY_ok (askG1_ok b)
noncomputable abbrev ptP (i : Nat) : Value := .pointer (some ⟨i, 0, none⟩)
noncomputable abbrev slV (i n k : Nat) : Value := .slice (some ⟨i, 0, none⟩) n k
noncomputable abbrev faB (l T : List Int) (e row m k : Nat) (a b c d w : Int) (x y z : Int) (i : Nat) : List Blk := [([slV i (m + 1) k, gi a, gi b, gi c, gi d, gi w], 26, 0, false), ([Value.int .u8 x, Value.int .u8 y, Value.int .u8 z], 62, 0, false), (T.map gi, 3, 2, false), (l.map gi, e, row, true)]
theorem fa_body (l T : List Int) (e row m k W kt j : Nat) (a b c d w x y z : Int) (p : Bool) (g : Nat → Value) (Q : Exit → List Value → AHeap → Prop) : execC Tryz.prog (exec Tryz.prog orcFa 10) (syOf [(161, 1), (164, 7), (166, 7), (168, 7), (171, 1), (174, 32)]) (askFa true) (noLoops _) 40 (loopOf Tryz.prog 5 0) (stOf 253 [(2, ptP nG1), (3, ptP (nG1 + 1)), (17, slV (nG1 + 2) (W + 1) kt), (19, .bool p), (159, goN (W + 1)), (160, goN j)] g) (canonT [] (fun _ => 0) Tryz.prog.globals.size (faB l T e row m k a b c d w x y z (nG1 + 3))) (told 253 [2, 3, 17, 19, 159, 160] Q) = (((Nat.blt j (W + 1) = true → ((List.all (List.map gi l) (flat 3) = true ∧ True) ∧ towOk (List.map gi l) (m + 1) ∧ noR (decI (List.map gi l)) (Prod.mk a (Prod.mk b (Prod.mk c (Prod.mk d w)))) [] ∧ (List.all (List.map gi T) (flat 3) = true ∧ True) ∧ itC (List.map gi T) (W + 1) [] ∧ (List.all (List.map gi (decI (List.map gi l))) (flat 3) = true ∧ List.all (List.map gi (List.take (W + 1) (decI (List.map gi T)))) (flat 3) = true ∧ True) ∧ towOk (List.map gi (decI (List.map gi l))) (m + 1) ∧ towOk (List.map gi (List.take (W + 1) (decI (List.map gi T)))) (W + 1) ∧ kfC (decI (List.map gi (decI (List.map gi l)))) (Prod.mk a (Prod.mk b (Prod.mk c (Prod.mk d w)))) (decI (List.map gi (List.take (W + 1) (decI (List.map gi T))))) [goN j] ∧ (ieq (kV (decI (List.map gi (decI (List.map gi l)))) (decI (List.map gi (List.take (W + 1) (decI (List.map gi T))))) (Prod.mk a (Prod.mk b (Prod.mk c (Prod.mk d w)))) (arg0 [goN j])) 0 = true → ((!p) = false ∧ Q .normal [ptP nG1, ptP (nG1 + 1), slV (nG1 + 2) (W + 1) kt, Value.bool (ieq (kV (decI (List.map gi (decI (List.map gi l)))) (decI (List.map gi (List.take (W + 1) (decI (List.map gi T))))) (Prod.mk a (Prod.mk b (Prod.mk c (Prod.mk d w)))) (arg0 [goN j])) 0), goN (W + 1), gi (fwrap IntKind.i64 (Int.ofNat (j + 1)))] (((canonT [] (fun _ => 0) Tryz.prog.globals.size (faB l T e row m k a b c d w x y z (nG1 + 3))).push (.cells (List.map gi (decI (List.map gi l))) 3 2 false)).push (.cells (List.map gi (List.take (W + 1) (decI (List.map gi T)))) 3 2 false)))) ∧ (ieq (kV (decI (List.map gi (decI (List.map gi l)))) (decI (List.map gi (List.take (W + 1) (decI (List.map gi T))))) (Prod.mk a (Prod.mk b (Prod.mk c (Prod.mk d w)))) (arg0 [goN j])) 0 = false → (false = false ∧ Q .normal [ptP nG1, ptP (nG1 + 1), slV (nG1 + 2) (W + 1) kt, Value.bool (ieq (kV (decI (List.map gi (decI (List.map gi l)))) (decI (List.map gi (List.take (W + 1) (decI (List.map gi T))))) (Prod.mk a (Prod.mk b (Prod.mk c (Prod.mk d w)))) (arg0 [goN j])) 0), goN (W + 1), gi (fwrap IntKind.i64 (Int.ofNat (j + 1)))] (((canonT [] (fun _ => 0) Tryz.prog.globals.size (faB l T e row m k a b c d w x y z (nG1 + 3))).push (.cells (List.map gi (decI (List.map gi l))) 3 2 false)).push (.cells (List.map gi (List.take (W + 1) (decI (List.map gi T)))) 3 2 false)))))) ∧ (Nat.blt j (W + 1) = false → Q (.exit 0) [ptP nG1, ptP (nG1 + 1), slV (nG1 + 2) (W + 1) kt, Value.bool p, goN (W + 1), goN j] (canonT [] (fun _ => 0) Tryz.prog.globals.size (faB l T e row m k a b c d w x y z (nG1 + 3)))))) := by kernel_rfl
end Go.Proofs.YtfkiiacbchbgdaaGreatDoor
