/-
  OWN WORK. Stage 6: the reference's bounds of two traces: its loop.
-/
import Derived.Test.YtihnnmejkpddeaaGreatDoorJdFG
import Derived.Test.YtihnnmejkpddeaaGreatDoorJcPX
import Derived.Test.YtihnnmejkpddeaaGreatDoorJdDE
/-! (OWN WORK. Stage 6: the reference's bounds of two traces: rounds of its loop.) -/
namespace Go.Proofs.YtihnnmejkpddeaaGreatDoor
open Go Go.Am

/-- Facts by their numbers. -/
noncomputable def nthP : List Prop → Nat → Prop
  | [], _ => True
  | p :: _, 0 => p
  | _ :: r, i + 1 => nthP r i
noncomputable def andIx (L : List Prop) : List Nat → Prop → Prop
  | [], r => r
  | i :: is, r => nthP L i ∧ andIx L is r
theorem nthP_of : ∀ {L : List Prop}, (∀ p ∈ L, p) → ∀ i, nthP L i
  | [], _, _ => trivial
  | p :: _, h, 0 => h p (.head _)
  | _ :: r, h, i + 1 => nthP_of (L := r) (fun p hp => h p (.tail _ hp)) i
theorem andIx_of {L : List Prop} (h : ∀ p ∈ L, p) {r : Prop} (hr : r) : ∀ is, andIx L is r
  | [] => hr
  | i :: is => ⟨nthP_of h i, andIx_of h hr is⟩
abbrev rbI (j : Nat) : Nat := 0 + j * 4
noncomputable abbrev rbX (c d : List Value) (j : Nat) (u v : Int) : P2 := coF u v (larR (intAt c (rbI j)) (intAt c (rbI j + 1)) (boolAt c (rbI j + 1 + 1)) (boolAt c (rbI j + 1 + 1 + 1))) (larR (intAt d (rbI j)) (intAt d (rbI j + 1)) (boolAt d (rbI j + 1 + 1)) (boolAt d (rbI j + 1 + 1 + 1)))
noncomputable abbrev rbY (c d : List Value) (j : Nat) (u v : Int) : P2 := coF u v (mabR (intAt c (rbI j)) (intAt c (rbI j + 1))) (mabR (intAt d (rbI j)) (intAt d (rbI j + 1)))
noncomputable abbrev rbE4 (c : List Value) (j : Nat) : Array Value := #[gi (intAt c (rbI j)), gi (intAt c (rbI j + 1)), .bool (boolAt c (rbI j + 1 + 1)), .bool (boolAt c (rbI j + 1 + 1 + 1))]
noncomputable def rbL (c d : List Value) (j n : Nat) (u v : Int) : List Prop := [Nat.blt j n = true,
  c[rbI j]? = some (gi (intAt c (rbI j))), c[rbI j + 1]? = some (gi (intAt c (rbI j + 1))), c[rbI j + 1 + 1]? = some (.bool (boolAt c (rbI j + 1 + 1))), c[rbI j + 1 + 1 + 1]? = some (.bool (boolAt c (rbI j + 1 + 1 + 1))),
  d[rbI j]? = some (gi (intAt d (rbI j))), d[rbI j + 1]? = some (gi (intAt d (rbI j + 1))), d[rbI j + 1 + 1]? = some (.bool (boolAt d (rbI j + 1 + 1))), d[rbI j + 1 + 1 + 1]? = some (.bool (boolAt d (rbI j + 1 + 1 + 1))),
  Value.agg #[gi u, gi v] = Value.agg #[gi u, gi v], rbE4 d j = rbE4 d j, rbE4 c j = rbE4 c j, [gi 0, gi 0] = [gi 0, gi 0],
  sumB (larR (intAt c (rbI j)) (intAt c (rbI j + 1)) (boolAt c (rbI j + 1 + 1)) (boolAt c (rbI j + 1 + 1 + 1))) (larR (intAt d (rbI j)) (intAt d (rbI j + 1)) (boolAt d (rbI j + 1 + 1)) (boolAt d (rbI j + 1 + 1 + 1))) u v = true,
  sumB (mabR (intAt c (rbI j)) (intAt c (rbI j + 1))) (mabR (intAt d (rbI j)) (intAt d (rbI j + 1))) u v = true]
def rbIx : List Nat := [0, 1, 2, 3, 4, 0, 5, 6, 7, 8, 0, 1, 2, 3, 4, 0, 5, 6, 7, 8, 9, 5, 6, 7, 8, 10, 1, 2, 3, 4, 11, 9, 5, 6, 7, 8, 10, 1, 2, 3, 4, 11, 12, 9, 5, 6, 7, 8, 10, 1, 2, 3, 4, 11, 9, 5, 6, 7, 8, 10, 1, 2, 3, 4, 11, 12, 12, 9, 5, 6, 7, 8, 10, 1, 2, 3, 4, 11, 9, 5, 6, 7, 8, 10, 12, 12, 9, 5, 6, 7, 8, 10, 1, 2, 3, 4, 11, 9, 13, 12, 12, 9, 5, 6, 7, 8, 10, 1, 2, 3, 4, 11, 12, 12, 9, 5, 6, 7, 8, 10, 12, 12, 9, 14, 12, 12]
noncomputable abbrev rbC (c d : List Value) (e row e' row' : Nat) (u v : Int) (l h : P2) (o : Bool) : AHeap := canonT [] (fun _ => 0) Tryz.prog.globals.size [(c, e, row, true), (d, e', row', true), ([gi u, gi v], 62, 0, false), ([gi 0, gi 0, gi 0, gi 0, .bool false], 98, 0, false), ([gi l.1, gi l.2, gi h.1, gi h.2, .bool o], 98, 0, false)]
noncomputable abbrev rbH (c d : List Value) (e row e' row' : Nat) (u v : Int) (l h : P2) (o : Bool) (x y lo hi : P2) (o' : Bool) : AHeap := (((rbC c d e row e' row' u v l h o).push (.cells [gi x.1, gi x.2] 28 0 false)).push (.cells [gi y.1, gi y.2] 28 0 false)).set (nG1 + 4) (.cells [gi lo.1, gi lo.2, gi hi.1, gi hi.2, .bool o'] 98 0 false)
theorem rb_0A (c d : List Value) (n k k' e row e' row' j : Nat) (u v : Int) (l h : P2) (g : Nat → Value) (Q : Exit → List Value → AHeap → Prop) : execC Tryz.prog (exec Tryz.prog orcKb 10) (syOf [(15, 1), (20, 2), (21, 46), (25, 2), (26, 46), (29, 7), (32, 2), (33, 46), (37, 2), (38, 46), (41, 7), (44, 31), (55, 31), (69, 2), (71, 3), (73, 31)]) (askKb 0) (noLoops _) 40 (loopOf Tryz.prog 58 0) (stOf 96 [(0, liP n k), (1, slQ n k'), (5, ptN 2), (6, ptN 3), (7, ptN 4), (8, goN j)] g) (rbC c d e row e' row' u v l h false) (told 96 [0, 1, 5, 6, 7, 8] Q) = ((Nat.blt j n = true → andIx (rbL c d j n u v) rbIx (ieq (Int.ofNat j) 0 = true ∧ ieq (Int.ofNat j) 0 = true ∧ Nat.blt j n = true ∧ c[rbI j + 2]? = some (.bool (boolAt c (rbI j + 2))) ∧ boolAt c (rbI j + 2) = true ∧ Q .normal [liP n k, slQ n k', ptN 2, ptN 3, ptN 4, gi (fwrap IntKind.i64 (Int.ofNat (j + 1)))] (rbH c d e row e' row' u v l h false (rbX c d j u v) (rbY c d j u v) (rbX c d j u v) (rbY c d j u v) true))) ∧ (Nat.blt j n = false → Q (.exit 0) [liP n k, slQ n k', ptN 2, ptN 3, ptN 4, goN j] (rbC c d e row e' row' u v l h false))) := by kernel_rfl
theorem rb_0B (c d : List Value) (n k k' e row e' row' j : Nat) (u v : Int) (l h : P2) (g : Nat → Value) (Q : Exit → List Value → AHeap → Prop) : execC Tryz.prog (exec Tryz.prog orcKb 10) (syOf [(15, 1), (20, 2), (21, 46), (25, 2), (26, 46), (29, 7), (32, 2), (33, 46), (37, 2), (38, 46), (41, 7), (44, 31), (55, 31), (69, 2), (71, 3), (73, 32), (76, 2), (78, 3), (80, 31)]) (askKb 0) (noLoops _) 40 (loopOf Tryz.prog 58 0) (stOf 96 [(0, liP n k), (1, slQ n k'), (5, ptN 2), (6, ptN 3), (7, ptN 4), (8, goN j)] g) (rbC c d e row e' row' u v l h false) (told 96 [0, 1, 5, 6, 7, 8] Q) = ((Nat.blt j n = true → andIx (rbL c d j n u v) rbIx (ieq (Int.ofNat j) 0 = true ∧ ieq (Int.ofNat j) 0 = true ∧ Nat.blt j n = true ∧ c[rbI j + 2]? = some (.bool (boolAt c (rbI j + 2))) ∧ boolAt c (rbI j + 2) = false ∧ Nat.blt j n = true ∧ c[rbI j + 3]? = some (.bool (boolAt c (rbI j + 3))) ∧ boolAt c (rbI j + 3) = true ∧ Q .normal [liP n k, slQ n k', ptN 2, ptN 3, ptN 4, gi (fwrap IntKind.i64 (Int.ofNat (j + 1)))] (rbH c d e row e' row' u v l h false (rbX c d j u v) (rbY c d j u v) (rbX c d j u v) (rbY c d j u v) true))) ∧ (Nat.blt j n = false → Q (.exit 0) [liP n k, slQ n k', ptN 2, ptN 3, ptN 4, goN j] (rbC c d e row e' row' u v l h false))) := by kernel_rfl
theorem rb_0C (c d : List Value) (n k k' e row e' row' j : Nat) (u v : Int) (l h : P2) (g : Nat → Value) (Q : Exit → List Value → AHeap → Prop) : execC Tryz.prog (exec Tryz.prog orcKb 10) (syOf [(15, 1), (20, 2), (21, 46), (25, 2), (26, 46), (29, 7), (32, 2), (33, 46), (37, 2), (38, 46), (41, 7), (44, 31), (55, 31), (69, 2), (71, 3), (73, 32), (76, 2), (78, 3), (80, 32), (83, 2), (85, 3), (87, 31)]) (askKb 0) (noLoops _) 40 (loopOf Tryz.prog 58 0) (stOf 96 [(0, liP n k), (1, slQ n k'), (5, ptN 2), (6, ptN 3), (7, ptN 4), (8, goN j)] g) (rbC c d e row e' row' u v l h false) (told 96 [0, 1, 5, 6, 7, 8] Q) = ((Nat.blt j n = true → andIx (rbL c d j n u v) rbIx (ieq (Int.ofNat j) 0 = true ∧ ieq (Int.ofNat j) 0 = true ∧ Nat.blt j n = true ∧ c[rbI j + 2]? = some (.bool (boolAt c (rbI j + 2))) ∧ boolAt c (rbI j + 2) = false ∧ Nat.blt j n = true ∧ c[rbI j + 3]? = some (.bool (boolAt c (rbI j + 3))) ∧ boolAt c (rbI j + 3) = false ∧ Nat.blt j n = true ∧ d[rbI j + 2]? = some (.bool (boolAt d (rbI j + 2))) ∧ boolAt d (rbI j + 2) = true ∧ Q .normal [liP n k, slQ n k', ptN 2, ptN 3, ptN 4, gi (fwrap IntKind.i64 (Int.ofNat (j + 1)))] (rbH c d e row e' row' u v l h false (rbX c d j u v) (rbY c d j u v) (rbX c d j u v) (rbY c d j u v) true))) ∧ (Nat.blt j n = false → Q (.exit 0) [liP n k, slQ n k', ptN 2, ptN 3, ptN 4, goN j] (rbC c d e row e' row' u v l h false))) := by kernel_rfl
theorem rb_0D (c d : List Value) (n k k' e row e' row' j : Nat) (u v : Int) (l h : P2) (g : Nat → Value) (Q : Exit → List Value → AHeap → Prop) : execC Tryz.prog (exec Tryz.prog orcKb 10) (syOf [(15, 1), (20, 2), (21, 46), (25, 2), (26, 46), (29, 7), (32, 2), (33, 46), (37, 2), (38, 46), (41, 7), (44, 31), (55, 31), (69, 2), (71, 3), (73, 32), (76, 2), (78, 3), (80, 32), (83, 2), (85, 3), (87, 32), (90, 2), (92, 3)]) (askKb 0) (noLoops _) 40 (loopOf Tryz.prog 58 0) (stOf 96 [(0, liP n k), (1, slQ n k'), (5, ptN 2), (6, ptN 3), (7, ptN 4), (8, goN j)] g) (rbC c d e row e' row' u v l h false) (told 96 [0, 1, 5, 6, 7, 8] Q) = ((Nat.blt j n = true → andIx (rbL c d j n u v) rbIx (ieq (Int.ofNat j) 0 = true ∧ ieq (Int.ofNat j) 0 = true ∧ Nat.blt j n = true ∧ c[rbI j + 2]? = some (.bool (boolAt c (rbI j + 2))) ∧ boolAt c (rbI j + 2) = false ∧ Nat.blt j n = true ∧ c[rbI j + 3]? = some (.bool (boolAt c (rbI j + 3))) ∧ boolAt c (rbI j + 3) = false ∧ Nat.blt j n = true ∧ d[rbI j + 2]? = some (.bool (boolAt d (rbI j + 2))) ∧ boolAt d (rbI j + 2) = false ∧ Nat.blt j n = true ∧ d[rbI j + 3]? = some (.bool (boolAt d (rbI j + 3))) ∧ Q .normal [liP n k, slQ n k', ptN 2, ptN 3, ptN 4, gi (fwrap IntKind.i64 (Int.ofNat (j + 1)))] (rbH c d e row e' row' u v l h false (rbX c d j u v) (rbY c d j u v) (rbX c d j u v) (rbY c d j u v) (boolAt d (rbI j + 3))))) ∧ (Nat.blt j n = false → Q (.exit 0) [liP n k, slQ n k', ptN 2, ptN 3, ptN 4, goN j] (rbC c d e row e' row' u v l h false))) := by kernel_rfl
theorem rb_jT (c d : List Value) (n k k' e row e' row' j : Nat) (u v : Int) (l h : P2) (g : Nat → Value) (Q : Exit → List Value → AHeap → Prop) : execC Tryz.prog (exec Tryz.prog orcKb 10) (syOf [(15, 1), (20, 2), (21, 46), (25, 2), (26, 46), (29, 7), (32, 2), (33, 46), (37, 2), (38, 46), (41, 7), (44, 32), (50, 1), (55, 32), (61, 1)]) (askKb 0) (noLoops _) 40 (loopOf Tryz.prog 58 0) (stOf 96 [(0, liP n k), (1, slQ n k'), (5, ptN 2), (6, ptN 3), (7, ptN 4), (8, goN j)] g) (rbC c d e row e' row' u v l h true) (told 96 [0, 1, 5, 6, 7, 8] Q) = ((Nat.blt j n = true → andIx (rbL c d j n u v) rbIx (ieq (Int.ofNat j) 0 = false ∧ (gtR (rbX c d j u v) l = true → (ieq (Int.ofNat j) 0 = false ∧ (gtR (rbY c d j u v) h = true → Q .normal [liP n k, slQ n k', ptN 2, ptN 3, ptN 4, gi (fwrap IntKind.i64 (Int.ofNat (j + 1)))] (rbH c d e row e' row' u v l h true (rbX c d j u v) (rbY c d j u v) (rbX c d j u v) (rbY c d j u v) true)) ∧ (gtR (rbY c d j u v) h = false → Q .normal [liP n k, slQ n k', ptN 2, ptN 3, ptN 4, gi (fwrap IntKind.i64 (Int.ofNat (j + 1)))] (rbH c d e row e' row' u v l h true (rbX c d j u v) (rbY c d j u v) (rbX c d j u v) h true)))) ∧ (gtR (rbX c d j u v) l = false → (ieq (Int.ofNat j) 0 = false ∧ (gtR (rbY c d j u v) h = true → Q .normal [liP n k, slQ n k', ptN 2, ptN 3, ptN 4, gi (fwrap IntKind.i64 (Int.ofNat (j + 1)))] (rbH c d e row e' row' u v l h true (rbX c d j u v) (rbY c d j u v) l (rbY c d j u v) true)) ∧ (gtR (rbY c d j u v) h = false → Q .normal [liP n k, slQ n k', ptN 2, ptN 3, ptN 4, gi (fwrap IntKind.i64 (Int.ofNat (j + 1)))] (rbH c d e row e' row' u v l h true (rbX c d j u v) (rbY c d j u v) l h true)))))) ∧ (Nat.blt j n = false → Q (.exit 0) [liP n k, slQ n k', ptN 2, ptN 3, ptN 4, goN j] (rbC c d e row e' row' u v l h true))) := by kernel_rfl
theorem rb_jA (c d : List Value) (n k k' e row e' row' j : Nat) (u v : Int) (l h : P2) (g : Nat → Value) (Q : Exit → List Value → AHeap → Prop) : execC Tryz.prog (exec Tryz.prog orcKb 10) (syOf [(15, 1), (20, 2), (21, 46), (25, 2), (26, 46), (29, 7), (32, 2), (33, 46), (37, 2), (38, 46), (41, 7), (44, 32), (50, 1), (55, 32), (61, 1), (69, 2), (71, 3), (73, 31)]) (askKb 0) (noLoops _) 40 (loopOf Tryz.prog 58 0) (stOf 96 [(0, liP n k), (1, slQ n k'), (5, ptN 2), (6, ptN 3), (7, ptN 4), (8, goN j)] g) (rbC c d e row e' row' u v l h false) (told 96 [0, 1, 5, 6, 7, 8] Q) = ((Nat.blt j n = true → andIx (rbL c d j n u v) rbIx (ieq (Int.ofNat j) 0 = false ∧ (gtR (rbX c d j u v) l = true → (ieq (Int.ofNat j) 0 = false ∧ (gtR (rbY c d j u v) h = true → Nat.blt j n = true ∧ c[rbI j + 2]? = some (.bool (boolAt c (rbI j + 2))) ∧ boolAt c (rbI j + 2) = true ∧ Q .normal [liP n k, slQ n k', ptN 2, ptN 3, ptN 4, gi (fwrap IntKind.i64 (Int.ofNat (j + 1)))] (rbH c d e row e' row' u v l h false (rbX c d j u v) (rbY c d j u v) (rbX c d j u v) (rbY c d j u v) true)) ∧ (gtR (rbY c d j u v) h = false → Nat.blt j n = true ∧ c[rbI j + 2]? = some (.bool (boolAt c (rbI j + 2))) ∧ boolAt c (rbI j + 2) = true ∧ Q .normal [liP n k, slQ n k', ptN 2, ptN 3, ptN 4, gi (fwrap IntKind.i64 (Int.ofNat (j + 1)))] (rbH c d e row e' row' u v l h false (rbX c d j u v) (rbY c d j u v) (rbX c d j u v) h true)))) ∧ (gtR (rbX c d j u v) l = false → (ieq (Int.ofNat j) 0 = false ∧ (gtR (rbY c d j u v) h = true → Nat.blt j n = true ∧ c[rbI j + 2]? = some (.bool (boolAt c (rbI j + 2))) ∧ boolAt c (rbI j + 2) = true ∧ Q .normal [liP n k, slQ n k', ptN 2, ptN 3, ptN 4, gi (fwrap IntKind.i64 (Int.ofNat (j + 1)))] (rbH c d e row e' row' u v l h false (rbX c d j u v) (rbY c d j u v) l (rbY c d j u v) true)) ∧ (gtR (rbY c d j u v) h = false → Nat.blt j n = true ∧ c[rbI j + 2]? = some (.bool (boolAt c (rbI j + 2))) ∧ boolAt c (rbI j + 2) = true ∧ Q .normal [liP n k, slQ n k', ptN 2, ptN 3, ptN 4, gi (fwrap IntKind.i64 (Int.ofNat (j + 1)))] (rbH c d e row e' row' u v l h false (rbX c d j u v) (rbY c d j u v) l h true)))))) ∧ (Nat.blt j n = false → Q (.exit 0) [liP n k, slQ n k', ptN 2, ptN 3, ptN 4, goN j] (rbC c d e row e' row' u v l h false))) := by kernel_rfl
theorem rb_jB (c d : List Value) (n k k' e row e' row' j : Nat) (u v : Int) (l h : P2) (g : Nat → Value) (Q : Exit → List Value → AHeap → Prop) : execC Tryz.prog (exec Tryz.prog orcKb 10) (syOf [(15, 1), (20, 2), (21, 46), (25, 2), (26, 46), (29, 7), (32, 2), (33, 46), (37, 2), (38, 46), (41, 7), (44, 32), (50, 1), (55, 32), (61, 1), (69, 2), (71, 3), (73, 32), (76, 2), (78, 3), (80, 31)]) (askKb 0) (noLoops _) 40 (loopOf Tryz.prog 58 0) (stOf 96 [(0, liP n k), (1, slQ n k'), (5, ptN 2), (6, ptN 3), (7, ptN 4), (8, goN j)] g) (rbC c d e row e' row' u v l h false) (told 96 [0, 1, 5, 6, 7, 8] Q) = ((Nat.blt j n = true → andIx (rbL c d j n u v) rbIx (ieq (Int.ofNat j) 0 = false ∧ (gtR (rbX c d j u v) l = true → (ieq (Int.ofNat j) 0 = false ∧ (gtR (rbY c d j u v) h = true → Nat.blt j n = true ∧ c[rbI j + 2]? = some (.bool (boolAt c (rbI j + 2))) ∧ boolAt c (rbI j + 2) = false ∧ Nat.blt j n = true ∧ c[rbI j + 3]? = some (.bool (boolAt c (rbI j + 3))) ∧ boolAt c (rbI j + 3) = true ∧ Q .normal [liP n k, slQ n k', ptN 2, ptN 3, ptN 4, gi (fwrap IntKind.i64 (Int.ofNat (j + 1)))] (rbH c d e row e' row' u v l h false (rbX c d j u v) (rbY c d j u v) (rbX c d j u v) (rbY c d j u v) true)) ∧ (gtR (rbY c d j u v) h = false → Nat.blt j n = true ∧ c[rbI j + 2]? = some (.bool (boolAt c (rbI j + 2))) ∧ boolAt c (rbI j + 2) = false ∧ Nat.blt j n = true ∧ c[rbI j + 3]? = some (.bool (boolAt c (rbI j + 3))) ∧ boolAt c (rbI j + 3) = true ∧ Q .normal [liP n k, slQ n k', ptN 2, ptN 3, ptN 4, gi (fwrap IntKind.i64 (Int.ofNat (j + 1)))] (rbH c d e row e' row' u v l h false (rbX c d j u v) (rbY c d j u v) (rbX c d j u v) h true)))) ∧ (gtR (rbX c d j u v) l = false → (ieq (Int.ofNat j) 0 = false ∧ (gtR (rbY c d j u v) h = true → Nat.blt j n = true ∧ c[rbI j + 2]? = some (.bool (boolAt c (rbI j + 2))) ∧ boolAt c (rbI j + 2) = false ∧ Nat.blt j n = true ∧ c[rbI j + 3]? = some (.bool (boolAt c (rbI j + 3))) ∧ boolAt c (rbI j + 3) = true ∧ Q .normal [liP n k, slQ n k', ptN 2, ptN 3, ptN 4, gi (fwrap IntKind.i64 (Int.ofNat (j + 1)))] (rbH c d e row e' row' u v l h false (rbX c d j u v) (rbY c d j u v) l (rbY c d j u v) true)) ∧ (gtR (rbY c d j u v) h = false → Nat.blt j n = true ∧ c[rbI j + 2]? = some (.bool (boolAt c (rbI j + 2))) ∧ boolAt c (rbI j + 2) = false ∧ Nat.blt j n = true ∧ c[rbI j + 3]? = some (.bool (boolAt c (rbI j + 3))) ∧ boolAt c (rbI j + 3) = true ∧ Q .normal [liP n k, slQ n k', ptN 2, ptN 3, ptN 4, gi (fwrap IntKind.i64 (Int.ofNat (j + 1)))] (rbH c d e row e' row' u v l h false (rbX c d j u v) (rbY c d j u v) l h true)))))) ∧ (Nat.blt j n = false → Q (.exit 0) [liP n k, slQ n k', ptN 2, ptN 3, ptN 4, goN j] (rbC c d e row e' row' u v l h false))) := by kernel_rfl
theorem rb_jC (c d : List Value) (n k k' e row e' row' j : Nat) (u v : Int) (l h : P2) (g : Nat → Value) (Q : Exit → List Value → AHeap → Prop) : execC Tryz.prog (exec Tryz.prog orcKb 10) (syOf [(15, 1), (20, 2), (21, 46), (25, 2), (26, 46), (29, 7), (32, 2), (33, 46), (37, 2), (38, 46), (41, 7), (44, 32), (50, 1), (55, 32), (61, 1), (69, 2), (71, 3), (73, 32), (76, 2), (78, 3), (80, 32), (83, 2), (85, 3), (87, 31)]) (askKb 0) (noLoops _) 40 (loopOf Tryz.prog 58 0) (stOf 96 [(0, liP n k), (1, slQ n k'), (5, ptN 2), (6, ptN 3), (7, ptN 4), (8, goN j)] g) (rbC c d e row e' row' u v l h false) (told 96 [0, 1, 5, 6, 7, 8] Q) = ((Nat.blt j n = true → andIx (rbL c d j n u v) rbIx (ieq (Int.ofNat j) 0 = false ∧ (gtR (rbX c d j u v) l = true → (ieq (Int.ofNat j) 0 = false ∧ (gtR (rbY c d j u v) h = true → Nat.blt j n = true ∧ c[rbI j + 2]? = some (.bool (boolAt c (rbI j + 2))) ∧ boolAt c (rbI j + 2) = false ∧ Nat.blt j n = true ∧ c[rbI j + 3]? = some (.bool (boolAt c (rbI j + 3))) ∧ boolAt c (rbI j + 3) = false ∧ Nat.blt j n = true ∧ d[rbI j + 2]? = some (.bool (boolAt d (rbI j + 2))) ∧ boolAt d (rbI j + 2) = true ∧ Q .normal [liP n k, slQ n k', ptN 2, ptN 3, ptN 4, gi (fwrap IntKind.i64 (Int.ofNat (j + 1)))] (rbH c d e row e' row' u v l h false (rbX c d j u v) (rbY c d j u v) (rbX c d j u v) (rbY c d j u v) true)) ∧ (gtR (rbY c d j u v) h = false → Nat.blt j n = true ∧ c[rbI j + 2]? = some (.bool (boolAt c (rbI j + 2))) ∧ boolAt c (rbI j + 2) = false ∧ Nat.blt j n = true ∧ c[rbI j + 3]? = some (.bool (boolAt c (rbI j + 3))) ∧ boolAt c (rbI j + 3) = false ∧ Nat.blt j n = true ∧ d[rbI j + 2]? = some (.bool (boolAt d (rbI j + 2))) ∧ boolAt d (rbI j + 2) = true ∧ Q .normal [liP n k, slQ n k', ptN 2, ptN 3, ptN 4, gi (fwrap IntKind.i64 (Int.ofNat (j + 1)))] (rbH c d e row e' row' u v l h false (rbX c d j u v) (rbY c d j u v) (rbX c d j u v) h true)))) ∧ (gtR (rbX c d j u v) l = false → (ieq (Int.ofNat j) 0 = false ∧ (gtR (rbY c d j u v) h = true → Nat.blt j n = true ∧ c[rbI j + 2]? = some (.bool (boolAt c (rbI j + 2))) ∧ boolAt c (rbI j + 2) = false ∧ Nat.blt j n = true ∧ c[rbI j + 3]? = some (.bool (boolAt c (rbI j + 3))) ∧ boolAt c (rbI j + 3) = false ∧ Nat.blt j n = true ∧ d[rbI j + 2]? = some (.bool (boolAt d (rbI j + 2))) ∧ boolAt d (rbI j + 2) = true ∧ Q .normal [liP n k, slQ n k', ptN 2, ptN 3, ptN 4, gi (fwrap IntKind.i64 (Int.ofNat (j + 1)))] (rbH c d e row e' row' u v l h false (rbX c d j u v) (rbY c d j u v) l (rbY c d j u v) true)) ∧ (gtR (rbY c d j u v) h = false → Nat.blt j n = true ∧ c[rbI j + 2]? = some (.bool (boolAt c (rbI j + 2))) ∧ boolAt c (rbI j + 2) = false ∧ Nat.blt j n = true ∧ c[rbI j + 3]? = some (.bool (boolAt c (rbI j + 3))) ∧ boolAt c (rbI j + 3) = false ∧ Nat.blt j n = true ∧ d[rbI j + 2]? = some (.bool (boolAt d (rbI j + 2))) ∧ boolAt d (rbI j + 2) = true ∧ Q .normal [liP n k, slQ n k', ptN 2, ptN 3, ptN 4, gi (fwrap IntKind.i64 (Int.ofNat (j + 1)))] (rbH c d e row e' row' u v l h false (rbX c d j u v) (rbY c d j u v) l h true)))))) ∧ (Nat.blt j n = false → Q (.exit 0) [liP n k, slQ n k', ptN 2, ptN 3, ptN 4, goN j] (rbC c d e row e' row' u v l h false))) := by kernel_rfl
theorem rb_jD (c d : List Value) (n k k' e row e' row' j : Nat) (u v : Int) (l h : P2) (g : Nat → Value) (Q : Exit → List Value → AHeap → Prop) : execC Tryz.prog (exec Tryz.prog orcKb 10) (syOf [(15, 1), (20, 2), (21, 46), (25, 2), (26, 46), (29, 7), (32, 2), (33, 46), (37, 2), (38, 46), (41, 7), (44, 32), (50, 1), (55, 32), (61, 1), (69, 2), (71, 3), (73, 32), (76, 2), (78, 3), (80, 32), (83, 2), (85, 3), (87, 32), (90, 2), (92, 3)]) (askKb 0) (noLoops _) 40 (loopOf Tryz.prog 58 0) (stOf 96 [(0, liP n k), (1, slQ n k'), (5, ptN 2), (6, ptN 3), (7, ptN 4), (8, goN j)] g) (rbC c d e row e' row' u v l h false) (told 96 [0, 1, 5, 6, 7, 8] Q) = ((Nat.blt j n = true → andIx (rbL c d j n u v) rbIx (ieq (Int.ofNat j) 0 = false ∧ (gtR (rbX c d j u v) l = true → (ieq (Int.ofNat j) 0 = false ∧ (gtR (rbY c d j u v) h = true → Nat.blt j n = true ∧ c[rbI j + 2]? = some (.bool (boolAt c (rbI j + 2))) ∧ boolAt c (rbI j + 2) = false ∧ Nat.blt j n = true ∧ c[rbI j + 3]? = some (.bool (boolAt c (rbI j + 3))) ∧ boolAt c (rbI j + 3) = false ∧ Nat.blt j n = true ∧ d[rbI j + 2]? = some (.bool (boolAt d (rbI j + 2))) ∧ boolAt d (rbI j + 2) = false ∧ Nat.blt j n = true ∧ d[rbI j + 3]? = some (.bool (boolAt d (rbI j + 3))) ∧ Q .normal [liP n k, slQ n k', ptN 2, ptN 3, ptN 4, gi (fwrap IntKind.i64 (Int.ofNat (j + 1)))] (rbH c d e row e' row' u v l h false (rbX c d j u v) (rbY c d j u v) (rbX c d j u v) (rbY c d j u v) (boolAt d (rbI j + 3)))) ∧ (gtR (rbY c d j u v) h = false → Nat.blt j n = true ∧ c[rbI j + 2]? = some (.bool (boolAt c (rbI j + 2))) ∧ boolAt c (rbI j + 2) = false ∧ Nat.blt j n = true ∧ c[rbI j + 3]? = some (.bool (boolAt c (rbI j + 3))) ∧ boolAt c (rbI j + 3) = false ∧ Nat.blt j n = true ∧ d[rbI j + 2]? = some (.bool (boolAt d (rbI j + 2))) ∧ boolAt d (rbI j + 2) = false ∧ Nat.blt j n = true ∧ d[rbI j + 3]? = some (.bool (boolAt d (rbI j + 3))) ∧ Q .normal [liP n k, slQ n k', ptN 2, ptN 3, ptN 4, gi (fwrap IntKind.i64 (Int.ofNat (j + 1)))] (rbH c d e row e' row' u v l h false (rbX c d j u v) (rbY c d j u v) (rbX c d j u v) h (boolAt d (rbI j + 3)))))) ∧ (gtR (rbX c d j u v) l = false → (ieq (Int.ofNat j) 0 = false ∧ (gtR (rbY c d j u v) h = true → Nat.blt j n = true ∧ c[rbI j + 2]? = some (.bool (boolAt c (rbI j + 2))) ∧ boolAt c (rbI j + 2) = false ∧ Nat.blt j n = true ∧ c[rbI j + 3]? = some (.bool (boolAt c (rbI j + 3))) ∧ boolAt c (rbI j + 3) = false ∧ Nat.blt j n = true ∧ d[rbI j + 2]? = some (.bool (boolAt d (rbI j + 2))) ∧ boolAt d (rbI j + 2) = false ∧ Nat.blt j n = true ∧ d[rbI j + 3]? = some (.bool (boolAt d (rbI j + 3))) ∧ Q .normal [liP n k, slQ n k', ptN 2, ptN 3, ptN 4, gi (fwrap IntKind.i64 (Int.ofNat (j + 1)))] (rbH c d e row e' row' u v l h false (rbX c d j u v) (rbY c d j u v) l (rbY c d j u v) (boolAt d (rbI j + 3)))) ∧ (gtR (rbY c d j u v) h = false → Nat.blt j n = true ∧ c[rbI j + 2]? = some (.bool (boolAt c (rbI j + 2))) ∧ boolAt c (rbI j + 2) = false ∧ Nat.blt j n = true ∧ c[rbI j + 3]? = some (.bool (boolAt c (rbI j + 3))) ∧ boolAt c (rbI j + 3) = false ∧ Nat.blt j n = true ∧ d[rbI j + 2]? = some (.bool (boolAt d (rbI j + 2))) ∧ boolAt d (rbI j + 2) = false ∧ Nat.blt j n = true ∧ d[rbI j + 3]? = some (.bool (boolAt d (rbI j + 3))) ∧ Q .normal [liP n k, slQ n k', ptN 2, ptN 3, ptN 4, gi (fwrap IntKind.i64 (Int.ofNat (j + 1)))] (rbH c d e row e' row' u v l h false (rbX c d j u v) (rbY c d j u v) l h (boolAt d (rbI j + 3)))))))) ∧ (Nat.blt j n = false → Q (.exit 0) [liP n k, slQ n k', ptN 2, ptN 3, ptN 4, goN j] (rbC c d e row e' row' u v l h false))) := by kernel_rfl
end Go.Proofs.YtihnnmejkpddeaaGreatDoor
/-! (OWN WORK. Stage 6: the reference's bounds of two traces: its loop.) -/
namespace Go.Proofs.YtihnnmejkpddeaaGreatDoor
open Go Go.Am

noncomputable def laR4 (q : V4) : Int := larR q.1 q.2.1 q.2.2.1 q.2.2.2
noncomputable def maR4 (q : V4) : Int := mabR q.1 q.2.1
noncomputable def roL (C : List P2) (j : Nat) : P2 := (bsP (C.take j)).1
theorem roL_first {C : List P2} {j : Nat} (h0 : j = 0) (h : j < C.length) : C[j] = roL C (j + 1) := by
  subst h0
  unfold roL
  rw [List.take_add_one, List.getElem?_eq_getElem h]; rfl
theorem roL_next {C : List P2} {j : Nat} (h0 : j ≠ 0) (h : j < C.length) : roL C (j + 1) = bif gtR C[j] (roL C j) then C[j] else roL C j := by
  unfold roL
  rw [List.take_add_one, List.getElem?_eq_getElem h]
  show (bsP (C.take j ++ [C[j]])).1 = _
  rw [bsP_app (by rw [List.length_take]; omega)]
  cases gtR C[j] (bsP (C.take j)).1 <;> rfl
theorem roL_t {C : List P2} {j : Nat} (h0 : j ≠ 0) (h : j < C.length) (h3 : gtR C[j] (roL C j) = true) : C[j] = roL C (j + 1) := by rw [roL_next h0 h, h3]; rfl
theorem roL_f {C : List P2} {j : Nat} (h0 : j ≠ 0) (h : j < C.length) (h3 : gtR C[j] (roL C j) = false) : roL C j = roL C (j + 1) := by rw [roL_next h0 h, h3]; rfl
noncomputable def opn (a b : List V4) (j : Nat) : Bool := (a.take j).any opF || (b.take j).any opF
theorem opn_next {a b : List V4} {j : Nat} (ha : j < a.length) (hb : j < b.length) : opn a b (j + 1) = (opn a b j || ((a[j].2.2.1 || a[j].2.2.2) || (b[j].2.2.1 || b[j].2.2.2))) := by
  unfold opn
  rw [List.take_add_one, List.take_add_one, List.getElem?_eq_getElem ha, List.getElem?_eq_getElem hb, List.any_append, List.any_append]
  show ((List.any (a.take j) opF || ((a[j].2.2.1 || a[j].2.2.2) || false)) || (List.any (b.take j) opF || ((b[j].2.2.1 || b[j].2.2.2) || false))) = _
  cases List.any (a.take j) opF <;> cases List.any (b.take j) opF <;> cases a[j].2.2.1 <;> cases a[j].2.2.2 <;> cases b[j].2.2.1 <;> cases b[j].2.2.2 <;> rfl
noncomputable abbrev rbK (c d : List Value) (e row e' row' : Nat) (u v : Int) (lo hi : P2) (o : Bool) : List Blk := [(c, e, row, true), (d, e', row', true), ([gi u, gi v], 62, 0, false), ([gi 0, gi 0, gi 0, gi 0, .bool false], 98, 0, false), ([gi lo.1, gi lo.2, gi hi.1, gi hi.2, .bool o], 98, 0, false)]
theorem rb_laid (c d : List Value) (e row e' row' : Nat) (u v : Int) (l h : P2) (o : Bool) (x y lo hi : P2) (o' : Bool) : Laid (rbK c d e row e' row' u v lo hi o') (nG1 + ·) (rbH c d e row e' row' u v l h o x y lo hi o') := by
  intro q b hb
  match q, hb with
  | 0, hb => cases hb; show _ = _; kernel_rfl
  | 1, hb => cases hb; show _ = _; kernel_rfl
  | 2, hb => cases hb; show _ = _; kernel_rfl
  | 3, hb => cases hb; show _ = _; kernel_rfl
  | 4, hb => cases hb; show _ = _; kernel_rfl
noncomputable abbrev rbLo (a b : List V4) (u v : Int) : List P2 := coL u v (a.map laR4) (b.map laR4)
noncomputable abbrev rbHi (a b : List V4) (u v : Int) : List P2 := coL u v (a.map maR4) (b.map maR4)
noncomputable abbrev rbB (a b : List V4) (e row e' row' : Nat) (u v : Int) (j : Nat) : List Blk := rbK (cellsV a) (cellsV b) e row e' row' u v (roL (rbLo a b u v) j) (roL (rbHi a b u v) j) (opn a b j)
noncomputable abbrev rbV (n k k' : Nat) (at_ : Nat → Nat) (j : Nat) : List Value := [.slice (some ⟨at_ 0, 0, none⟩) n k, .slice (some ⟨at_ 1, 0, none⟩) n k', .pointer (some ⟨at_ 2, 0, none⟩), .pointer (some ⟨at_ 3, 0, none⟩), .pointer (some ⟨at_ 4, 0, none⟩), goN j]
theorem sum_fine {x y u v : Int} (hx : 0 ≤ x ∧ x ≤ 16384) (hy : 0 ≤ y ∧ y ≤ 16384) (hu : lim1 u) (hv : lim1 v) : sumB x y u v = true := by
  obtain ⟨a1, a2⟩ := mul_bd hx hv
  obtain ⟨b1, b2⟩ := mul_bd hy hu
  obtain ⟨c1, c2⟩ := lim_mul hu hv
  unfold sumB
  rw [inI64_small (by omega) (by omega), inI64_small (by omega) (by omega), inI64_small (by omega) (by omega), inI64_small (by omega) (by omega), dvB_of (by omega) (by omega) (by omega) (by omega)]; rfl
set_option maxRecDepth 100000 in
theorem rb_fac (a b : List V4) (u v : Int) (n : Nat) (ha : a.length = n) (hb : b.length = n) (l1 : bd0 (a.map laR4)) (l2 : bd0 (b.map laR4)) (m1 : bd0 (a.map maR4)) (m2 : bd0 (b.map maR4)) (hu : lim1 u) (hv : lim1 v) (j : Nat) (hj : j < n) :
    (∀ p ∈ rbL (cellsV a) (cellsV b) j n u v, p) ∧ rbX (cellsV a) (cellsV b) j u v = coF u v (laR4 (a[j]'(by omega))) (laR4 (b[j]'(by omega))) ∧ rbY (cellsV a) (cellsV b) j u v = coF u v (maR4 (a[j]'(by omega))) (maR4 (b[j]'(by omega))) ∧
    boolAt (cellsV a) (rbI j + 2) = (a[j]'(by omega)).2.2.1 ∧ boolAt (cellsV a) (rbI j + 3) = (a[j]'(by omega)).2.2.2 ∧ boolAt (cellsV b) (rbI j + 2) = (b[j]'(by omega)).2.2.1 ∧ boolAt (cellsV b) (rbI j + 3) = (b[j]'(by omega)).2.2.2 := by
  obtain ⟨⟨f0, f1, f2, f3⟩, i0, i1, i2, i3⟩ := cellsV_first (l := a) (j := j) (by omega)
  obtain ⟨⟨g0, g1, g2, g3⟩, k0, k1, k2, k3⟩ := cellsV_first (l := b) (j := j) (by omega)
  have xa := l1 _ (List.mem_map_of_mem (f := laR4) (List.getElem_mem (l := a) (n := j) (by omega)))
  have xb := l2 _ (List.mem_map_of_mem (f := laR4) (List.getElem_mem (l := b) (n := j) (by omega)))
  have ya := m1 _ (List.mem_map_of_mem (f := maR4) (List.getElem_mem (l := a) (n := j) (by omega)))
  have yb := m2 _ (List.mem_map_of_mem (f := maR4) (List.getElem_mem (l := b) (n := j) (by omega)))
  refine ⟨fun p hp => ?_, ?_, ?_, i2, i3, k2, k3⟩
  · simp only [rbL, List.mem_cons, List.not_mem_nil, or_false] at hp
    rcases hp with rfl | rfl | rfl | rfl | rfl | rfl | rfl | rfl | rfl | rfl | rfl | rfl | rfl | rfl | rfl
    · rw [Nat.blt_eq]; exact hj
    · exact f0
    · exact f1
    · exact f2
    · exact f3
    · exact g0
    · exact g1
    · exact g2
    · exact g3
    · trivial
    · trivial
    · trivial
    · trivial
    · rw [i0, i1, i2, i3, k0, k1, k2, k3]; exact sum_fine xa xb hu hv
    · rw [i0, i1, k0, k1]; exact sum_fine ya yb hu hv
  · show coF u v (larR (intAt (cellsV a) (0 + j * 4)) (intAt (cellsV a) (0 + j * 4 + 1)) (boolAt (cellsV a) (0 + j * 4 + 1 + 1)) (boolAt (cellsV a) (0 + j * 4 + 1 + 1 + 1))) (larR (intAt (cellsV b) (0 + j * 4)) (intAt (cellsV b) (0 + j * 4 + 1)) (boolAt (cellsV b) (0 + j * 4 + 1 + 1)) (boolAt (cellsV b) (0 + j * 4 + 1 + 1 + 1))) = _
    rw [i0, i1, i2, i3, k0, k1, k2, k3]; rfl
  · show coF u v (mabR (intAt (cellsV a) (0 + j * 4)) (intAt (cellsV a) (0 + j * 4 + 1))) (mabR (intAt (cellsV b) (0 + j * 4)) (intAt (cellsV b) (0 + j * 4 + 1))) = _
    rw [i0, i1, k0, k1]; rfl
set_option maxRecDepth 100000 in
theorem rb_loop (a b : List V4) (u v : Int) (n e row k e' row' k' : Nat) (ha : a.length = n) (hb : b.length = n) (h1 : n ≤ 65536) (l1 : bd0 (a.map laR4)) (l2 : bd0 (b.map laR4)) (m1 : bd0 (a.map maR4)) (m2 : bd0 (b.map maR4)) (hu : lim1 u) (hv : lim1 v) : ∀ (s : AAct) (h : AHeap), Laid (rbB a b e row e' row' u v 0) (nG1 + ·) h → s.n = 96 → s.marks = [] → [0, 1, 5, 6, 7, 8].map s.tmp = rbV n k k' (nG1 + ·) 0 →
    J Tryz.prog (.loop (loopOf Tryz.prog 58 0)) s h (told 96 [0, 1, 5, 6, 7, 8] fun ex vs h' => ex = .exit 0 ∧ vs = rbV n k k' (nG1 + ·) n ∧ h' = rbC (cellsV a) (cellsV b) e row e' row' u v (roL (rbLo a b u v) n) (roL (rbHi a b u v) n) (opn a b n)) := by
  intro s h hs hn hm hv'
  have cl : (rbLo a b u v).length = n := coL_len (by rw [List.length_map, ha]) (by rw [List.length_map, hb])
  have ch : (rbHi a b u v).length = n := coL_len (by rw [List.length_map, ha]) (by rw [List.length_map, hb])
  refine fold_rule (L := 5) (C := rbB a b e row e' row' u v) globs_pos (by decide) (by decide) (fun _ => rfl) (fun j x hx => ?_) (V := rbV n k k') (I := fun _ => True) (m := n) trivial _ (nG1 + ·) (plus_nodup nG1 5) (fun q _ => by show Tryz.prog.globals.size ≤ nG1 + q; unfold nG1; omega) (fun j => by kernel_rfl) (fun j => by kernel_rfl)
    (fun at_ j q hq => ?_) ?_ ?_ s h hs hn hm hv'
  · simp only [List.mem_cons, List.not_mem_nil, or_false] at hx
    rcases hx with rfl | rfl | rfl | rfl | rfl
    · exact cellsV_flat a
    · exact cellsV_flat b
    · rfl
    · rfl
    · rfl
  · match q, hq with
    | 0, _ => exact ⟨(0, .slice (some ⟨at_ 0, 0, none⟩) n k), by simp, by simp [named]⟩
    | 1, _ => exact ⟨(1, .slice (some ⟨at_ 1, 0, none⟩) n k'), by simp, by simp [named]⟩
    | 2, _ => exact ⟨(5, .pointer (some ⟨at_ 2, 0, none⟩)), by simp, by simp [named]⟩
    | 3, _ => exact ⟨(6, .pointer (some ⟨at_ 3, 0, none⟩)), by simp, by simp [named]⟩
    | 4, _ => exact ⟨(7, .pointer (some ⟨at_ 4, 0, none⟩)), by simp, by simp [named]⟩
  · intro j hj _ g
    obtain ⟨fs, ex, ey, e2, e3, d2, d3⟩ := rb_fac a b u v n ha hb l1 l2 m1 m2 hu hv j hj
    have lt : Nat.blt j n = true := by rw [Nat.blt_eq]; exact hj
    have atL : (rbLo a b u v)[j]'(by omega) = rbX (cellsV a) (cellsV b) j u v := by
      rw [ex]
      have : (rbLo a b u v)[j]'(by omega) = coF u v ((a.map laR4)[j]'(by rw [List.length_map]; omega)) ((b.map laR4)[j]'(by rw [List.length_map]; omega)) := List.getElem_zipWith
      rw [this, List.getElem_map, List.getElem_map]
    have atH : (rbHi a b u v)[j]'(by omega) = rbY (cellsV a) (cellsV b) j u v := by
      rw [ey]
      have : (rbHi a b u v)[j]'(by omega) = coF u v ((a.map maR4)[j]'(by rw [List.length_map]; omega)) ((b.map maR4)[j]'(by rw [List.length_map]; omega)) := List.getElem_zipWith
      rw [this, List.getElem_map, List.getElem_map]
    have f2 : (cellsV a)[rbI j + 2]? = some (.bool (boolAt (cellsV a) (rbI j + 2))) := fs _ (.tail _ (.tail _ (.tail _ (.head _))))
    have f3 : (cellsV a)[rbI j + 3]? = some (.bool (boolAt (cellsV a) (rbI j + 3))) := fs _ (.tail _ (.tail _ (.tail _ (.tail _ (.head _)))))
    have g2 : (cellsV b)[rbI j + 2]? = some (.bool (boolAt (cellsV b) (rbI j + 2))) := fs _ (.tail _ (.tail _ (.tail _ (.tail _ (.tail _ (.tail _ (.tail _ (.head _))))))))
    have g3 : (cellsV b)[rbI j + 3]? = some (.bool (boolAt (cellsV b) (rbI j + 3))) := fs _ (.tail _ (.tail _ (.tail _ (.tail _ (.tail _ (.tail _ (.tail _ (.tail _ (.head _)))))))))
    have hv2 : [liP n k, slQ n k', ptN 2, ptN 3, ptN 4, gi (fwrap IntKind.i64 (Int.ofNat (j + 1)))] = rbV n k k' (nG1 + ·) (j + 1) := by rw [fwrap_nat (by omega)]; rfl
    have on := opn_next (a := a) (b := b) (j := j) (by omega) (by omega)
    have leaf : ∀ (x y l h lo hi : P2) (o o' : Bool), lo = roL (rbLo a b u v) (j + 1) → hi = roL (rbHi a b u v) (j + 1) → o' = opn a b (j + 1) → Laid (rbB a b e row e' row' u v (j + 1)) (nG1 + ·) (rbH (cellsV a) (cellsV b) e row e' row' u v l h o x y lo hi o') := by
      intro x y l h lo hi o o' q1 q2 q3
      subst q1 q2 q3
      exact rb_laid _ _ _ _ _ _ _ _ _ _ _ _ _ _ _ _
    by_cases j0 : j = 0
    · have hz : ieq (Int.ofNat j) 0 = true := by rw [j0]; rfl
      have oz : opn a b j = false := by rw [j0]; rfl
      have qL : rbX (cellsV a) (cellsV b) j u v = roL (rbLo a b u v) (j + 1) := by rw [← atL]; exact roL_first j0 (by omega)
      have qH : rbY (cellsV a) (cellsV b) j u v = roL (rbHi a b u v) (j + 1) := by rw [← atH]; exact roL_first j0 (by omega)
      show J Tryz.prog _ _ (rbC (cellsV a) (cellsV b) e row e' row' u v (roL (rbLo a b u v) j) (roL (rbHi a b u v) j) (opn a b j)) _
      rw [oz] at on ⊢
      cases p1 : boolAt (cellsV a) (rbI j + 2) with
      | true =>
        rw [← e2, p1] at on
        have oe : true = opn a b (j + 1) := by rw [on]; rfl
        exact execC_ok mixed orcKb_ok (askKb_ok 0) (noLoops _) (Eq.mpr (rb_0A _ _ n k k' e row e' row' j u v _ _ g _) ⟨fun _ => andIx_of fs ⟨hz, hz, lt, f2, p1, trivial, hv2, leaf _ _ _ _ _ _ _ _ qL qH oe⟩ _, fun hge => absurd (blt_false hge) (by omega)⟩)
      | false =>
        cases p2 : boolAt (cellsV a) (rbI j + 3) with
        | true =>
          rw [← e2, ← e3, p1, p2] at on
          have oe : true = opn a b (j + 1) := by rw [on]; rfl
          exact execC_ok mixed orcKb_ok (askKb_ok 0) (noLoops _) (Eq.mpr (rb_0B _ _ n k k' e row e' row' j u v _ _ g _) ⟨fun _ => andIx_of fs ⟨hz, hz, lt, f2, p1, lt, f3, p2, trivial, hv2, leaf _ _ _ _ _ _ _ _ qL qH oe⟩ _, fun hge => absurd (blt_false hge) (by omega)⟩)
        | false =>
          cases p3 : boolAt (cellsV b) (rbI j + 2) with
          | true =>
            rw [← e2, ← e3, ← d2, p1, p2, p3] at on
            have oe : true = opn a b (j + 1) := by rw [on]; rfl
            exact execC_ok mixed orcKb_ok (askKb_ok 0) (noLoops _) (Eq.mpr (rb_0C _ _ n k k' e row e' row' j u v _ _ g _) ⟨fun _ => andIx_of fs ⟨hz, hz, lt, f2, p1, lt, f3, p2, lt, g2, p3, trivial, hv2, leaf _ _ _ _ _ _ _ _ qL qH oe⟩ _, fun hge => absurd (blt_false hge) (by omega)⟩)
          | false =>
            rw [← e2, ← e3, ← d2, ← d3, p1, p2, p3] at on
            have oe : boolAt (cellsV b) (rbI j + 3) = opn a b (j + 1) := by rw [on]; rfl
            exact execC_ok mixed orcKb_ok (askKb_ok 0) (noLoops _) (Eq.mpr (rb_0D _ _ n k k' e row e' row' j u v _ _ g _) ⟨fun _ => andIx_of fs ⟨hz, hz, lt, f2, p1, lt, f3, p2, lt, g2, p3, lt, g3, trivial, hv2, leaf _ _ _ _ _ _ _ _ qL qH oe⟩ _, fun hge => absurd (blt_false hge) (by omega)⟩)
    · have hz : ieq (Int.ofNat j) 0 = false := ieq_ne (by simp only [Int.ofNat_eq_natCast]; omega)
      have lT : gtR (rbX (cellsV a) (cellsV b) j u v) (roL (rbLo a b u v) j) = true → rbX (cellsV a) (cellsV b) j u v = roL (rbLo a b u v) (j + 1) := fun q => by rw [← atL] at q ⊢; exact roL_t j0 (by omega) q
      have lF : gtR (rbX (cellsV a) (cellsV b) j u v) (roL (rbLo a b u v) j) = false → roL (rbLo a b u v) j = roL (rbLo a b u v) (j + 1) := fun q => by rw [← atL] at q; exact roL_f j0 (by omega) q
      have hT : gtR (rbY (cellsV a) (cellsV b) j u v) (roL (rbHi a b u v) j) = true → rbY (cellsV a) (cellsV b) j u v = roL (rbHi a b u v) (j + 1) := fun q => by rw [← atH] at q ⊢; exact roL_t j0 (by omega) q
      have hF : gtR (rbY (cellsV a) (cellsV b) j u v) (roL (rbHi a b u v) j) = false → roL (rbHi a b u v) j = roL (rbHi a b u v) (j + 1) := fun q => by rw [← atH] at q; exact roL_f j0 (by omega) q
      show J Tryz.prog _ _ (rbC (cellsV a) (cellsV b) e row e' row' u v (roL (rbLo a b u v) j) (roL (rbHi a b u v) j) (opn a b j)) _
      cases oz : opn a b j with
      | true =>
        rw [oz] at on
        have oe : true = opn a b (j + 1) := by rw [on]; rfl
        exact execC_ok mixed orcKb_ok (askKb_ok 0) (noLoops _) (Eq.mpr (rb_jT _ _ n k k' e row e' row' j u v _ _ g _) ⟨fun _ => andIx_of fs ⟨hz, fun z1 => ⟨hz, fun z2 => ⟨trivial, hv2, leaf _ _ _ _ _ _ _ _ (lT z1) (hT z2) oe⟩, fun z2 => ⟨trivial, hv2, leaf _ _ _ _ _ _ _ _ (lT z1) (hF z2) oe⟩⟩, fun z1 => ⟨hz, fun z2 => ⟨trivial, hv2, leaf _ _ _ _ _ _ _ _ (lF z1) (hT z2) oe⟩, fun z2 => ⟨trivial, hv2, leaf _ _ _ _ _ _ _ _ (lF z1) (hF z2) oe⟩⟩⟩ _, fun hge => absurd (blt_false hge) (by omega)⟩)
      | false =>
        rw [oz] at on
        cases p1 : boolAt (cellsV a) (rbI j + 2) with
        | true =>
          rw [← e2, p1] at on
          have oe : true = opn a b (j + 1) := by rw [on]; rfl
          exact execC_ok mixed orcKb_ok (askKb_ok 0) (noLoops _) (Eq.mpr (rb_jA _ _ n k k' e row e' row' j u v _ _ g _) ⟨fun _ => andIx_of fs ⟨hz, fun z1 => ⟨hz, fun z2 => ⟨lt, f2, p1, trivial, hv2, leaf _ _ _ _ _ _ _ _ (lT z1) (hT z2) oe⟩, fun z2 => ⟨lt, f2, p1, trivial, hv2, leaf _ _ _ _ _ _ _ _ (lT z1) (hF z2) oe⟩⟩, fun z1 => ⟨hz, fun z2 => ⟨lt, f2, p1, trivial, hv2, leaf _ _ _ _ _ _ _ _ (lF z1) (hT z2) oe⟩, fun z2 => ⟨lt, f2, p1, trivial, hv2, leaf _ _ _ _ _ _ _ _ (lF z1) (hF z2) oe⟩⟩⟩ _, fun hge => absurd (blt_false hge) (by omega)⟩)
        | false =>
          cases p2 : boolAt (cellsV a) (rbI j + 3) with
          | true =>
            rw [← e2, ← e3, p1, p2] at on
            have oe : true = opn a b (j + 1) := by rw [on]; rfl
            exact execC_ok mixed orcKb_ok (askKb_ok 0) (noLoops _) (Eq.mpr (rb_jB _ _ n k k' e row e' row' j u v _ _ g _) ⟨fun _ => andIx_of fs ⟨hz, fun z1 => ⟨hz, fun z2 => ⟨lt, f2, p1, lt, f3, p2, trivial, hv2, leaf _ _ _ _ _ _ _ _ (lT z1) (hT z2) oe⟩, fun z2 => ⟨lt, f2, p1, lt, f3, p2, trivial, hv2, leaf _ _ _ _ _ _ _ _ (lT z1) (hF z2) oe⟩⟩, fun z1 => ⟨hz, fun z2 => ⟨lt, f2, p1, lt, f3, p2, trivial, hv2, leaf _ _ _ _ _ _ _ _ (lF z1) (hT z2) oe⟩, fun z2 => ⟨lt, f2, p1, lt, f3, p2, trivial, hv2, leaf _ _ _ _ _ _ _ _ (lF z1) (hF z2) oe⟩⟩⟩ _, fun hge => absurd (blt_false hge) (by omega)⟩)
          | false =>
            cases p3 : boolAt (cellsV b) (rbI j + 2) with
            | true =>
              rw [← e2, ← e3, ← d2, p1, p2, p3] at on
              have oe : true = opn a b (j + 1) := by rw [on]; rfl
              exact execC_ok mixed orcKb_ok (askKb_ok 0) (noLoops _) (Eq.mpr (rb_jC _ _ n k k' e row e' row' j u v _ _ g _) ⟨fun _ => andIx_of fs ⟨hz, fun z1 => ⟨hz, fun z2 => ⟨lt, f2, p1, lt, f3, p2, lt, g2, p3, trivial, hv2, leaf _ _ _ _ _ _ _ _ (lT z1) (hT z2) oe⟩, fun z2 => ⟨lt, f2, p1, lt, f3, p2, lt, g2, p3, trivial, hv2, leaf _ _ _ _ _ _ _ _ (lT z1) (hF z2) oe⟩⟩, fun z1 => ⟨hz, fun z2 => ⟨lt, f2, p1, lt, f3, p2, lt, g2, p3, trivial, hv2, leaf _ _ _ _ _ _ _ _ (lF z1) (hT z2) oe⟩, fun z2 => ⟨lt, f2, p1, lt, f3, p2, lt, g2, p3, trivial, hv2, leaf _ _ _ _ _ _ _ _ (lF z1) (hF z2) oe⟩⟩⟩ _, fun hge => absurd (blt_false hge) (by omega)⟩)
            | false =>
              rw [← e2, ← e3, ← d2, ← d3, p1, p2, p3] at on
              have oe : boolAt (cellsV b) (rbI j + 3) = opn a b (j + 1) := by rw [on]; rfl
              exact execC_ok mixed orcKb_ok (askKb_ok 0) (noLoops _) (Eq.mpr (rb_jD _ _ n k k' e row e' row' j u v _ _ g _) ⟨fun _ => andIx_of fs ⟨hz, fun z1 => ⟨hz, fun z2 => ⟨lt, f2, p1, lt, f3, p2, lt, g2, p3, lt, g3, trivial, hv2, leaf _ _ _ _ _ _ _ _ (lT z1) (hT z2) oe⟩, fun z2 => ⟨lt, f2, p1, lt, f3, p2, lt, g2, p3, lt, g3, trivial, hv2, leaf _ _ _ _ _ _ _ _ (lT z1) (hF z2) oe⟩⟩, fun z1 => ⟨hz, fun z2 => ⟨lt, f2, p1, lt, f3, p2, lt, g2, p3, lt, g3, trivial, hv2, leaf _ _ _ _ _ _ _ _ (lF z1) (hT z2) oe⟩, fun z2 => ⟨lt, f2, p1, lt, f3, p2, lt, g2, p3, lt, g3, trivial, hv2, leaf _ _ _ _ _ _ _ _ (lF z1) (hF z2) oe⟩⟩⟩ _, fun hge => absurd (blt_false hge) (by omega)⟩)
  · intro _ g
    show J Tryz.prog _ _ (rbC (cellsV a) (cellsV b) e row e' row' u v (roL (rbLo a b u v) n) (roL (rbHi a b u v) n) (opn a b n)) _
    have ge : Nat.blt n n = false := by
      cases q : Nat.blt n n with
      | false => rfl
      | true => exact absurd (blt_true q) (by omega)
    cases opn a b n with
    | true => exact execC_ok mixed orcKb_ok (askKb_ok 0) (noLoops _) (Eq.mpr (rb_jT _ _ n k k' e row e' row' n u v _ _ g _) ⟨fun hlt => absurd (hlt.symm.trans ge) (by simp), fun _ => ⟨rfl, rfl, rfl⟩⟩)
    | false => exact execC_ok mixed orcKb_ok (askKb_ok 0) (noLoops _) (Eq.mpr (rb_jA _ _ n k k' e row e' row' n u v _ _ g _) ⟨fun hlt => absurd (hlt.symm.trans ge) (by simp), fun _ => ⟨rfl, rfl, rfl⟩⟩)
end Go.Proofs.YtihnnmejkpddeaaGreatDoor
