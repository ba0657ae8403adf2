/-
  OWN WORK. A round of filtered, and its loops.
-/
import Derived.Test.YthgojmebbhpbbaaGreatDoorKaH
import Derived.Test.YthgojmebbhpbbaaGreatDoorAmV
/-! (OWN WORK. Kernels: a round of the program's filter, for masks of 1 to 13 weights.) -/
namespace Go.Proofs.YthgojmebbhpbbaaGreatDoor
open Go Go.Am
noncomputable def plF (n j : Nat) (d i : Int) : Int := if ((Int.ofNat n - 1) : Int) < (if (0 : Int) > ((Int.ofNat j + d) + i) then 0 else ((Int.ofNat j + d) + i)) then (Int.ofNat n - 1) else (if (0 : Int) > ((Int.ofNat j + d) + i) then 0 else ((Int.ofNat j + d) + i))
noncomputable def padQ (u : List Value) (n j : Nat) (d : Int) (K : Int → Prop) (W : List Int) : Nat → Int → Prop :=
 List.rec (motive := fun _ => Nat → Int → Prop) (fun _ s => K s) (fun w _ ih i s => inI64 (Int.ofNat j + d) = true ∧ inI64 ((Int.ofNat j + d) + Int.ofNat i) = true ∧ inI64 (Int.ofNat n - 1) = true ∧ ahasIndex (plF n j d (Int.ofNat i)) n = true ∧
  u[(0 + (Int.toNat (plF n j d (Int.ofNat i)) * 1))]? = some (gi (intAt u (0 + (Int.toNat (plF n j d (Int.ofNat i)) * 1)))) ∧ inI64 (w * intAt u (0 + (Int.toNat (plF n j d (Int.ofNat i)) * 1))) = true ∧ inI64 (s + (w * intAt u (0 + (Int.toNat (plF n j d (Int.ofNat i)) * 1)))) = true ∧
  ih (i + 1) (s + (w * intAt u (0 + (Int.toNat (plF n j d (Int.ofNat i)) * 1))))) W
noncomputable abbrev filV (n k j j' : Nat) (r : Value) (x : Value) : List Value := [slX nG1 n k, nilS, r, ptP (nG1 + 1), ptP (nG1 + 3), slX (nG1 + 5) j' n, goN n, x]
noncomputable abbrev filO (l : List Value) (e row : Nat) (W : List Value) (m : Nat) (d v : Int) (u : List Value) (n : Nat) (c : List Value) : List (Option AObj) := [some (.cells l e row true), some (.cells [slX (nG1 + 2) m m, gi d, gi v] 103 0 false), some (.cells W 3 2 false), some (.cells [slX (nG1 + 4) n n] 23 0 false), some (.cells u 3 2 false), some (.cells c 50 2 false)]
noncomputable abbrev filP (j : Nat) : List (Option AObj) := (List.range 41).map fun i => some (bif Nat.blt i j then .defd else .dead)
noncomputable def filR (l u : List Value) (W : List Value) (m : Nat) (d v : Int) (n k e row j : Nat) (c : List Value) (G : Exit → List Value → List Nat → List (Option AObj) → List (Option AObj) → Option AObj → Prop) (s : Int) : Prop :=
 ((ilt 0 v && (!(ilt 1048576 v))) && ((!(ilt s (-274877906944))) && (!(ilt 274877906944 s)))) = true ∧
 ((!(ieq (withinS (nearE s v) (-16384) 16384) 0)) = true → G .ret (filV n k j j (gi 4) (goN j)) ((nG1 + 51) :: canM (nG1 + 6) j) (filO l e row W m d v u n c) (filP j) (some .defd)) ∧
 ((!(ieq (withinS (nearE s v) (-16384) 16384) 0)) = false → ((!(ilt (nearE s v) (-16384))) && (!(ilt 16384 (nearE s v)))) = true ∧ Nat.ble (j + 1) n = true ∧ Nat.ble (0 + j * 1 + 1) c.length = true ∧
  G .normal (filV n k j (j + 1) (gi 0) (gi (fwrap .i64 (Int.ofNat (j + 1))))) ((nG1 + 51) :: canM (nG1 + 6) j) (filO l e row W m d v u n (splice c (0 + j * 1) [gf (sampleE (nearE s v))])) (filP j) (some .defd))
noncomputable def filG (G : Exit → List Value → List Nat → List (Option AObj) → List (Option AObj) → Option AObj → Prop) : Exit → List Value → List Nat → AHeap → Prop := fun ex vs ms h => G ex vs ms [h.get nG1, h.get (nG1 + 1), h.get (nG1 + 2), h.get (nG1 + 3), h.get (nG1 + 4), h.get (nG1 + 5)] ((List.range 41).map fun i => h.get (nG1 + 6 + i)) (h.get (nG1 + 51))
noncomputable def filA (l u : List Value) (W : List Int) (m : Nat) (d v : Int) (n k e row j : Nat) (c : List Value) (G : Exit → List Value → List Nat → List (Option AObj) → List (Option AObj) → Option AObj → Prop) : Prop :=
 (Nat.blt j n = true → padQ u n j d (filR l u (W.map gi) m d v n k e row j c G) W 0 0) ∧ (Nat.blt j n = false → G (.exit 0) (filV n k j j (gi 0) (goN j)) (canM (nG1 + 6) j) (filO l e row (W.map gi) m d v u n c) (filP j) none)
theorem fil_1 (l u : List Value) (w0 d v : Int) (n k e row j : Nat) (c : List Value) (g : Nat → Value) (G : Exit → List Value → List Nat → List (Option AObj) → List (Option AObj) → Option AObj → Prop) : execR Tryz.prog orcKi syFil (askKi 1) 200 [syFb] none (loopOf Tryz.prog 48 0) (stM 68 [(0, slX nG1 n k), (6, nilS), (7, gi 0), (9, ptP (nG1 + 1)), (10, ptP (nG1 + 3)), (11, slX (nG1 + 5) j n), (34, goN n), (35, goN j)] g (canM (nG1 + 6) j)) (padT 41 j (canonT [] (fun _ => 0) Tryz.prog.globals.size (filB l e row ([w0].map gi) 1 d v u n c))) (toldM 68 [0, 6, 7, 9, 10, 11, 34, 35] (filG G)) = filA l u [w0] 1 d v n k e row j c G := by kernel_rfl
theorem fil_2 (l u : List Value) (w0 w1 d v : Int) (n k e row j : Nat) (c : List Value) (g : Nat → Value) (G : Exit → List Value → List Nat → List (Option AObj) → List (Option AObj) → Option AObj → Prop) : execR Tryz.prog orcKi syFil (askKi 1) 200 [syFb] none (loopOf Tryz.prog 48 0) (stM 68 [(0, slX nG1 n k), (6, nilS), (7, gi 0), (9, ptP (nG1 + 1)), (10, ptP (nG1 + 3)), (11, slX (nG1 + 5) j n), (34, goN n), (35, goN j)] g (canM (nG1 + 6) j)) (padT 41 j (canonT [] (fun _ => 0) Tryz.prog.globals.size (filB l e row ([w0, w1].map gi) 2 d v u n c))) (toldM 68 [0, 6, 7, 9, 10, 11, 34, 35] (filG G)) = filA l u [w0, w1] 2 d v n k e row j c G := by kernel_rfl
theorem fil_3 (l u : List Value) (w0 w1 w2 d v : Int) (n k e row j : Nat) (c : List Value) (g : Nat → Value) (G : Exit → List Value → List Nat → List (Option AObj) → List (Option AObj) → Option AObj → Prop) : execR Tryz.prog orcKi syFil (askKi 1) 200 [syFb] none (loopOf Tryz.prog 48 0) (stM 68 [(0, slX nG1 n k), (6, nilS), (7, gi 0), (9, ptP (nG1 + 1)), (10, ptP (nG1 + 3)), (11, slX (nG1 + 5) j n), (34, goN n), (35, goN j)] g (canM (nG1 + 6) j)) (padT 41 j (canonT [] (fun _ => 0) Tryz.prog.globals.size (filB l e row ([w0, w1, w2].map gi) 3 d v u n c))) (toldM 68 [0, 6, 7, 9, 10, 11, 34, 35] (filG G)) = filA l u [w0, w1, w2] 3 d v n k e row j c G := by kernel_rfl
theorem fil_4 (l u : List Value) (w0 w1 w2 w3 d v : Int) (n k e row j : Nat) (c : List Value) (g : Nat → Value) (G : Exit → List Value → List Nat → List (Option AObj) → List (Option AObj) → Option AObj → Prop) : execR Tryz.prog orcKi syFil (askKi 1) 200 [syFb] none (loopOf Tryz.prog 48 0) (stM 68 [(0, slX nG1 n k), (6, nilS), (7, gi 0), (9, ptP (nG1 + 1)), (10, ptP (nG1 + 3)), (11, slX (nG1 + 5) j n), (34, goN n), (35, goN j)] g (canM (nG1 + 6) j)) (padT 41 j (canonT [] (fun _ => 0) Tryz.prog.globals.size (filB l e row ([w0, w1, w2, w3].map gi) 4 d v u n c))) (toldM 68 [0, 6, 7, 9, 10, 11, 34, 35] (filG G)) = filA l u [w0, w1, w2, w3] 4 d v n k e row j c G := by kernel_rfl
theorem fil_5 (l u : List Value) (w0 w1 w2 w3 w4 d v : Int) (n k e row j : Nat) (c : List Value) (g : Nat → Value) (G : Exit → List Value → List Nat → List (Option AObj) → List (Option AObj) → Option AObj → Prop) : execR Tryz.prog orcKi syFil (askKi 1) 200 [syFb] none (loopOf Tryz.prog 48 0) (stM 68 [(0, slX nG1 n k), (6, nilS), (7, gi 0), (9, ptP (nG1 + 1)), (10, ptP (nG1 + 3)), (11, slX (nG1 + 5) j n), (34, goN n), (35, goN j)] g (canM (nG1 + 6) j)) (padT 41 j (canonT [] (fun _ => 0) Tryz.prog.globals.size (filB l e row ([w0, w1, w2, w3, w4].map gi) 5 d v u n c))) (toldM 68 [0, 6, 7, 9, 10, 11, 34, 35] (filG G)) = filA l u [w0, w1, w2, w3, w4] 5 d v n k e row j c G := by kernel_rfl
theorem fil_6 (l u : List Value) (w0 w1 w2 w3 w4 w5 d v : Int) (n k e row j : Nat) (c : List Value) (g : Nat → Value) (G : Exit → List Value → List Nat → List (Option AObj) → List (Option AObj) → Option AObj → Prop) : execR Tryz.prog orcKi syFil (askKi 1) 200 [syFb] none (loopOf Tryz.prog 48 0) (stM 68 [(0, slX nG1 n k), (6, nilS), (7, gi 0), (9, ptP (nG1 + 1)), (10, ptP (nG1 + 3)), (11, slX (nG1 + 5) j n), (34, goN n), (35, goN j)] g (canM (nG1 + 6) j)) (padT 41 j (canonT [] (fun _ => 0) Tryz.prog.globals.size (filB l e row ([w0, w1, w2, w3, w4, w5].map gi) 6 d v u n c))) (toldM 68 [0, 6, 7, 9, 10, 11, 34, 35] (filG G)) = filA l u [w0, w1, w2, w3, w4, w5] 6 d v n k e row j c G := by kernel_rfl
theorem fil_7 (l u : List Value) (w0 w1 w2 w3 w4 w5 w6 d v : Int) (n k e row j : Nat) (c : List Value) (g : Nat → Value) (G : Exit → List Value → List Nat → List (Option AObj) → List (Option AObj) → Option AObj → Prop) : execR Tryz.prog orcKi syFil (askKi 1) 200 [syFb] none (loopOf Tryz.prog 48 0) (stM 68 [(0, slX nG1 n k), (6, nilS), (7, gi 0), (9, ptP (nG1 + 1)), (10, ptP (nG1 + 3)), (11, slX (nG1 + 5) j n), (34, goN n), (35, goN j)] g (canM (nG1 + 6) j)) (padT 41 j (canonT [] (fun _ => 0) Tryz.prog.globals.size (filB l e row ([w0, w1, w2, w3, w4, w5, w6].map gi) 7 d v u n c))) (toldM 68 [0, 6, 7, 9, 10, 11, 34, 35] (filG G)) = filA l u [w0, w1, w2, w3, w4, w5, w6] 7 d v n k e row j c G := by kernel_rfl
theorem fil_8 (l u : List Value) (w0 w1 w2 w3 w4 w5 w6 w7 d v : Int) (n k e row j : Nat) (c : List Value) (g : Nat → Value) (G : Exit → List Value → List Nat → List (Option AObj) → List (Option AObj) → Option AObj → Prop) : execR Tryz.prog orcKi syFil (askKi 1) 200 [syFb] none (loopOf Tryz.prog 48 0) (stM 68 [(0, slX nG1 n k), (6, nilS), (7, gi 0), (9, ptP (nG1 + 1)), (10, ptP (nG1 + 3)), (11, slX (nG1 + 5) j n), (34, goN n), (35, goN j)] g (canM (nG1 + 6) j)) (padT 41 j (canonT [] (fun _ => 0) Tryz.prog.globals.size (filB l e row ([w0, w1, w2, w3, w4, w5, w6, w7].map gi) 8 d v u n c))) (toldM 68 [0, 6, 7, 9, 10, 11, 34, 35] (filG G)) = filA l u [w0, w1, w2, w3, w4, w5, w6, w7] 8 d v n k e row j c G := by kernel_rfl
theorem fil_9 (l u : List Value) (w0 w1 w2 w3 w4 w5 w6 w7 w8 d v : Int) (n k e row j : Nat) (c : List Value) (g : Nat → Value) (G : Exit → List Value → List Nat → List (Option AObj) → List (Option AObj) → Option AObj → Prop) : execR Tryz.prog orcKi syFil (askKi 1) 200 [syFb] none (loopOf Tryz.prog 48 0) (stM 68 [(0, slX nG1 n k), (6, nilS), (7, gi 0), (9, ptP (nG1 + 1)), (10, ptP (nG1 + 3)), (11, slX (nG1 + 5) j n), (34, goN n), (35, goN j)] g (canM (nG1 + 6) j)) (padT 41 j (canonT [] (fun _ => 0) Tryz.prog.globals.size (filB l e row ([w0, w1, w2, w3, w4, w5, w6, w7, w8].map gi) 9 d v u n c))) (toldM 68 [0, 6, 7, 9, 10, 11, 34, 35] (filG G)) = filA l u [w0, w1, w2, w3, w4, w5, w6, w7, w8] 9 d v n k e row j c G := by kernel_rfl
theorem fil_10 (l u : List Value) (w0 w1 w2 w3 w4 w5 w6 w7 w8 w9 d v : Int) (n k e row j : Nat) (c : List Value) (g : Nat → Value) (G : Exit → List Value → List Nat → List (Option AObj) → List (Option AObj) → Option AObj → Prop) : execR Tryz.prog orcKi syFil (askKi 1) 200 [syFb] none (loopOf Tryz.prog 48 0) (stM 68 [(0, slX nG1 n k), (6, nilS), (7, gi 0), (9, ptP (nG1 + 1)), (10, ptP (nG1 + 3)), (11, slX (nG1 + 5) j n), (34, goN n), (35, goN j)] g (canM (nG1 + 6) j)) (padT 41 j (canonT [] (fun _ => 0) Tryz.prog.globals.size (filB l e row ([w0, w1, w2, w3, w4, w5, w6, w7, w8, w9].map gi) 10 d v u n c))) (toldM 68 [0, 6, 7, 9, 10, 11, 34, 35] (filG G)) = filA l u [w0, w1, w2, w3, w4, w5, w6, w7, w8, w9] 10 d v n k e row j c G := by kernel_rfl
theorem fil_11 (l u : List Value) (w0 w1 w2 w3 w4 w5 w6 w7 w8 w9 w10 d v : Int) (n k e row j : Nat) (c : List Value) (g : Nat → Value) (G : Exit → List Value → List Nat → List (Option AObj) → List (Option AObj) → Option AObj → Prop) : execR Tryz.prog orcKi syFil (askKi 1) 200 [syFb] none (loopOf Tryz.prog 48 0) (stM 68 [(0, slX nG1 n k), (6, nilS), (7, gi 0), (9, ptP (nG1 + 1)), (10, ptP (nG1 + 3)), (11, slX (nG1 + 5) j n), (34, goN n), (35, goN j)] g (canM (nG1 + 6) j)) (padT 41 j (canonT [] (fun _ => 0) Tryz.prog.globals.size (filB l e row ([w0, w1, w2, w3, w4, w5, w6, w7, w8, w9, w10].map gi) 11 d v u n c))) (toldM 68 [0, 6, 7, 9, 10, 11, 34, 35] (filG G)) = filA l u [w0, w1, w2, w3, w4, w5, w6, w7, w8, w9, w10] 11 d v n k e row j c G := by kernel_rfl
theorem fil_12 (l u : List Value) (w0 w1 w2 w3 w4 w5 w6 w7 w8 w9 w10 w11 d v : Int) (n k e row j : Nat) (c : List Value) (g : Nat → Value) (G : Exit → List Value → List Nat → List (Option AObj) → List (Option AObj) → Option AObj → Prop) : execR Tryz.prog orcKi syFil (askKi 1) 200 [syFb] none (loopOf Tryz.prog 48 0) (stM 68 [(0, slX nG1 n k), (6, nilS), (7, gi 0), (9, ptP (nG1 + 1)), (10, ptP (nG1 + 3)), (11, slX (nG1 + 5) j n), (34, goN n), (35, goN j)] g (canM (nG1 + 6) j)) (padT 41 j (canonT [] (fun _ => 0) Tryz.prog.globals.size (filB l e row ([w0, w1, w2, w3, w4, w5, w6, w7, w8, w9, w10, w11].map gi) 12 d v u n c))) (toldM 68 [0, 6, 7, 9, 10, 11, 34, 35] (filG G)) = filA l u [w0, w1, w2, w3, w4, w5, w6, w7, w8, w9, w10, w11] 12 d v n k e row j c G := by kernel_rfl
theorem fil_13 (l u : List Value) (w0 w1 w2 w3 w4 w5 w6 w7 w8 w9 w10 w11 w12 d v : Int) (n k e row j : Nat) (c : List Value) (g : Nat → Value) (G : Exit → List Value → List Nat → List (Option AObj) → List (Option AObj) → Option AObj → Prop) : execR Tryz.prog orcKi syFil (askKi 1) 200 [syFb] none (loopOf Tryz.prog 48 0) (stM 68 [(0, slX nG1 n k), (6, nilS), (7, gi 0), (9, ptP (nG1 + 1)), (10, ptP (nG1 + 3)), (11, slX (nG1 + 5) j n), (34, goN n), (35, goN j)] g (canM (nG1 + 6) j)) (padT 41 j (canonT [] (fun _ => 0) Tryz.prog.globals.size (filB l e row ([w0, w1, w2, w3, w4, w5, w6, w7, w8, w9, w10, w11, w12].map gi) 13 d v u n c))) (toldM 68 [0, 6, 7, 9, 10, 11, 34, 35] (filG G)) = filA l u [w0, w1, w2, w3, w4, w5, w6, w7, w8, w9, w10, w11, w12] 13 d v n k e row j c G := by kernel_rfl
end Go.Proofs.YthgojmebbhpbbaaGreatDoor
/-! (OWN WORK. Kernels: the program's filter: its loop.) -/
namespace Go.Proofs.YthgojmebbhpbbaaGreatDoor
open Go Go.Am
noncomputable abbrev filT : List Nat := [0, 6, 7, 9, 10, 11, 34, 35]
set_option maxRecDepth 100000 in
theorem fil_J (l u : List Value) (W : List Int) (d v : Int) (n k e row j : Nat) (c : List Value) (g : Nat → Value) (G : Exit → List Value → List Nat → List (Option AObj) → List (Option AObj) → Option AObj → Prop) (h1 : 1 ≤ W.length) (h2 : W.length ≤ 13) (hA : filA l u W W.length d v n k e row j c G) :
  J Tryz.prog (loopOf Tryz.prog 48 0) (stM 68 (filT.zip (filV n k j j (gi 0) (goN j))) g (canM (nG1 + 6) j)) (padT 41 j (canonT [] (fun _ => 0) Tryz.prog.globals.size (filB l e row (W.map gi) W.length d v u n c))) (toldM 68 filT (filG G)) :=
 match W, h1, h2, hA with
  | [w0], _, _, hA => J.ofR mixed orcKi_ok (askKi_ok 1) (Eq.mpr (fil_1 l u w0 d v n k e row j c g G) hA)
  | [w0, w1], _, _, hA => J.ofR mixed orcKi_ok (askKi_ok 1) (Eq.mpr (fil_2 l u w0 w1 d v n k e row j c g G) hA)
  | [w0, w1, w2], _, _, hA => J.ofR mixed orcKi_ok (askKi_ok 1) (Eq.mpr (fil_3 l u w0 w1 w2 d v n k e row j c g G) hA)
  | [w0, w1, w2, w3], _, _, hA => J.ofR mixed orcKi_ok (askKi_ok 1) (Eq.mpr (fil_4 l u w0 w1 w2 w3 d v n k e row j c g G) hA)
  | [w0, w1, w2, w3, w4], _, _, hA => J.ofR mixed orcKi_ok (askKi_ok 1) (Eq.mpr (fil_5 l u w0 w1 w2 w3 w4 d v n k e row j c g G) hA)
  | [w0, w1, w2, w3, w4, w5], _, _, hA => J.ofR mixed orcKi_ok (askKi_ok 1) (Eq.mpr (fil_6 l u w0 w1 w2 w3 w4 w5 d v n k e row j c g G) hA)
  | [w0, w1, w2, w3, w4, w5, w6], _, _, hA => J.ofR mixed orcKi_ok (askKi_ok 1) (Eq.mpr (fil_7 l u w0 w1 w2 w3 w4 w5 w6 d v n k e row j c g G) hA)
  | [w0, w1, w2, w3, w4, w5, w6, w7], _, _, hA => J.ofR mixed orcKi_ok (askKi_ok 1) (Eq.mpr (fil_8 l u w0 w1 w2 w3 w4 w5 w6 w7 d v n k e row j c g G) hA)
  | [w0, w1, w2, w3, w4, w5, w6, w7, w8], _, _, hA => J.ofR mixed orcKi_ok (askKi_ok 1) (Eq.mpr (fil_9 l u w0 w1 w2 w3 w4 w5 w6 w7 w8 d v n k e row j c g G) hA)
  | [w0, w1, w2, w3, w4, w5, w6, w7, w8, w9], _, _, hA => J.ofR mixed orcKi_ok (askKi_ok 1) (Eq.mpr (fil_10 l u w0 w1 w2 w3 w4 w5 w6 w7 w8 w9 d v n k e row j c g G) hA)
  | [w0, w1, w2, w3, w4, w5, w6, w7, w8, w9, w10], _, _, hA => J.ofR mixed orcKi_ok (askKi_ok 1) (Eq.mpr (fil_11 l u w0 w1 w2 w3 w4 w5 w6 w7 w8 w9 w10 d v n k e row j c g G) hA)
  | [w0, w1, w2, w3, w4, w5, w6, w7, w8, w9, w10, w11], _, _, hA => J.ofR mixed orcKi_ok (askKi_ok 1) (Eq.mpr (fil_12 l u w0 w1 w2 w3 w4 w5 w6 w7 w8 w9 w10 w11 d v n k e row j c g G) hA)
  | [w0, w1, w2, w3, w4, w5, w6, w7, w8, w9, w10, w11, w12], _, _, hA => J.ofR mixed orcKi_ok (askKi_ok 1) (Eq.mpr (fil_13 l u w0 w1 w2 w3 w4 w5 w6 w7 w8 w9 w10 w11 w12 d v n k e row j c g G) hA)
  | _ :: _ :: _ :: _ :: _ :: _ :: _ :: _ :: _ :: _ :: _ :: _ :: _ :: _ :: _, _, h2, _ => absurd h2 (by simp)
theorem amapM_flat {n : Nat} {ids : List Nat} : ∀ {c : List Value}, c.all (flat 3) = true → amapM (renV n ids) c = some c
 | [], _ => rfl
 | x :: c, h => by
  rw [List.all_cons, Bool.and_eq_true] at h
  have hx : renV n ids x = some x := by unfold renV; rw [h.1]
  simp only [amapM, hx, amapM_flat h.2, Option.map_some]
theorem plF_bd {n j : Nat} (d i : Int) (hn : 1 ≤ n) : 0 ≤ plF n j d i ∧ plF n j d i < n := by
 unfold plF
 simp only [Int.ofNat_eq_natCast]
 repeat' split
 all_goals omega
theorem ahas {x : Int} {n : Nat} (h0 : 0 ≤ x) (h1 : x < n) : ahasIndex x n = true := by
 cases x with
 | ofNat m =>
  show Nat.blt m n = true
  rw [Nat.blt_eq]
  exact Int.ofNat_lt.1 h1
 | negSucc m => exact absurd h0 (by omega)
noncomputable def plN (n j : Nat) (d i : Int) : Nat := (plF n j d i).toNat
theorem plN_lt {n j : Nat} (d i : Int) (hn : 1 ≤ n) : plN n j d i < n := by
 obtain ⟨h0, h1⟩ := plF_bd (j := j) d i hn
 unfold plN; omega
noncomputable def dotE (U : List Int) (n j : Nat) (d : Int) : List Int → Nat → Int → Int
 | [], _, s => s
 | w :: W, i, s => dotE U n j d W (i + 1) (s + w * U.getD (plN n j d (Int.ofNat i)) 0)
theorem unit_bd {U : List Int} {n j : Nat} {d i : Int} (hU : U.length = n) (h1 : 1 ≤ n) (hu : ∀ x ∈ U, Bd 16384 x) : Bd 16384 (U.getD (plN n j d i) 0) := by
 have hlt : plN n j d i < U.length := by rw [hU]; exact plN_lt d i h1
 rw [List.getD_eq_getElem?_getD, List.getElem?_eq_getElem hlt]
 exact hu _ (List.getElem_mem hlt)
theorem dotE_bd {U : List Int} {n j : Nat} {d : Int} (hU : U.length = n) (h1 : 1 ≤ n) (hu : ∀ x ∈ U, Bd 16384 x) {B : Nat} (hB : 490000 * 16384 ≤ B) : ∀ (W : List Int) (i : Nat) (s : Int), (∀ w ∈ W, Bd 490000 w) → i + W.length ≤ 13 → Bd (i * B) s → Bd (13 * B) (dotE U n j d W i s)
 | [], i, s, _, hi, hs => hs.le (Nat.mul_le_mul_right B (by simpa using hi))
 | w :: W, i, s, hw, hi, hs => by
  have hx := (hw w (by simp)).mul (unit_bd (j := j) (d := d) (i := Int.ofNat i) hU h1 hu)
  rw [List.length_cons] at hi
  exact dotE_bd hU h1 hu hB W (i + 1) _ (fun x hx => hw x (by simp [hx])) (by omega) ((hs.add hx).le (by
   have e : (i + 1) * B = i * B + B := by rw [Nat.add_mul, Nat.one_mul]
   omega))
theorem padQ_ok {U : List Int} {n j : Nat} {d : Int} {K : Int → Prop} (hU : U.length = n) (h1 : 1 ≤ n) (hn : n ≤ 65536) (hj : j ≤ 65536) (hd : Bd 100 d) (hu : ∀ x ∈ U, Bd 16384 x) {B : Nat} (hB : 490000 * 16384 ≤ B) (hB2 : B ≤ 8028160000) : ∀ (W : List Int) (i : Nat) (s : Int), (∀ w ∈ W, Bd 490000 w) → i + W.length ≤ 13 → Bd (i * B) s → K (dotE U n j d W i s) → padQ (U.map gi) n j d K W i s
 | [], i, s, _, _, _, hk => hk
 | w :: W, i, s, hw, hi, hs, hk => by
  have hx := (hw w (by simp)).mul (unit_bd (j := j) (d := d) (i := Int.ofNat i) hU h1 hu)
  have hlt : plN n j d (Int.ofNat i) < U.length := by rw [hU]; exact plN_lt d _ h1
  obtain ⟨p0, p1⟩ := plF_bd (j := j) d (Int.ofNat i) h1
  obtain ⟨f0, i0⟩ := gi_at hlt
  have i1 : intAt (U.map gi) (0 + (Int.toNat (plF n j d (Int.ofNat i)) * 1)) = U.getD (plN n j d (Int.ofNat i)) 0 := by
   rw [List.getD_eq_getElem?_getD, List.getElem?_eq_getElem hlt]; exact i0
  rw [List.length_cons] at hi
  have hiB : i * B ≤ 13 * B := Nat.mul_le_mul_right B (by omega)
  unfold Bd at hd
  refine ⟨inI64_small (by simp only [Int.ofNat_eq_natCast]; omega) (by simp only [Int.ofNat_eq_natCast]; omega), inI64_small (by simp only [Int.ofNat_eq_natCast]; omega) (by simp only [Int.ofNat_eq_natCast]; omega), inI64_small (by simp only [Int.ofNat_eq_natCast]; omega) (by simp only [Int.ofNat_eq_natCast]; omega), ahas p0 p1, f0, ?_, ?_, ?_⟩
  ·rw [i1]; exact hx.in (by omega)
  ·rw [i1]; exact (hs.add hx).in (by omega)
  ·rw [i1]
   exact padQ_ok hU h1 hn hj hd hu hB hB2 W (i + 1) _ (fun x hx => hw x (by simp [hx])) (by omega) ((hs.add hx).le (by
   have e : (i + 1) * B = i * B + B := by rw [Nat.add_mul, Nat.one_mul]
   omega)) hk
noncomputable def valU (U : List Int) (n : Nat) (W : List Int) (d v : Int) (j : Nat) : Int := nearE (dotE U n j d W 0 0) v
def okU (x : Int) : Prop := withinS x (-16384) 16384 = 0
theorem okU_iff {x : Int} : okU x ↔ Bd 16384 x := by
 unfold okU withinS Bd
 rw [ilt_say, ilt_say]
 constructor
 ·intro h
  have h := whenS_zero (by omega) h
  simp at h
  omega
 ·intro h
  rw [show (decide (x < -16384) || decide (16384 < x)) = false by simp; omega]
  rfl
noncomputable def dstF (f : Nat → Int) (n j : Nat) : List Value := ((List.range j).map fun i => gf (sampleE (f i))) ++ List.replicate (n - j) (gf 0)
theorem dstF_length {f : Nat → Int} {n j : Nat} (h : j ≤ n) : (dstF f n j).length = n := by simp [dstF]; omega
theorem dstF_set {f : Nat → Int} {n j : Nat} (h : j < n) : splice (dstF f n j) (0 + j * 1) [gf (sampleE (f j))] = dstF f n (j + 1) := by
 have hA : ((List.range j).map fun i => gf (sampleE (f i))).length = j := by simp
 unfold splice dstF
 rw [show 0 + j * 1 = j by omega, List.range_succ, List.map_append, show n - j = (n - (j + 1)) + 1 by omega, List.replicate_succ]
 rw [List.take_append_of_le_length (by omega), List.take_of_length_le (by omega), List.drop_append, List.drop_eq_nil_of_le (by simp), hA]
 simp
theorem dstF_flat (f : Nat → Int) (n j : Nat) : (dstF f n j).all (flat 3) = true := by
 rw [List.all_eq_true]
 intro x hx
 rcases List.mem_append.1 hx with hx | hx
 ·obtain ⟨i, _, rfl⟩ := List.mem_map.1 hx; rfl
 ·rw [(List.mem_replicate.1 hx).2]; rfl
theorem marks_ok0 {j : Nat} {h : AHeap} (hj : j ≤ 41) (hP : ((List.range 41).map fun i => h.get (nG1 + 6 + i)) = filP j) : MarksOk j (canM (nG1 + 6) j) h := by
 refine ⟨canM_length _ _, canM_nodup _ _, fun m hm => ?_⟩
 obtain ⟨h1, h2⟩ := canM_mem hm
 have e := congrArg (fun x : List (Option AObj) => x[m - (nG1 + 6)]?) hP
 simp only [filP, List.getElem?_map, List.getElem?_range (show m - (nG1 + 6) < 41 by omega), Option.map_some, Option.some.injEq] at e
 rw [show nG1 + 6 + (m - (nG1 + 6)) = m by omega, show Nat.blt (m - (nG1 + 6)) j = true by rw [Nat.blt_eq]; omega] at e
 exact e
theorem marks_ok {j : Nat} {h : AHeap} (hj : j ≤ 41) (hP : ((List.range 41).map fun i => h.get (nG1 + 6 + i)) = filP j) (hx : h.get (nG1 + 51) = some .defd) : MarksOk (j + 1) ((nG1 + 51) :: canM (nG1 + 6) j) h := by
 obtain ⟨m1, m2, m3⟩ := marks_ok0 hj hP
 refine ⟨congrArg (· + 1) m1, List.nodup_cons.2 ⟨fun hm => ?_, m2⟩, fun m hm => ?_⟩
 ·have := canM_mem hm; omega
 ·rcases List.mem_cons.1 hm with rfl | hm
  ·exact hx
  ·exact m3 m hm
end Go.Proofs.YthgojmebbhpbbaaGreatDoor
/-! (OWN WORK. Kernels: the program's filter.) -/
namespace Go.Proofs.YthgojmebbhpbbaaGreatDoor
open Go Go.Am
theorem okU_not {x : Int} (h : (!(ieq (withinS x (-16384) 16384) 0)) = true) : ¬ okU x := fun hx => by
 unfold okU at hx
 rw [hx] at h
 cases h
theorem okU_yes {x : Int} (h : (!(ieq (withinS x (-16384) 16384) 0)) = false) : okU x := by
 have h := not_ieqF h
 rw [ieq_dec] at h
 simpa [okU] using h
noncomputable abbrev filC (l : List Nat) (U W : List Int) (d v : Int) (n e row : Nat) : (Nat → Nat) → Nat → List Blk := fun at_ j => [(l.map gf, e, row, true), ([slX (at_ 2) W.length W.length, gi d, gi v], 103, 0, false), (W.map gi, 3, 2, false), ([slX (at_ 4) n n], 23, 0, false), (U.map gi, 3, 2, false), (dstF (valU U n W d v) n j, 50, 2, false)]
noncomputable abbrev filW (n k : Nat) : (Nat → Nat) → Nat → List Value := fun at_ j => [slX (at_ 0) n k, nilS, gi 0, ptP (at_ 1), ptP (at_ 3), slX (at_ 5) j n, goN n, goN j]
noncomputable abbrev filAt : Nat → Nat := fun q => match q with
 | 0 => nG1
 | 1 => nG1 + 4
 | 2 => nG1 + 3
 | 3 => nG1 + 6
 | 4 => nG1 + 5
 | _ => nG1 + 7
def filOut (U W : List Int) (d v : Int) (n : Nat) : Exit → List Value → List Nat → AHeap → Prop := fun ex vs ms h => (ms.Nodup ∧ ∀ m ∈ ms, h.get m = some .defd) ∧
 ((ex = .exit 0 ∧ (∀ i, i < n → okU (valU U n W d v i)) ∧ (∃ x y z x' y', vs = [x, nilS, gi 0, y, z, slX (nG1 + 5) n n, x', y']) ∧ h.get (nG1 + 5) = some (.cells (dstF (valU U n W d v) n n) 50 2 false)) ∨
  (ex = .ret ∧ (∃ i, i < n ∧ ¬ okU (valU U n W d v i)) ∧ ∃ x y z p x' y', vs = [x, nilS, gi 4, y, z, p, x', y']))
set_option maxRecDepth 100000 in
theorem fil_loop (l : List Nat) (U W : List Int) (d v : Int) (n k e row : Nat) (hl : l.length = n) (hU : U.length = n) (h1 : 1 ≤ n) (hn : n ≤ 41) (hW : 1 ≤ W.length ∧ W.length ≤ 13) (hw : ∀ w ∈ W, Bd 490000 w) (hu : ∀ x ∈ U, Bd 16384 x) (hd : Bd 100 d) (hv : ilt 0 v = true ∧ v ≤ 1048576) :
  ∀ (a : AAct) (h : AHeap), Laid (filC l U W d v n e row filAt 0) filAt h → a.n = 68 → a.marks = [] → filT.map a.tmp = filW n k filAt 0 →
  J Tryz.prog (.loop (loopOf Tryz.prog 48 0)) a h (toldM 68 filT (filOut U W d v n)) := by
 have near : ∀ j, j ≤ n → ((ilt 0 v && (!(ilt 1048576 v))) && ((!(ilt (dotE U n j d W 0 0) (-274877906944))) && (!(ilt 274877906944 (dotE U n j d W 0 0))))) = true := fun j hj => by
  have hb := dotE_bd (j := j) (d := d) (B := 8028160000) hU h1 hu (by omega) W 0 0 hw (by omega) (by unfold Bd; omega)
  unfold Bd at hb
  rw [hv.1]
  simp only [ilt_say, Bool.true_and, Bool.and_eq_true, Bool.not_eq_true', decide_eq_false_iff_not]
  have := hv.2
  omega
 refine fold_ruleM (L := 6) (C := filC l U W d v n e row) (R := 41) globs_pos (by decide) (by decide) (fun _ _ => rfl) (V := filW n k) (I := fun j => ∀ i, i < j → okU (valU U n W d v i)) (m := n) hn (fun i hi => absurd hi (by omega)) _ filAt (by decide) ?_ ?_ (fun j => by kernel_rfl) (fun j => by kernel_rfl) ?_ ?_ ?_
 ·intro j q b hb
  match q, hb with
  | 0, hb => cases hb; exact ⟨_, rfl, amapM_flat (flat_floats l), rfl⟩
  | 1, hb => cases hb; exact ⟨_, rfl, rfl, rfl⟩
  | 2, hb => cases hb; exact ⟨_, rfl, amapM_flat (flat_ints _), rfl⟩
  | 3, hb => cases hb; exact ⟨_, rfl, rfl, rfl⟩
  | 4, hb => cases hb; exact ⟨_, rfl, amapM_flat (flat_ints _), rfl⟩
  | 5, hb => cases hb; exact ⟨_, rfl, amapM_flat (dstF_flat _ _ _), rfl⟩
 ·intro j q b hb
  match q, hb with
  | 0, hb => cases hb; exact amapM_flat (flat_floats l)
  | 1, hb => cases hb; exact rfl
  | 2, hb => cases hb; exact amapM_flat (flat_ints _)
  | 3, hb => cases hb; exact rfl
  | 4, hb => cases hb; exact amapM_flat (flat_ints _)
  | 5, hb => cases hb; exact amapM_flat (dstF_flat _ _ _)
 ·intro at_ j q hq
  match q, hq with
  | 0, _ => exact .inl ⟨(0, slX (at_ 0) n k), by simp, by simp [named]⟩
  | 1, _ => exact .inl ⟨(9, ptP (at_ 1)), by simp, by simp [named]⟩
  | 2, _ => exact .inr ⟨1, _, slX (at_ 2) W.length W.length, by omega, rfl, by simp, by simp [named]⟩
  | 3, _ => exact .inl ⟨(10, ptP (at_ 3)), by simp, by simp [named]⟩
  | 4, _ => exact .inr ⟨3, _, slX (at_ 4) n n, by omega, rfl, by simp, by simp [named]⟩
  | 5, _ => exact .inl ⟨(11, slX (at_ 5) j n), by simp, by simp [named]⟩
 ·intro j hj hI g
  have hA : filA (l.map gf) (U.map gi) W W.length d v n k e row j (dstF (valU U n W d v) n j) (fun ex vs ms A Pd x => (Pd = filP j ∧ x = some .defd ∧ ms = (nG1 + 51) :: canM (nG1 + 6) j) ∧
    ((ex = .normal ∧ okU (valU U n W d v j) ∧ vs = filV n k j (j + 1) (gi 0) (goN (j + 1)) ∧ A = filO (l.map gf) e row (W.map gi) W.length d v (U.map gi) n (dstF (valU U n W d v) n (j + 1))) ∨
     (ex = .ret ∧ ¬ okU (valU U n W d v j) ∧ vs = filV n k j j (gi 4) (goN j)))) := by
   refine ⟨fun _ => padQ_ok hU h1 (by omega) (by omega) hd hu (B := 8028160000) (by omega) (by omega) W 0 0 hw (by omega) (by unfold Bd; omega) ⟨near j (by omega), fun hx => ⟨⟨rfl, rfl, rfl⟩, .inr ⟨rfl, okU_not hx, rfl⟩⟩, fun hx => ?_⟩, fun hge => absurd (blt_false hge) (by omega)⟩
   have ho : okU (valU U n W d v j) := okU_yes hx
   have hb := okU_iff.1 ho
   unfold Bd at hb
   refine ⟨?_, by rw [Nat.ble_eq]; omega, by rw [Nat.ble_eq, dstF_length (by omega)]; omega, ⟨rfl, rfl, rfl⟩, .inl ⟨rfl, ho, by rw [fwrap_nat (by omega)], ?_⟩⟩
   ·show ((!(ilt (valU U n W d v j) (-16384))) && (!(ilt 16384 (valU U n W d v j)))) = true
    simp only [ilt_say, Bool.and_eq_true, Bool.not_eq_true', decide_eq_false_iff_not]
    omega
   ·show filO _ _ _ _ _ _ _ _ _ (splice (dstF (valU U n W d v) n j) (0 + j * 1) [gf (sampleE (valU U n W d v j))]) = _
    rw [dstF_set hj]
  refine (fil_J (l.map gf) (U.map gi) W d v n k e row j _ g _ hW.1 hW.2 hA).mono fun ex a' h' q => ?_
  obtain ⟨q1, ⟨p1, p2, p3⟩, q2⟩ := toldM_facts q
  refine toldM_of q1 ?_
  have hm : MarksOk (j + 1) a'.marks h' := by rw [p3]; exact marks_ok (by omega) p1 p2
  rcases q2 with ⟨rfl, r1, r2, r3⟩ | ⟨rfl, r1, r2⟩
  ·refine ⟨fun i hi => ?_, r2, ?_, hm⟩
   ·by_cases hij : i = j
    ·rw [hij]; exact r1
    ·exact hI i (by omega)
   ·simp only [List.cons.injEq, and_true] at r3
    obtain ⟨s0, s1, s2, s3, s4, s5⟩ := r3
    intro q b hb
    match q, hb with
    | 0, hb => cases hb; exact s0
    | 1, hb => cases hb; exact s1
    | 2, hb => cases hb; exact s2
    | 3, hb => cases hb; exact s3
    | 4, hb => cases hb; exact s4
    | 5, hb => cases hb; exact s5
  ·exact ⟨hm.2, .inr ⟨rfl, ⟨j, hj, r1⟩, _, _, _, _, _, _, r2⟩⟩
 ·intro hI g
  have hA : filA (l.map gf) (U.map gi) W W.length d v n k e row n (dstF (valU U n W d v) n n) (fun ex vs ms A Pd x => (Pd = filP n ∧ ms = canM (nG1 + 6) n) ∧
    (ex = .exit 0 ∧ vs = filV n k n n (gi 0) (goN n) ∧ A = filO (l.map gf) e row (W.map gi) W.length d v (U.map gi) n (dstF (valU U n W d v) n n))) :=
   ⟨fun hlt => absurd (blt_true hlt) (by omega), fun _ => ⟨⟨rfl, rfl⟩, rfl, rfl, rfl⟩⟩
  refine (fil_J (l.map gf) (U.map gi) W d v n k e row n _ g _ hW.1 hW.2 hA).mono fun ex a' h' q => ?_
  obtain ⟨q1, ⟨p1, p3⟩, rfl, r2, r3⟩ := toldM_facts q
  refine toldM_of q1 ?_
  have hm : MarksOk n a'.marks h' := by rw [p3]; exact marks_ok0 (by omega) p1
  simp only [List.cons.injEq, and_true] at r3
  exact ⟨hm.2, .inl ⟨rfl, hI, ⟨_, _, _, _, _, r2⟩, r3.2.2.2.2.2⟩⟩
end Go.Proofs.YthgojmebbhpbbaaGreatDoor
/-! (OWN WORK. Kernels: the program's filter, its calls.) -/
namespace Go.Proofs.YthgojmebbhpbbaaGreatDoor
open Go Go.Am
noncomputable abbrev thF : Value := .func (.func 49) #[] #[]
noncomputable abbrev tbF : Value := .func (.func 50) #[] #[]
def filCond (l : List Nat) (U W : List Int) (d v : Int) (n : Nat) : Prop := (l.length = n ∧ U.length = n ∧ 1 ≤ n ∧ n ≤ 41) ∧ (1 ≤ W.length ∧ W.length ≤ 13) ∧ (∀ w ∈ W, Bd 490000 w) ∧ (∀ x ∈ U, Bd 16384 x) ∧ Bd 100 d ∧ ilt 0 v = true ∧ v ≤ 1048576
def okAll (U W : List Int) (d v : Int) (n : Nat) : Prop := ∀ i, i < n → okU (valU U n W d v i)
def MsOk (ms : List Nat) (h : AHeap) : Prop := ms.Nodup ∧ ∀ m ∈ ms, h.get m = some .defd
noncomputable def filL (l : List Nat) (U W : List Int) (d v : Int) (n k e row : Nat) : Loops Tryz.prog where
 body := fun _ => loopOf Tryz.prog 48 0
 spec := fun _ a h c => entry a 68 [(0, slX nG1 n k), (6, nilS), (7, gi 0), (9, ptP (nG1 + 4)), (10, ptP (nG1 + 6)), (11, slX (nG1 + 7) 0 n), (34, goN n), (35, goN 0)]
  ((h.get nG1 = some (.cells (l.map gf) e row true) ∧ h.get (nG1 + 4) = some (.cells [slX (nG1 + 3) W.length W.length, gi d, gi v] 103 0 false) ∧ h.get (nG1 + 3) = some (.cells (W.map gi) 3 2 false) ∧ h.get (nG1 + 6) = some (.cells [slX (nG1 + 5) n n] 23 0 false) ∧ h.get (nG1 + 5) = some (.cells (U.map gi) 3 2 false) ∧ h.get (nG1 + 7) = some (.cells (List.replicate n (gf 0)) 50 2 false)) ∧
   filCond l U W d v n ∧
   (okAll U W d v n → ∀ g ms h', MsOk ms h' → h'.get (nG1 + 5) = some (.cells (dstF (valU U n W d v) n n) 50 2 false) → c (.exit 0) (stM 68 [(6, nilS), (7, gi 0), (11, slX (nG1 + 5) n n)] g ms) h') ∧
   (¬ okAll U W d v n → ∀ g ms h', MsOk ms h' → c .ret (stM 68 [(6, nilS), (7, gi 4)] g ms) h'))
 ok := fun i a h c q => by
  obtain ⟨h1, h2, h3, ⟨g0, g1, g2, g3, g4, g5⟩, ⟨⟨c1, c2, c3, c4⟩, c5, c6, c7, c8, c9⟩, k1, k2⟩ := entry_facts q
  refine J.of_toldM (fil_loop l U W d v n k e row c1 c2 c3 c4 c5 c6 c7 c8 c9 a h ?_ h1 h2 ?_) ?_
  ·intro q b hb
   match q, hb with
   | 0, hb => cases hb; exact g0
   | 1, hb => cases hb; exact g1
   | 2, hb => cases hb; exact g2
   | 3, hb => cases hb; exact g3
   | 4, hb => cases hb; exact g4
   | 5, hb => cases hb; rw [show dstF (valU U n W d v) n 0 = List.replicate n (gf 0) by simp [dstF]]; exact g5
  ·have e0 : a.tmp 0 = slX nG1 n k := h3 (0, slX nG1 n k) (by simp)
   have e1 : a.tmp 6 = nilS := h3 (6, nilS) (by simp)
   have e2 : a.tmp 7 = gi 0 := h3 (7, gi 0) (by simp)
   have e3 : a.tmp 9 = ptP (nG1 + 4) := h3 (9, ptP (nG1 + 4)) (by simp)
   have e4 : a.tmp 10 = ptP (nG1 + 6) := h3 (10, ptP (nG1 + 6)) (by simp)
   have e5 : a.tmp 11 = slX (nG1 + 7) 0 n := h3 (11, slX (nG1 + 7) 0 n) (by simp)
   have e6 : a.tmp 34 = goN n := h3 (34, goN n) (by simp)
   have e7 : a.tmp 35 = goN 0 := h3 (35, goN 0) (by simp)
   show [a.tmp 0, a.tmp 6, a.tmp 7, a.tmp 9, a.tmp 10, a.tmp 11, a.tmp 34, a.tmp 35] = _
   rw [e0, e1, e2, e3, e4, e5, e6, e7]
   exact rfl
  ·rintro ex vs ms h' g ⟨hm, ⟨rfl, ho, ⟨x, y, z, x', y', rfl⟩, hg⟩ | ⟨rfl, ⟨i, hi, ho⟩, x, y, z, p, x', y', rfl⟩⟩
   ·exact k1 ho (ov [(0, x), (9, y), (10, z), (34, x'), (35, y')] g) ms h' hm hg
   ·exact k2 (fun hx => ho (hx i hi)) (ov [(0, x), (9, y), (10, z), (11, p), (34, x'), (35, y')] g) ms h' hm
noncomputable def fiR (kl : List Int) (q m : Nat) (dO : Int) (wO : List Int → List Int) (vO : List Int → Int) (l : List Nat) (n k e row : Nat) (U W : List Int) (d v : Int) (K : Value → AHeap → Prop) : Prop :=
 ∃ x1 : List Nat, l.map gf = x1.map gf ∧ 0 < n + 1 ∧ n + 1 ≤ x1.length ∧ n + 1 ≤ 1000000 ∧ n + 1 ≤ k ∧ (List.all (kl.map gi) (flat 3) = true ∧ True) ∧ true = true ∧
 ∃ x2 : List Int, kl.map gi = x2.map gi ∧ (0 < q ∧ x2.length = q ∧ q ≤ 65536) ∧ noC x2 [] ∧ (!(ieq (firstS [csE (x1.take (n + 1)), keE x2]) 0)) = false ∧ (List.all (kl.map gi) (flat 3) = true ∧ True) ∧ true = true ∧
 ∃ x3 : List Int, kl.map gi = x3.map gi ∧ (0 < q ∧ x3.length = q ∧ q ≤ 65536) ∧ (([] : List Value) = [] ∧ keE x3 = 0) ∧ x3.length = q ∧
 ∃ x4 : List Nat, l.map gf = x4.map gf ∧ 0 < n + 1 ∧ n + 1 ≤ x4.length ∧ n + 1 ≤ 65536 ∧ validL (x4.take (n + 1)) ∧ Nat.ble 0 (n + 1) = true ∧ Nat.ble (n + 1) 65536 = true ∧
  loopOf Tryz.prog 48 0 = loopOf Tryz.prog 48 0 ∧ slX nG1 (n + 1) k = slX nG1 (n + 1) k ∧ nilS = nilS ∧ gi 0 = gi 0 ∧ ptP (nG1 + 4) = ptP (nG1 + 4) ∧ ptP (nG1 + 6) = ptP (nG1 + 6) ∧ slX (nG1 + 7) 0 (n + 1) = slX (nG1 + 7) 0 (n + 1) ∧ goN (n + 1) = goN (n + 1) ∧ gi 0 = gi 0 ∧
  (some (AObj.cells (l.map gf) e row true) = some (.cells (l.map gf) e row true) ∧ some (AObj.cells [slX (nG1 + 3) m m, gi dO, gi (vO x3)] 103 0 false) = some (.cells [slX (nG1 + 3) W.length W.length, gi d, gi v] 103 0 false) ∧ some (AObj.cells ((wO x3).map gi) 3 2 false) = some (.cells (W.map gi) 3 2 false) ∧ some (AObj.cells [slX (nG1 + 5) (n + 1) (n + 1)] 23 0 false) = some (.cells [slX (nG1 + 5) (n + 1) (n + 1)] 23 0 false) ∧ some (AObj.cells (unitsL (x4.take (n + 1))) 3 2 false) = some (.cells (U.map gi) 3 2 false) ∧ some (AObj.cells (List.replicate (n + 1) (gf 0)) 50 2 false) = some (.cells (List.replicate (n + 1) (gf 0)) 50 2 false)) ∧
  filCond l U W d v (n + 1) ∧
  (okAll U W d v (n + 1) → ∀ (_ : Nat → Value) (ms : List Nat) (h' : AHeap), MsOk ms h' → h'.get (nG1 + 5) = some (.cells (dstF (valU U (n + 1) W d v) (n + 1) (n + 1)) 50 2 false) → ∃ h'', shutMarks h' ms = some h'' ∧ K (.tuple #[slX (nG1 + 5) (n + 1) (n + 1), gi 0]) h'') ∧
  (¬ okAll U W d v (n + 1) → ∀ (_ : Nat → Value) (ms : List Nat) (h' : AHeap), MsOk ms h' → ∃ h'', shutMarks h' ms = some h'' ∧ K (.tuple #[nilS, gi 4]) h'')
noncomputable def feR (kl : List Int) (q : Nat) (l : List Nat) (n k e row e' row' : Nat) (K : Value → Prop) : Prop :=
 ∃ x1 : List Nat, l.map gf = x1.map gf ∧ 0 < n + 1 ∧ n + 1 ≤ x1.length ∧ n + 1 ≤ 1000000 ∧ n + 1 ≤ k ∧ (List.all (kl.map gi) (flat 3) = true ∧ True) ∧ true = true ∧
 ∃ x2 : List Int, kl.map gi = x2.map gi ∧ (0 < q ∧ x2.length = q ∧ q ≤ 65536) ∧ noC x2 [] ∧ (!(ieq (firstS [csE (x1.take (n + 1)), keE x2]) 0)) = true ∧
 ∃ x3 : AHeap, some ((canon Tryz.prog [(l.map gf, e, row), (kl.map gi, e', row')]).push (.cells [csR (x1.take (n + 1)) [], gi (keE x2)] 27 2 false)) = some x3 ∧ K (.tuple #[nilS, gi (firstS [csE (x1.take (n + 1)), keE x2])])
theorem fi_1 (l : List Nat) (w0 : Int) (n k k' e row e' row' : Nat) (U W : List Int) (d v : Int) (K : Value → AHeap → Prop) : callM Tryz.prog (exec Tryz.prog orcKi 10) (syOf [(17, 7), (19, 7), (23, 32), (27, 7), (29, 7), (32, 18)]) (askKi 1) (filL l U W d v (n + 1) k e row) 20 48 #[slX nG1 (n + 1) k, slX (nG1 + 1) 1 k', thF] (canon Tryz.prog [(l.map gf, e, row), ([w0].map gi, e', row')]) K = fiR [w0] 1 1 0 List.reverse sumW l n k e row U W d v K := by kernel_rfl
theorem ti_1 (l : List Nat) (w0 : Int) (n k k' e row e' row' : Nat) (U W : List Int) (d v : Int) (K : Value → AHeap → Prop) : callM Tryz.prog (exec Tryz.prog orcKi 10) (syOf [(17, 7), (19, 7), (23, 32), (27, 7), (29, 7), (32, 18)]) (askKi 1) (filL l U W d v (n + 1) k e row) 20 48 #[slX nG1 (n + 1) k, slX (nG1 + 1) 1 k', tbF] (canon Tryz.prog [(l.map gf, e, row), ([w0].map gi, e', row')]) K = fiR [w0] 1 1 0 wtsE (fun x => sumW x * sumW x) l n k e row U W d v K := by kernel_rfl
theorem fi_2 (l : List Nat) (w0 w1 : Int) (n k k' e row e' row' : Nat) (U W : List Int) (d v : Int) (K : Value → AHeap → Prop) : callM Tryz.prog (exec Tryz.prog orcKi 10) (syOf [(17, 7), (19, 7), (23, 32), (27, 7), (29, 7), (32, 18)]) (askKi 2) (filL l U W d v (n + 1) k e row) 20 48 #[slX nG1 (n + 1) k, slX (nG1 + 1) 2 k', thF] (canon Tryz.prog [(l.map gf, e, row), ([w0, w1].map gi, e', row')]) K = fiR [w0, w1] 2 2 (-1) List.reverse sumW l n k e row U W d v K := by kernel_rfl
theorem ti_2 (l : List Nat) (w0 w1 : Int) (n k k' e row e' row' : Nat) (U W : List Int) (d v : Int) (K : Value → AHeap → Prop) : callM Tryz.prog (exec Tryz.prog orcKi 10) (syOf [(17, 7), (19, 7), (23, 32), (27, 7), (29, 7), (32, 18)]) (askKi 2) (filL l U W d v (n + 1) k e row) 20 48 #[slX nG1 (n + 1) k, slX (nG1 + 1) 2 k', tbF] (canon Tryz.prog [(l.map gf, e, row), ([w0, w1].map gi, e', row')]) K = fiR [w0, w1] 2 3 (-1) wtsE (fun x => sumW x * sumW x) l n k e row U W d v K := by kernel_rfl
theorem fi_3 (l : List Nat) (w0 w1 w2 : Int) (n k k' e row e' row' : Nat) (U W : List Int) (d v : Int) (K : Value → AHeap → Prop) : callM Tryz.prog (exec Tryz.prog orcKi 10) (syOf [(17, 7), (19, 7), (23, 32), (27, 7), (29, 7), (32, 18)]) (askKi 3) (filL l U W d v (n + 1) k e row) 20 48 #[slX nG1 (n + 1) k, slX (nG1 + 1) 3 k', thF] (canon Tryz.prog [(l.map gf, e, row), ([w0, w1, w2].map gi, e', row')]) K = fiR [w0, w1, w2] 3 3 (-2) List.reverse sumW l n k e row U W d v K := by kernel_rfl
theorem ti_3 (l : List Nat) (w0 w1 w2 : Int) (n k k' e row e' row' : Nat) (U W : List Int) (d v : Int) (K : Value → AHeap → Prop) : callM Tryz.prog (exec Tryz.prog orcKi 10) (syOf [(17, 7), (19, 7), (23, 32), (27, 7), (29, 7), (32, 18)]) (askKi 3) (filL l U W d v (n + 1) k e row) 20 48 #[slX nG1 (n + 1) k, slX (nG1 + 1) 3 k', tbF] (canon Tryz.prog [(l.map gf, e, row), ([w0, w1, w2].map gi, e', row')]) K = fiR [w0, w1, w2] 3 5 (-2) wtsE (fun x => sumW x * sumW x) l n k e row U W d v K := by kernel_rfl
theorem fi_4 (l : List Nat) (w0 w1 w2 w3 : Int) (n k k' e row e' row' : Nat) (U W : List Int) (d v : Int) (K : Value → AHeap → Prop) : callM Tryz.prog (exec Tryz.prog orcKi 10) (syOf [(17, 7), (19, 7), (23, 32), (27, 7), (29, 7), (32, 18)]) (askKi 4) (filL l U W d v (n + 1) k e row) 20 48 #[slX nG1 (n + 1) k, slX (nG1 + 1) 4 k', thF] (canon Tryz.prog [(l.map gf, e, row), ([w0, w1, w2, w3].map gi, e', row')]) K = fiR [w0, w1, w2, w3] 4 4 (-3) List.reverse sumW l n k e row U W d v K := by kernel_rfl
theorem ti_4 (l : List Nat) (w0 w1 w2 w3 : Int) (n k k' e row e' row' : Nat) (U W : List Int) (d v : Int) (K : Value → AHeap → Prop) : callM Tryz.prog (exec Tryz.prog orcKi 10) (syOf [(17, 7), (19, 7), (23, 32), (27, 7), (29, 7), (32, 18)]) (askKi 4) (filL l U W d v (n + 1) k e row) 20 48 #[slX nG1 (n + 1) k, slX (nG1 + 1) 4 k', tbF] (canon Tryz.prog [(l.map gf, e, row), ([w0, w1, w2, w3].map gi, e', row')]) K = fiR [w0, w1, w2, w3] 4 7 (-3) wtsE (fun x => sumW x * sumW x) l n k e row U W d v K := by kernel_rfl
theorem fi_5 (l : List Nat) (w0 w1 w2 w3 w4 : Int) (n k k' e row e' row' : Nat) (U W : List Int) (d v : Int) (K : Value → AHeap → Prop) : callM Tryz.prog (exec Tryz.prog orcKi 10) (syOf [(17, 7), (19, 7), (23, 32), (27, 7), (29, 7), (32, 18)]) (askKi 5) (filL l U W d v (n + 1) k e row) 20 48 #[slX nG1 (n + 1) k, slX (nG1 + 1) 5 k', thF] (canon Tryz.prog [(l.map gf, e, row), ([w0, w1, w2, w3, w4].map gi, e', row')]) K = fiR [w0, w1, w2, w3, w4] 5 5 (-4) List.reverse sumW l n k e row U W d v K := by kernel_rfl
theorem ti_5 (l : List Nat) (w0 w1 w2 w3 w4 : Int) (n k k' e row e' row' : Nat) (U W : List Int) (d v : Int) (K : Value → AHeap → Prop) : callM Tryz.prog (exec Tryz.prog orcKi 10) (syOf [(17, 7), (19, 7), (23, 32), (27, 7), (29, 7), (32, 18)]) (askKi 5) (filL l U W d v (n + 1) k e row) 20 48 #[slX nG1 (n + 1) k, slX (nG1 + 1) 5 k', tbF] (canon Tryz.prog [(l.map gf, e, row), ([w0, w1, w2, w3, w4].map gi, e', row')]) K = fiR [w0, w1, w2, w3, w4] 5 9 (-4) wtsE (fun x => sumW x * sumW x) l n k e row U W d v K := by kernel_rfl
theorem fi_6 (l : List Nat) (w0 w1 w2 w3 w4 w5 : Int) (n k k' e row e' row' : Nat) (U W : List Int) (d v : Int) (K : Value → AHeap → Prop) : callM Tryz.prog (exec Tryz.prog orcKi 10) (syOf [(17, 7), (19, 7), (23, 32), (27, 7), (29, 7), (32, 18)]) (askKi 6) (filL l U W d v (n + 1) k e row) 20 48 #[slX nG1 (n + 1) k, slX (nG1 + 1) 6 k', thF] (canon Tryz.prog [(l.map gf, e, row), ([w0, w1, w2, w3, w4, w5].map gi, e', row')]) K = fiR [w0, w1, w2, w3, w4, w5] 6 6 (-5) List.reverse sumW l n k e row U W d v K := by kernel_rfl
theorem ti_6 (l : List Nat) (w0 w1 w2 w3 w4 w5 : Int) (n k k' e row e' row' : Nat) (U W : List Int) (d v : Int) (K : Value → AHeap → Prop) : callM Tryz.prog (exec Tryz.prog orcKi 10) (syOf [(17, 7), (19, 7), (23, 32), (27, 7), (29, 7), (32, 18)]) (askKi 6) (filL l U W d v (n + 1) k e row) 20 48 #[slX nG1 (n + 1) k, slX (nG1 + 1) 6 k', tbF] (canon Tryz.prog [(l.map gf, e, row), ([w0, w1, w2, w3, w4, w5].map gi, e', row')]) K = fiR [w0, w1, w2, w3, w4, w5] 6 11 (-5) wtsE (fun x => sumW x * sumW x) l n k e row U W d v K := by kernel_rfl
theorem fi_7 (l : List Nat) (w0 w1 w2 w3 w4 w5 w6 : Int) (n k k' e row e' row' : Nat) (U W : List Int) (d v : Int) (K : Value → AHeap → Prop) : callM Tryz.prog (exec Tryz.prog orcKi 10) (syOf [(17, 7), (19, 7), (23, 32), (27, 7), (29, 7), (32, 18)]) (askKi 7) (filL l U W d v (n + 1) k e row) 20 48 #[slX nG1 (n + 1) k, slX (nG1 + 1) 7 k', thF] (canon Tryz.prog [(l.map gf, e, row), ([w0, w1, w2, w3, w4, w5, w6].map gi, e', row')]) K = fiR [w0, w1, w2, w3, w4, w5, w6] 7 7 (-6) List.reverse sumW l n k e row U W d v K := by kernel_rfl
theorem ti_7 (l : List Nat) (w0 w1 w2 w3 w4 w5 w6 : Int) (n k k' e row e' row' : Nat) (U W : List Int) (d v : Int) (K : Value → AHeap → Prop) : callM Tryz.prog (exec Tryz.prog orcKi 10) (syOf [(17, 7), (19, 7), (23, 32), (27, 7), (29, 7), (32, 18)]) (askKi 7) (filL l U W d v (n + 1) k e row) 20 48 #[slX nG1 (n + 1) k, slX (nG1 + 1) 7 k', tbF] (canon Tryz.prog [(l.map gf, e, row), ([w0, w1, w2, w3, w4, w5, w6].map gi, e', row')]) K = fiR [w0, w1, w2, w3, w4, w5, w6] 7 13 (-6) wtsE (fun x => sumW x * sumW x) l n k e row U W d v K := by kernel_rfl
theorem flE_run (l : List Nat) (kl : List Int) (q n k k' e row e' row' : Nat) (f : Value) (K : Value → Prop) : callM Tryz.prog (exec Tryz.prog orcKi 10) (syOf [(17, 7), (19, 7), (23, 31)]) (askKi 2) (noLoops _) 20 48 #[slX nG1 (n + 1) k, slX (nG1 + 1) (q + 1) k', f] (canon Tryz.prog [(l.map gf, e, row), (kl.map gi, e', row')]) (fun v _ => K v) = feR kl (q + 1) l n k e row e' row' K := by kernel_rfl
end Go.Proofs.YthgojmebbhpbbaaGreatDoor
/-! (OWN WORK. Kernels: what the program's filter returns.) -/
namespace Go.Proofs.YthgojmebbhpbbaaGreatDoor
open Go Go.Am
open Classical in
noncomputable def outP (l : List Nat) (W : List Int) (d v : Int) : Out := if okAll (l.map unitE) W d v l.length then .fresh (tupM [] l.length [gi 0]) (dstF (valU (l.map unitE) l.length W d v) l.length l.length) 50 else .plain (.tuple #[nilS, gi 4])
theorem outP_ok (l : List Nat) (W : List Int) (d v : Int) : (outP l W d v).Ok := by
 unfold outP
 split
 ·exact ⟨names_tup rfl rfl, dstF_flat _ _ _⟩
 ·exact rfl
theorem shut_ok {ms : List Nat} {h : AHeap} (hm : MsOk ms h) : ∃ h'', shutMarks h ms = some h'' ∧ ∀ i c e row ro, h.get i = some (.cells c e row ro) → h''.get i = some (.cells c e row ro) := by
 obtain ⟨h'', h1, h2⟩ := shut_all ms h hm.1 hm.2
 refine ⟨h'', h1, fun i c e row ro hi => ?_⟩
 rw [h2 i fun hx => ?_, hi]
 rw [hm.2 i hx] at hi
 cases hi
theorem fiR_ok (kl : List Int) (q m : Nat) (dO : Int) (wO : List Int → List Int) (vO : List Int → Int) (l : List Nat) (n k e row : Nat) (hq : kl.length = q) (hm : (wO kl).length = m) (h0 : 0 < q) (hq7 : q ≤ 65536) (hk : keE kl = 0) (hl : l.length = n + 1) (hlk : n + 1 ≤ k) (hv : csE l = 0) (cond : filCond l (l.map unitE) (wO kl) dO (vO kl) (n + 1)) :
  fiR kl q m dO wO vO l n k e row (l.map unitE) (wO kl) dO (vO kl) (outP l (wO kl) dO (vO kl)).Got := by
 have ht : l.take (n + 1) = l := List.take_of_length_le (by omega)
 have h41 := cond.1.2.2.2
 have hf : (List.all (kl.map gi) (flat 3) = true ∧ True) := ⟨flat_ints kl, trivial⟩
 subst hm
 refine ⟨l, rfl, by omega, by omega, by omega, hlk, hf, rfl, kl, rfl, ⟨h0, hq, hq7⟩, rfl, ?_, hf, rfl, kl, rfl, ⟨h0, hq, hq7⟩, ⟨rfl, hk⟩, hq, l, rfl, by omega, by omega, by omega, ?_, by rw [Nat.ble_eq]; omega, by rw [Nat.ble_eq]; omega,
  rfl, rfl, rfl, rfl, rfl, rfl, rfl, rfl, rfl, ⟨rfl, rfl, rfl, rfl, ?_, rfl⟩, cond, fun ho _ ms h' hms hg => ?_, fun ho _ ms h' hms => ?_⟩
 ·rw [ht, hv, hk]; rfl
 ·rw [ht]; exact (cs_zero hv).1
 ·rw [ht]; rfl
 ·obtain ⟨h'', k1, k2⟩ := shut_ok hms
  refine ⟨h'', k1, ?_⟩
  unfold outP
  rw [hl, if_pos ho]
  exact ⟨nG1 + 5, rfl, k2 _ _ _ _ _ hg⟩
 ·obtain ⟨h'', k1, _⟩ := shut_ok hms
  refine ⟨h'', k1, ?_⟩
  unfold outP
  rw [hl, if_neg ho]
  rfl
theorem pairs_length (k : List Int) : (pairsE k).length = k.length * k.length := by
 unfold pairsE
 rw [List.length_flatMap]
 simp [List.map_const']
theorem pairs_bd {k : List Int} (h : ∀ w ∈ k, Bd 100 w) : ∀ p ∈ pairsE k, Bd 10000 p.2 := by
 intro p hp
 obtain ⟨i, hi, hp⟩ := List.mem_flatMap.1 hp
 obtain ⟨j, hj, rfl⟩ := List.mem_map.1 hp
 have at_ : ∀ i, i < k.length → Bd 100 (k.getD i 0) := fun i hi => by
  rw [List.getD_eq_getElem?_getD, List.getElem?_eq_getElem hi]
  exact h _ (List.getElem_mem hi)
 exact (at_ i (List.mem_range.1 hi)).mul (at_ j (List.mem_range.1 hj))
theorem fold_bd : ∀ (L : List (Nat × Int)) (s : Int) (b : Nat), (∀ p ∈ L, Bd 10000 p.2) → Bd b s → Bd (b + L.length * 10000) (L.foldl (fun s p => s + p.2) s)
 | [], s, b, _, hs => hs.le (by omega)
 | p :: L, s, b, h, hs => (fold_bd L _ _ (fun x hx => h x (by simp [hx])) (hs.add (h p (by simp)))).le (by rw [List.length_cons]; omega)
theorem wts_bd {k : List Int} (h : ∀ w ∈ k, Bd 100 w) (hk : k.length ≤ 7) : ∀ w ∈ wtsE k, Bd 490000 w := by
 intro w hw
 obtain ⟨d, _, rfl⟩ := List.mem_map.1 hw
 refine (fold_bd _ 0 0 (fun p hp => pairs_bd h p (List.mem_filter.1 hp).1) (by unfold Bd; omega)).le ?_
 have h1 := List.length_filter_le (fun p : Nat × Int => Nat.beq p.1 d) (pairsE k)
 have h2 : k.length * k.length ≤ 7 * 7 := Nat.mul_le_mul hk hk
 rw [pairs_length] at h1
 omega
theorem wts_length (k : List Int) : (wtsE k).length = 2 * k.length - 1 := by simp [wtsE]
theorem units_bd {l : List Nat} (h : csE l = 0) : ∀ x ∈ l.map unitE, Bd 16384 x := by
 intro x hx
 obtain ⟨y, hy, rfl⟩ := List.mem_map.1 hx
 exact (unit_ok ((cs_zero h).1 y hy)).2.2
theorem cond_th {l : List Nat} {kl : List Int} {n : Nat} (hk : keE kl = 0) (hv : csE l = 0) (hl : l.length = n) (h1 : 1 ≤ n) (h41 : n ≤ 41) : filCond l (l.map unitE) kl.reverse (1 - (kl.length : Int)) (sumW kl) n := by
 obtain ⟨⟨k1, k2⟩, k3, k4⟩ := ke_valid hk
 have hs := sumW_bd hk
 unfold Bd at hs
 refine ⟨⟨hl, by rw [List.length_map]; exact hl, h1, h41⟩, by rw [List.length_reverse]; omega, fun w hw => (k3 w (List.mem_reverse.1 hw)).le (by omega), units_bd hv, by unfold Bd; omega, k4, by omega⟩
theorem cond_tb {l : List Nat} {kl : List Int} {n : Nat} (hk : keE kl = 0) (hv : csE l = 0) (hl : l.length = n) (h1 : 1 ≤ n) (h41 : n ≤ 41) : filCond l (l.map unitE) (wtsE kl) (1 - (kl.length : Int)) (sumW kl * sumW kl) n := by
 obtain ⟨⟨k1, k2⟩, k3, k4⟩ := ke_valid hk
 have hs := (sumW_bd hk).mul (sumW_bd hk)
 unfold Bd at hs
 rw [ilt_say] at k4
 have k4 : 0 < sumW kl := by simpa using k4
 refine ⟨⟨hl, by rw [List.length_map]; exact hl, h1, h41⟩, by rw [wts_length]; omega, wts_bd k3 k2, units_bd hv, by unfold Bd; omega, by rw [ilt_say]; simpa using Int.mul_pos k4 k4, by omega⟩
set_option maxRecDepth 100000 in
theorem th_fil (l : List Nat) (kl : List Int) (hk : keE kl = 0) (hv : csE l = 0) (n : Nat) (hl : l.length = n + 1) (h41 : n + 1 ≤ 41) (k k' e row e' row' : Nat) (hlk : n + 1 ≤ k) : CallJ Tryz.prog 48 #[slX nG1 (n + 1) k, slX (nG1 + 1) kl.length k', thF] (canon Tryz.prog [(l.map gf, e, row), (kl.map gi, e', row')]) (outP l kl.reverse (1 - (kl.length : Int)) (sumW kl)).Got := by
 obtain ⟨⟨h1, h2⟩, _, _⟩ := ke_valid hk
 have cond := cond_th hk hv hl (by omega) h41
 exact match kl, h1, h2, hk, cond with
  | [a], _, _, hk, cond => callM_ok mixed orcKi_ok (askKi_ok 1) (Eq.mpr (fi_1 l a n k k' e row e' row' (l.map unitE) (List.reverse [a]) 0 (sumW [a]) _) (fiR_ok [a] 1 1 0 List.reverse sumW l n k e row rfl rfl (by omega) (by omega) hk hl hlk hv cond))
  | [a, b], _, _, hk, cond => callM_ok mixed orcKi_ok (askKi_ok 2) (Eq.mpr (fi_2 l a b n k k' e row e' row' (l.map unitE) (List.reverse [a, b]) (-1) (sumW [a, b]) _) (fiR_ok [a, b] 2 2 (-1) List.reverse sumW l n k e row rfl rfl (by omega) (by omega) hk hl hlk hv cond))
  | [a, b, c], _, _, hk, cond => callM_ok mixed orcKi_ok (askKi_ok 3) (Eq.mpr (fi_3 l a b c n k k' e row e' row' (l.map unitE) (List.reverse [a, b, c]) (-2) (sumW [a, b, c]) _) (fiR_ok [a, b, c] 3 3 (-2) List.reverse sumW l n k e row rfl rfl (by omega) (by omega) hk hl hlk hv cond))
  | [a, b, c, d], _, _, hk, cond => callM_ok mixed orcKi_ok (askKi_ok 4) (Eq.mpr (fi_4 l a b c d n k k' e row e' row' (l.map unitE) (List.reverse [a, b, c, d]) (-3) (sumW [a, b, c, d]) _) (fiR_ok [a, b, c, d] 4 4 (-3) List.reverse sumW l n k e row rfl rfl (by omega) (by omega) hk hl hlk hv cond))
  | [a, b, c, d, p], _, _, hk, cond => callM_ok mixed orcKi_ok (askKi_ok 5) (Eq.mpr (fi_5 l a b c d p n k k' e row e' row' (l.map unitE) (List.reverse [a, b, c, d, p]) (-4) (sumW [a, b, c, d, p]) _) (fiR_ok [a, b, c, d, p] 5 5 (-4) List.reverse sumW l n k e row rfl rfl (by omega) (by omega) hk hl hlk hv cond))
  | [a, b, c, d, p, q], _, _, hk, cond => callM_ok mixed orcKi_ok (askKi_ok 6) (Eq.mpr (fi_6 l a b c d p q n k k' e row e' row' (l.map unitE) (List.reverse [a, b, c, d, p, q]) (-5) (sumW [a, b, c, d, p, q]) _) (fiR_ok [a, b, c, d, p, q] 6 6 (-5) List.reverse sumW l n k e row rfl rfl (by omega) (by omega) hk hl hlk hv cond))
  | [a, b, c, d, p, q, r], _, _, hk, cond => callM_ok mixed orcKi_ok (askKi_ok 7) (Eq.mpr (fi_7 l a b c d p q r n k k' e row e' row' (l.map unitE) (List.reverse [a, b, c, d, p, q, r]) (-6) (sumW [a, b, c, d, p, q, r]) _) (fiR_ok [a, b, c, d, p, q, r] 7 7 (-6) List.reverse sumW l n k e row rfl rfl (by omega) (by omega) hk hl hlk hv cond))
  | _ :: _ :: _ :: _ :: _ :: _ :: _ :: _ :: _, _, h2, _, _ => absurd h2 (by simp)
set_option maxRecDepth 100000 in
theorem tb_fil (l : List Nat) (kl : List Int) (hk : keE kl = 0) (hv : csE l = 0) (n : Nat) (hl : l.length = n + 1) (h41 : n + 1 ≤ 41) (k k' e row e' row' : Nat) (hlk : n + 1 ≤ k) : CallJ Tryz.prog 48 #[slX nG1 (n + 1) k, slX (nG1 + 1) kl.length k', tbF] (canon Tryz.prog [(l.map gf, e, row), (kl.map gi, e', row')]) (outP l (wtsE kl) (1 - (kl.length : Int)) (sumW kl * sumW kl)).Got := by
 obtain ⟨⟨h1, h2⟩, _, _⟩ := ke_valid hk
 have cond := cond_tb hk hv hl (by omega) h41
 exact match kl, h1, h2, hk, cond with
  | [a], _, _, hk, cond => callM_ok mixed orcKi_ok (askKi_ok 1) (Eq.mpr (ti_1 l a n k k' e row e' row' (l.map unitE) (wtsE [a]) 0 ((fun x => sumW x * sumW x) [a]) _) (fiR_ok [a] 1 1 0 wtsE (fun x => sumW x * sumW x) l n k e row rfl rfl (by omega) (by omega) hk hl hlk hv cond))
  | [a, b], _, _, hk, cond => callM_ok mixed orcKi_ok (askKi_ok 2) (Eq.mpr (ti_2 l a b n k k' e row e' row' (l.map unitE) (wtsE [a, b]) (-1) ((fun x => sumW x * sumW x) [a, b]) _) (fiR_ok [a, b] 2 3 (-1) wtsE (fun x => sumW x * sumW x) l n k e row rfl rfl (by omega) (by omega) hk hl hlk hv cond))
  | [a, b, c], _, _, hk, cond => callM_ok mixed orcKi_ok (askKi_ok 3) (Eq.mpr (ti_3 l a b c n k k' e row e' row' (l.map unitE) (wtsE [a, b, c]) (-2) ((fun x => sumW x * sumW x) [a, b, c]) _) (fiR_ok [a, b, c] 3 5 (-2) wtsE (fun x => sumW x * sumW x) l n k e row rfl rfl (by omega) (by omega) hk hl hlk hv cond))
  | [a, b, c, d], _, _, hk, cond => callM_ok mixed orcKi_ok (askKi_ok 4) (Eq.mpr (ti_4 l a b c d n k k' e row e' row' (l.map unitE) (wtsE [a, b, c, d]) (-3) ((fun x => sumW x * sumW x) [a, b, c, d]) _) (fiR_ok [a, b, c, d] 4 7 (-3) wtsE (fun x => sumW x * sumW x) l n k e row rfl rfl (by omega) (by omega) hk hl hlk hv cond))
  | [a, b, c, d, p], _, _, hk, cond => callM_ok mixed orcKi_ok (askKi_ok 5) (Eq.mpr (ti_5 l a b c d p n k k' e row e' row' (l.map unitE) (wtsE [a, b, c, d, p]) (-4) ((fun x => sumW x * sumW x) [a, b, c, d, p]) _) (fiR_ok [a, b, c, d, p] 5 9 (-4) wtsE (fun x => sumW x * sumW x) l n k e row rfl rfl (by omega) (by omega) hk hl hlk hv cond))
  | [a, b, c, d, p, q], _, _, hk, cond => callM_ok mixed orcKi_ok (askKi_ok 6) (Eq.mpr (ti_6 l a b c d p q n k k' e row e' row' (l.map unitE) (wtsE [a, b, c, d, p, q]) (-5) ((fun x => sumW x * sumW x) [a, b, c, d, p, q]) _) (fiR_ok [a, b, c, d, p, q] 6 11 (-5) wtsE (fun x => sumW x * sumW x) l n k e row rfl rfl (by omega) (by omega) hk hl hlk hv cond))
  | [a, b, c, d, p, q, r], _, _, hk, cond => callM_ok mixed orcKi_ok (askKi_ok 7) (Eq.mpr (ti_7 l a b c d p q r n k k' e row e' row' (l.map unitE) (wtsE [a, b, c, d, p, q, r]) (-6) ((fun x => sumW x * sumW x) [a, b, c, d, p, q, r]) _) (fiR_ok [a, b, c, d, p, q, r] 7 13 (-6) wtsE (fun x => sumW x * sumW x) l n k e row rfl rfl (by omega) (by omega) hk hl hlk hv cond))
  | _ :: _ :: _ :: _ :: _ :: _ :: _ :: _ :: _, _, h2, _, _ => absurd h2 (by simp)
set_option maxRecDepth 100000 in
theorem fl_err (l : List Nat) (kl : List Int) (n q k k' e row e' row' : Nat) (f : Value) (hl : l.length = n + 1) (hk : kl.length = q + 1) (h1 : n + 1 ≤ 1000000) (h2 : q + 1 ≤ 65536) (hlk : n + 1 ≤ k) (he : firstS [csE l, keE kl] ≠ 0) : CallJ Tryz.prog 48 #[slX nG1 (n + 1) k, slX (nG1 + 1) (q + 1) k', f] (canon Tryz.prog [(l.map gf, e, row), (kl.map gi, e', row')]) (fun v _ => v = .tuple #[nilS, gi (firstS [csE l, keE kl])]) := by
 have ht : l.take (n + 1) = l := List.take_of_length_le (by omega)
 refine callM_ok mixed orcKi_ok (askKi_ok 2) (Eq.mpr (flE_run l kl q n k k' e row e' row' f _) ⟨l, rfl, by omega, by omega, h1, hlk, ⟨flat_ints kl, trivial⟩, rfl, kl, rfl, ⟨by omega, hk, h2⟩, rfl, ?_, _, rfl, by rw [ht]⟩)
 rw [ht, ieq_dec]
 simpa using he
end Go.Proofs.YthgojmebbhpbbaaGreatDoor
