/-
  OWN WORK. Stage 6: least and greatest ones of parts.
-/
import Derived.Test.YtihnnmejkpddeaaGreatDoorJcAE
/-! (OWN WORK. Stage 6: the least and the greatest of integers, the place of one: rounds.) -/
namespace Go.Proofs.YtihnnmejkpddeaaGreatDoor
open Go Go.Am
noncomputable abbrev slT (o n k : Nat) : Value := .slice (some ⟨Tryz.prog.globals.size, o, none⟩) n k
theorem mn_body (c : List Value) (e row o n k j : Nat) (m : Int) (g : Nat → Value) (Q : Exit → List Value → AHeap → Prop) : execC Tryz.prog (exec Tryz.prog orcJc 10) (syOf [(15, 1), (21, 2), (22, 3)]) askJc (noLoops _) 40 (loopOf Tryz.prog 160 0) (stOf 25 [(0, slT o n k), (3, gi m), (4, goN j)] g) (liH c e row) (told 25 [0, 3, 4] Q) = (((Nat.blt j n = true → (Nat.blt j n = true ∧ c[(o + (j * 1))]? = Option.some (gi (intAt c (o + (j * 1)))) ∧ Q .normal [slT o n k, gi (if (intAt c (o + (j * 1)) : Int) < m then intAt c (o + (j * 1)) else m), gi (fwrap IntKind.i64 (Int.ofNat (j + 1)))] (liH c e row))) ∧ (Nat.blt j n = false → Q (.exit 0) [slT o n k, gi m, goN j] (liH c e row)))) := by kernel_rfl
theorem mx_body (c : List Value) (e row o n k j : Nat) (m : Int) (g : Nat → Value) (Q : Exit → List Value → AHeap → Prop) : execC Tryz.prog (exec Tryz.prog orcJc 10) (syOf [(15, 1), (21, 2), (22, 3)]) askJc (noLoops _) 40 (loopOf Tryz.prog 117 0) (stOf 25 [(0, slT o n k), (3, gi m), (4, goN j)] g) (liH c e row) (told 25 [0, 3, 4] Q) = (((Nat.blt j n = true → (Nat.blt j n = true ∧ c[(o + (j * 1))]? = Option.some (gi (intAt c (o + (j * 1)))) ∧ Q .normal [slT o n k, gi (if (intAt c (o + (j * 1)) : Int) > m then intAt c (o + (j * 1)) else m), gi (fwrap IntKind.i64 (Int.ofNat (j + 1)))] (liH c e row))) ∧ (Nat.blt j n = false → Q (.exit 0) [slT o n k, gi m, goN j] (liH c e row)))) := by kernel_rfl
theorem ix_body (c : List Value) (e row o n k j : Nat) (x : Int) (g : Nat → Value) (Q : Exit → List Value → AHeap → Prop) : execC Tryz.prog (exec Tryz.prog orcJc 10) (syOf [(9, 1), (14, 2), (15, 3), (16, 1)]) askJc (noLoops _) 40 (loopOf Tryz.prog 118 0) (stOf 19 [(0, slT o n k), (1, gi x), (4, gi 0), (7, goN n), (8, goN j)] g) (liH c e row) (told 19 [0, 1, 4, 7, 8] Q) = (((Nat.blt j n = true → (Nat.blt j n = true ∧ c[(o + (j * 1))]? = Option.some (gi (intAt c (o + (j * 1)))) ∧ (ieq x (intAt c (o + (j * 1))) = true → Q .ret [slT o n k, gi x, goN j, goN n, goN j] (liH c e row)) ∧ (ieq x (intAt c (o + (j * 1))) = false → Q .normal [slT o n k, gi x, gi 0, goN n, gi (fwrap IntKind.i64 (Int.ofNat (j + 1)))] (liH c e row)))) ∧ (Nat.blt j n = false → Q (.exit 0) [slT o n k, gi x, gi 0, goN n, goN j] (liH c e row)))) := by kernel_rfl
end Go.Proofs.YtihnnmejkpddeaaGreatDoor
/-! (OWN WORK. Stage 6: the least and the greatest of integers, the place of one: as known calls, of parts of slices, too.) -/
namespace Go.Proofs.YtihnnmejkpddeaaGreatDoor
open Go Go.Am
noncomputable def mnJ (f : Nat → Int) : Nat → Int
 | 0 => f 0
 | j + 1 => if (f (j + 1) : Int) < mnJ f j then f (j + 1) else mnJ f j
noncomputable def mxJ (f : Nat → Int) : Nat → Int
 | 0 => f 0
 | j + 1 => if (f (j + 1) : Int) > mxJ f j then f (j + 1) else mxJ f j
noncomputable def ixJ (f : Nat → Int) (x : Int) : Nat → Nat → Int
 | 0, _ => -1
 | k + 1, j => bif ieq x (f j) then Int.ofNat j else ixJ f x k (j + 1)
noncomputable abbrev fnI (cs : List Value) (o : Nat) : Nat → Int := fun j => intAt cs (o + j * 1)
def okPs (cs : List Value) (o n : Nat) : Prop := 0 < n ∧ n ≤ 65536 ∧ ∀ j, j < n → cs[o + j * 1]? = some (gi (intAt cs (o + j * 1)))
theorem ixJ_step {f : Nat → Int} {x : Int} {n j : Nat} (h : j < n) : ixJ f x (n - j) j = bif ieq x (f j) then Int.ofNat j else ixJ f x (n - (j + 1)) (j + 1) := by
 rw [show n - j = (n - (j + 1)) + 1 by omega]; rfl
set_option maxRecDepth 100000 in
theorem mn_loop (c : List Value) (e row o n k : Nat) (hc : okPs c o n) : ∀ a : AAct, a.n = 25 → a.marks = [] → [0, 3, 4].map a.tmp = [slT o n k, gi (fnI c o 0), goN 1] →
  J Tryz.prog (.loop (loopOf Tryz.prog 160 0)) a (liH c e row) (told 25 [0, 3, 4] fun ex vs h => h = liH c e row ∧ ex = .exit 0 ∧ vs = [slT o n k, gi (mnJ (fnI c o) (n - 1)), goN n]) := by
 obtain ⟨h0, h1, h2⟩ := hc
 refine scan_rule _ (fun j => [slT o n k, gi (mnJ (fnI c o) j), goN (j + 1)]) (fun _ => True) (n - 1) trivial _ ?_ ?_
 ·intro j hj _ g
  refine execC_ok mixed orcJc_ok askJc_ok (noLoops _) (Eq.mpr (mn_body c e row o n k (j + 1) _ g _) ⟨fun hlt => ⟨hlt, h2 (j + 1) (by omega), trivial, ?_, rfl⟩, fun hge => absurd (blt_false hge) (by omega)⟩)
  rw [fwrap_nat (by omega)]; rfl
 ·intro _ g
  refine execC_ok mixed orcJc_ok askJc_ok (noLoops _) (Eq.mpr (mn_body c e row o n k (n - 1 + 1) _ g _) ⟨fun hlt => absurd (blt_true hlt) (by omega), fun _ => ⟨rfl, rfl, ?_⟩⟩)
  rw [show n - 1 + 1 = n by omega]
set_option maxRecDepth 100000 in
theorem mx_loop (c : List Value) (e row o n k : Nat) (hc : okPs c o n) : ∀ a : AAct, a.n = 25 → a.marks = [] → [0, 3, 4].map a.tmp = [slT o n k, gi (fnI c o 0), goN 1] →
  J Tryz.prog (.loop (loopOf Tryz.prog 117 0)) a (liH c e row) (told 25 [0, 3, 4] fun ex vs h => h = liH c e row ∧ ex = .exit 0 ∧ vs = [slT o n k, gi (mxJ (fnI c o) (n - 1)), goN n]) := by
 obtain ⟨h0, h1, h2⟩ := hc
 refine scan_rule _ (fun j => [slT o n k, gi (mxJ (fnI c o) j), goN (j + 1)]) (fun _ => True) (n - 1) trivial _ ?_ ?_
 ·intro j hj _ g
  refine execC_ok mixed orcJc_ok askJc_ok (noLoops _) (Eq.mpr (mx_body c e row o n k (j + 1) _ g _) ⟨fun hlt => ⟨hlt, h2 (j + 1) (by omega), trivial, ?_, rfl⟩, fun hge => absurd (blt_false hge) (by omega)⟩)
  rw [fwrap_nat (by omega)]; rfl
 ·intro _ g
  refine execC_ok mixed orcJc_ok askJc_ok (noLoops _) (Eq.mpr (mx_body c e row o n k (n - 1 + 1) _ g _) ⟨fun hlt => absurd (blt_true hlt) (by omega), fun _ => ⟨rfl, rfl, ?_⟩⟩)
  rw [show n - 1 + 1 = n by omega]
set_option maxRecDepth 100000 in
theorem ix_loop (c : List Value) (e row o n k : Nat) (x : Int) (hc : okPs c o n) : ∀ a : AAct, a.n = 19 → a.marks = [] → [0, 1, 4, 7, 8].map a.tmp = [slT o n k, gi x, gi 0, goN n, goN 0] →
  J Tryz.prog (.loop (loopOf Tryz.prog 118 0)) a (liH c e row) (told 19 [0, 1, 4, 7, 8] fun ex vs h => h = liH c e row ∧ ((ex = .exit 0 ∧ ixJ (fnI c o) x n 0 = -1) ∨ (ex = .ret ∧ ∃ j, vs = [slT o n k, gi x, gi (ixJ (fnI c o) x n 0), goN n, goN j]))) := by
 obtain ⟨h0, h1, h2⟩ := hc
 refine scan_rule _ (fun j => [slT o n k, gi x, gi 0, goN n, goN j]) (fun j => ixJ (fnI c o) x n 0 = ixJ (fnI c o) x (n - j) j) n rfl _ ?_ ?_
 ·intro j hj hI g
  rw [ixJ_step hj] at hI
  refine execC_ok mixed orcJc_ok askJc_ok (noLoops _) (Eq.mpr (ix_body c e row o n k j x g _) ⟨fun hlt => ⟨hlt, h2 j hj, fun h3 => ⟨rfl, .inr ⟨rfl, j, ?_⟩⟩, fun h3 => ⟨?_, ?_, rfl⟩⟩, fun hge => absurd (blt_false hge) (by omega)⟩)
  ·rw [hI]
   show _ = [_, _, gi (bif ieq x (intAt c (o + j * 1)) then Int.ofNat j else _), _, _]
   rw [h3]; rfl
  ·rw [hI]
   show (bif ieq x (intAt c (o + j * 1)) then Int.ofNat j else _) = _
   rw [h3]; rfl
  ·rw [fwrap_nat (by omega)]
 ·intro hI g
  exact execC_ok mixed orcJc_ok askJc_ok (noLoops _) (Eq.mpr (ix_body c e row o n k n x g _) ⟨fun hlt => absurd (blt_true hlt) (by omega), fun _ => ⟨rfl, .inl ⟨rfl, by rw [hI, Nat.sub_self]; rfl⟩⟩⟩)
noncomputable def mnLp (c : List Value) (e row o n k : Nat) : Loops Tryz.prog where
 body := fun _ => loopOf Tryz.prog 160 0
 spec := fun _ a h q => entry a 25 [(0, slT o n k), (3, gi (fnI c o 0)), (4, goN 1)] (h = liH c e row ∧ okPs c o n ∧ ∀ g, q (.exit 0) (stOf 25 [(3, gi (mnJ (fnI c o) (n - 1)))] g) (liH c e row))
 ok := fun i a h c' q => by
  obtain ⟨h1, h2, h3, rfl, hs, h5⟩ := entry_facts q
  refine J.of_told (mn_loop c e row o n k hs a h1 h2 ?_) ?_
  ·simp only [List.map_cons, List.map_nil]
   rw [h3 (0, slT o n k) (by simp), h3 (3, gi (fnI c o 0)) (by simp), h3 (4, goN 1) (by simp)]
  ·rintro ex vs h' g ⟨rfl, rfl, rfl⟩
   exact h5 (ov [(0, slT o n k), (4, goN n)] g)
noncomputable def mxLp (c : List Value) (e row o n k : Nat) : Loops Tryz.prog where
 body := fun _ => loopOf Tryz.prog 117 0
 spec := fun _ a h q => entry a 25 [(0, slT o n k), (3, gi (fnI c o 0)), (4, goN 1)] (h = liH c e row ∧ okPs c o n ∧ ∀ g, q (.exit 0) (stOf 25 [(3, gi (mxJ (fnI c o) (n - 1)))] g) (liH c e row))
 ok := fun i a h c' q => by
  obtain ⟨h1, h2, h3, rfl, hs, h5⟩ := entry_facts q
  refine J.of_told (mx_loop c e row o n k hs a h1 h2 ?_) ?_
  ·simp only [List.map_cons, List.map_nil]
   rw [h3 (0, slT o n k) (by simp), h3 (3, gi (fnI c o 0)) (by simp), h3 (4, goN 1) (by simp)]
  ·rintro ex vs h' g ⟨rfl, rfl, rfl⟩
   exact h5 (ov [(0, slT o n k), (4, goN n)] g)
noncomputable def ixLp (c : List Value) (e row o n k : Nat) (x : Int) : Loops Tryz.prog where
 body := fun _ => loopOf Tryz.prog 118 0
 spec := fun _ a h q => entry a 19 [(0, slT o n k), (1, gi x), (4, gi 0), (7, goN n), (8, goN 0)] (h = liH c e row ∧ okPs c o n ∧ (ixJ (fnI c o) x n 0 = -1 → ∀ g, q (.exit 0) (stOf 19 [] g) (liH c e row)) ∧ ∀ g, q .ret (stOf 19 [(4, gi (ixJ (fnI c o) x n 0))] g) (liH c e row))
 ok := fun i a h c' q => by
  obtain ⟨h1, h2, h3, rfl, hs, h4, h5⟩ := entry_facts q
  refine J.of_told (ix_loop c e row o n k x hs a h1 h2 ?_) ?_
  ·simp only [List.map_cons, List.map_nil]
   rw [h3 (0, slT o n k) (by simp), h3 (1, gi x) (by simp), h3 (4, gi 0) (by simp), h3 (7, goN n) (by simp), h3 (8, goN 0) (by simp)]
  ·rintro ex vs h' g ⟨rfl, ⟨rfl, ha⟩ | ⟨rfl, j, rfl⟩⟩
   ·exact h4 ha (ov ([0, 1, 4, 7, 8].zip vs) g)
   ·exact h5 (ov [(0, slT o n k), (1, gi x), (7, goN n), (8, goN j)] g)
theorem mn_run (c : List Value) (e row o m k : Nat) (K : Value → Prop) : callC Tryz.prog (exec Tryz.prog orcJc 10) (syOf [(7, 32), (10, 2), (11, 3)]) askJc (mnLp c e row o (m + 1) k) 40 160 #[slT o (m + 1) k] (liH c e row) (fun v _ => K v) = ((ilt (Int.ofNat (m + 1)) 1 = false ∧ ahasIndex 0 (m + 1) = true ∧ c[(o + 0)]? = Option.some (gi (intAt c (o + 0))) ∧ loopOf Tryz.prog 160 0 = loopOf Tryz.prog 160 0 ∧ slT o (m + 1) k = slT o (m + 1) k ∧ gi (intAt c (o + 0)) = gi (fnI c o 0) ∧ gi 1 = goN 1 ∧ liH c e row = liH c e row ∧ okPs c o (m + 1) ∧ (∀ _ : Nat → Value, K (gi (mnJ (fnI c o) ((m + 1) - 1)))))) := by kernel_rfl
theorem mx_run (c : List Value) (e row o m k : Nat) (K : Value → Prop) : callC Tryz.prog (exec Tryz.prog orcJc 10) (syOf [(7, 32), (10, 2), (11, 3)]) askJc (mxLp c e row o (m + 1) k) 40 117 #[slT o (m + 1) k] (liH c e row) (fun v _ => K v) = ((ilt (Int.ofNat (m + 1)) 1 = false ∧ ahasIndex 0 (m + 1) = true ∧ c[(o + 0)]? = Option.some (gi (intAt c (o + 0))) ∧ loopOf Tryz.prog 117 0 = loopOf Tryz.prog 117 0 ∧ slT o (m + 1) k = slT o (m + 1) k ∧ gi (intAt c (o + 0)) = gi (fnI c o 0) ∧ gi 1 = goN 1 ∧ liH c e row = liH c e row ∧ okPs c o (m + 1) ∧ (∀ _ : Nat → Value, K (gi (mxJ (fnI c o) ((m + 1) - 1)))))) := by kernel_rfl
theorem ix_run (c : List Value) (e row o m k : Nat) (x : Int) (K : Value → Prop) : callC Tryz.prog (exec Tryz.prog orcJc 10) (syOf []) askJc (ixLp c e row o (m + 1) k x) 40 118 #[slT o (m + 1) k, gi x] (liH c e row) (fun v _ => K v) = ((loopOf Tryz.prog 118 0 = loopOf Tryz.prog 118 0 ∧ slT o (m + 1) k = slT o (m + 1) k ∧ gi x = gi x ∧ gi 0 = gi 0 ∧ goN (m + 1) = goN (m + 1) ∧ gi 0 = goN 0 ∧ liH c e row = liH c e row ∧ okPs c o (m + 1) ∧ (ixJ (fnI c o) x (m + 1) 0 = (-1) → (∀ _ : Nat → Value, K (gi (-1)))) ∧ (∀ _ : Nat → Value, K (gi (ixJ (fnI c o) x (m + 1) 0))))) := by kernel_rfl
end Go.Proofs.YtihnnmejkpddeaaGreatDoor
/-! (OWN WORK. Stage 6: the least and the greatest of integers, the place of one: known calls.) -/
namespace Go.Proofs.YtihnnmejkpddeaaGreatDoor
open Go Go.Am
noncomputable def p1Y {γ : Type} (z : γ) (f : List Value → Nat → Nat → List Value → γ) (vs : List Value) (B : List Cells) : γ := match vs with
 | .slice (some ⟨i, o, none⟩) n _ :: r => match B with
  | [(cs, _, _)] => match Nat.beq i Tryz.prog.globals.size with
   | true => f cs o n r
   | false => z
  | _ => z
 | _ => z
theorem p1Y_at {γ : Type} {z : γ} {f : List Value → Nat → Nat → List Value → γ} {cs : List Value} {o n k e row : Nat} {r : List Value} : p1Y z f (slT o n k :: r) [(cs, e, row)] = f cs o n r := by
 show (match Nat.beq Tryz.prog.globals.size Tryz.prog.globals.size with
  | true => f cs o n r
  | false => z) = _
 rw [Nat.beq_refl]
theorem p1Y_inv {γ : Type} {z : γ} {f : List Value → Nat → Nat → List Value → γ} {vs : List Value} {B : List Cells} : p1Y z f vs B = z ∨ ∃ (cs : List Value) (o n k e row : Nat) (r : List Value), vs = slT o n k :: r ∧ B = [(cs, e, row)] := by
 unfold p1Y
 split
 ·rename_i i o n k r
  split
  ·rename_i cs e row
   split
   ·rename_i hi
    rw [Nat.beq_eq] at hi
    obtain rfl := hi
    exact .inr ⟨cs, o, n, k, e, row, r, rfl, rfl⟩
   ·exact .inl rfl
  ·exact .inl rfl
 ·exact .inl rfl
abbrev P1C := List Value → Prop
abbrev P1O := List Value → Nat → Nat → List Value → Value
open Classical in
noncomputable def p1X (C : P1C) (F : P1O) (vs : List Value) (B : List Cells) : Option Out := p1Y none (fun cs o n r => if okPs cs o n ∧ C r then some (.plain (F cs o n r)) else none) vs B
noncomputable def p1AY (C : P1C) (F : P1O) (vs : List Value) (B : List Cells) (K : Out → Prop) : Prop := p1Y False (fun cs o n r => okPs cs o n ∧ C r ∧ K (.plain (F cs o n r))) vs B
theorem p1A_ok {C : P1C} {F : P1O} (vs : List Value) (B : List Cells) (K : Out → Prop) (h : p1AY C F vs B K) : ∃ o, p1X C F vs B = some o ∧ K o := by
 rcases p1Y_inv (z := False) (f := fun cs o n r => okPs cs o n ∧ C r ∧ K (.plain (F cs o n r))) (vs := vs) (B := B) with q | ⟨cs, o, n, k, e, row, r, rfl, rfl⟩
 ·unfold p1AY at h; rw [q] at h; exact h.elim
 ·unfold p1AY at h
  rw [p1Y_at] at h
  obtain ⟨h1, h2, h3⟩ := h
  refine ⟨.plain (F cs o n r), ?_, h3⟩
  unfold p1X
  rw [p1Y_at, if_pos ⟨h1, h2⟩]
theorem p1O_ok {f : FuncId} {C : P1C} {F : P1O} {orc : Orc} (ho : OrcOk Tryz.prog orc) (hout : ∀ cs o n r, C r → flat 3 (F cs o n r) = true)
  (hk : ∀ (c : List Value) (o m k e row : Nat) (r : List Value), okPs c o (m + 1) → C r → CallJ Tryz.prog f (slT o (m + 1) k :: r).toArray (liH c e row) (fun v _ => v = F c o (m + 1) r)) : OrcOk Tryz.prog (orElse f (anyO Tryz.prog.globals.size (p1X C F)) orc) := by
 refine anyO_ok globs_pos ho fun vs B o h _ => ?_
 rcases p1Y_inv (z := (none : Option Out)) (f := fun cs o n r => open Classical in if okPs cs o n ∧ C r then some (.plain (F cs o n r)) else none) (vs := vs) (B := B) with q | ⟨cs, o', n, k, e, row, r, rfl, rfl⟩
 ·unfold p1X at h; rw [q] at h; cases h
 ·unfold p1X at h
  rw [p1Y_at] at h
  split at h
  ·rename_i hc
   cases h
   obtain ⟨h1, h2⟩ := hc
   obtain ⟨m, rfl⟩ : ∃ m, n = m + 1 := ⟨n - 1, by have := h1.1; omega⟩
   exact ⟨hout _ _ _ _ h2, hk cs o' m k e row r h1 h2⟩
  ·cases h
def c0 (r : List Value) : Prop := r = []
def cx (r : List Value) : Prop := ∃ x : Int, r = [gi x]
noncomputable abbrev mnF (cs : List Value) (o n : Nat) (_ : List Value) : Value := gi (mnJ (fnI cs o) (n - 1))
noncomputable abbrev mxFn (cs : List Value) (o n : Nat) (_ : List Value) : Value := gi (mxJ (fnI cs o) (n - 1))
noncomputable def xOf : List Value → Int
 | [v] => intOf v
 | _ => 0
noncomputable abbrev ixF (cs : List Value) (o n : Nat) (r : List Value) : Value := gi (ixJ (fnI cs o) (xOf r) n 0)
noncomputable def orcLa : Orc := orElse 160 (anyO Tryz.prog.globals.size (p1X c0 mnF)) (orElse 117 (anyO Tryz.prog.globals.size (p1X c0 mxFn)) (orElse 118 (anyO Tryz.prog.globals.size (p1X cx ixF)) orcJc))
set_option maxRecDepth 100000 in
theorem orcLa_ok : OrcOk Tryz.prog orcLa := by
 refine p1O_ok (p1O_ok (p1O_ok orcJc_ok (fun _ _ _ _ _ => rfl) ?_) (fun _ _ _ _ _ => rfl) ?_) (fun _ _ _ _ _ => rfl) ?_
 ·rintro c o m k e row r hc ⟨x, rfl⟩
  exact callC_ok mixed orcJc_ok askJc_ok (Eq.mpr (ix_run c e row o m k x _) ⟨rfl, rfl, rfl, rfl, rfl, rfl, rfl, hc, fun h _ => by show gi (-1) = gi (ixJ (fnI c o) x (m + 1) 0); rw [h], fun _ => rfl⟩)
 ·rintro c o m k e row r hc rfl
  exact callC_ok mixed orcJc_ok askJc_ok (Eq.mpr (mx_run c e row o m k _) ⟨by rw [ilt_say]; exact decide_eq_false (by simp only [Int.ofNat_eq_natCast]; omega), rfl, hc.2.2 0 (by omega), rfl, rfl, rfl, rfl, rfl, hc, fun _ => rfl⟩)
 ·rintro c o m k e row r hc rfl
  exact callC_ok mixed orcJc_ok askJc_ok (Eq.mpr (mn_run c e row o m k _) ⟨by rw [ilt_say]; exact decide_eq_false (by simp only [Int.ofNat_eq_natCast]; omega), rfl, hc.2.2 0 (by omega), rfl, rfl, rfl, rfl, rfl, hc, fun _ => rfl⟩)
noncomputable def askLa : Asks := asksV Tryz.prog.globals.size 160 (p1AY c0 mnF) (asksV Tryz.prog.globals.size 117 (p1AY c0 mxFn) (asksV Tryz.prog.globals.size 118 (p1AY cx ixF) askJc))
theorem askLa_ok : AsksOk orcLa askLa := asksV_ok p1A_ok (asksV_ok p1A_ok (asksV_ok p1A_ok askJc_ok))
end Go.Proofs.YtihnnmejkpddeaaGreatDoor
