/-
  OWN WORK. Stage 6: traces with values out of range: loops.
-/
import Derived.Test.YtihnnmejkpddeaaGreatDoorJdDG
/-! (OWN WORK. Stage 6: traces with values out of range: rounds of their loops.) -/
namespace Go.Proofs.YtihnnmejkpddeaaGreatDoor
open Go Go.Am
noncomputable abbrev cOv : Value := clF 123
noncomputable abbrev unH (c : List Value) (e row p q : Nat) : AHeap := canonT [] (fun _ => 0) Tryz.prog.globals.size [(c, e, row, true), ([goN p, goN q], 24, 0, false)]
theorem oxv_body (c : List Value) (e row n k j : Nat) (g : Nat → Value) (Q : Exit → List Value → AHeap → Prop) : execC Tryz.prog (exec Tryz.prog orcKb 10) (syOf [(9, 1), (14, 2), (15, 46), (16, 1)]) (askKb 0) (noLoops _) 40 (loopOf Tryz.prog 165 0) (stOf 19 [(0, liP n k), (1, cOv), (4, gi 0), (7, goN n), (8, goN j)] g) (liH c e row) (told 19 [0, 1, 4, 7, 8] Q) = (((Nat.blt j n = true → (Nat.blt j n = true ∧ c[(0 + (j * 4))]? = Option.some (gi (intAt c (0 + (j * 4)))) ∧ c[((0 + (j * 4)) + 1)]? = Option.some (gi (intAt c ((0 + (j * 4)) + 1))) ∧ c[(((0 + (j * 4)) + 1) + 1)]? = Option.some (Value.bool (boolAt c (((0 + (j * 4)) + 1) + 1))) ∧ c[((((0 + (j * 4)) + 1) + 1) + 1)]? = Option.some (Value.bool (boolAt c ((((0 + (j * 4)) + 1) + 1) + 1))) ∧ (boolAt c ((((0 + (j * 4)) + 1) + 1) + 1) = true → Q .ret [liP n k, cOv, goN j, goN n, goN j] ((liH c e row).push (.cells [gi (intAt c (0 + (j * 4))), gi (intAt c ((0 + (j * 4)) + 1)), Value.bool (boolAt c (((0 + (j * 4)) + 1) + 1)), Value.bool (boolAt c ((((0 + (j * 4)) + 1) + 1) + 1))] 174 0 false))) ∧ (boolAt c ((((0 + (j * 4)) + 1) + 1) + 1) = false → Q .normal [liP n k, cOv, gi 0, goN n, gi (fwrap IntKind.i64 (Int.ofNat (j + 1)))] ((liH c e row).push (.cells [gi (intAt c (0 + (j * 4))), gi (intAt c ((0 + (j * 4)) + 1)), Value.bool (boolAt c (((0 + (j * 4)) + 1) + 1)), Value.bool (boolAt c ((((0 + (j * 4)) + 1) + 1) + 1))] 174 0 false))))) ∧ (Nat.blt j n = false → Q (.exit 0) [liP n k, cOv, gi 0, goN n, goN j] (liH c e row)))) := by kernel_rfl
theorem hov_body (c : List Value) (e row n k j : Nat) (g : Nat → Value) (Q : Exit → List Value → AHeap → Prop) : execC Tryz.prog (exec Tryz.prog orcKb 10) (syOf [(7, 1), (12, 2), (14, 3)]) (askKb 0) (noLoops _) 40 (loopOf Tryz.prog 128 0) (stOf 15 [(0, liP n k), (2, .bool false), (3, goN j)] g) (liH c e row) (told 15 [0, 2, 3] Q) = ((Nat.blt j n = true → (Nat.blt j n = true ∧ c[((0 + (j * 4)) + 3)]? = Option.some (Value.bool (boolAt c ((0 + (j * 4)) + 3))) ∧ (bif (boolAt c ((0 + (j * 4)) + 3)) then Q .ret [liP n k, Value.bool true, goN j] (liH c e row) else Q .normal [liP n k, Value.bool false, gi (fwrap IntKind.i64 (Int.ofNat (j + 1)))] (liH c e row)))) ∧ (Nat.blt j n = false → Q (.exit 0) [liP n k, Value.bool false, goN j] (liH c e row))) := by kernel_rfl
theorem hun_body (c : List Value) (e row n k p q j : Nat) (g : Nat → Value) (Q : Exit → List Value → AHeap → Prop) : execC Tryz.prog (exec Tryz.prog orcKb 10) (syOf [(11, 1), (16, 2), (18, 3)]) (askKb 0) (noLoops _) 40 (loopOf Tryz.prog 127 0) (stOf 19 [(0, liP n k), (3, ptN 1), (4, .bool false), (5, goN j)] g) (unH c e row p q) (told 19 [0, 3, 4, 5] Q) = ((Nat.blt j q = true → (Nat.blt j n = true ∧ c[((0 + (j * 4)) + 2)]? = Option.some (Value.bool (boolAt c ((0 + (j * 4)) + 2))) ∧ (bif (boolAt c ((0 + (j * 4)) + 2)) then Q .ret [liP n k, ptN 1, Value.bool true, goN j] (unH c e row p q) else Q .normal [liP n k, ptN 1, Value.bool false, gi (fwrap IntKind.i64 (Int.ofNat (j + 1)))] (unH c e row p q)))) ∧ (Nat.blt j q = false → Q (.exit 0) [liP n k, ptN 1, Value.bool false, goN j] (unH c e row p q))) := by kernel_rfl
end Go.Proofs.YtihnnmejkpddeaaGreatDoor
/-! (OWN WORK. Stage 6: traces with values out of range: their loops.) -/
namespace Go.Proofs.YtihnnmejkpddeaaGreatDoor
open Go Go.Am
noncomputable def ovF (q : V4) : Bool := q.2.2.2
noncomputable def ovAt (l : List V4) (i : Nat) : Bool := match l[i]? with
 | some q => q.2.2.2
 | none => false
noncomputable def unAt (l : List V4) (i : Nat) : Bool := match l[i]? with
 | some q => q.2.2.1
 | none => false
noncomputable def ovR (l : List V4) : Nat → Bool
 | 0 => false
 | j + 1 => ovR l j || ovAt l j
noncomputable def unR (l : List V4) (p : Nat) : Nat → Bool
 | 0 => false
 | j + 1 => unR l p j || unAt l (p + j)
theorem ovR_up {l : List V4} {j : Nat} (h : ovR l j = true) : ∀ {n}, j ≤ n → ovR l n = true
 | 0, hn => by
    obtain rfl : j = 0 := by omega
    exact h
 | n + 1, hn => by
  by_cases e : j = n + 1
  ·subst e; exact h
  ·show (ovR l n || ovAt l n) = true
   rw [ovR_up h (by omega)]; rfl
theorem unR_up {l : List V4} {p j : Nat} (h : unR l p j = true) : ∀ {n}, j ≤ n → unR l p n = true
 | 0, hn => by
    obtain rfl : j = 0 := by omega
    exact h
 | n + 1, hn => by
  by_cases e : j = n + 1
  ·subst e; exact h
  ·show (unR l p n || unAt l (p + n)) = true
   rw [unR_up h (by omega)]; rfl
theorem idx_ov (l : List V4) : (!(ilt (idxB ovF l 0) 0)) = ovR l l.length := by
 have key : ∀ (d : Nat) (j : Nat), j + d = l.length → ovR l j = false → (!(ilt (idxB ovF (l.drop j) j) 0)) = ovR l l.length := by
  intro d
  induction d with
  | zero =>
   intro j hj h
   rw [idxB_end (by omega), show l.length = j by omega, h]; rfl
  | succ d ih =>
   intro j hj h
   have hl : j < l.length := by omega
   rw [idxB_drop hl]
   have e : ovAt l j = ovF l[j] := by unfold ovAt; rw [List.getElem?_eq_getElem hl]; rfl
   cases hb : ovF l[j] with
   | true =>
    have : ovR l (j + 1) = true := by show (ovR l j || ovAt l j) = true; rw [e, hb, Bool.or_true]
    rw [ovR_up this (by omega), cond_true, ilt_say, decide_eq_false (by simp only [Int.ofNat_eq_natCast]; omega)]; rfl
   | false =>
    rw [cond_false]
    exact ih (j + 1) (by omega) (by show (ovR l j || ovAt l j) = false; rw [h, e, hb]; rfl)
 have := key l.length 0 (by omega) rfl
 rwa [List.drop_zero] at this
noncomputable def oxV (n k : Nat) (at_ : Nat → Nat) (j : Nat) : List Value := [.slice (some ⟨at_ 0, 0, none⟩) n k, cOv, gi 0, goN n, goN j]
set_option maxRecDepth 100000 in
theorem oxv_loop (l : List V4) (e row k : Nat) (hl : l.length ≤ 65536) : ∀ (a : AAct) (h : AHeap), Laid [(cellsV l, e, row, true)] (nG1 + ·) h → a.n = 19 → a.marks = [] → [0, 1, 4, 7, 8].map a.tmp = oxV l.length k (nG1 + ·) 0 →
  J Tryz.prog (.loop (loopOf Tryz.prog 165 0)) a h (told 19 [0, 1, 4, 7, 8] fun ex vs _ => (ex = .exit 0 ∧ idxB ovF l 0 = -1) ∨ (ex = .ret ∧ ∃ (x : Value) (n j : Nat), vs = [x, cOv, gi (idxB ovF l 0), goN n, goN j])) := by
 refine fold_rule (P := Tryz.prog) 1 (fun _ => [(cellsV l, e, row, true)]) globs_pos (by decide) (by decide) (fun _ => rfl) (fun _ b hb => by
   simp only [List.mem_cons, List.not_mem_nil, or_false] at hb
   rcases hb with rfl
   exact cellsV_flat l) (oxV l.length k) (fun j => idxB ovF l 0 = idxB ovF (l.drop j) j) l.length rfl _ (nG1 + ·) (plus_nodup nG1 1) (fun q _ => by show Tryz.prog.globals.size ≤ nG1 + q; unfold nG1; omega) (fun j => by kernel_rfl) (fun j => by kernel_rfl) (fun at_ j q hq => by
   match q, hq with
   | 0, _ => exact ⟨(0, .slice (some ⟨at_ 0, 0, none⟩) l.length k), by simp [oxV], by simp [named]⟩) ?_ ?_
 ·intro j hj hI g
  refine execC_ok mixed orcKb_ok (askKb_ok 0) (noLoops _) (Eq.mpr (oxv_body _ e row _ k j g _) ⟨fun hlt => ?_, fun hge => absurd (blt_false hge) (by omega)⟩)
  obtain ⟨⟨f0, f1, f2, f3⟩, i0, i1, i2, i3⟩ := cellsV_first hj
  rw [idxB_drop hj] at hI
  refine ⟨hlt, f0, f1, f2, f3, fun h3 => .inr ⟨rfl, liP l.length k, l.length, j, ?_⟩, fun h3 => ⟨?_, ?_, fun q b hb => ?_⟩⟩
  ·rw [i3] at h3
   have h3 : ovF l[j] = true := h3
   rw [hI, h3]; rfl
  ·rw [i3] at h3
   have h3 : ovF l[j] = false := h3
   rw [hI, h3]; rfl
  ·rw [fwrap_nat (by omega)]; rfl
  ·match q, hb with
   | 0, hb => cases hb; show _ = _; kernel_rfl
 ·intro hI g
  exact execC_ok mixed orcKb_ok (askKb_ok 0) (noLoops _) (Eq.mpr (oxv_body _ e row _ k _ g _) ⟨fun hlt => absurd (blt_true hlt) (by omega), fun _ => .inl ⟨rfl, by rw [hI, idxB_end (Nat.le_refl _)]⟩⟩)
noncomputable def oxvL (l : List V4) (n e row k : Nat) : Loops Tryz.prog where
 body := fun _ => loopOf Tryz.prog 165 0
 spec := fun _ a h c => entry a 19 [(0, liP n k), (1, cOv), (4, gi 0), (7, goN n), (8, goN 0)] (h.get nG1 = some (.cells (cellsV l) e row true) ∧ (l.length = n ∧ n ≤ 65536) ∧ (idxB ovF l 0 = -1 → ∀ g h', c (.exit 0) (stOf 19 [] g) h') ∧ ∀ g h', c .ret (stOf 19 [(4, gi (idxB ovF l 0))] g) h')
 ok := fun i a h c q => by
  obtain ⟨h1, h2, h3, g0, ⟨rfl, hs⟩, h4, h5⟩ := entry_facts q
  refine J.of_told (oxv_loop l e row k hs a h (fun q b hb => by match q, hb with | 0, hb => cases hb; exact g0) h1 h2 ?_) ?_
  ·simp only [List.map_cons, List.map_nil]
   rw [h3 (0, liP l.length k) (by simp), h3 (1, cOv) (by simp), h3 (4, gi 0) (by simp), h3 (7, goN l.length) (by simp), h3 (8, goN 0) (by simp)]
   rfl
  ·rintro ex vs h' g (⟨rfl, ha⟩ | ⟨rfl, x, n, j, rfl⟩)
   ·exact h4 ha (ov ([0, 1, 4, 7, 8].zip vs) g) h'
   ·exact h5 (ov [(0, x), (1, cOv), (7, goN n), (8, goN j)] g) h'
theorem oxv_run (l : List V4) (m e row k : Nat) (K : Value → Prop) : callC Tryz.prog (exec Tryz.prog orcKb 10) (syOf []) (askKb 0) (oxvL l (m + 1) e row k) 40 165 #[liP (m + 1) k, cOv] (liH (cellsV l) e row) (fun v _ => K v) = ((loopOf Tryz.prog 165 0 = loopOf Tryz.prog 165 0 ∧ liP (m + 1) k = liP (m + 1) k ∧ cOv = cOv ∧ gi 0 = gi 0 ∧ goN (m + 1) = goN (m + 1) ∧ gi 0 = goN 0 ∧ (liH (cellsV l) e row).get (nG1) = Option.some (.cells (cellsV l) e row true) ∧ (List.length l = (m + 1) ∧ ((m + 1) : Nat) ≤ 65536) ∧ (idxB ovF l 0 = (-1) → (∀ _ : Nat → Value, (∀ _ : AHeap, K (gi (-1))))) ∧ (∀ _ : Nat → Value, (∀ _ : AHeap, K (gi (idxB ovF l 0)))))) := by kernel_rfl
set_option maxRecDepth 100000 in
theorem hov_loop (l : List V4) (e row k : Nat) (hl : l.length ≤ 65536) : ∀ a : AAct, a.n = 15 → a.marks = [] → [0, 2, 3].map a.tmp = [liP l.length k, .bool false, goN 0] →
  J Tryz.prog (.loop (loopOf Tryz.prog 128 0)) a (liH (cellsV l) e row) (told 15 [0, 2, 3] fun ex vs h => h = liH (cellsV l) e row ∧ ((ex = .exit 0 ∧ ovR l l.length = false ∧ vs = [liP l.length k, .bool false, goN l.length]) ∨ (ex = .ret ∧ ovR l l.length = true ∧ ∃ j, vs = [liP l.length k, .bool true, goN j]))) := by
 refine scan_rule _ (fun j => [liP l.length k, .bool false, goN j]) (fun j => ovR l j = false) l.length rfl _ ?_ ?_
 ·intro j hj hI g
  refine execC_ok mixed orcKb_ok (askKb_ok 0) (noLoops _) (Eq.mpr (hov_body _ e row _ k j g _) ⟨fun hlt => ?_, fun hge => absurd (blt_false hge) (by omega)⟩)
  obtain ⟨⟨_, _, _, f3⟩, _, _, _, i3⟩ := cellsV_first hj
  have e0 : ovAt l j = l[j].2.2.2 := by unfold ovAt; rw [List.getElem?_eq_getElem hj]
  refine ⟨hlt, f3, ?_⟩
  have i3' : boolAt (cellsV l) (0 + j * 4 + 3) = l[j].2.2.2 := i3
  rw [i3']
  cases hb : l[j].2.2.2 with
  | true =>
   have : ovR l (j + 1) = true := by show (ovR l j || ovAt l j) = true; rw [e0, hb, Bool.or_true]
   exact ⟨rfl, .inr ⟨rfl, ovR_up this (by omega), j, rfl⟩⟩
  | false =>
   refine ⟨by show (ovR l j || ovAt l j) = false; rw [hI, e0, hb]; rfl, ?_, rfl⟩
   rw [fwrap_nat (by omega)]
 ·intro hI g
  exact execC_ok mixed orcKb_ok (askKb_ok 0) (noLoops _) (Eq.mpr (hov_body _ e row _ k _ g _) ⟨fun hlt => absurd (blt_true hlt) (by omega), fun _ => ⟨rfl, .inl ⟨rfl, hI, rfl⟩⟩⟩)
noncomputable def hovL (l : List V4) (n e row k : Nat) : Loops Tryz.prog where
 body := fun _ => loopOf Tryz.prog 128 0
 spec := fun _ a h c => entry a 15 [(0, liP n k), (2, .bool false), (3, goN 0)] (h = liH (cellsV l) e row ∧ (l.length = n ∧ n ≤ 65536) ∧ (ovR l n = false → ∀ g, c (.exit 0) (stOf 15 [] g) (liH (cellsV l) e row)) ∧ (ovR l n = true → ∀ g, c .ret (stOf 15 [(2, .bool true)] g) (liH (cellsV l) e row)))
 ok := fun i a h c q => by
  obtain ⟨h1, h2, h3, rfl, ⟨rfl, hs⟩, h4, h5⟩ := entry_facts q
  refine J.of_told (hov_loop l e row k hs a h1 h2 ?_) ?_
  ·simp only [List.map_cons, List.map_nil]
   rw [h3 (0, liP l.length k) (by simp), h3 (2, .bool false) (by simp), h3 (3, goN 0) (by simp)]
  ·rintro ex vs h' g ⟨rfl, ⟨rfl, ha, rfl⟩ | ⟨rfl, ha, j, rfl⟩⟩
   ·exact h4 ha (ov [(0, liP l.length k), (2, .bool false), (3, goN l.length)] g)
   ·exact h5 ha (ov [(0, liP l.length k), (3, goN j)] g)
theorem hov_run (l : List V4) (m e row k : Nat) (K : Value → Prop) : callC Tryz.prog (exec Tryz.prog orcKb 10) (syOf []) (askKb 0) (hovL l (m + 1) e row k) 40 128 #[liP (m + 1) k] (liH (cellsV l) e row) (fun v _ => K v) = ((loopOf Tryz.prog 128 0 = loopOf Tryz.prog 128 0 ∧ liP (m + 1) k = liP (m + 1) k ∧ Value.bool false = Value.bool false ∧ gi 0 = goN 0 ∧ liH (cellsV l) e row = liH (cellsV l) e row ∧ (List.length l = (m + 1) ∧ ((m + 1) : Nat) ≤ 65536) ∧ (ovR l (m + 1) = false → (∀ _ : Nat → Value, K (Value.bool false))) ∧ (ovR l (m + 1) = true → (∀ _ : Nat → Value, K (Value.bool true))))) := by kernel_rfl
set_option maxRecDepth 100000 in
theorem hun_loop (l : List V4) (e row k p q : Nat) (hl : l.length ≤ 65536) (hp : p ≤ q) (hq : q ≤ l.length) : ∀ a : AAct, a.n = 19 → a.marks = [] → [0, 3, 4, 5].map a.tmp = [liP l.length k, ptN 1, .bool false, goN p] →
  J Tryz.prog (.loop (loopOf Tryz.prog 127 0)) a (unH (cellsV l) e row p q) (told 19 [0, 3, 4, 5] fun ex vs h => h = unH (cellsV l) e row p q ∧ ((ex = .exit 0 ∧ unR l p (q - p) = false ∧ vs = [liP l.length k, ptN 1, .bool false, goN q]) ∨ (ex = .ret ∧ unR l p (q - p) = true ∧ ∃ j, vs = [liP l.length k, ptN 1, .bool true, goN j]))) := by
 refine scan_rule _ (fun j => [liP l.length k, ptN 1, .bool false, goN (p + j)]) (fun j => unR l p j = false) (q - p) rfl _ ?_ ?_
 ·intro j hj hI g
  have hj' : p + j < l.length := by omega
  refine execC_ok mixed orcKb_ok (askKb_ok 0) (noLoops _) (Eq.mpr (hun_body _ e row _ k p q (p + j) g _) ⟨fun _ => ?_, fun hge => absurd (blt_false hge) (by omega)⟩)
  obtain ⟨⟨_, _, f2, _⟩, _, _, i2, _⟩ := cellsV_first hj'
  have e0 : unAt l (p + j) = l[p + j].2.2.1 := by unfold unAt; rw [List.getElem?_eq_getElem hj']
  refine ⟨by rw [Nat.blt_eq]; exact hj', f2, ?_⟩
  have i2' : boolAt (cellsV l) (0 + (p + j) * 4 + 2) = l[p + j].2.2.1 := i2
  rw [i2']
  cases hb : l[p + j].2.2.1 with
  | true =>
   have : unR l p (j + 1) = true := by show (unR l p j || unAt l (p + j)) = true; rw [e0, hb, Bool.or_true]
   exact ⟨rfl, .inr ⟨rfl, unR_up this (by omega), p + j, rfl⟩⟩
  | false =>
   refine ⟨by show (unR l p j || unAt l (p + j)) = false; rw [hI, e0, hb]; rfl, ?_, rfl⟩
   rw [fwrap_nat (by omega)]; rfl
 ·intro hI g
  refine execC_ok mixed orcKb_ok (askKb_ok 0) (noLoops _) (Eq.mpr (hun_body _ e row _ k p q (p + (q - p)) g _) ⟨fun hlt => absurd (blt_true hlt) (by omega), fun _ => ⟨rfl, .inl ⟨rfl, hI, ?_⟩⟩⟩)
  rw [show p + (q - p) = q by omega]
noncomputable def hunL (l : List V4) (n e row k p q : Nat) : Loops Tryz.prog where
 body := fun _ => loopOf Tryz.prog 127 0
 spec := fun _ a h c => entry a 19 [(0, liP n k), (3, ptN 1), (4, .bool false), (5, goN p)] (h = unH (cellsV l) e row p q ∧ (l.length = n ∧ n ≤ 65536 ∧ p ≤ q ∧ q ≤ n) ∧ (unR l p (q - p) = false → ∀ g, c (.exit 0) (stOf 19 [] g) (unH (cellsV l) e row p q)) ∧ (unR l p (q - p) = true → ∀ g, c .ret (stOf 19 [(4, .bool true)] g) (unH (cellsV l) e row p q)))
 ok := fun i a h c x => by
  obtain ⟨h1, h2, h3, rfl, ⟨rfl, hs, hp, hq⟩, h4, h5⟩ := entry_facts x
  refine J.of_told (hun_loop l e row k p q hs hp hq a h1 h2 ?_) ?_
  ·simp only [List.map_cons, List.map_nil]
   rw [h3 (0, liP l.length k) (by simp), h3 (3, ptN 1) (by simp), h3 (4, .bool false) (by simp), h3 (5, goN p) (by simp)]
  ·rintro ex vs h' g ⟨rfl, ⟨rfl, ha, rfl⟩ | ⟨rfl, ha, j, rfl⟩⟩
   ·exact h4 ha (ov [(0, liP l.length k), (3, ptN 1), (4, .bool false), (5, goN q)] g)
   ·exact h5 ha (ov [(0, liP l.length k), (3, ptN 1), (5, goN j)] g)
theorem hun_run (l : List V4) (m e row k p q : Nat) (K : Value → Prop) : callC Tryz.prog (exec Tryz.prog orcKb 10) (syOf []) (askKb 0) (hunL l (m + 1) e row k p q) 40 127 #[liP (m + 1) k, .agg #[goN p, goN q]] (liH (cellsV l) e row) (fun v _ => K v) = ((loopOf Tryz.prog 127 0 = loopOf Tryz.prog 127 0 ∧ liP (m + 1) k = liP (m + 1) k ∧ Value.pointer (some ⟨nG1 + 1, 0, none⟩) = ptN 1 ∧ Value.bool false = Value.bool false ∧ goN p = goN p ∧ (liH (cellsV l) e row).push (.cells [goN p, goN q] 24 0 false) = unH (cellsV l) e row p q ∧ (List.length l = (m + 1) ∧ ((m + 1) : Nat) ≤ 65536 ∧ (p : Nat) ≤ q ∧ (q : Nat) ≤ (m + 1)) ∧ (unR l p (q - p) = false → (∀ _ : Nat → Value, K (Value.bool false))) ∧ (unR l p (q - p) = true → (∀ _ : Nat → Value, K (Value.bool true))))) := by kernel_rfl
end Go.Proofs.YtihnnmejkpddeaaGreatDoor
