/-
  OWN WORK. Stage 6: the reference's best window.
-/
import Derived.Test.YtihnnmejkpddeaaGreatDoorBsOS
/-! (OWN WORK. Stage 6: the reference's best window: rounds.) -/
namespace Go.Proofs.YtihnnmejkpddeaaGreatDoor
open Go Go.Am
noncomputable abbrev rbB (c : List Value) (e row lo hi : Nat) (a b u v : Int) : List Blk := [(c, e, row, true), ([goN lo, goN hi], 26, 0, false), ([gi 0, gi 0], 24, 0, false), ([gi 0, gi 0], 28, 0, false), ([gi a, gi b], 24, 0, false), ([gi u, gi v], 28, 0, false)]
noncomputable abbrev rbH (c : List Value) (e row lo hi : Nat) (a b u v : Int) : AHeap := canonT [] (fun _ => 0) Tryz.prog.globals.size (rbB c e row lo hi a b u v)
theorem rb_in0 (c : List Value) (e row m k lo hi p w : Nat) (a b u v : Int) (g : Nat → Value) (Q : Exit → List Value → AHeap → Prop) : execC Tryz.prog (exec Tryz.prog orcBc 10) (syOf [(27, 1), (34, 1), (45, 7)]) (askBc p (p + w) lo hi) (noLoops _) 40 (loopOf Tryz.prog 25 2) (stOf 59 [(0, liP (m + 1) k), (3, ptN 1), (4, ptN 2), (5, ptN 3), (7, ptN 4), (8, ptN 5), (9, .bool false), (10, goN p), (11, goN w)] g) (rbH c e row lo hi a b u v) (told 59 [0, 3, 4, 5, 7, 8, 9, 10, 11] Q) = ((((!(Nat.blt hi w)) = true → (((!(ilt (Int.ofNat (m + 1)) (fwrap IntKind.i64 (Int.ofNat (p + w))))) = true → ((List.all c (flat 3) = true ∧ True) ∧ ([Value.agg (Array.mk (List.take 2 (List.drop 0 ([] ++ ([goN p, gi (fwrap IntKind.i64 (Int.ofNat (p + w)))] ++ [])))))] = [agW p (p + w)] ∧ rwOk c row (m + 1) k p (p + w)) ∧ rt2 (wtP c p (p + w)) = rt2 (wtP c p (p + w)) ∧ Q .normal [liP (m + 1) k, ptN 1, ptN 2, ptN 3, ptN 4, ptN 5, Value.bool true, goN p, gi (fwrap IntKind.i64 (Int.ofNat (w + 1)))] (((((((rbH c e row lo hi a b u v).push (.cells [gi 0, gi 0] 24 0 false)).set (nG1 + 6) (.cells ([] ++ ([goN p, gi (fwrap IntKind.i64 (Int.ofNat (p + w)))] ++ [])) 24 0 false)).push (.cells [gi 0, gi 0] 28 0 false)).set (nG1 + 7) (.cells ([] ++ ([gi ((wtP c p (p + w)).1), gi ((wtP c p (p + w)).2)] ++ [])) 28 0 false)).set (nG1 + 4) (.cells ([] ++ (List.take 2 (List.drop 0 ([] ++ ([goN p, gi (fwrap IntKind.i64 (Int.ofNat (p + w)))] ++ []))) ++ [])) 24 0 false)).set (nG1 + 5) (.cells ([] ++ (List.take 2 (List.drop 0 ([] ++ ([gi ((wtP c p (p + w)).1), gi ((wtP c p (p + w)).2)] ++ []))) ++ [])) 28 0 false)))) ∧ ((!(ilt (Int.ofNat (m + 1)) (fwrap IntKind.i64 (Int.ofNat (p + w))))) = false → Q (.exit 2) [liP (m + 1) k, ptN 1, ptN 2, ptN 3, ptN 4, ptN 5, Value.bool false, goN p, goN w] (rbH c e row lo hi a b u v)))) ∧ ((!(Nat.blt hi w)) = false → Q (.exit 2) [liP (m + 1) k, ptN 1, ptN 2, ptN 3, ptN 4, ptN 5, Value.bool false, goN p, goN w] (rbH c e row lo hi a b u v)))) := by kernel_rfl
theorem rb_in1 (c : List Value) (e row m k lo hi p w : Nat) (a b u v : Int) (g : Nat → Value) (Q : Exit → List Value → AHeap → Prop) : execC Tryz.prog (exec Tryz.prog orcBc 10) (syOf [(27, 1), (34, 1), (45, 7), (52, 1)]) (askBc p (p + w) lo hi) (noLoops _) 40 (loopOf Tryz.prog 25 2) (stOf 59 [(0, liP (m + 1) k), (3, ptN 1), (4, ptN 2), (5, ptN 3), (7, ptN 4), (8, ptN 5), (9, .bool true), (10, goN p), (11, goN w)] g) (rbH c e row lo hi a b u v) (told 59 [0, 3, 4, 5, 7, 8, 9, 10, 11] Q) = ((((!(Nat.blt hi w)) = true → (((!(ilt (Int.ofNat (m + 1)) (fwrap IntKind.i64 (Int.ofNat (p + w))))) = true → ((List.all c (flat 3) = true ∧ True) ∧ ([Value.agg (Array.mk (List.take 2 (List.drop 0 ([] ++ ([goN p, gi (fwrap IntKind.i64 (Int.ofNat (p + w)))] ++ [])))))] = [agW p (p + w)] ∧ rwOk c row (m + 1) k p (p + w)) ∧ (ilt 0 (cpR (Prod.mk ((wtP c p (p + w)).1) ((wtP c p (p + w)).2)) (Prod.mk u v)) = true → (rt2 (wtP c p (p + w)) = rt2 (wtP c p (p + w)) ∧ Q .normal [liP (m + 1) k, ptN 1, ptN 2, ptN 3, ptN 4, ptN 5, Value.bool true, goN p, gi (fwrap IntKind.i64 (Int.ofNat (w + 1)))] (((((((rbH c e row lo hi a b u v).push (.cells [gi 0, gi 0] 24 0 false)).set (nG1 + 6) (.cells ([] ++ ([goN p, gi (fwrap IntKind.i64 (Int.ofNat (p + w)))] ++ [])) 24 0 false)).push (.cells [gi 0, gi 0] 28 0 false)).set (nG1 + 7) (.cells ([] ++ ([gi ((wtP c p (p + w)).1), gi ((wtP c p (p + w)).2)] ++ [])) 28 0 false)).set (nG1 + 4) (.cells ([] ++ (List.take 2 (List.drop 0 ([] ++ ([goN p, gi (fwrap IntKind.i64 (Int.ofNat (p + w)))] ++ []))) ++ [])) 24 0 false)).set (nG1 + 5) (.cells ([] ++ (List.take 2 (List.drop 0 ([] ++ ([gi ((wtP c p (p + w)).1), gi ((wtP c p (p + w)).2)] ++ []))) ++ [])) 28 0 false)))) ∧ (ilt 0 (cpR (Prod.mk ((wtP c p (p + w)).1) ((wtP c p (p + w)).2)) (Prod.mk u v)) = false → Q .normal [liP (m + 1) k, ptN 1, ptN 2, ptN 3, ptN 4, ptN 5, Value.bool true, goN p, gi (fwrap IntKind.i64 (Int.ofNat (w + 1)))] (((((rbH c e row lo hi a b u v).push (.cells [gi 0, gi 0] 24 0 false)).set (nG1 + 6) (.cells ([] ++ ([goN p, gi (fwrap IntKind.i64 (Int.ofNat (p + w)))] ++ [])) 24 0 false)).push (.cells [gi 0, gi 0] 28 0 false)).set (nG1 + 7) (.cells ([] ++ ([gi ((wtP c p (p + w)).1), gi ((wtP c p (p + w)).2)] ++ [])) 28 0 false))))) ∧ ((!(ilt (Int.ofNat (m + 1)) (fwrap IntKind.i64 (Int.ofNat (p + w))))) = false → Q (.exit 2) [liP (m + 1) k, ptN 1, ptN 2, ptN 3, ptN 4, ptN 5, Value.bool true, goN p, goN w] (rbH c e row lo hi a b u v)))) ∧ ((!(Nat.blt hi w)) = false → Q (.exit 2) [liP (m + 1) k, ptN 1, ptN 2, ptN 3, ptN 4, ptN 5, Value.bool true, goN p, goN w] (rbH c e row lo hi a b u v)))) := by kernel_rfl
end Go.Proofs.YtihnnmejkpddeaaGreatDoor
/-! (OWN WORK. Stage 6: the reference's best window: the inner loop.) -/
namespace Go.Proofs.YtihnnmejkpddeaaGreatDoor
open Go Go.Am
noncomputable def oB (o : Option W4) : Bool := match o with
 | none => false
 | some _ => true
noncomputable def oX (o : Option W4) : W4 := match o with
 | none => z4
 | some m => m
theorem bsW_snoc (o : Option W4) (a : List W4) (x : W4) : bsW o (a ++ [x]) = upW (bsW o a) x := by rw [bsW_app]; rfl
noncomputable abbrev rbC (c : List Value) (e row lo hi : Nat) (o : Option W4) : List Blk := rbB c e row lo hi (oX o).1 (oX o).2.1 (oX o).2.2.1 (oX o).2.2.2
noncomputable abbrev rbO (c : List Value) (e row lo hi : Nat) (o : Option W4) : AHeap := rbH c e row lo hi (oX o).1 (oX o).2.1 (oX o).2.2.1 (oX o).2.2.2
noncomputable abbrev rbV (n k p : Nat) (o : Option W4) (w : Nat) (at_ : Nat → Nat) : List Value := [.slice (some ⟨at_ 0, 0, none⟩) n k, .pointer (some ⟨at_ 1, 0, none⟩), .pointer (some ⟨at_ 2, 0, none⟩), .pointer (some ⟨at_ 3, 0, none⟩), .pointer (some ⟨at_ 4, 0, none⟩), .pointer (some ⟨at_ 5, 0, none⟩), .bool (oB o), goN p, goN w]
section
variable {c : List Value} {row m k : Nat} (C : BsOk c row (m + 1) k)
include C
set_option maxRecDepth 100000 in
theorem rb_loop (e lo hi p : Nat) (o : Option W4) (h0 : 0 < lo) (hl : lo ≤ 1000) (hh : hi ≤ 1000) (hp : p < m + 1) : ∀ (a : AAct) (h : AHeap), Laid (rbC c e row lo hi o) (nG1 + ·) h → a.n = 59 → a.marks = [] → [0, 3, 4, 5, 7, 8, 9, 10, 11].map a.tmp = rbV (m + 1) k p o lo (nG1 + ·) →
  J Tryz.prog (.loop (loopOf Tryz.prog 25 2)) a h (told 59 [0, 3, 4, 5, 7, 8, 9, 10, 11] fun ex vs h => ex = .exit 2 ∧ vs = rbV (m + 1) k p (bsW o (rwL c p (p + lo) (rwN lo hi (m + 1) p))) (lo + rwN lo hi (m + 1) p) (nG1 + ·) ∧ h = rbO c e row lo hi (bsW o (rwL c p (p + lo) (rwN lo hi (m + 1) p)))) := by
 intro a h hs ha hm hv
 have cf := C.cf
 have hn1 := C.n1
 have hN : ∀ j, j < rwN lo hi (m + 1) p ↔ (lo + j ≤ hi ∧ p + (lo + j) ≤ m + 1) := fun j => by
  unfold rwN
  have h1 := Nat.min_le_left (p + hi) (m + 1)
  have h2 := Nat.min_le_right (p + hi) (m + 1)
  by_cases hc : p + hi ≤ m + 1
  ·rw [Nat.min_eq_left hc]; omega
  ·rw [Nat.min_eq_right (by omega)]; omega
 refine fold_rule (L := 6) (C := fun j => rbC c e row lo hi (bsW o (rwL c p (p + lo) j))) globs_pos (by decide) (by decide) (fun _ => rfl) (fun j b hb => ?_) (V := fun at_ j => rbV (m + 1) k p (bsW o (rwL c p (p + lo) j)) (lo + j) at_) (I := fun _ => True) (m := rwN lo hi (m + 1) p) trivial _ (nG1 + ·) (plus_nodup nG1 6) (fun q _ => by show Tryz.prog.globals.size ≤ nG1 + q; unfold nG1; omega) (fun j => by kernel_rfl) (fun j => by kernel_rfl)
  (fun at_ j q hq => ?_) ?_ ?_ a h hs ha hm hv
 ·simp only [List.mem_cons, List.not_mem_nil, or_false] at hb
  rcases hb with rfl | rfl | rfl | rfl | rfl | rfl
  ·exact cf
  all_goals rfl
 ·match q, hq with
  | 0, _ => exact ⟨(0, .slice (some ⟨at_ 0, 0, none⟩) (m + 1) k), by simp, by simp [named]⟩
  | 1, _ => exact ⟨(3, .pointer (some ⟨at_ 1, 0, none⟩)), by simp, by simp [named]⟩
  | 2, _ => exact ⟨(4, .pointer (some ⟨at_ 2, 0, none⟩)), by simp, by simp [named]⟩
  | 3, _ => exact ⟨(5, .pointer (some ⟨at_ 3, 0, none⟩)), by simp, by simp [named]⟩
  | 4, _ => exact ⟨(7, .pointer (some ⟨at_ 4, 0, none⟩)), by simp, by simp [named]⟩
  | 5, _ => exact ⟨(8, .pointer (some ⟨at_ 5, 0, none⟩)), by simp, by simp [named]⟩
 ·intro j hj _ g
  obtain ⟨g1, g2⟩ := (hN j).1 hj
  have n1 : ∀ {b : Prop}, (!(Nat.blt hi (lo + j))) = false → b := fun {b} hx => by
   have := blt_true (not_t hx); omega
  have n2 : ∀ {b : Prop}, (!(ilt (Int.ofNat (m + 1)) (fwrap IntKind.i64 (Int.ofNat (p + (lo + j)))))) = false → b := fun {b} hx => by
   have hx := not_t hx
   rw [fwrap_nat (by omega), ilt_say] at hx
   have := of_decide_eq_true hx
   simp only [Int.ofNat_eq_natCast] at this
   omega
  have wk : rwOk c row (m + 1) k p (p + (lo + j)) := ⟨C, by omega, g2⟩
  have ew : fwrap IntKind.i64 (Int.ofNat (p + (lo + j))) = Int.ofNat (p + (lo + j)) := fwrap_nat (by omega)
  have ex : fwrap IntKind.i64 (Int.ofNat (lo + j + 1)) = Int.ofNat (lo + (j + 1)) := fwrap_nat (by omega)
  have es : bsW o (rwL c p (p + lo) (j + 1)) = upW (bsW o (rwL c p (p + lo) j)) (wnW c p (p + (lo + j))) := by
   rw [show rwL c p (p + lo) (j + 1) = rwL c p (p + lo) j ++ [wnW c p (p + lo + j)] from rfl, bsW_snoc, Nat.add_assoc]
  simp only [es]
  generalize bsW o (rwL c p (p + lo) j) = q
  cases q with
  | none =>
   refine execC_ok mixed orcBc_ok (askBc_ok _ _ _ _) (noLoops _) (Eq.mpr (rb_in0 c e row m k lo hi p (lo + j) 0 0 0 0 g _) ⟨fun _ => ⟨fun _ => ⟨⟨cf, trivial⟩, ⟨by rw [ew]; rfl, wk⟩, rfl, trivial, ?_, ?_⟩, fun hx => n2 hx⟩, fun hx => n1 hx⟩)
   ·rw [ex]; rfl
   ·intro q b hb
    rw [ew]
    match q, hb with
    | 0, hb => cases hb; show _ = _; kernel_rfl
    | 1, hb => cases hb; show _ = _; kernel_rfl
    | 2, hb => cases hb; show _ = _; kernel_rfl
    | 3, hb => cases hb; show _ = _; kernel_rfl
    | 4, hb => cases hb; show _ = _; kernel_rfl
    | 5, hb => cases hb; show _ = _; kernel_rfl
  | some x =>
   refine execC_ok mixed orcBc_ok (askBc_ok _ _ _ _) (noLoops _) (Eq.mpr (rb_in1 c e row m k lo hi p (lo + j) x.1 x.2.1 x.2.2.1 x.2.2.2 g _) ⟨fun _ => ⟨fun _ => ⟨⟨cf, trivial⟩, ⟨by rw [ew]; rfl, wk⟩, fun hg => ⟨rfl, trivial, ?_, ?_⟩, fun hg => ⟨trivial, ?_, ?_⟩⟩, fun hx => n2 hx⟩, fun hx => n1 hx⟩)
   ·rw [ex]; rfl
   ·have hg : gtR (wtP c p (p + (lo + j))) x.2.2 = true := hg
    have eu : upW (some x) (wnW c p (p + (lo + j))) = some (wnW c p (p + (lo + j))) := by
     show some (bif gtR (wtP c p (p + (lo + j))) x.2.2 then wnW c p (p + (lo + j)) else x) = _
     rw [hg]; rfl
    intro q b hb
    rw [ew]
    rw [eu] at hb
    match q, hb with
    | 0, hb => cases hb; show _ = _; kernel_rfl
    | 1, hb => cases hb; show _ = _; kernel_rfl
    | 2, hb => cases hb; show _ = _; kernel_rfl
    | 3, hb => cases hb; show _ = _; kernel_rfl
    | 4, hb => cases hb; show _ = _; kernel_rfl
    | 5, hb => cases hb; show _ = _; kernel_rfl
   ·rw [ex]; rfl
   ·have hg : gtR (wtP c p (p + (lo + j))) x.2.2 = false := hg
    have eu : upW (some x) (wnW c p (p + (lo + j))) = some x := by
     show some (bif gtR (wtP c p (p + (lo + j))) x.2.2 then wnW c p (p + (lo + j)) else x) = _
     rw [hg]; rfl
    intro q b hb
    rw [ew]
    rw [eu] at hb
    match q, hb with
    | 0, hb => cases hb; show _ = _; kernel_rfl
    | 1, hb => cases hb; show _ = _; kernel_rfl
    | 2, hb => cases hb; show _ = _; kernel_rfl
    | 3, hb => cases hb; show _ = _; kernel_rfl
    | 4, hb => cases hb; show _ = _; kernel_rfl
    | 5, hb => cases hb; show _ = _; kernel_rfl
 ·intro _ g
  have hno : ¬ (lo + rwN lo hi (m + 1) p ≤ hi ∧ p + (lo + rwN lo hi (m + 1) p) ≤ m + 1) := fun hx => absurd ((hN _).2 hx) (Nat.lt_irrefl _)
  have hN0 : p + (lo + rwN lo hi (m + 1) p) ≤ 100000 := by
   have := Nat.min_le_right (p + hi) (m + 1)
   unfold rwN; omega
  have key : ∀ {b : Prop}, (!(Nat.blt hi (lo + rwN lo hi (m + 1) p))) = true → (!(ilt (Int.ofNat (m + 1)) (fwrap IntKind.i64 (Int.ofNat (p + (lo + rwN lo hi (m + 1) p)))))) = true → b := fun {b} h1 h2 => by
   have h1 := blt_false (not_f h1)
   have h2 := not_f h2
   rw [fwrap_nat (by omega), ilt_say] at h2
   have := of_decide_eq_false h2
   simp only [Int.ofNat_eq_natCast] at this
   exact absurd ⟨h1, by omega⟩ hno
  generalize bsW o (rwL c p (p + lo) (rwN lo hi (m + 1) p)) = q
  cases q with
  | none => exact execC_ok mixed orcBc_ok (askBc_ok _ _ _ _) (noLoops _) (Eq.mpr (rb_in0 c e row m k lo hi p _ 0 0 0 0 g _) ⟨fun h1 => ⟨fun h2 => key h1 h2, fun _ => ⟨rfl, rfl, rfl⟩⟩, fun _ => ⟨rfl, rfl, rfl⟩⟩)
  | some x => exact execC_ok mixed orcBc_ok (askBc_ok _ _ _ _) (noLoops _) (Eq.mpr (rb_in1 c e row m k lo hi p _ x.1 x.2.1 x.2.2.1 x.2.2.2 g _) ⟨fun h1 => ⟨fun h2 => key h1 h2, fun _ => ⟨rfl, rfl, rfl⟩⟩, fun _ => ⟨rfl, rfl, rfl⟩⟩)
end
end Go.Proofs.YtihnnmejkpddeaaGreatDoor
/-! (OWN WORK. Stage 6: the reference's best window: the outer loop.) -/
namespace Go.Proofs.YtihnnmejkpddeaaGreatDoor
open Go Go.Am
def rbOk (c : List Value) (row m k lo hi p : Nat) (o o' : Option W4) : Prop := BsOk c row (m + 1) k ∧ 0 < lo ∧ lo ≤ 1000 ∧ hi ≤ 1000 ∧ p < m + 1 ∧ o' = bsW o (rwL c p (p + lo) (rwN lo hi (m + 1) p))
noncomputable def rbI (c : List Value) (e row m k lo hi p : Nat) (o o' : Option W4) : Loops Tryz.prog where
 body := fun _ => loopOf Tryz.prog 25 2
 spec := fun _ a h q => entry a 59 [(0, liP (m + 1) k), (3, ptN 1), (4, ptN 2), (5, ptN 3), (7, ptN 4), (8, ptN 5), (9, .bool (oB o)), (10, goN p), (11, goN lo)] (h = rbO c e row lo hi o ∧ rbOk c row m k lo hi p o o' ∧
  ∀ g, q (.exit 2) (stOf 59 [(0, liP (m + 1) k), (3, ptN 1), (4, ptN 2), (5, ptN 3), (7, ptN 4), (8, ptN 5), (9, .bool (oB o')), (10, goN p)] g) (rbO c e row lo hi o'))
 ok := fun i a h q w => by
  obtain ⟨h1, h2, h3, rfl, ⟨C, h0, hl, hh, hp, rfl⟩, h5⟩ := entry_facts w
  refine J.of_told (rb_loop C e lo hi p o h0 hl hh hp a _ (fun q b hb => ?_) h1 h2 ?_) ?_
  ·match q, hb with
   | 0, hb => cases hb; show _ = _; kernel_rfl
   | 1, hb => cases hb; show _ = _; kernel_rfl
   | 2, hb => cases hb; show _ = _; kernel_rfl
   | 3, hb => cases hb; show _ = _; kernel_rfl
   | 4, hb => cases hb; show _ = _; kernel_rfl
   | 5, hb => cases hb; show _ = _; kernel_rfl
  ·simp only [List.map_cons, List.map_nil]
   rw [h3 (0, liP (m + 1) k) (by simp), h3 (3, ptN 1) (by simp), h3 (4, ptN 2) (by simp), h3 (5, ptN 3) (by simp), h3 (7, ptN 4) (by simp), h3 (8, ptN 5) (by simp), h3 (9, .bool (oB o)) (by simp), h3 (10, goN p) (by simp), h3 (11, goN lo) (by simp)]
   rfl
  ·rintro ex vs h' g ⟨rfl, rfl, rfl⟩
   exact h5 (ov [(11, goN (lo + rwN lo hi (m + 1) p))] g)
theorem rb_out (c : List Value) (e row m k lo hi p : Nat) (o o' : Option W4) (g : Nat → Value) (Q : Exit → List Value → AHeap → Prop) : execC Tryz.prog (exec Tryz.prog orcBc 10) (syOf [(19, 1)]) (askBc 0 0 lo hi) (rbI c e row m k lo hi p o o') 40 (loopOf Tryz.prog 25 0) (stOf 59 [(0, liP (m + 1) k), (3, ptN 1), (4, ptN 2), (5, ptN 3), (7, ptN 4), (8, ptN 5), (9, .bool (oB o)), (10, goN p)] g) (rbO c e row lo hi o) (told 59 [0, 3, 4, 5, 7, 8, 9, 10] Q) = (((Nat.blt p (m + 1) = true → (loopOf Tryz.prog 25 2 = loopOf Tryz.prog 25 2 ∧ liP (m + 1) k = liP (m + 1) k ∧ ptN 1 = ptN 1 ∧ ptN 2 = ptN 2 ∧ ptN 3 = ptN 3 ∧ ptN 4 = ptN 4 ∧ ptN 5 = ptN 5 ∧ Value.bool (oB o) = Value.bool (oB o) ∧ goN p = goN p ∧ goN lo = goN lo ∧ rbO c e row lo hi o = rbO c e row lo hi o ∧ rbOk c row m k lo hi p o o' ∧ (∀ _ : Nat → Value, Q .normal [liP (m + 1) k, ptN 1, ptN 2, ptN 3, ptN 4, ptN 5, Value.bool (oB o'), gi (fwrap IntKind.i64 (Int.ofNat (p + 1)))] (rbO c e row lo hi o')))) ∧ (Nat.blt p (m + 1) = false → Q (.exit 0) [liP (m + 1) k, ptN 1, ptN 2, ptN 3, ptN 4, ptN 5, Value.bool (oB o), goN p] (rbO c e row lo hi o)))) := by kernel_rfl
noncomputable def bsO (c : List Value) (lo hi n p : Nat) : Option W4 := bsW none (alW c lo hi n p)
theorem bsO_succ (c : List Value) (lo hi n p : Nat) : bsO c lo hi n (p + 1) = bsW (bsO c lo hi n p) (rwL c p (p + lo) (rwN lo hi n p)) := by
 unfold bsO
 rw [show alW c lo hi n (p + 1) = alW c lo hi n p ++ rwL c p (p + lo) (rwN lo hi n p) from rfl, bsW_app]
set_option maxRecDepth 100000 in
theorem ro_loop {c : List Value} {row m k : Nat} (C : BsOk c row (m + 1) k) (e lo hi : Nat) (h0 : 0 < lo) (hl : lo ≤ 1000) (hh : hi ≤ 1000) : ∀ a : AAct, a.n = 59 → a.marks = [] → [0, 3, 4, 5, 7, 8, 9, 10].map a.tmp = [liP (m + 1) k, ptN 1, ptN 2, ptN 3, ptN 4, ptN 5, .bool false, goN 0] →
  J Tryz.prog (.loop (loopOf Tryz.prog 25 0)) a (rbO c e row lo hi (bsO c lo hi (m + 1) 0)) (told 59 [0, 3, 4, 5, 7, 8, 9, 10] fun ex vs h => ex = .exit 0 ∧ vs = [liP (m + 1) k, ptN 1, ptN 2, ptN 3, ptN 4, ptN 5, .bool (oB (bsO c lo hi (m + 1) (m + 1))), goN (m + 1)] ∧ h = rbO c e row lo hi (bsO c lo hi (m + 1) (m + 1))) := by
 have hn1 := C.n1
 refine heap_rule (fun p => rbO c e row lo hi (bsO c lo hi (m + 1) p)) (fun p => [liP (m + 1) k, ptN 1, ptN 2, ptN 3, ptN 4, ptN 5, .bool (oB (bsO c lo hi (m + 1) p)), goN p]) (fun _ => True) (m + 1) trivial _ ?_ ?_
 ·intro p hp _ g
  refine execC_ok mixed orcBc_ok (askBc_ok _ _ _ _) (rbI c e row m k lo hi p (bsO c lo hi (m + 1) p) (bsO c lo hi (m + 1) (p + 1))) (Eq.mpr (rb_out c e row m k lo hi p _ _ g _) ⟨fun _ => ⟨rfl, rfl, rfl, rfl, rfl, rfl, rfl, rfl, rfl, rfl, rfl, ⟨C, h0, hl, hh, hp, bsO_succ c lo hi (m + 1) p⟩, fun _ => ⟨trivial, ?_, rfl⟩⟩, fun hge => absurd (blt_false hge) (by omega)⟩)
  rw [fwrap_nat (by omega)]
 ·intro _ g
  exact execC_ok mixed orcBc_ok (askBc_ok _ _ _ _) (rbI c e row m k lo hi (m + 1) (bsO c lo hi (m + 1) (m + 1)) none) (Eq.mpr (rb_out c e row m k lo hi (m + 1) _ _ g _) ⟨fun hlt => absurd (blt_true hlt) (by omega), fun _ => ⟨rfl, rfl, rfl⟩⟩)
def roOk (c : List Value) (row n k lo hi : Nat) : Prop := BsOk c row n k ∧ 0 < lo ∧ lo ≤ 1000 ∧ hi ≤ 1000
noncomputable def roL (c : List Value) (e row m k lo hi : Nat) : Loops Tryz.prog where
 body := fun _ => loopOf Tryz.prog 25 0
 spec := fun _ a h q => entry a 59 [(0, liP (m + 1) k), (3, ptN 1), (4, ptN 2), (5, ptN 3), (7, ptN 4), (8, ptN 5), (9, .bool false), (10, goN 0)] (h = rbO c e row lo hi none ∧ roOk c row (m + 1) k lo hi ∧
  ∀ g, q (.exit 0) (stOf 59 [(4, ptN 2), (5, ptN 3), (7, ptN 4), (8, ptN 5), (9, .bool (oB (bsO c lo hi (m + 1) (m + 1))))] g) (rbO c e row lo hi (bsO c lo hi (m + 1) (m + 1))))
 ok := fun i a h q w => by
  obtain ⟨h1, h2, h3, rfl, ⟨C, h0, hl, hh⟩, h5⟩ := entry_facts w
  refine J.of_told (ro_loop C e lo hi h0 hl hh a h1 h2 ?_) ?_
  ·simp only [List.map_cons, List.map_nil]
   rw [h3 (0, liP (m + 1) k) (by simp), h3 (3, ptN 1) (by simp), h3 (4, ptN 2) (by simp), h3 (5, ptN 3) (by simp), h3 (7, ptN 4) (by simp), h3 (8, ptN 5) (by simp), h3 (9, .bool false) (by simp), h3 (10, goN 0) (by simp)]
  ·rintro ex vs h' g ⟨rfl, rfl, rfl⟩
   exact h5 (ov [(0, liP (m + 1) k), (3, ptN 1), (10, goN (m + 1))] g)
theorem ro_run (c : List Value) (m k e row lo hi : Nat) (K : Value → Prop) : callC Tryz.prog (exec Tryz.prog orcBc 20) (syOf []) (askBc 0 0 lo hi) (roL c e row m k lo hi) 40 25 #[liP (m + 1) k, agW lo hi] (liH c e row) (fun v _ => K v) = ((loopOf Tryz.prog 25 0 = loopOf Tryz.prog 25 0 ∧ liP (m + 1) k = liP (m + 1) k ∧ Value.pointer (some ⟨nG1 + 1, 0, none⟩) = ptN 1 ∧ Value.pointer (some ⟨nG1 + 2, 0, none⟩) = ptN 2 ∧ Value.pointer (some ⟨nG1 + 3, 0, none⟩) = ptN 3 ∧ Value.pointer (some ⟨nG1 + 4, 0, none⟩) = ptN 4 ∧ Value.pointer (some ⟨nG1 + 5, 0, none⟩) = ptN 5 ∧ Value.bool false = Value.bool false ∧ gi 0 = goN 0 ∧ (((((((liH c e row).push (.cells [goN lo, goN hi] 26 0 false)).push (.cells [gi 0, gi 0] 24 0 false)).push (.cells [gi 0, gi 0] 28 0 false)).push (.cells [gi 0, gi 0] 24 0 false)).push (.cells [gi 0, gi 0] 28 0 false)).set (nG1 + 4) (.cells ([] ++ ([gi 0, gi 0] ++ [])) 24 0 false)).set (nG1 + 5) (.cells ([] ++ ([gi 0, gi 0] ++ [])) 28 0 false) = rbO c e row lo hi Option.none ∧ roOk c row (m + 1) k lo hi ∧ (∀ _ : Nat → Value, (Value.agg #[gi (((oX (bsO c lo hi (m + 1) (m + 1))).snd.snd.1)), gi (((oX (bsO c lo hi (m + 1) (m + 1))).snd.snd.2))] = Value.agg #[gi (((oX (bsO c lo hi (m + 1) (m + 1))).snd.snd.1)), gi (((oX (bsO c lo hi (m + 1) (m + 1))).snd.snd.2))] ∧ K (Value.tuple #[Value.agg (Array.mk (List.take 2 (List.drop 0 ([] ++ ([gi (((oX (bsO c lo hi (m + 1) (m + 1))).1)), gi (((oX (bsO c lo hi (m + 1) (m + 1))).snd.1))] ++ []))))), Value.agg (Array.mk (List.take 2 (List.drop 0 ([] ++ ([gi (((oX (bsO c lo hi (m + 1) (m + 1))).snd.snd.1)), gi (((oX (bsO c lo hi (m + 1) (m + 1))).snd.snd.2))] ++ []))))), Value.bool (oB (bsO c lo hi (m + 1) (m + 1)))]))))) := by kernel_rfl
end Go.Proofs.YtihnnmejkpddeaaGreatDoor
