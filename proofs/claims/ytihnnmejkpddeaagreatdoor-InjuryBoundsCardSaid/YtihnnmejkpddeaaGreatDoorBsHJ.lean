/-
  OWN WORK. Stage 6: the iterator over windows.
-/
import Derived.Test.YtihnnmejkpddeaaGreatDoorBsEG
import Derived.Test.YtihnnmejkpddeaaGreatDoorLvP
import Derived.Test.YtihnnmejkpddeaaGreatDoorAmZ
/-! (OWN WORK. Stage 6: the greatest one of some windows, and the sums of a series, as known calls; a round of the iterator over windows.) -/
namespace Go.Proofs.YtihnnmejkpddeaaGreatDoor
open Go Go.Am
noncomputable def dec4 : List Value → List W4
 | a :: b :: c :: d :: r => (intOf a, intOf b, (intOf c, intOf d)) :: dec4 r
 | _ => []
theorem dec4_cells : ∀ l : List W4, dec4 (cells4 l) = l
 | [] => rfl
 | q :: l => by
  show (q.1, q.2.1, (q.2.2.1, q.2.2.2)) :: dec4 (cells4 l) = q :: l
  rw [dec4_cells l]
noncomputable def t4T : TellT W4 := ⟨cells4, dec4, dec4_cells, cells4_flat⟩
noncomputable abbrev v4W (x : W4) : Value := v4 x.1 x.2.1 x.2.2.1 x.2.2.2
noncomputable def mxG4 : List W4 → W4
 | [] => (0, 0, (0, 0))
 | y :: r => mxW y r
noncomputable abbrev mwO (_ : Nat) (l : List W4) (_ : List Value) : Out := .plain (v4W (mxG4 l))
def noR (r : List Value) : Prop := r = []
open Classical in
noncomputable def smX (vs : List Value) (B : List Cells) : Option (List MapEntry × Nat) := hdY none (fun cs n k row r => if BsOk cs row n k ∧ noR r then some (mpE cs n, n + 1) else none) vs B
noncomputable def smAY (vs : List Value) (B : List Cells) (K : List MapEntry → Nat → Prop) : Prop := hdY False (fun cs n k row r => (BsOk cs row n k ∧ noR r) ∧ K (mpE cs n) (n + 1)) vs B
theorem smA_ok (vs : List Value) (B : List Cells) (K : List MapEntry → Nat → Prop) (h : smAY vs B K) : ∃ o, smX vs B = some o ∧ K o.1 o.2 := by
 rcases hdY_inv (z := False) (f := fun cs n k row r => (BsOk cs row n k ∧ noR r) ∧ K (mpE cs n) (n + 1)) (vs := vs) (B := B) with q | ⟨cs, n, k, e, row, r, rfl, rfl⟩
 ·unfold smAY at h; rw [q] at h; exact h.elim
 ·unfold smAY at h
  rw [hdY_at] at h
  exact ⟨(mpE cs n, n + 1), by unfold smX; rw [hdY_at, if_pos h.1], h.2⟩
noncomputable def orcBb : Orc := orElse 156 (s1O t4T (oneC cWc) mwO) (orElse 86 (anyMp Tryz.prog.globals.size smX) orcBa)
set_option maxRecDepth 100000 in
theorem orcBb_ok : OrcOk Tryz.prog orcBb := by
 refine s1O_ok (anyMp_ok globs_pos orcBa_ok ?_) (fun _ _ _ _ => rfl) ?_
 ·intro vs B o h _
  rcases hdY_inv (z := (none : Option (List MapEntry × Nat))) (f := fun cs n k row r => open Classical in if BsOk cs row n k ∧ noR r then some (mpE cs n, n + 1) else none) (vs := vs) (B := B) with q | ⟨cs, n, k, e, row, r, rfl, rfl⟩
  ·unfold smX at h; rw [q] at h; cases h
  ·unfold smX at h
   rw [hdY_at] at h
   split at h
   ·rename_i hc
    cases h
    obtain ⟨C, rfl⟩ := hc
    obtain ⟨m, rfl⟩ : ∃ m, n = m + 1 := ⟨n - 1, by have := C.n0; omega⟩
    refine ⟨mpE_flat _ _, callC_ok mixed orcJc_ok askJc_ok (Eq.mpr (sm_run cs m e row k _) ⟨rfl, by kernel_rfl, rfl, rfl, rfl, by kernel_rfl, C, fun _ => ⟨Tryz.prog.globals.size + 1, rfl, by kernel_rfl⟩⟩)⟩
   ·cases h
 ·rintro l m k e row r hl h1 rfl
  match l, hl with
  | y :: r, hl =>
  have hl' : r.length = m := by simpa using hl
  exact callC_ok mixed orcBa_ok askBa_ok (Eq.mpr (mw_run y r m e row k _) ⟨rfl, rfl, rfl, rfl, rfl, rfl, by kernel_rfl, by kernel_rfl, by kernel_rfl, ⟨by omega, h1⟩, fun _ => rfl⟩)
noncomputable def askBb : Asks := asksV Tryz.prog.globals.size 156 (s1AY t4T (oneC cWc) mwO) (asksMp Tryz.prog.globals.size 86 smAY askBa)
theorem askBb_ok : AsksOk orcBb askBb := asksV_ok (s1A_ok fun _ _ _ h => ⟨h, rfl⟩) (asksMp_ok smA_ok askBa_ok)
noncomputable def bvAs : Code := (rangeAt Tryz.prog 90).2.2.1
noncomputable def bvBd : Code := (rangeAt Tryz.prog 90).2.2.2
noncomputable abbrev yW : Value := .func (.yield (Tryz.prog.globals.size + 9)) #[] #[]
noncomputable def bvB (c : List Value) (e row n lo hi : Nat) (al : Value) : AHeap := (((((canonT [] (fun _ => 0) Tryz.prog.globals.size [(c, e, row, true), ([goN lo, goN hi], 26, 0, false), (w4 z4, 151, 0, false)]).push (.map (mpE c n) (n + 1))).push (.cells [mpV 3] 145 0 false)).push (.cells [al] 209 0 false)).push (.cells [goN n] 3 0 false)).push (.cells [goN lo, goN hi] 26 0 false)
noncomputable def bvL (b : AAct) : AObj := .loop .ready none b #[14] bvAs bvBd (Tryz.prog.globals.size + 8)
noncomputable def bvA (g : Nat → Value) : AAct := stOf 25 [(4, ptN 2), (5, ptN 4), (6, ptN 5)] g
noncomputable def bvH (c : List Value) (e row n lo hi : Nat) (al : Value) (arr : AObj) (g : Nat → Value) : AHeap := ((((bvB c e row n lo hi al).push .defd).push (bvL (bvA g))).push arr).push .dead
noncomputable def bvN (c : List Value) (e row n lo hi : Nat) (g : Nat → Value) : AHeap := bvH c e row n lo hi nilS .dead g
noncomputable def bvG (c : List Value) (e row n lo hi : Nat) (d : List Value) (q : Nat) (g : Nat → Value) : AHeap := bvH c e row n lo hi (slP 10 q q) (.cells d 151 5 false) g
noncomputable def bvSy (f : FuncId) : Sy := bif Nat.beq f 87 then syOf [(9, 60), (13, 60), (24, 7)] else syOf []
noncomputable def bvWA : List Sy := [syOf [(23, 1), (30, 50)], syOf [(19, 55)]]
noncomputable def bvWD : List Sy := [syOf [(23, 1), (30, 50)], syOf [(19, 55), (22, 10)]]
noncomputable def bvX (c : List Value) (n p q : Nat) : Int := fwrap IntKind.i64 ((if (fwrap IntKind.i64 (mapAt (mpE c n) (Int.ofNat q) - mapAt (mpE c n) (Int.ofNat p)) : Int) > 0 then fwrap IntKind.i64 (mapAt (mpE c n) (Int.ofNat q) - mapAt (mpE c n) (Int.ofNat p)) else 0) * (if (fwrap IntKind.i64 (mapAt (mpE c n) (Int.ofNat q) - mapAt (mpE c n) (Int.ofNat p)) : Int) > 0 then fwrap IntKind.i64 (mapAt (mpE c n) (Int.ofNat q) - mapAt (mpE c n) (Int.ofNat p)) else 0))
noncomputable def bvY (p q : Nat) : Int := fwrap IntKind.i64 (Int.ofNat q - Int.ofNat p)
theorem bi_A (c : List Value) (e row n lo hi p q : Nat) (la : Int) (g g₂ : Nat → Value) (Q : Exit → List Value → AHeap → Prop) : execR Tryz.prog orcBb bvSy askBb 80 bvWA none (loopOf Tryz.prog 182 2) (stOf 33 [(0, yW), (1, ptN 6), (2, ptN 7), (4, goN p), (5, gi la), (6, goN q), (7, goN n), (8, goN p)] g) (bvN c e row n lo hi g₂) (told 33 [0, 1, 2, 4, 5, 6, 7, 8] Q) = ((((!(ilt la (Int.ofNat q))) = true → (MapInt (mpE c n) ∧ MapInt (mpE c n) ∧ ratB (bvX c n p q) (bvY p q) = true ∧ Value.agg (Array.mk (List.take 2 (List.drop 0 ([] ++ ([goN p, goN q] ++ []))))) = Value.agg (Array.mk (List.take 2 (List.drop 0 ([] ++ ([goN p, goN q] ++ []))))) ∧ [nilS][0]? = Option.some nilS ∧ Value.agg (Array.mk (List.take 2 (List.drop 0 ([] ++ ([goN p, goN q] ++ []))))) = Value.agg (Array.mk (List.take 2 (List.drop 0 ([] ++ ([goN p, goN q] ++ []))))) ∧ [nilS][0]? = Option.some nilS ∧ Q .normal [yW, ptN 6, ptN 7, goN p, gi la, gi (fwrap IntKind.i64 (Int.ofNat (q + 1))), goN n, goN p] (((((((((((bvN c e row n lo hi g₂).push (.cells [gi 0, gi 0] 24 0 false)).set (nG1 + 12) (.cells ([] ++ ([goN p, goN q] ++ [])) 24 0 false)).set (nG1 + 9) (AObj.loop LoopState.busy Option.none (bvA g₂) #[14] bvAs bvBd 12)).push (.cells (List.take 2 (List.drop 0 ([] ++ ([goN p, goN q] ++ [])))) 24 0 false)).push (.cells [gi 0, gi 0] 28 0 false)).set (nG1 + 14) (.cells ([] ++ ([gi (rqA (bvX c n p q) (bvY p q)), gi (rqB (bvX c n p q) (bvY p q))] ++ [])) 28 0 false)).push (.cells [goN p, goN q, gi (rqA (bvX c n p q) (bvY p q)), gi (rqB (bvX c n p q) (bvY p q))] 151 5 false)).push (.cells ([] ++ [goN p, goN q, gi (rqA (bvX c n p q) (bvY p q)), gi (rqB (bvX c n p q) (bvY p q))]) 151 5 false)).set (nG1 + 5) (.cells ([] ++ ([Value.slice (some ⟨nG1 + 16, 0, none⟩) 1 1] ++ [])) 209 0 false)).set (nG1 + 9) (AObj.loop (if Eq true true then LoopState.ready else LoopState.done) Option.none (bvA g₂) #[14] bvAs bvBd 12)))) ∧ ((!(ilt la (Int.ofNat q))) = false → Q (.exit 2) [yW, ptN 6, ptN 7, goN p, gi la, goN q, goN n, goN p] (bvN c e row n lo hi g₂)))) := by kernel_rfl
theorem bi_D (c : List Value) (e row n lo hi p q : Nat) (la : Int) (d : List Value) (u : Nat) (g g₂ : Nat → Value) (Q : Exit → List Value → AHeap → Prop) : execR Tryz.prog orcBb bvSy askBb 80 bvWD none (loopOf Tryz.prog 182 2) (stOf 33 [(0, yW), (1, ptN 6), (2, ptN 7), (4, goN p), (5, gi la), (6, goN q), (7, goN n), (8, goN p)] g) (bvG c e row n lo hi d u g₂) (told 33 [0, 1, 2, 4, 5, 6, 7, 8] Q) = ((((!(ilt la (Int.ofNat q))) = true → (MapInt (mpE c n) ∧ MapInt (mpE c n) ∧ ratB (bvX c n p q) (bvY p q) = true ∧ Value.agg (Array.mk (List.take 2 (List.drop 0 ([] ++ ([goN p, goN q] ++ []))))) = Value.agg (Array.mk (List.take 2 (List.drop 0 ([] ++ ([goN p, goN q] ++ []))))) ∧ [slP 10 u u][0]? = Option.some (slP 10 u u) ∧ Value.agg (Array.mk (List.take 2 (List.drop 0 ([] ++ ([goN p, goN q] ++ []))))) = Value.agg (Array.mk (List.take 2 (List.drop 0 ([] ++ ([goN p, goN q] ++ []))))) ∧ [slP 10 u u][0]? = Option.some (slP 10 u u) ∧ Nat.ble (u + 1) u = false ∧ Nat.ble (((2 * (u + 1)) + 256) * 32) 281474976710656 = true ∧ (u * 4) = List.length d ∧ Q .normal [yW, ptN 6, ptN 7, goN p, gi la, gi (fwrap IntKind.i64 (Int.ofNat (q + 1))), goN n, goN p] ((((((((((((bvG c e row n lo hi d u g₂).push (.cells [gi 0, gi 0] 24 0 false)).set (nG1 + 12) (.cells ([] ++ ([goN p, goN q] ++ [])) 24 0 false)).set (nG1 + 9) (AObj.loop LoopState.busy Option.none (bvA g₂) #[14] bvAs bvBd 12)).push (.cells (List.take 2 (List.drop 0 ([] ++ ([goN p, goN q] ++ [])))) 24 0 false)).push (.cells [gi 0, gi 0] 28 0 false)).set (nG1 + 14) (.cells ([] ++ ([gi (rqA (bvX c n p q) (bvY p q)), gi (rqB (bvX c n p q) (bvY p q))] ++ [])) 28 0 false)).push (.cells [goN p, goN q, gi (rqA (bvX c n p q) (bvY p q)), gi (rqB (bvX c n p q) (bvY p q))] 151 5 false)).set (nG1 + 10) (.dead)).push (.cells (d ++ [goN p, goN q, gi (rqA (bvX c n p q) (bvY p q)), gi (rqB (bvX c n p q) (bvY p q))]) 151 5 false)).set (nG1 + 5) (.cells ([] ++ ([Value.slice (some ⟨nG1 + 16, 0, none⟩) (u + 1) (u + 1)] ++ [])) 209 0 false)).set (nG1 + 9) (AObj.loop (if Eq true true then LoopState.ready else LoopState.done) Option.none (bvA g₂) #[14] bvAs bvBd 12)))) ∧ ((!(ilt la (Int.ofNat q))) = false → Q (.exit 2) [yW, ptN 6, ptN 7, goN p, gi la, goN q, goN n, goN p] (bvG c e row n lo hi d u g₂)))) := by kernel_rfl
end Go.Proofs.YtihnnmejkpddeaaGreatDoor
/-! (OWN WORK. Stage 6: all windows with their worths: how the blocks are seen behind a round.) -/
namespace Go.Proofs.YtihnnmejkpddeaaGreatDoor
open Go Go.Am
def LowM (h : AHeap) : Prop := ∀ i, i < Tryz.prog.globals.size → h.get i = none
theorem LowM.push {h : AHeap} (o : AObj) (x : LowM h) (hn : Tryz.prog.globals.size ≤ h.n) : LowM (h.push o) := fun i hi => by
 rw [AHeap.get_push_ne (by rw [Tr.beq_eq]; exact decide_eq_false (by omega))]; exact x i hi
theorem LowM.set {h : AHeap} (o : AObj) {j : Nat} (x : LowM h) (hn : Tryz.prog.globals.size ≤ j) : LowM (h.set j o) := fun i hi => by
 rw [AHeap.get_set_neB (by rw [Tr.beq_eq]; exact decide_eq_false (by omega))]; exact x i hi
theorem lowM_canon (B : List Blk) : LowM (canonT [] (fun _ => 0) Tryz.prog.globals.size B) := fun i hi => by
 rw [canonT_get (T := []) rfl, if_neg (by omega)]; rfl
theorem low_bvH (c : List Value) (e row n lo hi : Nat) (al : Value) (arr : AObj) (g : Nat → Value) : LowM (bvH c e row n lo hi al arr g) := by
 unfold bvH bvB
 (repeat' (first | with_reducible apply LowM.push)) <;> first | exact lowM_canon _ | exact of_decide_eq_true (by kernel_rfl)
noncomputable def bvT (c : List Value) (e row n lo hi : Nat) (L : List W4) (g : Nat → Value) : AHeap := match L with
 | [] => bvN c e row n lo hi g
 | x :: r => bvG c e row n lo hi (cells4 (x :: r)) (x :: r).length g
noncomputable abbrev szM : Nat := Tryz.prog.globals.size
theorem preK_lowM {K i : Nat} {pre : Pre} (h : i < K) : preK K pre i = some i := by simp only [preK, if_pos h]
def okTW (v : Value) : Prop := flat 3 v = true ∨ v = yW ∨ ∃ i, i < 10 ∧ v = ptN i
theorem okTW.ren {v : Value} {pre : Pre} (h : okTW v) : RenY (preK (szM + 10) pre) v v := by
 rcases h with h | rfl | ⟨i, hi, rfl⟩
 ·exact .inl (.flat h)
 ·exact .inr ⟨_, rfl, rfl, preK_lowM (by show szM + 9 < szM + 10; omega)⟩
 ·exact .inl (.ptr (preK_lowM (by show szM + i < szM + 10; omega)))
structure BvF (c : List Value) (e row n lo hi : Nat) (h' : AHeap) (b : AAct) : Prop where
 low : LowM h'
 g0 : h'.get (szM + 0) = some (.cells c e row true)
 g1 : h'.get (szM + 1) = some (.cells [goN lo, goN hi] 26 0 false)
 g2 : h'.get (szM + 2) = some (.cells (w4 z4) 151 0 false)
 g3 : h'.get (szM + 3) = some (.map (mpE c n) (n + 1))
 g4 : h'.get (szM + 4) = some (.cells [mpV 3] 145 0 false)
 g6 : h'.get (szM + 6) = some (.cells [goN n] 3 0 false)
 g7 : h'.get (szM + 7) = some (.cells [goN lo, goN hi] 26 0 false)
 g8 : h'.get (szM + 8) = some .defd
 g9 : h'.get (szM + 9) = some (bvL b)
 bn : b.n = 25
 b4 : b.tmp 4 = ptN 2
 b5 : b.tmp 5 = ptN 4
 b6 : b.tmp 6 = ptN 5
theorem bvA_tmp4 (g : Nat → Value) : (bvA g).tmp 4 = ptN 2 := by kernel_rfl
theorem bvA_tmp5 (g : Nat → Value) : (bvA g).tmp 5 = ptN 4 := by kernel_rfl
theorem bvA_tmp6 (g : Nat → Value) : (bvA g).tmp 6 = ptN 5 := by kernel_rfl
theorem bvA_n (g : Nat → Value) : (bvA g).n = 25 := by kernel_rfl
theorem bvF_H (c : List Value) (e row n lo hi : Nat) (al : Value) (arr : AObj) (g : Nat → Value) : BvF c e row n lo hi (bvH c e row n lo hi al arr g) (bvA g) :=
 ⟨low_bvH _ _ _ _ _ _ _ _ _, by kernel_rfl, by kernel_rfl, by kernel_rfl, by kernel_rfl, by kernel_rfl, by kernel_rfl, by kernel_rfl, by kernel_rfl, by kernel_rfl, bvA_n g, bvA_tmp4 g, bvA_tmp5 g, bvA_tmp6 g⟩
theorem sameM_cells {pre : Pre} {x y : Option AObj} {c : List Value} {e row : Nat} {ro : Bool} (h1 : x = some (.cells c e row ro)) (h2 : y = some (.cells c e row ro)) (hf : ∀ v ∈ c, Ren pre v v) : SameP pre x y :=
 .inr ⟨_, _, h1, h2, .inl ⟨rfl, rfl, rfl, fun q u v hu hv => by rw [hu] at hv; cases hv; exact hf u (List.mem_of_getElem? hu), fun h => h⟩⟩
theorem sameM_one {pre : Pre} {x y : Option AObj} {u v : Value} {e row : Nat} {ro : Bool} (h1 : x = some (.cells [u] e row ro)) (h2 : y = some (.cells [v] e row ro)) (hf : Ren pre u v) : SameP pre x y :=
 .inr ⟨_, _, h1, h2, .inl ⟨rfl, rfl, rfl, fun q u' v' hu hv => by
  match q, hu, hv with
  | 0, hu, hv => cases hu; cases hv; exact hf, fun h => h⟩⟩
theorem sameM_flat {pre : Pre} {x y : Option AObj} {c : List Value} {e row : Nat} {ro : Bool} (h1 : x = some (.cells c e row ro)) (h2 : y = some (.cells c e row ro)) (hf : c.all (flat 3) = true) : SameP pre x y :=
 sameM_cells h1 h2 fun v hv => .flat (List.all_eq_true.1 hf v hv)
section
variable {c : List Value} {e row n lo hi : Nat} {h' : AHeap} {b : AAct} {vs : List Value}
theorem bv_pin {al al' : Value} {arr : AObj} {pre : Pre} (F : BvF c e row n lo hi h' b) (cf : c.all (flat 3) = true) (g5 : h'.get (szM + 5) = some (.cells [al] 209 0 false)) (hr : Ren (preK (szM + 10) pre) al al') (i : Nat) (hi' : i < szM + 10) (hne : i ≠ szM + 9) (g : Nat → Value) : SameP (preK (szM + 10) pre) (h'.get i) ((bvH c e row n lo hi al' arr g).get i) := by
 have G := bvF_H c e row n lo hi al' arr g
 by_cases hl : i < szM
 ·exact .inl ⟨F.low i hl, G.low i hl⟩
 obtain ⟨t, rfl⟩ : ∃ t, i = szM + t := ⟨i - szM, by omega⟩
 have ht : t < 9 := by omega
 match t, ht with
 | 0, _ => exact sameM_flat F.g0 G.g0 cf
 | 1, _ => exact sameM_flat F.g1 G.g1 rfl
 | 2, _ => exact sameM_flat F.g2 G.g2 rfl
 | 3, _ => exact .inr ⟨_, _, F.g3, G.g3, .inl ⟨rfl, rfl, mpE_flat c n⟩⟩
 | 4, _ => exact sameM_one F.g4 G.g4 (.mp (preK_lowM (by show szM + 3 < szM + 10; omega)))
 | 5, _ => exact sameM_one g5 (by kernel_rfl) hr
 | 6, _ => exact sameM_flat F.g6 G.g6 rfl
 | 7, _ => exact sameM_flat F.g7 G.g7 rfl
 | 8, _ => exact .inr ⟨_, _, F.g8, G.g8, .inl trivial⟩
theorem bv_loop {al' : Value} {arr : AObj} {pre : Pre} (F : BvF c e row n lo hi h' b) : ∃ st pd a ps asg bd d, h'.get (szM + 9) = some (.loop st pd a ps asg bd d) ∧ d < szM + 10 ∧ (∀ g, (bvH c e row n lo hi al' arr g).get (szM + 9) = some (.loop st pd (stOf a.n [(4, ptN 2), (5, ptN 4), (6, ptN 5)] g) ps asg bd d)) ∧ ∀ x ∈ ([(4, ptN 2), (5, ptN 4), (6, ptN 5)] : List (Nat × Value)), Ren (preK (szM + 10) pre) (a.tmp x.1) x.2 := by
 refine ⟨_, _, b, _, _, _, _, F.g9, by show szM + 8 < szM + 10; omega, fun g => ?_, fun x hx => ?_⟩
 ·rw [F.bn]; show _ = _; kernel_rfl
 ·simp only [List.mem_cons, List.not_mem_nil, or_false] at hx
  rcases hx with rfl | rfl | rfl
  ·rw [F.b4]; exact .ptr (preK_lowM (by show szM + 2 < szM + 10; omega))
  ·rw [F.b5]; exact .ptr (preK_lowM (by show szM + 4 < szM + 10; omega))
  ·rw [F.b6]; exact .ptr (preK_lowM (by show szM + 5 < szM + 10; omega))
theorem seeW_A (F : BvF c e row n lo hi h' b) (cf : c.all (flat 3) = true) (g5 : h'.get (szM + 5) = some (.cells [nilS] 209 0 false)) (hv : ∀ v ∈ vs, okTW v) : See (szM + 10) (szM + 9) h' vs vs (bvT c e row n lo hi []) := by
 refine ⟨fun _ => none, szM + 12, [(4, ptN 2), (5, ptN 4), (6, ptN 5)], szM + 11, ⟨fun g => (by kernel_rfl), (by omega), fun j i h => (by cases h), fun j j' i h => (by cases h), fun i hi hne g => bv_pin F cf g5 (.flat rfl) i hi hne g, (by omega), bv_loop F, fun j i h => (by cases h), fun j h1 _ h2 g o ho => ?_⟩, ⟨by omega, by omega, rfl⟩, fun j i h => (by cases h), rfl, fun q x y hx hy => ?_⟩
 ·obtain ⟨t, rfl⟩ : ∃ t, j = szM + t := ⟨j - szM, by omega⟩
  obtain rfl | rfl : t = 10 ∨ t = 11 := by omega
  ·have : (bvT c e row n lo hi [] g).get (szM + 10) = some .dead := by kernel_rfl
   rw [this] at ho; cases ho; rfl
  ·have : (bvT c e row n lo hi [] g).get (szM + 11) = some .dead := by kernel_rfl
   rw [this] at ho; cases ho; rfl
 ·rw [hx] at hy; cases hy
  exact (hv x (List.mem_of_getElem? hx)).ren
theorem seeW_D {x u : Nat} {L : List W4} (F : BvF c e row n lo hi h' b) (cf : c.all (flat 3) = true) (g5 : h'.get (szM + 5) = some (.cells [.slice (some ⟨szM + x, 0, none⟩) u u] 209 0 false)) (ga : h'.get (szM + x) = some (.cells (cells4 L) 151 5 false)) (hx : 10 ≤ x) (hu : L.length = u) (hL : L ≠ []) (hv : ∀ v ∈ vs, okTW v) (hy : yW ∈ vs) : See (szM + 10) (szM + 9) h' vs vs (bvT c e row n lo hi L) := by
 obtain ⟨a, r, rfl⟩ : ∃ a r, L = a :: r := by
  cases L with
  | nil => exact absurd rfl hL
  | cons a r => exact ⟨a, r, rfl⟩
 subst hu
 have born : BnV h' vs (szM + x) := .cell (.loop (t := 6) (.yield hy) F.g9 (by rw [F.b6]; exact .inr (.inl ⟨0, rfl⟩))) g5 (.head _) (.inl ⟨0, _, _, rfl⟩)
 have pe : ∀ j i, (fun j => if j = szM + 10 then some (szM + x) else none : Pre) j = some i → j = szM + 10 ∧ i = szM + x := fun j i h => by
  simp only at h
  split at h
  ·cases h; exact ⟨by assumption, rfl⟩
  ·cases h
 refine ⟨fun j => if j = szM + 10 then some (szM + x) else none, szM + 12, [(4, ptN 2), (5, ptN 4), (6, ptN 5)], szM + 11, ⟨fun g => (by kernel_rfl), (by omega), fun j i h => ?_, fun j j' i h h' => ?_, fun i hi hne g => bv_pin F cf g5 (.slice ?_) i hi hne g, (by omega), bv_loop F, fun j i h g => ?_, fun j h1 hp h2 g o ho => ?_⟩, ⟨by omega, by omega, ?_⟩, fun j i h => ?_, rfl, fun q x y hx hy => ?_⟩
 ·obtain ⟨rfl, rfl⟩ := pe j i h
  omega
 ·rw [(pe j i h).1, (pe j' i h').1]
 ·show preK (szM + 10) _ (szM + 10) = some (szM + x)
  simp only [preK]
  rw [if_neg (by omega), if_pos trivial]
 ·obtain ⟨rfl, rfl⟩ := pe j i h
  refine ⟨_, _, ga, (by kernel_rfl : (bvT c e row n lo hi (a :: r) g).get (szM + 10) = some (.cells (cells4 (a :: r)) 151 5 false)), rfl, rfl, rfl, flat_ren (cells4_flat _), fun h => h⟩
 ·obtain ⟨t, rfl⟩ : ∃ t, j = szM + t := ⟨j - szM, by omega⟩
  obtain rfl | rfl : t = 10 ∨ t = 11 := by omega
  ·rw [if_pos rfl] at hp; cases hp
  ·have : (bvT c e row n lo hi (a :: r) g).get (szM + 11) = some .dead := by kernel_rfl
   rw [this] at ho; cases ho; rfl
 ·show (if szM + 11 = szM + 10 then some (szM + x) else none) = none
  rw [if_neg (by omega)]
 ·obtain ⟨rfl, rfl⟩ := pe j i h
  exact born
 ·rw [hx] at hy; cases hy
  exact (hv x (List.mem_of_getElem? hx)).ren
end
theorem see_selfW {c : List Value} {e row n lo hi : Nat} {L : List W4} {g₂ : Nat → Value} {vs : List Value} (cf : c.all (flat 3) = true) (hv : ∀ v ∈ vs, okTW v) (hy : yW ∈ vs) : See (szM + 10) (szM + 9) (bvT c e row n lo hi L g₂) vs vs (bvT c e row n lo hi L) := by
 cases L with
 | nil => exact seeW_A (b := bvA g₂) (bvF_H c e row n lo hi nilS .dead g₂) cf (by kernel_rfl) hv
 | cons x r => exact seeW_D (b := bvA g₂) (x := 10) (u := (x :: r).length) (bvF_H c e row n lo hi _ _ g₂) cf (by kernel_rfl) (by kernel_rfl) (by omega) rfl (by simp) hv hy
end Go.Proofs.YtihnnmejkpddeaaGreatDoor
/-! (OWN WORK. Stage 6: all windows with their worths: the iterator's inner loop.) -/
namespace Go.Proofs.YtihnnmejkpddeaaGreatDoor
open Go Go.Am
theorem smD {c : List Value} {row n k : Nat} (C : BsOk c row n k) (p : Nat) : ∀ d, p + d ≤ n → -(2097152 * (d : Int)) ≤ smC c (p + d) - smC c p ∧ smC c (p + d) - smC c p ≤ 16384 * (d : Int)
 | 0, _ => by simp
 | d + 1, hd => by
  obtain ⟨i1, i2⟩ := smD C p d (by omega)
  obtain ⟨_, h1, h2⟩ := C.at_ (p + d) (by omega)
  have e : smC c (p + (d + 1)) = smC c (p + d) + intAt c (0 + (p + d) * 1) := rfl
  rw [e, show 0 + (p + d) * 1 = p + d by omega]
  omega
theorem sm0_bd {c : List Value} {row n k : Nat} (C : BsOk c row n k) {p q : Nat} (h : p ≤ q) (hq : q ≤ n) : 0 ≤ sm0 c p q ∧ sm0 c p q ≤ 2097152 := by
 have h1 := smD C p (q - p) (by omega)
 have := C.n1
 rw [show p + (q - p) = q by omega] at h1
 unfold sm0
 rw [ilt_say]
 by_cases hp : (0 : Int) < smC c q - smC c p
 ·rw [decide_eq_true hp, cond_true]; omega
 ·rw [decide_eq_false hp, cond_false]; omega
theorem sq_bd {x : Int} (h0 : 0 ≤ x) (h1 : x ≤ 2097152) : 0 ≤ x * x ∧ x * x ≤ 4398046511104 := by
 refine ⟨Int.mul_nonneg h0 h0, ?_⟩
 have := Int.mul_le_mul h1 h1 h0 (by decide)
 omega
theorem bvY_eq {p q : Nat} (h : p ≤ q) (hq : q ≤ 65536) : bvY p q = Int.ofNat (q - p) := by
 unfold bvY
 rw [show Int.ofNat q - Int.ofNat p = Int.ofNat (q - p) by simp only [Int.ofNat_eq_natCast]; omega]
 exact fwrap_nat (by omega)
theorem bvX_eq {c : List Value} {row n k : Nat} (C : BsOk c row n k) {p q : Nat} (h : p ≤ q) (hq : q ≤ n) : bvX c n p q = sm0 c p q * sm0 c p q := by
 have b1 := smB' C hq
 have b2 := smB' C (Nat.le_trans h hq)
 have b3 := sq_bd (sm0_bd C h hq).1 (sm0_bd C h hq).2
 unfold bvX
 rw [mpE_at c hq, mpE_at c (Nat.le_trans h hq), fwrap_mid (x := smC c q - smC c p) (by omega) (by omega)]
 have e : (if (smC c q - smC c p : Int) > 0 then smC c q - smC c p else 0) = sm0 c p q := by
  unfold sm0
  rw [ilt_say]
  by_cases hp : (0 : Int) < smC c q - smC c p
  ·rw [decide_eq_true hp, cond_true, if_pos hp]
  ·rw [decide_eq_false hp, cond_false, if_neg hp]
 rw [e]
 exact fwrap_mid (by omega) (by omega)
theorem bv_rat {c : List Value} {row n k : Nat} (C : BsOk c row n k) {p q : Nat} (h : p < q) (hq : q ≤ n) : ratB (bvX c n p q) (bvY p q) = true := by
 have b3 := sq_bd (sm0_bd C (Nat.le_of_lt h) hq).1 (sm0_bd C (Nat.le_of_lt h) hq).2
 have := C.n1
 rw [bvX_eq C (Nat.le_of_lt h) hq, bvY_eq (Nat.le_of_lt h) (by omega)]
 exact ratB_of (inI64_iff.2 (by omega)) (inI64_iff.2 (by simp only [Int.ofNat_eq_natCast]; omega)) (by simp only [Int.ofNat_eq_natCast]; omega)
theorem wt_ok {c : List Value} {row n k : Nat} (C : BsOk c row n k) {p q : Nat} (h : p < q) (hq : q ≤ n) : okR (wtP c p q) := by
 have b3 := sq_bd (sm0_bd C (Nat.le_of_lt h) hq).1 (sm0_bd C (Nat.le_of_lt h) hq).2
 have := C.n1
 exact rq_ok b3.1 (by omega) (by simp only [Int.ofNat_eq_natCast]; omega) (by simp only [Int.ofNat_eq_natCast]; omega)
noncomputable abbrev biV (n p la q : Nat) : List Value := [yW, ptN 6, ptN 7, goN p, goN la, goN q, goN n, goN p]
theorem biV_ok (n p la q : Nat) : ∀ v ∈ biV n p la q, okTW v := by
 intro v hv
 simp only [List.mem_cons, List.not_mem_nil, or_false] at hv
 rcases hv with rfl | rfl | rfl | rfl | rfl | rfl | rfl | rfl
 ·exact .inr (.inl rfl)
 ·exact .inr (.inr ⟨6, by omega, rfl⟩)
 ·exact .inr (.inr ⟨7, by omega, rfl⟩)
 all_goals exact .inl rfl
section
variable {c : List Value} {row n k : Nat} (C : BsOk c row n k)
include C
set_option maxRecDepth 100000 in
theorem bi_loop (e lo hi p la : Nat) (L₀ : List W4) (h0 : 0 < lo) (hp : p + lo ≤ 65536) (hla : la ≤ n) (hL : L₀.length ≤ 1000000) : ∀ (a : AAct) (h : AHeap), See (szM + 10) (szM + 9) h ([0, 1, 2, 4, 5, 6, 7, 8].map a.tmp) (biV n p la (p + lo)) (bvT c e row n lo hi L₀) → a.n = 33 → a.marks = [] →
  JK (szM + 10) Tryz.prog (.loop (loopOf Tryz.prog 182 2)) a h (told 33 [0, 1, 2, 4, 5, 6, 7, 8] fun ex vs h' => ex = .exit 2 ∧ vs = biV n p la (p + lo + (la + 1 - (p + lo))) ∧ ∃ g₂, h' = bvT c e row n lo hi (L₀ ++ rwL c p (p + lo) (la + 1 - (p + lo))) g₂) := by
 have cf := C.cf
 have hn1 := C.n1
 refine JK.foldL (by show szM ≤ szM + 10; omega) (fun j => biV n p la (p + lo + j)) (fun j => bvT c e row n lo hi (L₀ ++ rwL c p (p + lo) j)) (fun _ => True) (la + 1 - (p + lo)) trivial _ ?_ ?_ |> fun x => by simpa only [rwL, List.append_nil, Nat.add_zero] using x
 ·intro j hj _ g g₂
  have hq : p + lo + j ≤ la := by omega
  have mi := mpE_int c n
  have rt := bv_rat C (p := p) (q := p + lo + j) (by omega) (by omega)
  have ew : [goN p, goN (p + lo + j), gi (rqA (bvX c n p (p + lo + j)) (bvY p (p + lo + j))), gi (rqB (bvX c n p (p + lo + j)) (bvY p (p + lo + j)))] = w4 (wnW c p (p + lo + j)) := by
   rw [bvX_eq C (by omega) (by omega), bvY_eq (by omega) (by omega)]; rfl
  have es : L₀ ++ rwL c p (p + lo) (j + 1) = (L₀ ++ rwL c p (p + lo) j) ++ [wnW c p (p + lo + j)] := by
   rw [List.append_assoc]; rfl
  have len : (L₀ ++ rwL c p (p + lo) j).length ≤ 2000000 := by rw [List.length_append, rwL_len]; omega
  generalize hLj : L₀ ++ rwL c p (p + lo) j = Lj at es len
  cases Lj with
  | nil =>
   refine JK.ofR mixed orcBb_ok askBb_ok (Eq.mpr (bi_A c e row n lo hi p (p + lo + j) (Int.ofNat la) g g₂ _) ⟨fun hlt => ⟨mi, mi, rt, rfl, rfl, rfl, rfl, trivial, ?_⟩, fun hge => ?_⟩)
   ·rw [fwrap_nat (by omega), ew]
    show See _ _ _ (biV n p la (p + lo + j + 1)) (biV n p la (p + lo + (j + 1))) (bvT c e row n lo hi (L₀ ++ rwL c p (p + lo) (j + 1)))
    rw [es, show p + lo + (j + 1) = p + lo + j + 1 by omega]
    refine seeW_D (b := bvA g₂) (x := 16) (u := 1) (L := [wnW c p (p + lo + j)]) ⟨?_, by kernel_rfl, by kernel_rfl, by kernel_rfl, by kernel_rfl, by kernel_rfl, by kernel_rfl, by kernel_rfl, by kernel_rfl, by kernel_rfl, bvA_n _, bvA_tmp4 _, bvA_tmp5 _, bvA_tmp6 _⟩ cf (by kernel_rfl) (by kernel_rfl) (by omega) rfl (by simp) (biV_ok _ _ _ _) (.head _)
    (repeat' (first | with_reducible apply LowM.set | with_reducible apply LowM.push)) <;> first | exact low_bvH _ _ _ _ _ _ _ _ _ | exact of_decide_eq_true (by kernel_rfl)
   ·have hge := not_t hge
    rw [ilt_say] at hge
    have := of_decide_eq_true hge
    simp only [Int.ofNat_eq_natCast] at this
    omega
  | cons y r =>
   refine JK.ofR mixed orcBb_ok askBb_ok (Eq.mpr (bi_D c e row n lo hi p (p + lo + j) (Int.ofNat la) (cells4 (y :: r)) (y :: r).length g g₂ _) ⟨fun hlt => ⟨mi, mi, rt, rfl, rfl, rfl, rfl, ble_noV (by omega), by rw [Nat.ble_eq]; omega, (cells4_len (y :: r)).symm, trivial, ?_⟩, fun hge => ?_⟩)
   ·rw [fwrap_nat (by omega), ew]
    show See _ _ _ (biV n p la (p + lo + j + 1)) (biV n p la (p + lo + (j + 1))) (bvT c e row n lo hi (L₀ ++ rwL c p (p + lo) (j + 1)))
    rw [es, show p + lo + (j + 1) = p + lo + j + 1 by omega]
    refine seeW_D (b := bvA g₂) (x := 16) (u := (y :: r).length + 1) (L := (y :: r) ++ [wnW c p (p + lo + j)]) ⟨?_, by kernel_rfl, by kernel_rfl, by kernel_rfl, by kernel_rfl, by kernel_rfl, by kernel_rfl, by kernel_rfl, by kernel_rfl, by kernel_rfl, bvA_n _, bvA_tmp4 _, bvA_tmp5 _, bvA_tmp6 _⟩ cf (by kernel_rfl) ?_ (by omega) (by rw [List.length_append]; rfl) (by simp) (biV_ok _ _ _ _) (.head _)
    ·(repeat' (first | with_reducible apply LowM.set | with_reducible apply LowM.push)) <;> first | exact low_bvH _ _ _ _ _ _ _ _ _ | exact of_decide_eq_true (by kernel_rfl)
    ·rw [cells4_app, show cells4 [wnW c p (p + lo + j)] = w4 (wnW c p (p + lo + j)) from rfl]; show _ = _; kernel_rfl
   ·have hge := not_t hge
    rw [ilt_say] at hge
    have := of_decide_eq_true hge
    simp only [Int.ofNat_eq_natCast] at this
    omega
 ·intro _ g g₂
  generalize hLj : L₀ ++ rwL c p (p + lo) (la + 1 - (p + lo)) = Lj
  have hge : ∀ {b : Prop}, (!(ilt (Int.ofNat la) (Int.ofNat (p + lo + (la + 1 - (p + lo)))))) = true → b := fun {b} h => by
   have h := not_f h
   rw [ilt_say] at h
   have := of_decide_eq_false h
   simp only [Int.ofNat_eq_natCast] at this
   omega
  cases Lj with
  | nil => exact JK.ofR mixed orcBb_ok askBb_ok (Eq.mpr (bi_A c e row n lo hi p _ (Int.ofNat la) g g₂ _) ⟨fun h => hge h, fun _ => ⟨rfl, rfl, g₂, rfl⟩⟩)
  | cons y r => exact JK.ofR mixed orcBb_ok askBb_ok (Eq.mpr (bi_D c e row n lo hi p _ (Int.ofNat la) (cells4 (y :: r)) (y :: r).length g g₂ _) ⟨fun h => hge h, fun _ => ⟨rfl, rfl, g₂, rfl⟩⟩)
end
end Go.Proofs.YtihnnmejkpddeaaGreatDoor
