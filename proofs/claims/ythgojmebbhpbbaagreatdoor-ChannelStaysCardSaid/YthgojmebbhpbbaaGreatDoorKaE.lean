/-
  OWN WORK. Kernels and masks known.
-/
import Derived.Test.YthgojmebbhpbbaaGreatDoorKaD
/-! (OWN WORK. Kernels: their checks and masks, as known calls.) -/
namespace Go.Proofs.YthgojmebbhpbbaaGreatDoor
open Go Go.Am
noncomputable def keE (l : List Int) : Int := firstS [whenS (ieq (Int.ofNat l.length) 0) 12, whenS (ilt 7 (Int.ofNat l.length)) 5, firstE wE l, whenS (!(ilt 0 (sumW l))) 6]
theorem keE_nil : keE [] = 12 := by kernel_rfl
noncomputable abbrev keO : List Int → List Value → Out := fun l _ => .plain (gi (keE l))
set_option maxRecDepth 100000 in
theorem ck_loop (l : List Int) (n e row k : Nat) (hn : l.length = n) (hle : n ≤ 65536) : ∀ (a : AAct) (h : AHeap), Laid [(l.map gi, e, row, true)] (Tryz.prog.globals.size + ·) h → a.n = 37 → a.marks = [] → [0, 2, 4].map a.tmp = [liP n k, gi 0, goN 0] →
  J Tryz.prog (.loop (loopOf Tryz.prog 13 0)) a h (told 37 [0, 2, 4] fun ex vs h' => (ex = .exit 0 ∧ firstE wE l = 0 ∧ vs = [liP n k, gi 0, goN n] ∧ h' = roH (l.map gi) e row) ∨ (ex = .ret ∧ firstE wE l ≠ 0 ∧ ∃ r, vs = liP n k :: gi (firstE wE l) :: r)) := by
 refine fold_rule (L := 1) (C := oneI l e row) globs_pos (by decide) (by decide) (fun _ => rfl) (oneI_flat l e row) (V := fun at_ j => [.slice (some ⟨at_ 0, 0, none⟩) n k, gi 0, goN j]) (I := fun j => firstE wE l = firstE wE (l.drop j)) (m := n) rfl _ _ (plus_nodup _ _) (fun q _ => Nat.le_add_right _ _) (fun j => by kernel_rfl) (fun j => by kernel_rfl)
  (fun at_ j q hq => by match q, hq with | 0, _ => exact ⟨(0, .slice (some ⟨at_ 0, 0, none⟩) n k), by simp, by simp [named]⟩) ?_ ?_
 ·intro j hj hI g
  have hjl : j < l.length := by omega
  obtain ⟨f0, i0⟩ := gi_at hjl
  refine execC_ok mixed orcKa_ok askKa_ok (noLoops _) (Eq.mpr (ck_body (l.map gi) n k e row j g _) ⟨fun hlt => ⟨hlt, f0, fun hx => ?_, fun hx => ?_⟩, fun hge => ?_⟩)
  ·rw [i0] at hx ⊢
   have hz : firstE wE l = wE l[j] := by rw [hI, firstE_drop hjl, show ieq (wE l[j]) 0 = false from not_ieqT hx]; rfl
   refine .inr ⟨rfl, ?_, [goN j], ?_⟩
   ·rw [hz]; intro h; rw [show withinS l[j] (-100) 100 = 0 from h] at hx; cases hx
   ·rw [hz]; rfl
  ·rw [i0] at hx
   refine ⟨?_, by rw [fwrap_nat (by omega)]; rfl, .one (gC_get (q := 0) rfl)⟩
   rw [hI, firstE_drop hjl, show ieq (wE l[j]) 0 = true from not_ieqF hx]; rfl
  ·have := blt_false hge; omega
 ·intro hI g
  refine execC_ok mixed orcKa_ok askKa_ok (noLoops _) (Eq.mpr (ck_body (l.map gi) n k e row n g _) ⟨fun hlt => ?_, fun _ => ?_⟩)
  ·have := blt_true hlt; omega
  ·exact .inl ⟨rfl, by rw [hI, firstE_end (by omega)], rfl, rfl⟩
noncomputable def ckL (l : List Int) (n e row k : Nat) : Loops Tryz.prog where
 body := fun _ => loopOf Tryz.prog 13 0
 spec := fun _ a h c => entry a 37 [(0, liP n k), (2, gi 0), (4, goN 0)] (h.get Tryz.prog.globals.size = some (.cells (l.map gi) e row true) ∧ (l.length = n ∧ n ≤ 65536) ∧
  (firstE wE l = 0 → ∀ g, c (.exit 0) (stOf 37 [(0, liP n k), (2, gi 0)] g) (roH (l.map gi) e row)) ∧ (firstE wE l ≠ 0 → ∀ g h', c .ret (stOf 37 [(2, gi (firstE wE l))] g) h'))
 ok := fun i a h c q => by
  obtain ⟨h1, h2, h3, g0, ⟨hs1, hs2⟩, h4, h5⟩ := entry_facts q
  refine J.of_told (ck_loop l n e row k hs1 hs2 a h (.one g0) h1 h2 ?_) ?_
  ·simp only [List.map_cons, List.map_nil]
   rw [h3 (0, liP n k) (by simp), h3 (2, gi 0) (by simp), h3 (4, goN 0) (by simp)]
  ·rintro ex vs h' g (⟨rfl, hz, rfl, rfl⟩ | ⟨rfl, hz, r, rfl⟩)
   ·exact h4 hz (ov [(4, goN n)] g)
   ·exact h5 hz (ov ((0, liP n k) :: [4].zip r) g) h'
theorem Kc_run (l : List Int) (m e row k : Nat) (K : Value → Prop) : callC Tryz.prog (exec Tryz.prog orcKb 10) (syOf [(17, 1), (34, 7)]) askKb (ckL l (m + 1) e row k) 20 13 #[liP (m + 1) k] (canon Tryz.prog [(l.map gi, e, row)]) (fun v _ => K v) = ((((!(ieq (firstS [whenS (ieq (Int.ofNat (m + 1)) 0) 12, whenS (ilt 7 (Int.ofNat (m + 1))) 5]) 0)) = true → K (gi (firstS [whenS (ieq (Int.ofNat (m + 1)) 0) 12, whenS (ilt 7 (Int.ofNat (m + 1))) 5]))) ∧ ((!(ieq (firstS [whenS (ieq (Int.ofNat (m + 1)) 0) 12, whenS (ilt 7 (Int.ofNat (m + 1))) 5]) 0)) = false → (loopOf Tryz.prog 13 0 = loopOf Tryz.prog 13 0 ∧ liP (m + 1) k = liP (m + 1) k ∧ gi 0 = gi 0 ∧ gi 0 = goN 0 ∧ ((canon Tryz.prog [Prod.mk (List.map gi l) (Prod.mk e row)]).push (.cells [gi (whenS (ieq (Int.ofNat (m + 1)) 0) 12), gi (whenS (ilt 7 (Int.ofNat (m + 1))) 5)] 3 2 false)).get (nG1) = Option.some (.cells (List.map gi l) e row true) ∧ (List.length l = (m + 1) ∧ ((m + 1) : Nat) ≤ 65536) ∧ (firstE wE l = 0 → (∀ _ : Nat → Value, ((List.all (List.map gi l) (flat 3) = true ∧ True) ∧ true = true ∧ (∃ x2 : List Int, (List.map gi l = List.map gi x2 ∧ ((0 : Nat) < (m + 1) ∧ List.length x2 = (m + 1) ∧ ((m + 1) : Nat) ≤ 65536) ∧ noC x2 [] ∧ K (gi (whenS (!(ilt 0 (sumW x2))) 6))))))) ∧ ((firstE wE l = 0 → False) → (∀ _ : Nat → Value, (∀ _ : AHeap, K (gi (firstE wE l))))))))) := by kernel_rfl
theorem inl_ints (l : List Int) : (l.map gi).all Value.oneCell' = true := by
 rw [List.all_eq_true]
 intro x hx
 obtain ⟨y, _, rfl⟩ := List.mem_map.1 hx
 rfl
noncomputable def orcKc : Orc := orElse 10 (cloneO dI gi 3) (orElse 13 (lstI Tryz.prog.globals.size tI noC keO) (orElse 19 (lstI Tryz.prog.globals.size tI noC keO) orcKb))
end Go.Proofs.YthgojmebbhpbbaaGreatDoor
/-! (OWN WORK. Kernels: masks as known calls.) -/
namespace Go.Proofs.YthgojmebbhpbbaaGreatDoor
open Go Go.Am
theorem firstS_app : ∀ l r : List Int, firstS (l ++ r) = bif ieq (firstS l) 0 then firstS r else firstS l
 | [], r => rfl
 | x :: l, r => by
  show (bif ieq x 0 then firstS (l ++ r) else x) = bif ieq (bif ieq x 0 then firstS l else x) 0 then firstS r else (bif ieq x 0 then firstS l else x)
  rw [firstS_app l r]
  cases h : ieq x 0
  ·rw [cond_false, cond_false, h]; rfl
  ·rw [cond_true, cond_true]
theorem ke_split (l : List Int) : keE l = bif ieq (firstS [whenS (ieq (Int.ofNat l.length) 0) 12, whenS (ilt 7 (Int.ofNat l.length)) 5]) 0 then (bif ieq (firstE wE l) 0 then whenS (!(ilt 0 (sumW l))) 6 else firstE wE l) else firstS [whenS (ieq (Int.ofNat l.length) 0) 12, whenS (ilt 7 (Int.ofNat l.length)) 5] := by
 unfold keE
 rw [show [whenS (ieq (Int.ofNat l.length) 0) 12, whenS (ilt 7 (Int.ofNat l.length)) 5, firstE wE l, whenS (!(ilt 0 (sumW l))) 6] = [whenS (ieq (Int.ofNat l.length) 0) 12, whenS (ilt 7 (Int.ofNat l.length)) 5] ++ [firstE wE l, whenS (!(ilt 0 (sumW l))) 6] from rfl, firstS_app]
 congr 1
 show (bif ieq (firstE wE l) 0 then (bif ieq (whenS _ 6) 0 then 0 else whenS _ 6) else firstE wE l) = _
 cases ieq (firstE wE l) 0
 ·rfl
 ·rw [cond_true, cond_true]
  cases (!(ilt 0 (sumW l))) <;> rfl
set_option maxRecDepth 100000 in
theorem orcKc_ok : OrcOk Tryz.prog orcKc := by
 refine cloneO_ok dI_some (fun _ => rfl) (lstI_ok globs_pos (lstI_ok globs_pos orcKb_ok (fun _ _ _ => rfl) ?_ ?_ ?_) (fun _ _ _ => rfl) ?_ ?_ ?_) fun l n el row k h0 h1 h2 => ?_
 ·rintro r rfl; exact CallJ.of_call mixed orcKa_ok kc_nil fun _ => by rw [Out.Got]; exact congrArg gi keE_nil.symm
 ·rintro r k rfl; exact CallJ.of_call mixed orcKa_ok (kc_emp k) fun _ => by rw [Out.Got]; exact congrArg gi keE_nil.symm
 ·rintro l r m e row k rfl hm h1
  have hf : (List.all (l.map gi) (flat 3) = true ∧ True) := ⟨flat_ints l, trivial⟩
  exact callC_ok mixed orcKb_ok askKb_ok (Eq.mpr (kc_run l m e row k _) ⟨hf, rfl, l, rfl, ⟨Nat.succ_pos _, hm, h1⟩, rfl, hf, rfl, l, rfl, ⟨Nat.succ_pos _, hm, h1⟩, rfl, (show gi _ = gi (keE l) by unfold keE; rw [hm])⟩)
 ·rintro r rfl; exact CallJ.of_call mixed orcKa_ok Kc_nil fun _ => by rw [Out.Got]; exact congrArg gi keE_nil.symm
 ·rintro r k rfl; exact CallJ.of_call mixed orcKa_ok (Kc_emp k) fun _ => by rw [Out.Got]; exact congrArg gi keE_nil.symm
 ·rintro l r m e row k rfl hm h1
  have hf : (List.all (l.map gi) (flat 3) = true ∧ True) := ⟨flat_ints l, trivial⟩
  refine callC_ok mixed orcKb_ok askKb_ok (Eq.mpr (Kc_run l m e row k _) ⟨fun hx => ?_, fun hx => ⟨rfl, rfl, rfl, rfl, ?_, ⟨hm, h1⟩, fun hz _ => ⟨hf, rfl, l, rfl, ⟨Nat.succ_pos _, hm, h1⟩, rfl, ?_⟩, fun hz _ _ => ?_⟩⟩)
  ·show gi _ = gi (keE l)
   rw [ke_split, hm, not_ieqT hx]; rfl
  ·rw [AHeap.get_push_ne (by kernel_rfl)]; exact canon_one
  ·show gi _ = gi (keE l)
   rw [ke_split, hm, not_ieqF hx, hz]; rfl
  ·show gi _ = gi (keE l)
   rw [ke_split, hm, not_ieqF hx, ieq_ne hz]; rfl
 ·obtain ⟨m, rfl⟩ : ∃ m, n = m + 1 := ⟨n - 1, by omega⟩
  have hc : (((l.map gi).drop 0).take (m + 1)) = (l.take (m + 1)).map gi := by rw [List.drop_zero, ← List.map_take]
  refine callC_ok mixed orcKa_ok askKa_ok (Eq.mpr (ints_run (l.map gi) el row m k _) ⟨?_, ?_, ?_, ?_⟩)
  ·rw [Nat.ble_eq, List.length_map]; omega
  ·rw [Nat.ble_eq]; omega
  ·rw [hc]; exact inl_ints _
  ·exact ⟨_, rfl, by rw [hc, AHeap.get_push_eq (by kernel_rfl)]⟩
noncomputable def askKc : Asks := asksC 10 gi 3 (asksI' Tryz.prog.globals.size 13 tI noC keO (asksI' Tryz.prog.globals.size 19 tI noC keO askKb))
theorem askKc_ok : AsksOk orcKc askKc := asksC_ok (d := dI) (fun _ => rfl) (asksI'_ok (asksI'_ok askKb_ok))
theorem whenS_zero {b : Bool} {e : Int} (he : e ≠ 0) (h : whenS b e = 0) : b = false := by
 cases b
 ·rfl
 ·exact absurd h he
theorem wE_bd {w : Int} (h : wE w = 0) : Bd 100 w := by
 unfold wE withinS at h
 have h := whenS_zero (by omega) h
 rw [Bool.or_eq_false_iff, ilt_say, ilt_say] at h
 simp at h
 unfold Bd; omega
theorem firstE_all {α : Type} {f : α → Int} : ∀ {l : List α}, firstE f l = 0 → ∀ x ∈ l, f x = 0
 | [], _ => fun x hx => by cases hx
 | y :: l, h => by
  have h : (bif ieq (f y) 0 then firstE f l else f y) = 0 := h
  cases hy : ieq (f y) 0
  ·rw [hy] at h
   rw [ieq_dec] at hy
   exact absurd h (by simpa using hy)
  ·rw [hy] at h
   rw [ieq_dec] at hy
   intro x hx
   rcases List.mem_cons.1 hx with rfl | hx
   ·simpa using hy
   ·exact firstE_all h x hx
theorem ke_valid {l : List Int} (h : keE l = 0) : (1 ≤ l.length ∧ l.length ≤ 7) ∧ (∀ w ∈ l, Bd 100 w) ∧ ilt 0 (sumW l) = true := by
 have h1 := firstS_none h
 have a := whenS_zero (by omega) (h1 _ (.head _))
 have b := whenS_zero (by omega) (h1 _ (.tail _ (.head _)))
 have c := h1 _ (.tail _ (.tail _ (.head _)))
 have d := whenS_zero (by omega) (h1 _ (.tail _ (.tail _ (.tail _ (.head _)))))
 rw [ieq_dec] at a
 rw [ilt_say] at b
 simp at a b d
 refine ⟨⟨by have := List.length_pos_iff.2 a; omega, by omega⟩, fun w hw => wE_bd (firstE_all c w hw), d⟩
theorem sumF_bd {l : List Int} (h : ∀ w ∈ l, Bd 100 w) : ∀ j, j ≤ l.length → j ≤ 65536 → Bd (j * 100) (sumF l j)
 | 0, _, _ => by show Bd _ 0; unfold Bd; omega
 | j + 1, hj, hl => by
  have ih := sumF_bd h j (by omega) (by omega)
  have hw := h l[j] (List.getElem_mem (by omega))
  rw [sumF_succ (by omega), fwrap_mid (by unfold Bd at *; omega) (by unfold Bd at *; omega)]
  unfold Bd at *; omega
theorem sumW_bd {l : List Int} (h : keE l = 0) : Bd 700 (sumW l) := by
 obtain ⟨⟨h1, h2⟩, h3, _⟩ := ke_valid h
 have := sumF_bd h3 l.length (Nat.le_refl _) (by omega)
 rw [sumF_end] at this
 exact this.le (by omega)
theorem names_agM (n : Nat) (d v : Int) : Names (agM n d v) where
 ren := fun r m => .agg (l := [.slice (some ⟨r, 0, none⟩) n n, gi d, gi v]) (l₂ := [.slice (some ⟨m, 0, none⟩) n n, gi d, gi v]) rfl fun i a b ha hb => by
  match i, ha, hb with
  | 0, ha, hb => cases ha; cases hb; exact .slice (by simp)
  | 1, ha, hb => cases ha; cases hb; exact .flat rfl
  | 2, ha, hb => cases ha; cases hb; exact .flat rfl
 born := fun r ρ c hv => Mentions.born (.inr (.inr (.inl ⟨_, 0, n, n, rfl, by simp⟩))) hv
abbrev kC : List Int → List Value → Prop := fun l r => r = [] ∧ keE l = 0
noncomputable abbrev thO : List Int → List Value → Out := fun l _ => .fresh (agM l.length (1 - (l.length : Int)) (sumW l)) (l.reverse.map gi) 3
noncomputable abbrev tbO : List Int → List Value → Out := fun l _ => .fresh (agM (2 * l.length - 1) (1 - (l.length : Int)) (sumW l * sumW l)) ((wtsE l).map gi) 3
noncomputable abbrev rwO : List Int → List Value → Out := fun l _ => .fresh (tupM [] (2 * l.length - 1) [gi (sumW l * sumW l)]) ((wtsE l).map gi) 3
noncomputable def orcKd : Orc := orElse 18 (lstI Tryz.prog.globals.size tI kC rwO) (orElse 50 (lstI Tryz.prog.globals.size tI kC tbO) (orElse 49 (lstI Tryz.prog.globals.size tI kC thO) orcKc))
theorem ke_nil {P : Prop} (h : keE [] = 0) : P := by rw [keE_nil] at h; cases h
theorem sq_in {l : List Int} (h : keE l = 0) : inI64 (sumW l * sumW l) = true := ((sumW_bd h).mul (sumW_bd h)).in (by decide)
set_option maxRecDepth 100000 in
theorem th_call (l : List Int) (h : keE l = 0) (e row k : Nat) : CallJ Tryz.prog 49 #[liP l.length k] (canon Tryz.prog [(l.map gi, e, row)]) (thO l []).Got := by
 obtain ⟨⟨h1, h2⟩, h3, _⟩ := ke_valid h
 have hf : (List.all (l.map gi) (flat 3) = true ∧ True) := ⟨flat_ints l, trivial⟩
 have fin : CallJ Tryz.prog 49 #[liP l.length k] (canon Tryz.prog [(l.map gi, e, row)]) (fun v h' => v = agM l.length (1 - (l.length : Int)) (sumW l) (nG1 + 3) ∧ h'.get (nG1 + 3) = some (.cells (l.reverse.map gi) 3 2 false)) := by
  exact CallJ.ofR mixed orcKb_ok askKb_ok (Eq.mpr (th_e l h1 h2 e row k fun v o => v = _ ∧ o = _) (lstY_ok h1 h2 hf ⟨rfl, rfl⟩))
 exact fin.mono fun v h' ⟨e1, e2⟩ => ⟨nG1 + 3, e1, e2⟩
end Go.Proofs.YthgojmebbhpbbaaGreatDoor
/-! (OWN WORK. Kernels: masks there and back, known for all valid kernels.) -/
namespace Go.Proofs.YthgojmebbhpbbaaGreatDoor
open Go Go.Am
set_option maxRecDepth 100000 in
theorem tb_call (l : List Int) (h : keE l = 0) (e row k : Nat) : CallJ Tryz.prog 50 #[liP l.length k] (canon Tryz.prog [(l.map gi, e, row)]) (tbO l []).Got := by
 obtain ⟨⟨h1, h2⟩, h3, _⟩ := ke_valid h
 have hf : (List.all (l.map gi) (flat 3) = true ∧ True) := ⟨flat_ints l, trivial⟩
 have hq := sq_in h
 have fin : CallJ Tryz.prog 50 #[liP l.length k] (canon Tryz.prog [(l.map gi, e, row)]) (fun v h' => v = agM (2 * l.length - 1) (1 - (l.length : Int)) (sumW l * sumW l) (nG1 + (3 + 2 * (2 * l.length - 1))) ∧ h'.get (nG1 + (3 + 2 * (2 * l.length - 1))) = some (.cells ((wtsE l).map gi) 3 2 false)) := by
  exact CallJ.ofR mixed orcKb_ok askKb_ok (Eq.mpr (tb_e l h1 h2 e row k fun v o => v = _ ∧ o = _) (asksE_ok h3 h2 (lstY_ok h1 h2 hf (lstY_ok h1 h2 hf ⟨hq, rfl, rfl⟩))))
 exact fin.mono fun v h' ⟨e1, e2⟩ => ⟨_, e1, e2⟩
set_option maxRecDepth 100000 in
theorem rw_call (l : List Int) (h : keE l = 0) (e row k : Nat) : CallJ Tryz.prog 18 #[liP l.length k] (canon Tryz.prog [(l.map gi, e, row)]) (rwO l []).Got := by
 obtain ⟨⟨h1, h2⟩, h3, _⟩ := ke_valid h
 have hf : (List.all (l.map gi) (flat 3) = true ∧ True) := ⟨flat_ints l, trivial⟩
 have hq := sq_in h
 have fin : CallJ Tryz.prog 18 #[liP l.length k] (canon Tryz.prog [(l.map gi, e, row)]) (fun v h' => v = tupM [] (2 * l.length - 1) [gi (sumW l * sumW l)] (nG1 + 1) ∧ h'.get (nG1 + 1) = some (.cells ((wtsE l).map gi) 3 2 false)) := by
  exact CallJ.ofR mixed orcKb_ok askKb_ok (Eq.mpr (rw_e l h1 h2 e row k fun v o => v = _ ∧ o = _) (asksE_ok h3 h2 (lstY_ok h1 h2 hf (lstY_ok h1 h2 hf ⟨hq, rfl, rfl⟩))))
 exact fin.mono fun v h' ⟨e1, e2⟩ => ⟨_, e1, e2⟩
set_option maxRecDepth 100000 in
theorem orcKd_ok : OrcOk Tryz.prog orcKd := by
 refine lstI_ok globs_pos (lstI_ok globs_pos (lstI_ok globs_pos orcKc_ok (fun l r _ => ⟨names_agM _ _ _, flat_ints _⟩) ?_ ?_ ?_) (fun l r _ => ⟨names_agM _ _ _, flat_ints _⟩) ?_ ?_ ?_) (fun l r _ => ⟨names_tup rfl rfl, flat_ints _⟩) ?_ ?_ ?_
 ·rintro r ⟨_, h⟩; exact ke_nil h
 ·rintro r k ⟨_, h⟩; exact ke_nil h
 ·rintro l r m e row k ⟨rfl, h⟩ hm _; rw [← hm]; exact th_call l h e row k
 ·rintro r ⟨_, h⟩; exact ke_nil h
 ·rintro r k ⟨_, h⟩; exact ke_nil h
 ·rintro l r m e row k ⟨rfl, h⟩ hm _; rw [← hm]; exact tb_call l h e row k
 ·rintro r ⟨_, h⟩; exact ke_nil h
 ·rintro r k ⟨_, h⟩; exact ke_nil h
 ·rintro l r m e row k ⟨rfl, h⟩ hm _; rw [← hm]; exact rw_call l h e row k
noncomputable def thY (n : Nat) (l : List Int) (r : List Value) (K : Out → Prop) : Prop := (r = [] ∧ keE l = 0) ∧ l.length = n ∧ K (.fresh (agM n (1 - (n : Int)) (sumW l)) (l.reverse.map gi) 3)
noncomputable def tbY (n : Nat) (l : List Int) (r : List Value) (K : Out → Prop) : Prop := (r = [] ∧ keE l = 0) ∧ l.length = n ∧ K (.fresh (agM (2 * n - 1) (1 - (n : Int)) (sumW l * sumW l)) ((wtsE l).map gi) 3)
noncomputable def rwY (n : Nat) (l : List Int) (r : List Value) (K : Out → Prop) : Prop := (r = [] ∧ keE l = 0) ∧ l.length = n ∧ K (.fresh (tupM [] (2 * n - 1) [gi (sumW l * sumW l)]) ((wtsE l).map gi) 3)
theorem thY_ok (n : Nat) (l : List Int) (r : List Value) (K : Out → Prop) (h : thY n l r K) : ∃ o, ifX kC thO l r = some o ∧ K o := by
 obtain ⟨hc, rfl, hk⟩ := h
 exact ⟨_, if_pos hc, hk⟩
theorem tbY_ok (n : Nat) (l : List Int) (r : List Value) (K : Out → Prop) (h : tbY n l r K) : ∃ o, ifX kC tbO l r = some o ∧ K o := by
 obtain ⟨hc, rfl, hk⟩ := h
 exact ⟨_, if_pos hc, hk⟩
theorem rwY_ok (n : Nat) (l : List Int) (r : List Value) (K : Out → Prop) (h : rwY n l r K) : ∃ o, ifX kC rwO l r = some o ∧ K o := by
 obtain ⟨hc, rfl, hk⟩ := h
 exact ⟨_, if_pos hc, hk⟩
noncomputable def askKd (n : Nat) : Asks := asksT' Tryz.prog.globals.size 18 tI (rwY n) (asksT' Tryz.prog.globals.size 50 tI (tbY n) (asksT' Tryz.prog.globals.size 49 tI (thY n) askKc))
theorem askKd_ok (n : Nat) : AsksOk orcKd (askKd n) := asksT'_ok (rwY_ok n) (asksT'_ok (tbY_ok n) (asksT'_ok (thY_ok n) askKc_ok))
end Go.Proofs.YthgojmebbhpbbaaGreatDoor
