/-
  OWN WORK. Units of samples, mapped lists.
-/
import Derived.Test.YthgojmebbhpbbaaGreatDoorCfZ
import Derived.Test.YthgojmebbhpbbaaGreatDoorAmX
namespace Go.Proofs.YthgojmebbhpbbaaGreatDoor
open Go Go.Am Ieee
noncomputable def mulE (x : Nat) : Nat := (floatBits .mul .f32 s16 x).getD 0
noncomputable def unitE (x : Nat) : Int := (floatToIntVal .f32 (mulE x) .i64).getD 0
theorem unit_run (x : Nat) (K : Value → AHeap → Prop) : callC Tryz.prog (exec Tryz.prog orcX 10) (syOf [(4, 12), (5, 13)]) noAsks (noLoops _) 20 144 #[gf x] (emp Tryz.prog) K =
 ((floatBits .mul .f32 s16 x).isSome = true ∧ (floatToIntVal .f32 (mulE x) .i64).isSome = true ∧ K (gi (unitE x)) (emp Tryz.prog)) := by kernel_rfl
theorem Sixt_run (x : Nat) (K : Value → AHeap → Prop) : callC Tryz.prog (exec Tryz.prog orcX 10) (syOf [(4, 12), (5, 13)]) noAsks (noLoops _) 20 25 #[gf x] (emp Tryz.prog) K =
 ((floatBits .mul .f32 s16 x).isSome = true ∧ (floatToIntVal .f32 (mulE x) .i64).isSome = true ∧ K (gi (unitE x)) (emp Tryz.prog)) := by kernel_rfl
theorem smp_valid {x : Nat} (h : smpE x = 0) : fin32 x ∧ badE x = false := by
 unfold smpE at h
 cases hb : finB x with
 | false => rw [hb] at h; cases h
 | true =>
  rw [hb] at h
  refine ⟨finB_iff.1 hb, ?_⟩
  cases hc : badE x with
  | false => rfl
  | true => rw [hc] at h; cases h
theorem unit_ok {x : Nat} (h : smpE x = 0) : (floatBits .mul .f32 s16 x).isSome = true ∧ (floatToIntVal .f32 (mulE x) .i64).isSome = true ∧ -16384 ≤ unitE x ∧ unitE x ≤ 16384 := by
 obtain ⟨hf, hb⟩ := smp_valid h
 obtain ⟨c, y, h1, _, h3, h4, h5, _⟩ := scaled_fin hf
 have hm : floatBits .mul .f64 d16 (cvt x) = some y := by rw [cvt_eq h1]; exact h3
 have hs : sclE x = y := by unfold sclE; rw [hm]; rfl
 unfold badE at hb
 rw [hs, absE_mod, Bool.or_eq_false_iff] at hb
 obtain ⟨N, n1, n2⟩ := whole_fin h4 hb.1 hb.2
 rw [h5] at n2
 obtain ⟨p, k1, k2⟩ := unit_fin hf n1 n2
 have e1 : floatBits .mul .f32 s16 x = some p := k1
 have e2 : mulE x = p := by unfold mulE; rw [e1]; rfl
 have e3 : unitE x = if (x / 2 ^ 31 % 2 == 1) = true then -(N : Int) else N := by unfold unitE; rw [e2, k2]; rfl
 refine ⟨by rw [e1]; rfl, by rw [e2, k2]; rfl, ?_, ?_⟩
 ·rw [e3]; split <;> omega
 ·rw [e3]; split <;> omega
noncomputable def unitS : List Value → Option (Bool × Value)
 | [.float .f32 x] => some (ieq (smpE x) 0, gi (unitE x))
 | _ => none
noncomputable def orcYa : Orc := orElse 25 (condO unitS) (orElse 144 (condO unitS) orcX)
set_option maxRecDepth 100000 in
theorem orcYa_ok : OrcOk Tryz.prog orcYa := by
 refine condO_ok (fun l v h => ?_) (condO_ok (fun l v h => ?_) orcX_ok)
 ·unfold unitS at h
  split at h
  ·rename_i x
   injection h with h
   injection h with h1 h2
   subst h2
   rw [ieq_dec] at h1
   obtain ⟨k1, k2, _⟩ := unit_ok (x := x) (by simpa using h1)
   exact ⟨rfl, rfl, callC_ok mixed orcX_ok (noAsks_ok _) (Eq.mpr (Sixt_run _ _) ⟨k1, k2, rfl⟩)⟩
  ·cases h
 ·unfold unitS at h
  split at h
  ·rename_i x
   injection h with h
   injection h with h1 h2
   subst h2
   rw [ieq_dec] at h1
   obtain ⟨k1, k2, _⟩ := unit_ok (x := x) (by simpa using h1)
   exact ⟨rfl, rfl, callC_ok mixed orcX_ok (noAsks_ok _) (Eq.mpr (unit_run _ _) ⟨k1, k2, rfl⟩)⟩
  ·cases h
noncomputable def askYa : Asks := asksF 25 unitS (asksF 144 unitS askX)
theorem askYa_ok : AsksOk orcYa askYa := asksF_ok (asksF_ok askX_ok)
theorem unit1_run (x : Nat) (K : Value → AHeap → Prop) : callC Tryz.prog (exec Tryz.prog orcYa 10) (syOf [(4, 7)]) askYa (noLoops _) 20 143 #[gf x] (emp Tryz.prog) K =
 (ieq (smpE x) 0 = true ∧ K (gi (unitE x)) (emp Tryz.prog)) := by kernel_rfl
noncomputable def orcY : Orc := orElse 143 (condO unitS) orcYa
set_option maxRecDepth 100000 in
theorem orcY_ok : OrcOk Tryz.prog orcY := by
 refine condO_ok (fun l v h => ?_) orcYa_ok
 unfold unitS at h
 split at h
 ·injection h with h
  injection h with h1 h2
  subst h2
  exact ⟨rfl, rfl, callC_ok mixed orcYa_ok askYa_ok (Eq.mpr (unit1_run _ _) ⟨h1, rfl⟩)⟩
 ·cases h
noncomputable def askY : Asks := asksF 143 unitS askYa
theorem askY_ok : AsksOk orcY askY := asksF_ok askYa_ok
noncomputable abbrev unF : Value := .func (.func 143) #[] #[]
noncomputable abbrev nG1 : Nat := Tryz.prog.globals.size
noncomputable abbrev MH (c : List Value) (e row : Nat) (c' : List Value) : AHeap := canonT [] (fun _ => 0) Tryz.prog.globals.size [(c, e, row, true), (c', 3, 2, false)]
noncomputable abbrev slO (n k : Nat) : Value := .slice (some ⟨Tryz.prog.globals.size + 1, 0, none⟩) n k
end Go.Proofs.YthgojmebbhpbbaaGreatDoor
namespace Go.Proofs.YthgojmebbhpbbaaGreatDoor
open Go Go.Am
theorem splice_map {l : List Int} {t : Nat} {b : Int} (ht : t < l.length) : splice (l.map gi) (0 + t * 1) [gi b] = (l.set t b).map gi := by
 unfold splice
 rw [show 0 + t * 1 = t by omega, List.set_eq_take_append_cons_drop, if_pos ht]
 simp
theorem mp_body (c c' : List Value) (n k m j e row : Nat) (g : Nat → Value) (Q : Exit → List Value → AHeap → Prop) :
  execC Tryz.prog (exec Tryz.prog orcY 10) (syOf [(14, 1), (15, 2), (16, 3), (20, 7), (22, 17)]) askY (noLoops _) 40 (loopOf Tryz.prog 142 0) (stOf 25 [(1, unF), (5, slO j m), (11, liP n k), (12, goN n), (13, goN j)] g) (MH c e row c') (told 25 [1, 5, 11, 12, 13] Q) =
  ((Nat.blt j n = true → Nat.blt j n = true ∧ c[0 + j * 1]? = some (.float .f32 (floatAt c (0 + j * 1))) ∧ ieq (smpE (floatAt c (0 + j * 1))) 0 = true ∧ Nat.ble (j + 1) m = true ∧ Nat.ble (0 + j * 1 + 1) c'.length = true ∧
   Q .normal [unF, slO (j + 1) m, liP n k, goN n, .int .i64 (fwrap .i64 (Int.ofNat (j + 1)))] (((MH c e row c').push (.cells [gi (unitE (floatAt c (0 + j * 1)))] 3 2 false)).set (nG1 + 1) (.cells (splice c' (0 + j * 1) [gi (unitE (floatAt c (0 + j * 1)))]) 3 2 false))) ∧
   (Nat.blt j n = false → Q (.exit 0) [unF, slO j m, liP n k, goN n, goN j] (MH c e row c'))) := by kernel_rfl
noncomputable def dstL (l : List Nat) (n j : Nat) : List Int := (l.take j).map unitE ++ List.replicate (n - j) 0
theorem dstL_length {l : List Nat} {n j : Nat} (hj : j ≤ n) (hn : n ≤ l.length) : (dstL l n j).length = n := by
 simp [dstL]; omega
theorem dstL_set {l : List Nat} {n j : Nat} (hj : j < n) (hn : n ≤ l.length) (hl : j < l.length) : (dstL l n j).set j (unitE l[j]) = dstL l n (j + 1) := by
 unfold dstL
 have h1 : ((l.take j).map unitE).length = j := by simp; omega
 rw [List.set_append, if_neg (by omega), h1, Nat.sub_self, show n - j = (n - (j + 1)) + 1 by omega, List.replicate_succ, List.set_cons_zero, List.take_add_one, List.getElem?_eq_getElem hl, List.map_append]
 simp only [Option.toList, List.map_cons, List.map_nil, List.append_assoc, List.singleton_append]
theorem dstL_end {l : List Nat} {n : Nat} : dstL l n n = (l.take n).map unitE := by simp [dstL]
theorem MH_src (c : List Value) (e row : Nat) (c' : List Value) : (MH c e row c').get nG1 = some (.cells c e row true) := by
 rw [canonT_get (T := []) rfl, if_pos (Nat.le_refl _), Nat.sub_self]; rfl
theorem MH_dst (c : List Value) (e row : Nat) (c' : List Value) : (MH c e row c').get (nG1 + 1) = some (.cells c' 3 2 false) := by
 rw [canonT_get (T := []) rfl, if_pos (Nat.le_succ _), show nG1 + 1 - Tryz.prog.globals.size = 1 by unfold nG1; omega]; rfl
theorem MH_n (c : List Value) (e row : Nat) (c' : List Value) : (MH c e row c').n = nG1 + 2 := canonT_n (T := []) rfl _
theorem flat_floats (l : List Nat) : (l.map gf).all (flat 3) = true := by
 rw [List.all_eq_true]
 intro x hx
 obtain ⟨y, _, rfl⟩ := List.mem_map.1 hx
 rfl
set_option maxRecDepth 100000 in
theorem mp_loop (l : List Nat) (n e row k : Nat) (h₀ : AHeap) (hn : n ≤ l.length) (hl : n ≤ 65536) (hval : ∀ x ∈ l.take n, smpE x = 0) (hs : h₀.get nG1 = some (.cells (l.map gf) e row true)) (hd : h₀.get (nG1 + 1) = some (.cells ((dstL l n 0).map gi) 3 2 false)) :
  ∀ a : AAct, a.n = 25 → a.marks = [] → [1, 5, 11, 12, 13].map a.tmp = [unF, slO 0 n, liP n k, goN n, goN 0] →
  J Tryz.prog (.loop (loopOf Tryz.prog 142 0)) a h₀ (told 25 [1, 5, 11, 12, 13] fun ex vs h => ex = .exit 0 ∧ vs = [unF, slO n n, liP n k, goN n, goN n] ∧ h.get (nG1 + 1) = some (.cells (((l.take n).map unitE).map gi) 3 2 false)) := by
 intro a ha hm hv
 refine loop_rule (fun m vs h => ∃ j, j ≤ n ∧ m = n - j ∧ vs = [unF, slO j n, liP n k, goN n, goN j] ∧ h.get nG1 = some (.cells (l.map gf) e row true) ∧ h.get (nG1 + 1) = some (.cells ((dstL l n j).map gi) 3 2 false)) _ ?_ n _ _ a ⟨0, Nat.zero_le _, rfl, rfl, hs, hd⟩ ha hm hv
 rintro m vs h g ⟨j, hj, rfl, rfl, hs, hd⟩
 refine J.reheap (es := fun _ => 0) (vs₂ := [unF, slO j n, liP n k, goN n, goN j]) (B := [(l.map gf, e, row, true), ((dstL l n j).map gi, 3, 2, false)]) (ids := [nG1, nG1 + 1]) globs_pos (by decide) (by decide) rfl (by simp) (by simp) ?_ (by kernel_rfl) ?_ fun g' => ?_
 ·intro q b i hb hi
  match q, hb, hi with
  | 0, hb, hi => cases hb; cases hi; exact ⟨hs, flat_floats l⟩
  | 1, hb, hi => cases hb; cases hi; exact ⟨hd, flat_ints _⟩
 ·intro i hi
  simp only [List.mem_cons, List.not_mem_nil, or_false] at hi
  rcases hi with rfl | rfl
  ·exact ⟨(11, liP n k), by simp, by simp [named]⟩
  ·exact ⟨(5, slO j n), by simp, by simp [named]⟩
 ·refine execC_ok mixed orcY_ok askY_ok (noLoops _) (Eq.mpr (mp_body _ _ n k n j e row g' _) ?_)
  refine ⟨fun hlt => ?_, fun hge => ?_⟩
  ·have hj' := blt_true hlt
   have hjl : j < l.length := by omega
   obtain ⟨h1, h2⟩ := float_at hjl
   have hv : smpE l[j] = 0 := hval _ (List.mem_of_getElem? (i := j) (by rw [List.getElem?_take, if_pos hj', List.getElem?_eq_getElem hjl]))
   rw [h2]
   refine ⟨hlt, h2 ▸ h1, by rw [hv]; rfl, by rw [Nat.ble_eq]; omega, by rw [Nat.ble_eq, List.length_map, dstL_length hj hn]; omega, n - (j + 1), by omega, j + 1, hj', rfl, by rw [fwrap_nat (by omega)], ?_, ?_⟩
   ·rw [AHeap.get_set, if_neg (by omega), AHeap.get_push, if_neg (by rw [MH_n]; omega)]
    exact MH_src _ _ _ _
   ·rw [AHeap.get_set, if_pos rfl, splice_map (by rw [dstL_length hj hn]; exact hj'), dstL_set hj' hn hjl]
  ·have hge := blt_false hge
   obtain rfl : j = n := by omega
   refine ⟨rfl, rfl, ?_⟩
   rw [← dstL_end]
   exact MH_dst _ _ _ _
noncomputable abbrev mkH (c : List Value) (e row : Nat) (c' : List Value) : AHeap := (liH c e row).push (.cells c' 3 2 false)
noncomputable def mpLoops (l : List Nat) (n e row k : Nat) : Loops Tryz.prog where
 body := fun _ => loopOf Tryz.prog 142 0
 spec := fun _ a h c => entry a 25 [(1, unF), (5, slO 0 n), (11, liP n k), (12, goN n), (13, goN 0)] (h = mkH (l.map gf) e row (List.replicate n (gi 0)) ∧ (n ≤ l.length ∧ n ≤ 65536 ∧ ∀ x ∈ l.take n, smpE x = 0) ∧
  ∀ g h', h'.get (nG1 + 1) = some (.cells (((l.take n).map unitE).map gi) 3 2 false) → c (.exit 0) (stOf 25 [(5, slO n n)] g) h')
 ok := fun i a h c q => by
  obtain ⟨h1, h2, h3, rfl, ⟨hs1, hs2, hs3⟩, h4⟩ := entry_facts q
  refine J.of_told (mp_loop l n e row k _ hs1 hs2 hs3 ?_ ?_ a h1 h2 ?_) ?_
  ·rw [AHeap.get_push, if_neg (by rw [canon_n]; simp)]
   rw [canon_get, if_pos (Nat.le_refl _), Nat.sub_self]; rfl
  ·rw [AHeap.get_push, if_pos (by rw [canon_n]; rfl)]
   simp [dstL]
  ·simp only [List.map_cons, List.map_nil]
   rw [h3 (1, unF) (by simp), h3 (5, slO 0 n) (by simp), h3 (11, liP n k) (by simp), h3 (12, goN n) (by simp), h3 (13, goN 0) (by simp)]
  ·rintro ex vs h' g ⟨rfl, rfl, hg⟩
   exact h4 (ov [(1, unF), (11, liP n k), (12, goN n), (13, goN n)] g) h' hg
theorem mp_run (l : List Nat) (n e row k : Nat) (K : Value → AHeap → Prop) : callC Tryz.prog (exec Tryz.prog orcY 10) (syOf [(10, 18)]) askY (mpLoops l n e row k) 20 142 #[liP n k, unF] (liH (l.map gf) e row) K =
 (Nat.ble 0 n = true ∧ Nat.ble n 65536 = true ∧ loopOf Tryz.prog 142 0 = loopOf Tryz.prog 142 0 ∧ unF = unF ∧ slO 0 n = slO 0 n ∧ liP n k = liP n k ∧ goN n = goN n ∧ goN 0 = goN 0 ∧
  mkH (l.map gf) e row (List.replicate n (gi 0)) = mkH (l.map gf) e row (List.replicate n (gi 0)) ∧ (n ≤ l.length ∧ n ≤ 65536 ∧ ∀ x ∈ l.take n, smpE x = 0) ∧
  ∀ (_ : Nat → Value) (h' : AHeap), h'.get (nG1 + 1) = some (.cells (((l.take n).map unitE).map gi) 3 2 false) → K (slO n n) h') := by kernel_rfl
noncomputable def unT : List Value → Bool
 | [.func (.func f) a b] => Nat.beq f 143 && a.isEmpty && b.isEmpty
 | _ => false
theorem unT_some {r : List Value} (h : unT r = true) : r = [unF] := by
 unfold unT at h
 split at h
 ·simp only [Bool.and_eq_true, Nat.beq_eq, Array.isEmpty_iff] at h
  obtain ⟨⟨rfl, rfl⟩, rfl⟩ := h
  rfl
 ·cases h
noncomputable def unX : List Nat → Option (List Value) := fun l => match l.all fun x => ieq (smpE x) 0 with
 | true => some ((l.map unitE).map gi)
 | false => none
def validL (l : List Nat) : Prop := ∀ x ∈ l, smpE x = 0
noncomputable def unitsL (l : List Nat) : List Value := (l.map unitE).map gi
theorem unX_ok {l : List Nat} (h : validL l) : unX l = some (unitsL l) := by
 unfold unX
 rw [show (l.all fun x => ieq (smpE x) 0) = true by rw [List.all_eq_true]; intro x hx; rw [h x hx]; rfl]
 rfl
theorem unX_some {l : List Nat} {xs : List Value} (h : unX l = some xs) : validL l ∧ xs = unitsL l := by
 unfold unX at h
 split at h
 ·rename_i hv
  cases h
  refine ⟨fun x hx => ?_, rfl⟩
  have := List.all_eq_true.1 hv x hx
  rw [ieq_dec] at this
  simpa using this
 ·cases h
noncomputable def orcZa : Orc := orElse 142 (mapO dF 65536 (fun n => n) unT unX 3) orcY
set_option maxRecDepth 100000 in
theorem orcZa_ok : OrcOk Tryz.prog orcZa := by
 refine mapO_ok dF_some (fun _ => rfl) orcY_ok (fun l xs h => by obtain ⟨_, rfl⟩ := unX_some h; exact flat_ints _) fun l n r xs el row k h0 h1 h2 ht hx => ?_
 obtain rfl := unT_some ht
 obtain ⟨hv, rfl⟩ := unX_some hx
 exact callC_ok mixed orcY_ok askY_ok (Eq.mpr (mp_run l n el row k _) ⟨by rw [Nat.ble_eq]; omega, by rw [Nat.ble_eq]; omega, rfl, rfl, rfl, rfl, rfl, rfl, rfl, ⟨h1, h2, hv⟩, fun _ h' hg => ⟨_, rfl, hg⟩⟩)
noncomputable def askZa : Asks := asksM 142 gf 65536 (fun n => n) unT validL unitsL 3 askY
theorem askZa_ok : AsksOk orcZa askZa := asksM_ok (d := dF) (e := gf) (fun _ => rfl) (fun _ => unX_ok) askY_ok
theorem units_run (l : List Nat) (n e row k : Nat) (K : Value → AHeap → Prop) : callC Tryz.prog (exec Tryz.prog orcZa 10) (syOf [(4, 7)]) askZa (noLoops _) 20 113 #[liP n k] (liH (l.map gf) e row) K =
 (∃ l' : List Nat, l.map gf = l'.map gf ∧ 0 < n ∧ n ≤ l'.length ∧ n ≤ 65536 ∧ validL (l'.take n) ∧ K (.slice (some ⟨(liH (l.map gf) e row).n, 0, none⟩) n n) ((liH (l.map gf) e row).push (.cells (unitsL (l'.take n)) 3 2 false))) := by kernel_rfl
noncomputable def orcZ : Orc := orElse 113 (mapO dF 65536 (fun n => n) noT unX 3) orcZa
set_option maxRecDepth 100000 in
theorem orcZ_ok : OrcOk Tryz.prog orcZ := by
 refine mapO_ok dF_some (fun _ => rfl) orcZa_ok (fun l xs h => by obtain ⟨_, rfl⟩ := unX_some h; exact flat_ints _) fun l n r xs el row k h0 h1 h2 ht hx => ?_
 obtain rfl := noT_some ht
 obtain ⟨hv, rfl⟩ := unX_some hx
 exact callC_ok mixed orcZa_ok askZa_ok (Eq.mpr (units_run l n el row k _) ⟨l, rfl, h0, h1, h2, hv, _, rfl, by rw [AHeap.get_push, if_pos rfl]⟩)
noncomputable def askZ : Asks := asksM 113 gf 65536 (fun n => n) noT validL unitsL 3 askZa
theorem askZ_ok : AsksOk orcZ askZ := asksM_ok (d := dF) (e := gf) (fun _ => rfl) (fun _ => unX_ok) askZa_ok
end Go.Proofs.YthgojmebbhpbbaaGreatDoor
namespace Go.Proofs.YthgojmebbhpbbaaGreatDoor
open Go Go.Am
noncomputable def dI : Value → Option Int
 | .int .i64 x => some x
 | _ => none
theorem dI_some (v : Value) (x : Int) (h : dI v = some x) : v = gi x := by
 unfold dI at h
 split at h
 ·cases h; rfl
 ·cases h
theorem int_at {l : List Int} {j : Nat} {x : Int} (h : l[j]? = some x) : (l.map gi)[0 + j * 1]? = some (gi (intAt (l.map gi) (0 + j * 1))) ∧ intAt (l.map gi) (0 + j * 1) = x := by
 have e : (l.map gi)[0 + j * 1]? = some (gi x) := by rw [Nat.zero_add, Nat.mul_one, List.getElem?_map, h]; rfl
 constructor
 ·unfold intAt; rw [e]
 ·unfold intAt; rw [e]
end Go.Proofs.YthgojmebbhpbbaaGreatDoor
