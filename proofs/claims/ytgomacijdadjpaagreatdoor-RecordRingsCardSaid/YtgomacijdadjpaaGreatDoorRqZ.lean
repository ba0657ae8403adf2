/-
  OWN WORK. Rings: unwound by the program: runs, and known.
-/
import Derived.Test.YtgomacijdadjpaaGreatDoorRlZ
/-! (OWN WORK. Rings: unwound by the program, for each size, index and state.) -/
namespace Go.Proofs.YtgomacijdadjpaaGreatDoor
open Go Go.Am

noncomputable def orcRgQ : Orc := liftO 17 orcRgC orcRgP
theorem orcRgQ_ok : OrcOk Tryz.prog orcRgQ := liftO_ok orcRgC_ok orcRgP_ok
noncomputable def askRgQ : Asks := liftA 17 (asksV Tryz.prog.globals.size 17 (ringY ckRY) askRgB) noAsks
theorem askRgQ_ok : AsksOk orcRgQ askRgQ := liftA_ok (asksV_ok (ringY_ok ckRY_ok) askRgB_ok) (noAsks_ok _)
noncomputable abbrev upA (n x : Nat) (fu : Bool) (g : List Value) (p : Prop) : Prop := (((g.all (flat 3) = true) ∧ True) ∧ ∃ L : List Nat, (g = L.map gf ∧ true = true ∧ (0 : Nat) < n ∧ n = L.length ∧ (n : Nat) ≤ 1000000 ∧ (n : Nat) ≤ n ∧ (Nat.beq 2 0 || Nat.beq 2 2) = true ∧ (!(ieq (ckR (L.take n) (Int.ofNat x) fu) 0)) = false ∧ p))
noncomputable abbrev upL (n x : Nat) (fu : Bool) (g : List Value) (e : Nat) (K : Value → AHeap → Prop) : Prop := callE Tryz.prog orcRgQ (syOf [(6, 7), (8, 32)]) askRgQ 160 11 #[rgV N1 n n (Int.ofNat x) fu] (rdH Tryz.prog g e 2) K
noncomputable abbrev upH (n x : Nat) (fu : Bool) (g : List Value) (e : Nat) : AHeap := ((rdH Tryz.prog g e 2).push (.cells [liP n n, gi (Int.ofNat x), .bool fu] 28 0 false))
noncomputable abbrev upK (b m : Nat) (h : AHeap) (c : List Value) (K : Value → AHeap → Prop) : Prop := K (.tuple #[.slice (some ⟨Tryz.prog.globals.size + b, 0, none⟩) m m, gi 0]) (h.push (.cells c 49 2 false))
noncomputable abbrev upZ (n : Nat) (g : List Value) (e : Nat) (K : Value → AHeap → Prop) : Prop := upA n 0 false g (upK 2 0 (upH n 0 false g e) [] K)
noncomputable abbrev upF (n x : Nat) (g : List Value) (e : Nat) (c : List Value) (K : Value → AHeap → Prop) : Prop := upA n x false g (upK 3 x ((upH n x false g e).push .dead) c K)
noncomputable abbrev upT (n x : Nat) (g : List Value) (e : Nat) (c : List Value) (K : Value → AHeap → Prop) : Prop := upA n x true g (([liP n n, gi (Int.ofNat x), Value.bool true] : List Value)[1]? = some (gi (Int.ofNat x)) ∧ ([liP n n, gi (Int.ofNat x), Value.bool true] : List Value)[0]? = some (liP n n) ∧ (.slice (some ⟨Tryz.prog.globals.size, x, none⟩) (n - x) (n - x) : Value) = (.slice (some ⟨Tryz.prog.globals.size, x, none⟩) (n - x) (n - x) : Value) ∧ ([liP n n, gi (Int.ofNat x), Value.bool true] : List Value)[1]? = some (gi (Int.ofNat x)) ∧ ([liP n n, gi (Int.ofNat x), Value.bool true] : List Value)[0]? = some (liP n n) ∧ upK 3 n ((upH n x true g e).push (.cells [(.slice (some ⟨Tryz.prog.globals.size, x, none⟩) (n - x) (n - x) : Value), .slice (some ⟨Tryz.prog.globals.size, 0, none⟩) x n] 22 2 false)) c K)
theorem up_bad (l : List Nat) (n e row k : Nat) (nx : Int) (fu : Bool) (K : Value → Prop) : callC Tryz.prog (exec Tryz.prog orcRgQ 40) (syOf [(6, 7), (8, 31)]) askRgQ (noLoops _) 120 11 #[rgV N1 n k nx fu] (rdH Tryz.prog (l.map gf) e row) (fun v _ => K v) = ((((l.map gf).all (flat 3) = true) ∧ True) ∧ ∃ L : List Nat, (l.map gf = L.map gf ∧ true = true ∧ (0 : Nat) < n ∧ n = L.length ∧ (n : Nat) ≤ 1000000 ∧ (n : Nat) ≤ k ∧ (Nat.beq row 0 || Nat.beq row 2) = true ∧ (!(ieq (ckR (L.take n) nx fu) 0)) = true ∧ K (.tuple #[nilS, gi (ckR (L.take n) nx fu)]))) := by kernel_rfl
noncomputable def upR (l : List Nat) (x : Nat) (fu : Bool) (e : Nat) (K : Value → AHeap → Prop) : Prop := match fu, x with
  | false, 0 => upZ l.length (l.map gf) e K
  | false, x + 1 => upF l.length (x + 1) (l.map gf) e ((l.take (x + 1)).map gf) K
  | true, x => upT l.length x (l.map gf) e ((uL l x true).map gf) K
theorem up_1 (x0 e x : Nat) (fu : Bool) (hx : x < 1) (K : Value → AHeap → Prop) : upL 1 x fu ([x0].map gf) e K = upR [x0] x fu e K := by
  obtain rfl : x = 0 := by omega
  all_goals cases fu
  all_goals kernel_rfl
theorem up_2 (x0 x1 e x : Nat) (fu : Bool) (hx : x < 2) (K : Value → AHeap → Prop) : upL 2 x fu ([x0, x1].map gf) e K = upR [x0, x1] x fu e K := by
  obtain rfl | rfl : x = 0 ∨ x = 1 := by omega
  all_goals cases fu
  all_goals kernel_rfl
theorem up_3 (x0 x1 x2 e x : Nat) (fu : Bool) (hx : x < 3) (K : Value → AHeap → Prop) : upL 3 x fu ([x0, x1, x2].map gf) e K = upR [x0, x1, x2] x fu e K := by
  obtain rfl | rfl | rfl : x = 0 ∨ x = 1 ∨ x = 2 := by omega
  all_goals cases fu
  all_goals kernel_rfl
theorem up_4 (x0 x1 x2 x3 e x : Nat) (fu : Bool) (hx : x < 4) (K : Value → AHeap → Prop) : upL 4 x fu ([x0, x1, x2, x3].map gf) e K = upR [x0, x1, x2, x3] x fu e K := by
  obtain rfl | rfl | rfl | rfl : x = 0 ∨ x = 1 ∨ x = 2 ∨ x = 3 := by omega
  all_goals cases fu
  all_goals kernel_rfl
theorem up_5 (x0 x1 x2 x3 x4 e x : Nat) (fu : Bool) (hx : x < 5) (K : Value → AHeap → Prop) : upL 5 x fu ([x0, x1, x2, x3, x4].map gf) e K = upR [x0, x1, x2, x3, x4] x fu e K := by
  obtain rfl | rfl | rfl | rfl | rfl : x = 0 ∨ x = 1 ∨ x = 2 ∨ x = 3 ∨ x = 4 := by omega
  all_goals cases fu
  all_goals kernel_rfl
theorem up_6 (x0 x1 x2 x3 x4 x5 e x : Nat) (fu : Bool) (hx : x < 6) (K : Value → AHeap → Prop) : upL 6 x fu ([x0, x1, x2, x3, x4, x5].map gf) e K = upR [x0, x1, x2, x3, x4, x5] x fu e K := by
  obtain rfl | rfl | rfl | rfl | rfl | rfl : x = 0 ∨ x = 1 ∨ x = 2 ∨ x = 3 ∨ x = 4 ∨ x = 5 := by omega
  all_goals cases fu
  all_goals kernel_rfl
theorem up_7 (x0 x1 x2 x3 x4 x5 x6 e x : Nat) (fu : Bool) (hx : x < 7) (K : Value → AHeap → Prop) : upL 7 x fu ([x0, x1, x2, x3, x4, x5, x6].map gf) e K = upR [x0, x1, x2, x3, x4, x5, x6] x fu e K := by
  obtain rfl | rfl | rfl | rfl | rfl | rfl | rfl : x = 0 ∨ x = 1 ∨ x = 2 ∨ x = 3 ∨ x = 4 ∨ x = 5 ∨ x = 6 := by omega
  all_goals cases fu
  all_goals kernel_rfl
theorem up_8 (x0 x1 x2 x3 x4 x5 x6 x7 e x : Nat) (fu : Bool) (hx : x < 8) (K : Value → AHeap → Prop) : upL 8 x fu ([x0, x1, x2, x3, x4, x5, x6, x7].map gf) e K = upR [x0, x1, x2, x3, x4, x5, x6, x7] x fu e K := by
  obtain rfl | rfl | rfl | rfl | rfl | rfl | rfl | rfl : x = 0 ∨ x = 1 ∨ x = 2 ∨ x = 3 ∨ x = 4 ∨ x = 5 ∨ x = 6 ∨ x = 7 := by omega
  all_goals cases fu
  all_goals kernel_rfl
theorem up_9 (x0 x1 x2 x3 x4 x5 x6 x7 x8 e x : Nat) (fu : Bool) (hx : x < 9) (K : Value → AHeap → Prop) : upL 9 x fu ([x0, x1, x2, x3, x4, x5, x6, x7, x8].map gf) e K = upR [x0, x1, x2, x3, x4, x5, x6, x7, x8] x fu e K := by
  obtain rfl | rfl | rfl | rfl | rfl | rfl | rfl | rfl | rfl : x = 0 ∨ x = 1 ∨ x = 2 ∨ x = 3 ∨ x = 4 ∨ x = 5 ∨ x = 6 ∨ x = 7 ∨ x = 8 := by omega
  all_goals cases fu
  all_goals kernel_rfl
theorem up_10 (x0 x1 x2 x3 x4 x5 x6 x7 x8 x9 e x : Nat) (fu : Bool) (hx : x < 10) (K : Value → AHeap → Prop) : upL 10 x fu ([x0, x1, x2, x3, x4, x5, x6, x7, x8, x9].map gf) e K = upR [x0, x1, x2, x3, x4, x5, x6, x7, x8, x9] x fu e K := by
  obtain rfl | rfl | rfl | rfl | rfl | rfl | rfl | rfl | rfl | rfl : x = 0 ∨ x = 1 ∨ x = 2 ∨ x = 3 ∨ x = 4 ∨ x = 5 ∨ x = 6 ∨ x = 7 ∨ x = 8 ∨ x = 9 := by omega
  all_goals cases fu
  all_goals kernel_rfl
end Go.Proofs.YtgomacijdadjpaaGreatDoor
/-! (OWN WORK. Rings: unwound by the program, for the greatest sizes.) -/
namespace Go.Proofs.YtgomacijdadjpaaGreatDoor
open Go Go.Am

theorem up_11 (x0 x1 x2 x3 x4 x5 x6 x7 x8 x9 x10 e x : Nat) (fu : Bool) (hx : x < 11) (K : Value → AHeap → Prop) : upL 11 x fu ([x0, x1, x2, x3, x4, x5, x6, x7, x8, x9, x10].map gf) e K = upR [x0, x1, x2, x3, x4, x5, x6, x7, x8, x9, x10] x fu e K := by
  obtain rfl | rfl | rfl | rfl | rfl | rfl | rfl | rfl | rfl | rfl | rfl : x = 0 ∨ x = 1 ∨ x = 2 ∨ x = 3 ∨ x = 4 ∨ x = 5 ∨ x = 6 ∨ x = 7 ∨ x = 8 ∨ x = 9 ∨ x = 10 := by omega
  all_goals cases fu
  all_goals kernel_rfl
theorem up_12 (x0 x1 x2 x3 x4 x5 x6 x7 x8 x9 x10 x11 e x : Nat) (fu : Bool) (hx : x < 12) (K : Value → AHeap → Prop) : upL 12 x fu ([x0, x1, x2, x3, x4, x5, x6, x7, x8, x9, x10, x11].map gf) e K = upR [x0, x1, x2, x3, x4, x5, x6, x7, x8, x9, x10, x11] x fu e K := by
  obtain rfl | rfl | rfl | rfl | rfl | rfl | rfl | rfl | rfl | rfl | rfl | rfl : x = 0 ∨ x = 1 ∨ x = 2 ∨ x = 3 ∨ x = 4 ∨ x = 5 ∨ x = 6 ∨ x = 7 ∨ x = 8 ∨ x = 9 ∨ x = 10 ∨ x = 11 := by omega
  all_goals cases fu
  all_goals kernel_rfl
end Go.Proofs.YtgomacijdadjpaaGreatDoor
/-! (OWN WORK. Rings: unwound by the program: known.) -/
namespace Go.Proofs.YtgomacijdadjpaaGreatDoor
open Go Go.Am

theorem ieq_ne' {x : Int} (h : x ≠ 0) : ieq x 0 = false := by rw [ieq_dec]; exact decide_eq_false h
noncomputable def upOut (l : List Nat) (x : Nat) (fu : Bool) : Out := .fresh (tupM [] (uL l x fu).length [gi 0]) ((uL l x fu).map gf) 49
theorem upH_n (n x : Nat) (fu : Bool) (g : List Value) (e : Nat) : (upH n x fu g e).n = Tryz.prog.globals.size + 2 := by kernel_rfl
set_option maxRecDepth 100000 in
theorem up_ok {l : List Nat} {e x : Nat} {fu : Bool} (h : ∀ K, upL l.length x fu (l.map gf) e K = upR l x fu e K) (hx : x < l.length) (hl : l.length ≤ 12) (hz : ckR l (Int.ofNat x) fu = 0) : CallJ Tryz.prog 11 #[rgV N1 l.length l.length (Int.ofNat x) fu] (rdH Tryz.prog (l.map gf) e 2) (upOut l x fu).Got := by
  have hc : (!(ieq (ckR (l.take l.length) (Int.ofNat x) fu) 0)) = false := by rw [List.take_length, hz]; rfl
  have hA : ∀ p : Prop, p → upA l.length x fu (l.map gf) p := fun p hp => ⟨⟨flat_floats _, trivial⟩, l, rfl, rfl, by omega, rfl, by omega, Nat.le_refl _, rfl, hc, hp⟩
  refine CallJ.ofE mixed orcRgQ_ok askRgQ_ok (Eq.mpr (h _) ?_)
  match fu, x with
  | false, 0 => exact hA _ ⟨Tryz.prog.globals.size + 2, rfl, (AHeap.get_push_eq (by rw [upH_n, Nat.beq_eq])).trans rfl⟩
  | false, x + 1 =>
    have e1 : (uL l (x + 1) false).length = x + 1 := by show (l.take (x + 1)).length = _; rw [List.length_take]; omega
    refine hA _ ⟨Tryz.prog.globals.size + 3, ?_, (AHeap.get_push_eq (by rw [AHeap.push_n, upH_n, Nat.beq_eq])).trans rfl⟩
    rw [e1]; rfl
  | true, x =>
    have e1 : (uL l x true).length = l.length := by show (l.drop x ++ l.take x).length = _; rw [List.length_append, List.length_drop, List.length_take]; omega
    refine hA _ ⟨rfl, rfl, rfl, rfl, rfl, Tryz.prog.globals.size + 3, ?_, (AHeap.get_push_eq (by rw [AHeap.push_n, upH_n, Nat.beq_eq])).trans rfl⟩
    rw [e1]; rfl
set_option maxRecDepth 100000 in
theorem upn_call (l : List Nat) (e x : Nat) (fu : Bool) (h1 : l.length ≤ 12) (hx : x < l.length) (hz : ckR l (Int.ofNat x) fu = 0) : CallJ Tryz.prog 11 #[rgV N1 l.length l.length (Int.ofNat x) fu] (rdH Tryz.prog (l.map gf) e 2) (upOut l x fu).Got := by
  refine up_ok ?_ hx h1 hz
  match l with
  | [] => exact absurd hx (by simp)
  | [x0] => exact up_1 x0 e x fu hx
  | [x0, x1] => exact up_2 x0 x1 e x fu hx
  | [x0, x1, x2] => exact up_3 x0 x1 x2 e x fu hx
  | [x0, x1, x2, x3] => exact up_4 x0 x1 x2 x3 e x fu hx
  | [x0, x1, x2, x3, x4] => exact up_5 x0 x1 x2 x3 x4 e x fu hx
  | [x0, x1, x2, x3, x4, x5] => exact up_6 x0 x1 x2 x3 x4 x5 e x fu hx
  | [x0, x1, x2, x3, x4, x5, x6] => exact up_7 x0 x1 x2 x3 x4 x5 x6 e x fu hx
  | [x0, x1, x2, x3, x4, x5, x6, x7] => exact up_8 x0 x1 x2 x3 x4 x5 x6 x7 e x fu hx
  | [x0, x1, x2, x3, x4, x5, x6, x7, x8] => exact up_9 x0 x1 x2 x3 x4 x5 x6 x7 x8 e x fu hx
  | [x0, x1, x2, x3, x4, x5, x6, x7, x8, x9] => exact up_10 x0 x1 x2 x3 x4 x5 x6 x7 x8 x9 e x fu hx
  | [x0, x1, x2, x3, x4, x5, x6, x7, x8, x9, x10] => exact up_11 x0 x1 x2 x3 x4 x5 x6 x7 x8 x9 x10 e x fu hx
  | [x0, x1, x2, x3, x4, x5, x6, x7, x8, x9, x10, x11] => exact up_12 x0 x1 x2 x3 x4 x5 x6 x7 x8 x9 x10 x11 e x fu hx
  | _ :: _ :: _ :: _ :: _ :: _ :: _ :: _ :: _ :: _ :: _ :: _ :: _ :: r => exact absurd h1 (by simp only [List.length_cons]; omega)
set_option maxRecDepth 100000 in
theorem upb_call (l : List Nat) (e row k : Nat) (nx : Int) (fu : Bool) (h0 : 0 < l.length) (h2 : l.length ≤ 1000000) (h3 : l.length ≤ k) (hw : row = 0 ∨ row = 2) (hz : ckR l nx fu ≠ 0) : CallJ Tryz.prog 11 #[rgV N1 l.length k nx fu] (rdH Tryz.prog (l.map gf) e row) (Out.plain (.tuple #[nilS, gi (ckR l nx fu)])).Got := by
  have hrow : (Nat.beq row 0 || Nat.beq row 2) = true := by rcases hw with rfl | rfl <;> rfl
  have ht : l.take l.length = l := List.take_length
  refine callC_ok mixed orcRgQ_ok askRgQ_ok (Eq.mpr (up_bad l l.length e row k nx fu _) ⟨⟨flat_floats _, trivial⟩, l, rfl, rfl, h0, rfl, h2, h3, hrow, ?_, ?_⟩)
  · rw [ht, ieq_ne' hz]; rfl
  · rw [ht]
open Classical in
noncomputable def upFn : List Nat → Int → Bool → Option Out := fun l nx fu => if ckR l nx fu = 0 then (if l.length ≤ 12 then some (upOut l nx.toNat fu) else none) else some (.plain (.tuple #[nilS, gi (ckR l nx fu)]))
noncomputable def upX : List Value → List Cells → Option Out := fun vs B => match vs, B with
  | [.agg a], [(c, e, 2)] => match a.toList with
    | [.slice s n k, u, v] => match Nat.beq n k with
      | true => ringX upFn [.agg a] [(c, e, 2)]
      | false => none
    | _ => none
  | _, _ => none
set_option maxRecDepth 100000 in
theorem upX_some {vs : List Value} {B : List Cells} {o : Out} (h : upX vs B = some o) : ∃ (l : List Nat) (e : Nat) (nx : Int) (fu : Bool), vs = [rgV Tryz.prog.globals.size l.length l.length nx fu] ∧ B = [(l.map gf, e, 2)] ∧ 0 < l.length ∧ l.length ≤ 1000000 ∧ upFn l nx fu = some o := by
  unfold upX at h
  split at h
  · rename_i a c e
    split at h
    · rename_i s n k u v ha
      split at h
      · rename_i hk
        obtain ⟨l, n', k', e', row, nx, fu, e1, e2, h0, h1, h2, h3, hw, hF⟩ := ringX_some h
        injection e1 with e1 _
        injection e1 with e1
        injection e2 with e2 _
        injection e2 with e2 e3
        injection e3 with e3 e4
        subst e1 e2 e3 h1
        have ha : [Value.slice (some ⟨Tryz.prog.globals.size, 0, none⟩) l.length k', gi nx, .bool fu] = [Value.slice s n k, u, v] := ha
        injection ha with ha _
        injection ha with _ ha1 ha2
        have hk := Nat.eq_of_beq_eq_true hk
        rw [← ha1, ← ha2] at hk
        subst hk
        rw [List.take_length] at hF
        exact ⟨l, _, nx, fu, rfl, rfl, h0, h2, hF⟩
      · cases h
    · cases h
  · cases h
noncomputable def orcRgU : Orc := orElse 11 (anyO Tryz.prog.globals.size upX) orcRgQ
set_option maxRecDepth 100000 in
theorem orcRgU_ok : OrcOk Tryz.prog orcRgU := by
  refine anyO_ok globs_pos orcRgQ_ok fun vs B o h _ => ?_
  obtain ⟨l, e, nx, fu, rfl, rfl, h0, h2, h⟩ := upX_some h
  unfold upFn at h
  split at h
  · rename_i hz
    split at h
    · rename_i h12
      cases h
      refine ⟨⟨names_tup rfl rfl, flat_floats _⟩, ?_⟩
      have hb : ckB l nx = 0 := by
        rw [ckR_eq] at hz
        cases hb : ieq (ckB l nx) 0 with
        | true => rw [ieq_dec] at hb; exact of_decide_eq_true hb
        | false => rw [hb] at hz; exact hz
      obtain ⟨_, _, _, x, rfl, hx⟩ := ckB_zero hb
      exact upn_call l e x fu h12 hx hz
    · cases h
  · rename_i hz
    cases h
    exact ⟨rfl, upb_call l e 2 l.length nx fu h0 h2 (Nat.le_refl _) (.inr rfl) hz⟩
/-- What is asked of Unwound: samples (b), or an error; of a list of its own. -/
noncomputable def upY (b : Bool) : List Value → List Cells → (Out → Prop) → Prop := fun vs B K => match vs, B with
  | [.agg a], [(c, _, 2)] => match a.toList with
    | [.slice (some ⟨i, 0, none⟩) n k, .int .i64 nx, .bool fu] => ∃ l : List Nat, c = l.map gf ∧ Nat.beq i Tryz.prog.globals.size = true ∧ 0 < n ∧ n = l.length ∧ n ≤ 1000000 ∧ n = k ∧ ieq (ckR l nx fu) 0 = b ∧ Bool.rec (motive := fun _ => Prop) (K (.plain (.tuple #[nilS, gi (ckR l nx fu)]))) (l.length ≤ 12 ∧ ∀ c : List Nat, c = uL l nx.toNat fu → K (.fresh (tupM [] c.length [gi 0]) (c.map gf) 49)) b
    | _ => False
  | _, _ => False
set_option maxRecDepth 100000 in
theorem upY_ok (b : Bool) (vs : List Value) (B : List Cells) (K : Out → Prop) (h : upY b vs B K) : ∃ o, upX vs B = some o ∧ K o := by
  unfold upY at h
  split at h
  · rename_i a c e
    split at h
    · rename_i i n k nx fu ha
      obtain ⟨l, rfl, hi, h0, rfl, h2, rfl, hb, hk⟩ := h
      have e0 : Nat.blt 0 l.length = true := by rw [Nat.blt_eq]; exact h0
      have e1 : Nat.beq l.length l.length = true := by rw [Nat.beq_eq]
      have e2 : Nat.ble l.length 1000000 = true := by rw [Nat.ble_eq]; exact h2
      have e3 : Nat.ble l.length l.length = true := by rw [Nat.ble_eq]; exact Nat.le_refl _
      have key : ∀ o, upFn l nx fu = some o → upX [.agg a] [(l.map gf, e, 2)] = some o := fun o ho => by
        unfold upX
        simp only [ha, e1]
        unfold ringX
        simp only [ha, decs_map (d := dF) (e := gf) (fun _ => rfl), hi, e0, e1, e2, e3, List.take_length, ho]
        rfl
      cases b with
      | false =>
        rw [ieq_dec] at hb
        refine ⟨_, key _ ?_, hk⟩
        unfold upFn
        rw [if_neg (of_decide_eq_false hb)]
      | true =>
        rw [ieq_dec] at hb
        obtain ⟨h12, hk⟩ := hk
        refine ⟨upOut l nx.toNat fu, key _ ?_, hk _ rfl⟩
        unfold upFn
        rw [if_pos (of_decide_eq_true hb), if_pos h12]
    · exact h.elim
  · exact h.elim
end Go.Proofs.YtgomacijdadjpaaGreatDoor
