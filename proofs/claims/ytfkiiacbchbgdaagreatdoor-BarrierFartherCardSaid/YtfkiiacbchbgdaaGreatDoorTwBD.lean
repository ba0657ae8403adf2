/-
  OWN WORK. Tows: arguments told by functions; the errors of lists and of a tow.
-/
import Derived.Test.YtfkiiacbchbgdaaGreatDoorGtA0
import Derived.Test.YtfkiiacbchbgdaaGreatDoorAmV
import Derived.Test.YtfkiiacbchbgdaaGreatDoorAmW
/-! (OWN WORK. Tows: arguments that are a struct with a slice in it, told by functions.) -/
namespace Go.Proofs.YtfkiiacbchbgdaaGreatDoor
open Go Go.Am

noncomputable def intOf : Value → Int
  | .int .i64 x => x
  | _ => 0
noncomputable def decI : List Value → List Int
  | [] => []
  | v :: r => intOf v :: decI r
theorem decI_map : ∀ l : List Int, decI (l.map gi) = l
  | [] => rfl
  | x :: l => by
    show x :: decI (l.map gi) = x :: l
    rw [decI_map l]
theorem ints?_map : ∀ l : List Int, ints? (l.map gi) = some l
  | [] => rfl
  | x :: l => by
    show (ints? (l.map gi)).map (x :: ·) = _
    rw [ints?_map l]; rfl
noncomputable def tI : Tell Int := ⟨List.map gi, ints?, ints?_map, ints?_some, flat_ints⟩
theorem gi_at {l : List Int} {j : Nat} (hj : j < l.length) : (l.map gi)[0 + j * 1]? = some (gi (intAt (l.map gi) (0 + j * 1))) ∧ intAt (l.map gi) (0 + j * 1) = l[j] := first_at hj
/-- A list by its elements: as many as a literal says. -/
noncomputable def lsN (g : Nat → Int) : Nat → Nat → List Int
  | _, 0 => []
  | i, n + 1 => g i :: lsN g (i + 1) n
theorem lsN_drop (l : List Int) : ∀ (n i : Nat), i + n = l.length → lsN (fun j => l.getD j 0) i n = l.drop i
  | 0, i, h => by rw [List.drop_of_length_le (by omega)]; rfl
  | n + 1, i, h => by
    rw [List.drop_eq_getElem_cons (by omega)]
    show l.getD i 0 :: lsN _ (i + 1) n = _
    rw [lsN_drop l n (i + 1) (by omega), List.getD_eq_getElem?_getD, List.getElem?_eq_getElem (by omega)]; rfl
theorem lsN_all (l : List Int) : lsN (fun j => l.getD j 0) 0 l.length = l := by rw [lsN_drop l l.length 0 (by omega), List.drop_zero]
abbrev T5 := Int × Int × Int × Int × Int
noncomputable abbrev towV (n k : Nat) (a b c d w : Int) : Value := .agg #[liP n k, gi a, gi b, gi c, gi d, gi w]
def towOk (cs : List Value) (n : Nat) : Prop := cs = (decI cs).map gi ∧ 0 < n ∧ (decI cs).length = n ∧ n ≤ 65536
theorem towOk_of {l : List Int} {n : Nat} (h : l.length = n) (h0 : 0 < n) (h1 : n ≤ 65536) : towOk (l.map gi) n := by
  unfold towOk
  rw [decI_map]
  exact ⟨rfl, h0, h, h1⟩
noncomputable def towFY {α : Type} (z : α) (f : List Value → Nat → T5 → List Value → α) (vs : List Value) (B : List Cells) : α := match vs with
  | .agg arr :: r => match arr.toList with
    | [.slice (some ⟨i, 0, none⟩) n _, .int .i64 a, .int .i64 b, .int .i64 c, .int .i64 d, .int .i64 w] => match B with
      | [(cs, _, _)] => match Nat.beq i Tryz.prog.globals.size with
        | true => f cs n (a, b, c, d, w) r
        | false => z
      | _ => z
    | _ => z
  | _ => z
open Classical in
noncomputable def twX (C : List Int → T5 → List Value → Prop) (out : Nat → List Int → T5 → List Value → Out) (vs : List Value) (B : List Cells) : Option Out :=
  towFY none (fun cs n t r => if towOk cs n ∧ C (decI cs) t r then some (out n (decI cs) t r) else none) vs B
noncomputable def twY (C : List Int → T5 → List Value → Prop) (out : Nat → List Int → T5 → List Value → Out) (vs : List Value) (B : List Cells) (K : Out → Prop) : Prop :=
  towFY False (fun cs n t r => towOk cs n ∧ C (decI cs) t r ∧ K (out n (decI cs) t r)) vs B
theorem towFY_some {α : Type} {f : List Value → Nat → T5 → List Value → Option α} {vs : List Value} {B : List Cells} {o : α} (h : towFY none f vs B = some o) :
    ∃ (cs : List Value) (n k e row : Nat) (a b c d w : Int) (r : List Value), vs = towV n k a b c d w :: r ∧ B = [(cs, e, row)] ∧ f cs n (a, b, c, d, w) r = some o := by
  unfold towFY at h
  split at h
  · rename_i arr r
    split at h
    · rename_i i n k a b c d w ha
      split at h
      · rename_i cs e row
        split at h
        · rename_i hi
          rw [Nat.beq_eq] at hi
          obtain rfl := hi
          exact ⟨cs, n, k, e, row, a, b, c, d, w, r, by rw [agg_eq ha], rfl, h⟩
        · cases h
      · cases h
    · cases h
  · cases h
theorem towFY_at {α : Type} {z : α} {f : List Value → Nat → T5 → List Value → α} {cs : List Value} {n k e row : Nat} {a b c d w : Int} {r : List Value} : towFY z f (towV n k a b c d w :: r) [(cs, e, row)] = f cs n (a, b, c, d, w) r := by
  show (match Nat.beq Tryz.prog.globals.size Tryz.prog.globals.size with
    | true => f cs n (a, b, c, d, w) r
    | false => z) = _
  rw [Nat.beq_refl]
theorem towFY_prop {f : List Value → Nat → T5 → List Value → Prop} {g : List Value → Nat → T5 → List Value → Option Out} {K : Out → Prop} (hfg : ∀ cs n t r, f cs n t r → ∃ o, g cs n t r = some o ∧ K o) {vs : List Value} {B : List Cells} (h : towFY False f vs B) : ∃ o, towFY none g vs B = some o ∧ K o := by
  have q : ∃ (cs : List Value) (n k e row : Nat) (a b c d w : Int) (r : List Value), vs = towV n k a b c d w :: r ∧ B = [(cs, e, row)] ∧ f cs n (a, b, c, d, w) r := by
    unfold towFY at h
    split at h
    · rename_i arr r
      split at h
      · rename_i i n k a b c d w ha
        split at h
        · rename_i cs e row
          split at h
          · rename_i hi
            rw [Nat.beq_eq] at hi
            obtain rfl := hi
            exact ⟨cs, n, k, e, row, a, b, c, d, w, r, by rw [agg_eq ha], rfl, h⟩
          · exact h.elim
        · exact h.elim
      · exact h.elim
    · exact h.elim
  obtain ⟨cs, n, k, e, row, a, b, c, d, w, r, rfl, rfl, hf⟩ := q
  rw [towFY_at]
  exact hfg _ _ _ _ hf
theorem twY_ok {C C' : List Int → T5 → List Value → Prop} {out out' : Nat → List Int → T5 → List Value → Out} (hC : ∀ n l t r, C' l t r → C l t r ∧ out' n l t r = out n l t r) (vs : List Value) (B : List Cells) (K : Out → Prop) (h : twY C' out' vs B K) : ∃ o, twX C out vs B = some o ∧ K o := by
  refine towFY_prop (fun cs n t r hf => ?_) h
  obtain ⟨h1, h2, h3⟩ := hf
  obtain ⟨k1, k2⟩ := hC n _ _ _ h2
  exact ⟨_, if_pos ⟨h1, k1⟩, by rw [← k2]; exact h3⟩
theorem twX_some {C : List Int → T5 → List Value → Prop} {out : Nat → List Int → T5 → List Value → Out} {vs : List Value} {B : List Cells} {o : Out} (h : twX C out vs B = some o) :
    ∃ (l : List Int) (m k e row : Nat) (a b c d w : Int) (r : List Value), vs = towV (m + 1) k a b c d w :: r ∧ B = [(l.map gi, e, row)] ∧ l.length = m + 1 ∧ m + 1 ≤ 65536 ∧ C l (a, b, c, d, w) r ∧ o = out (m + 1) l (a, b, c, d, w) r := by
  obtain ⟨cs, n, k, e, row, a, b, c, d, w, r, rfl, rfl, h'⟩ := towFY_some h
  split at h'
  · rename_i hc
    cases h'
    obtain ⟨⟨h1, h2, h3, h4⟩, h5⟩ := hc
    obtain ⟨m, rfl⟩ : ∃ m, n = m + 1 := ⟨n - 1, by omega⟩
    exact ⟨decI cs, m, k, e, row, a, b, c, d, w, r, rfl, by rw [← h1], h3, h4, h5, rfl⟩
  · cases h'
noncomputable abbrev twO (C : List Int → T5 → List Value → Prop) (out : Nat → List Int → T5 → List Value → Out) : Array Value → AHeap → Option (Value × AHeap) := anyO Tryz.prog.globals.size (twX C out)
theorem twO_ok {f : FuncId} {C : List Int → T5 → List Value → Prop} {out : Nat → List Int → T5 → List Value → Out} {orc : Orc} (ho : OrcOk Tryz.prog orc) (hout : ∀ n l t r, C l t r → (out n l t r).Ok)
    (hk : ∀ (l : List Int) (m k e row : Nat) (a b c d w : Int) (r : List Value), l.length = m + 1 → m + 1 ≤ 65536 → C l (a, b, c, d, w) r → CallJ Tryz.prog f (towV (m + 1) k a b c d w :: r).toArray (canon Tryz.prog [(l.map gi, e, row)]) (out (m + 1) l (a, b, c, d, w) r).Got) : OrcOk Tryz.prog (orElse f (twO C out) orc) := by
  refine anyO_ok globs_pos ho fun vs B o h _ => ?_
  obtain ⟨l, m, k, e, row, a, b, c, d, w, r, rfl, rfl, h1, h2, h3, rfl⟩ := twX_some h
  exact ⟨hout _ _ _ _ h3, hk l m k e row a b c d w r h1 h2 h3⟩
/-! One slice. -/
noncomputable def sliFY {α : Type} (z : α) (f : List Value → Nat → List Value → α) (vs : List Value) (B : List Cells) : α := match vs with
  | .slice (some ⟨i, 0, none⟩) n _ :: r => match B with
    | [(cs, _, _)] => match Nat.beq i Tryz.prog.globals.size with
      | true => f cs n r
      | false => z
    | _ => z
  | _ => z
open Classical in
noncomputable def slX (C : List Int → List Value → Prop) (out : Nat → List Int → List Value → Out) (vs : List Value) (B : List Cells) : Option Out :=
  sliFY none (fun cs n r => if towOk cs n ∧ C (decI cs) r then some (out n (decI cs) r) else none) vs B
noncomputable def slY (C : List Int → List Value → Prop) (out : Nat → List Int → List Value → Out) (vs : List Value) (B : List Cells) (K : Out → Prop) : Prop :=
  sliFY False (fun cs n r => towOk cs n ∧ C (decI cs) r ∧ K (out n (decI cs) r)) vs B
theorem sliFY_some {α : Type} {f : List Value → Nat → List Value → Option α} {vs : List Value} {B : List Cells} {o : α} (h : sliFY none f vs B = some o) :
    ∃ (cs : List Value) (n k e row : Nat) (r : List Value), vs = liP n k :: r ∧ B = [(cs, e, row)] ∧ f cs n r = some o := by
  unfold sliFY at h
  split at h
  · rename_i i n k r
    split at h
    · rename_i cs e row
      split at h
      · rename_i hi
        rw [Nat.beq_eq] at hi
        obtain rfl := hi
        exact ⟨cs, n, k, e, row, r, rfl, rfl, h⟩
      · cases h
    · cases h
  · cases h
theorem sliFY_at {α : Type} {z : α} {f : List Value → Nat → List Value → α} {cs : List Value} {n k e row : Nat} {r : List Value} : sliFY z f (liP n k :: r) [(cs, e, row)] = f cs n r := by
  show (match Nat.beq Tryz.prog.globals.size Tryz.prog.globals.size with
    | true => f cs n r
    | false => z) = _
  rw [Nat.beq_refl]
theorem sliFY_prop {f : List Value → Nat → List Value → Prop} {g : List Value → Nat → List Value → Option Out} {K : Out → Prop} (hfg : ∀ cs n r, f cs n r → ∃ o, g cs n r = some o ∧ K o) {vs : List Value} {B : List Cells} (h : sliFY False f vs B) : ∃ o, sliFY none g vs B = some o ∧ K o := by
  have q : ∃ (cs : List Value) (n k e row : Nat) (r : List Value), vs = liP n k :: r ∧ B = [(cs, e, row)] ∧ f cs n r := by
    unfold sliFY at h
    split at h
    · rename_i i n k r
      split at h
      · rename_i cs e row
        split at h
        · rename_i hi
          rw [Nat.beq_eq] at hi
          obtain rfl := hi
          exact ⟨cs, n, k, e, row, r, rfl, rfl, h⟩
        · exact h.elim
      · exact h.elim
    · exact h.elim
  obtain ⟨cs, n, k, e, row, r, rfl, rfl, hf⟩ := q
  rw [sliFY_at]
  exact hfg _ _ _ hf
theorem slY_ok {C C' : List Int → List Value → Prop} {out out' : Nat → List Int → List Value → Out} (hC : ∀ n l r, C' l r → C l r ∧ out' n l r = out n l r) (vs : List Value) (B : List Cells) (K : Out → Prop) (h : slY C' out' vs B K) : ∃ o, slX C out vs B = some o ∧ K o := by
  refine sliFY_prop (fun cs n r hf => ?_) h
  obtain ⟨h1, h2, h3⟩ := hf
  obtain ⟨k1, k2⟩ := hC n _ _ h2
  exact ⟨_, if_pos ⟨h1, k1⟩, by rw [← k2]; exact h3⟩
theorem slX_some {C : List Int → List Value → Prop} {out : Nat → List Int → List Value → Out} {vs : List Value} {B : List Cells} {o : Out} (h : slX C out vs B = some o) :
    ∃ (l : List Int) (m k e row : Nat) (r : List Value), vs = liP (m + 1) k :: r ∧ B = [(l.map gi, e, row)] ∧ l.length = m + 1 ∧ m + 1 ≤ 65536 ∧ C l r ∧ o = out (m + 1) l r := by
  obtain ⟨cs, n, k, e, row, r, rfl, rfl, h'⟩ := sliFY_some h
  split at h'
  · rename_i hc
    cases h'
    obtain ⟨⟨h1, h2, h3, h4⟩, h5⟩ := hc
    obtain ⟨m, rfl⟩ : ∃ m, n = m + 1 := ⟨n - 1, by omega⟩
    exact ⟨decI cs, m, k, e, row, r, rfl, by rw [← h1], h3, h4, h5, rfl⟩
  · cases h'
noncomputable abbrev slO (C : List Int → List Value → Prop) (out : Nat → List Int → List Value → Out) : Array Value → AHeap → Option (Value × AHeap) := anyO Tryz.prog.globals.size (slX C out)
theorem slO_ok {f : FuncId} {C : List Int → List Value → Prop} {out : Nat → List Int → List Value → Out} {orc : Orc} (ho : OrcOk Tryz.prog orc) (hout : ∀ n l r, C l r → (out n l r).Ok)
    (hk : ∀ (l : List Int) (m k e row : Nat) (r : List Value), l.length = m + 1 → m + 1 ≤ 65536 → C l r → CallJ Tryz.prog f (liP (m + 1) k :: r).toArray (canon Tryz.prog [(l.map gi, e, row)]) (out (m + 1) l r).Got) : OrcOk Tryz.prog (orElse f (slO C out) orc) := by
  refine anyO_ok globs_pos ho fun vs B o h _ => ?_
  obtain ⟨l, m, k, e, row, r, rfl, rfl, h1, h2, h3, rfl⟩ := slX_some h
  exact ⟨hout _ _ _ h3, hk l m k e row r h1 h2 h3⟩
end Go.Proofs.YtfkiiacbchbgdaaGreatDoor
/-! (OWN WORK. Tows: the errors of all elements of a list.) -/
namespace Go.Proofs.YtfkiiacbchbgdaaGreatDoor
open Go Go.Am

noncomputable abbrev clF (f : FuncId) : Value := .func (.func f) #[] #[]
theorem c1_run (x : Int) (K : Value → Prop) : callC Tryz.prog (exec Tryz.prog orcTi 10) (syOf []) askTi (noLoops _) 20 65 #[gi x] (emp Tryz.prog) (fun v _ => K v) = K (gi (withinS x 0 100000)) := by kernel_rfl
theorem c2_run (x : Int) (K : Value → Prop) : callC Tryz.prog (exec Tryz.prog orcTi 10) (syOf []) askTi (noLoops _) 20 115 #[gi x] (emp Tryz.prog) (fun v _ => K v) = K (gi (withinS x 0 100000000)) := by kernel_rfl
noncomputable def wiL (hi : Int) : List Value → Option Value
  | [.int .i64 x] => some (gi (withinS x 0 hi))
  | _ => none
noncomputable def orcUa : Orc := orElse 65 (flatSpec (wiL 100000)) (orElse 115 (flatSpec (wiL 100000000)) orcTi)
set_option maxRecDepth 100000 in
theorem orcUa_ok : OrcOk Tryz.prog orcUa := by
  refine flatSpec_ok (fun l v h => ?_) (flatSpec_ok (fun l v h => ?_) orcTi_ok)
  · unfold wiL at h
    split at h
    · cases h
      exact ⟨rfl, rfl, callC_ok mixed orcTi_ok askTi_ok (Eq.mpr (c1_run _ _) rfl)⟩
    · cases h
  · unfold wiL at h
    split at h
    · cases h
      exact ⟨rfl, rfl, callC_ok mixed orcTi_ok askTi_ok (Eq.mpr (c2_run _ _) rfl)⟩
    · cases h
noncomputable def askUa : Asks := skipA 65 (skipA 115 askTi)
theorem askUa_ok : AsksOk orcUa askUa := skipA_ok (skipA_ok askTi_ok)
/-! Each. -/
noncomputable def eaE (hi : Int) (l : List Int) : Int := firstE (fun x => withinS x 0 hi) l
noncomputable abbrev eachSy : Sy := syOf [(11, 1), (12, 2), (13, 3), (18, 1)]
abbrev EachB (f : FuncId) (hi : Int) : Prop := ∀ (c : List Value) (e row n k j : Nat) (g : Nat → Value) (Q : Exit → List Value → AHeap → Prop),
    execC Tryz.prog (exec Tryz.prog orcUa 10) eachSy askUa (noLoops _) 40 (loopOf Tryz.prog 64 0) (stOf 21 [(1, clF f), (4, gi 0), (8, liP n k), (9, goN n), (10, goN j)] g) (liH c e row) (told 21 [1, 4, 8, 9, 10] Q) =
    ((Nat.blt j n = true → Nat.blt j n = true ∧ c[0 + j * 1]? = some (gi (intAt c (0 + j * 1))) ∧
      ((!ieq (withinS (intAt c (0 + j * 1)) 0 hi) 0) = true → Q .ret [clF f, gi (withinS (intAt c (0 + j * 1)) 0 hi), liP n k, goN n, goN j] (liH c e row)) ∧
      ((!ieq (withinS (intAt c (0 + j * 1)) 0 hi) 0) = false → Q .normal [clF f, gi 0, liP n k, goN n, .int .i64 (fwrap .i64 (Int.ofNat (j + 1)))] (liH c e row))) ∧
     (Nat.blt j n = false → Q (.exit 0) [clF f, gi 0, liP n k, goN n, goN j] (liH c e row)))
theorem each_b1 : EachB 65 100000 := fun c e row n k j g Q => by kernel_rfl
theorem each_b2 : EachB 115 100000000 := fun c e row n k j g Q => by kernel_rfl
set_option maxRecDepth 100000 in
theorem each_loop {f : FuncId} {hi : Int} (hb : EachB f hi) (l : List Int) (e row k : Nat) (hl : l.length ≤ 65536) : ∀ a : AAct, a.n = 21 → a.marks = [] → [1, 4, 8, 9, 10].map a.tmp = [clF f, gi 0, liP l.length k, goN l.length, goN 0] →
    J Tryz.prog (.loop (loopOf Tryz.prog 64 0)) a (liH (l.map gi) e row) (told 21 [1, 4, 8, 9, 10] fun ex vs h => h = liH (l.map gi) e row ∧ ((ex = .exit 0 ∧ eaE hi l = 0) ∨ (ex = .ret ∧ ∃ r, vs = clF f :: gi (eaE hi l) :: r))) := by
  refine scan_rule _ (fun j => [clF f, gi 0, liP l.length k, goN l.length, goN j]) (fun j => eaE hi l = firstE (fun x => withinS x 0 hi) (l.drop j)) l.length rfl _ ?_ ?_
  · intro j hj hI g
    refine execC_ok mixed orcUa_ok askUa_ok (noLoops _) (Eq.mpr (hb _ e row _ k j g _) ⟨fun hlt => ?_, fun hge => absurd (blt_false hge) (by omega)⟩)
    obtain ⟨h1, h2⟩ := first_at hj
    refine ⟨hlt, h1, fun h3 => ⟨rfl, .inr ⟨rfl, [liP l.length k, goN l.length, goN j], ?_⟩⟩, fun h3 => ⟨?_, ?_, rfl⟩⟩
    · rw [h2] at h3 ⊢
      rw [hI, firstE_drop hj, not_ieqT h3]; rfl
    · rw [h2] at h3
      rw [hI, firstE_drop hj, not_ieqF h3]; rfl
    · rw [fwrap_nat (by omega)]; try rfl
  · intro hI g
    exact execC_ok mixed orcUa_ok askUa_ok (noLoops _) (Eq.mpr (hb _ e row _ k _ g _) ⟨fun hlt => absurd (blt_true hlt) (by omega), fun _ => ⟨rfl, .inl ⟨rfl, by rw [hI, firstE_end (Nat.le_refl _)]⟩⟩⟩)
noncomputable def eachLoops {f : FuncId} {hi : Int} (hb : EachB f hi) (l : List Int) (n e row k : Nat) : Loops Tryz.prog where
  body := fun _ => loopOf Tryz.prog 64 0
  spec := fun _ a h c => entry a 21 [(1, clF f), (4, gi 0), (8, liP n k), (9, goN n), (10, goN 0)] (h = liH (l.map gi) e row ∧ (l.length = n ∧ n ≤ 65536) ∧ (eaE hi l = 0 → ∀ g, c (.exit 0) (stOf 21 [] g) (liH (l.map gi) e row)) ∧ ∀ g, c .ret (stOf 21 [(4, gi (eaE hi l))] g) (liH (l.map gi) e row))
  ok := fun i a h c q => by
    obtain ⟨h1, h2, h3, rfl, ⟨rfl, hs⟩, h4, h5⟩ := entry_facts q
    refine J.of_told (each_loop hb l e row k hs a h1 h2 ?_) ?_
    · simp only [List.map_cons, List.map_nil]
      rw [h3 (1, clF f) (by simp), h3 (4, gi 0) (by simp), h3 (8, liP l.length k) (by simp), h3 (9, goN l.length) (by simp), h3 (10, goN 0) (by simp)]
    · rintro ex vs h' g ⟨rfl, ⟨rfl, ha⟩ | ⟨rfl, r, rfl⟩⟩
      · exact h4 ha (ov ([1, 4, 8, 9, 10].zip vs) g)
      · match r with
        | [] => exact h5 (ov [(1, clF f)] g)
        | [a] => exact h5 (ov [(1, clF f), (8, a)] g)
        | [a, b] => exact h5 (ov [(1, clF f), (8, a), (9, b)] g)
        | a :: b :: c :: r => exact h5 (ov [(1, clF f), (8, a), (9, b), (10, c)] g)
abbrev EachR (f : FuncId) (hi : Int) (hb : EachB f hi) : Prop := ∀ (l : List Int) (m e row k : Nat) (K : Value → Prop), callC Tryz.prog (exec Tryz.prog orcUa 10) (syOf []) askUa (eachLoops hb l (m + 1) e row k) 40 64 #[liP (m + 1) k, clF f] (liH (l.map gi) e row) (fun v _ => K v) =
  (loopOf Tryz.prog 64 0 = loopOf Tryz.prog 64 0 ∧ clF f = clF f ∧ gi 0 = gi 0 ∧ liP (m + 1) k = liP (m + 1) k ∧ goN (m + 1) = goN (m + 1) ∧ gi 0 = goN 0 ∧ liH (l.map gi) e row = liH (l.map gi) e row ∧ (l.length = m + 1 ∧ m + 1 ≤ 65536) ∧
    (eaE hi l = 0 → ∀ _ : Nat → Value, K (gi 0)) ∧ ∀ _ : Nat → Value, K (gi (eaE hi l)))
theorem each_r1 : EachR 65 100000 each_b1 := fun l m e row k K => by kernel_rfl
theorem each_r2 : EachR 115 100000000 each_b2 := fun l m e row k K => by kernel_rfl
/-! The reference's ranges. -/
noncomputable def raE (lo hi : Int) (l : List Int) : Int := firstE (fun x => withinS x lo hi) l
theorem rang_body (c : List Value) (e row n k j : Nat) (lo hi : Int) (g : Nat → Value) (Q : Exit → List Value → AHeap → Prop) :
    execC Tryz.prog (exec Tryz.prog orcUa 10) (syOf [(12, 1), (17, 2), (18, 3), (23, 1)]) askUa (noLoops _) 40 (loopOf Tryz.prog 59 0) (stOf 25 [(0, liP n k), (1, gi lo), (2, gi hi), (6, gi 0), (7, goN j)] g) (liH c e row) (told 25 [0, 1, 2, 6, 7] Q) =
    ((Nat.blt j n = true → Nat.blt j n = true ∧ c[0 + j * 1]? = some (gi (intAt c (0 + j * 1))) ∧
      ((!ieq (withinS (intAt c (0 + j * 1)) lo hi) 0) = true → Q .ret [liP n k, gi lo, gi hi, gi (withinS (intAt c (0 + j * 1)) lo hi), goN j] (liH c e row)) ∧
      ((!ieq (withinS (intAt c (0 + j * 1)) lo hi) 0) = false → Q .normal [liP n k, gi lo, gi hi, gi 0, .int .i64 (fwrap .i64 (Int.ofNat (j + 1)))] (liH c e row))) ∧
     (Nat.blt j n = false → Q (.exit 0) [liP n k, gi lo, gi hi, gi 0, goN j] (liH c e row))) := by kernel_rfl
set_option maxRecDepth 100000 in
theorem rang_loop (l : List Int) (e row k : Nat) (lo hi : Int) (hl : l.length ≤ 65536) : ∀ a : AAct, a.n = 25 → a.marks = [] → [0, 1, 2, 6, 7].map a.tmp = [liP l.length k, gi lo, gi hi, gi 0, goN 0] →
    J Tryz.prog (.loop (loopOf Tryz.prog 59 0)) a (liH (l.map gi) e row) (told 25 [0, 1, 2, 6, 7] fun ex vs h => h = liH (l.map gi) e row ∧ ((ex = .exit 0 ∧ raE lo hi l = 0) ∨ (ex = .ret ∧ ∃ j, vs = [liP l.length k, gi lo, gi hi, gi (raE lo hi l), goN j]))) := by
  refine scan_rule _ (fun j => [liP l.length k, gi lo, gi hi, gi 0, goN j]) (fun j => raE lo hi l = firstE (fun x => withinS x lo hi) (l.drop j)) l.length rfl _ ?_ ?_
  · intro j hj hI g
    refine execC_ok mixed orcUa_ok askUa_ok (noLoops _) (Eq.mpr (rang_body _ e row _ k j lo hi g _) ⟨fun hlt => ?_, fun hge => absurd (blt_false hge) (by omega)⟩)
    obtain ⟨h1, h2⟩ := first_at hj
    refine ⟨hlt, h1, fun h3 => ⟨rfl, .inr ⟨rfl, j, ?_⟩⟩, fun h3 => ⟨?_, ?_, rfl⟩⟩
    · rw [h2] at h3 ⊢
      rw [hI, firstE_drop hj, not_ieqT h3]; rfl
    · rw [h2] at h3
      rw [hI, firstE_drop hj, not_ieqF h3]; rfl
    · rw [fwrap_nat (by omega)]; try rfl
  · intro hI g
    exact execC_ok mixed orcUa_ok askUa_ok (noLoops _) (Eq.mpr (rang_body _ e row _ k _ lo hi g _) ⟨fun hlt => absurd (blt_true hlt) (by omega), fun _ => ⟨rfl, .inl ⟨rfl, by rw [hI, firstE_end (Nat.le_refl _)]⟩⟩⟩)
noncomputable def rangLoops (l : List Int) (n e row k : Nat) (lo hi : Int) : Loops Tryz.prog where
  body := fun _ => loopOf Tryz.prog 59 0
  spec := fun _ a h c => entry a 25 [(0, liP n k), (1, gi lo), (2, gi hi), (6, gi 0), (7, goN 0)] (h = liH (l.map gi) e row ∧ (l.length = n ∧ n ≤ 65536) ∧ (raE lo hi l = 0 → ∀ g, c (.exit 0) (stOf 25 [] g) (liH (l.map gi) e row)) ∧ ∀ g, c .ret (stOf 25 [(6, gi (raE lo hi l))] g) (liH (l.map gi) e row))
  ok := fun i a h c q => by
    obtain ⟨h1, h2, h3, rfl, ⟨rfl, hs⟩, h4, h5⟩ := entry_facts q
    refine J.of_told (rang_loop l e row k lo hi hs a h1 h2 ?_) ?_
    · simp only [List.map_cons, List.map_nil]
      rw [h3 (0, liP l.length k) (by simp), h3 (1, gi lo) (by simp), h3 (2, gi hi) (by simp), h3 (6, gi 0) (by simp), h3 (7, goN 0) (by simp)]
    · rintro ex vs h' g ⟨rfl, ⟨rfl, ha⟩ | ⟨rfl, j, rfl⟩⟩
      · exact h4 ha (ov ([0, 1, 2, 6, 7].zip vs) g)
      · exact h5 (ov [(0, liP l.length k), (1, gi lo), (2, gi hi), (7, goN j)] g)
theorem rang_run (l : List Int) (m e row k : Nat) (lo hi : Int) (K : Value → Prop) : callC Tryz.prog (exec Tryz.prog orcUa 10) (syOf []) askUa (rangLoops l (m + 1) e row k lo hi) 40 59 #[liP (m + 1) k, gi lo, gi hi] (liH (l.map gi) e row) (fun v _ => K v) =
  (loopOf Tryz.prog 59 0 = loopOf Tryz.prog 59 0 ∧ liP (m + 1) k = liP (m + 1) k ∧ gi lo = gi lo ∧ gi hi = gi hi ∧ gi 0 = gi 0 ∧ gi 0 = goN 0 ∧ liH (l.map gi) e row = liH (l.map gi) e row ∧ (l.length = m + 1 ∧ m + 1 ≤ 65536) ∧
    (raE lo hi l = 0 → ∀ _ : Nat → Value, K (gi 0)) ∧ ∀ _ : Nat → Value, K (gi (raE lo hi l))) := by kernel_rfl
end Go.Proofs.YtfkiiacbchbgdaaGreatDoor
/-! (OWN WORK. Tows: lists' errors as known calls; the errors of a tow.) -/
namespace Go.Proofs.YtfkiiacbchbgdaaGreatDoor
open Go Go.Am

noncomputable def hiOf (r : List Value) : Int := match r with
  | [.func (.func f) _ _] => bif Nat.beq f 65 then 100000 else 100000000
  | _ => 0
noncomputable def arg0 (r : List Value) : Int := match r with
  | v :: _ => intOf v
  | _ => 0
noncomputable def arg1 (r : List Value) : Int := match r with
  | _ :: v :: _ => intOf v
  | _ => 0
noncomputable def arg2 (r : List Value) : Int := match r with
  | _ :: _ :: v :: _ => intOf v
  | _ => 0
def eaC (_ : List Int) (r : List Value) : Prop := r = [clF 65] ∨ r = [clF 115]
noncomputable abbrev eaO (_ : Nat) (l : List Int) (r : List Value) : Out := .plain (gi (eaE (hiOf r) l))
def raC (_ : List Int) (r : List Value) : Prop := r = [gi (arg0 r), gi (arg1 r)]
noncomputable abbrev raO (_ : Nat) (l : List Int) (r : List Value) : Out := .plain (gi (raE (arg0 r) (arg1 r) l))
noncomputable def orcUb : Orc := orElse 59 (slO raC raO) (orElse 64 (slO eaC eaO) orcUa)
set_option maxRecDepth 100000 in
theorem orcUb_ok : OrcOk Tryz.prog orcUb := by
  refine slO_ok (slO_ok orcUa_ok (fun _ _ _ _ => rfl) ?_) (fun _ _ _ _ => rfl) ?_
  · rintro l m k e row r hl h1 (rfl | rfl)
    · exact callC_ok mixed orcUa_ok askUa_ok (Eq.mpr (each_r1 l m e row k _) ⟨rfl, rfl, rfl, rfl, rfl, rfl, rfl, ⟨hl, h1⟩, fun h _ => by show gi 0 = gi (eaE 100000 l); rw [h], fun _ => rfl⟩)
    · exact callC_ok mixed orcUa_ok askUa_ok (Eq.mpr (each_r2 l m e row k _) ⟨rfl, rfl, rfl, rfl, rfl, rfl, rfl, ⟨hl, h1⟩, fun h _ => by show gi 0 = gi (eaE 100000000 l); rw [h], fun _ => rfl⟩)
  · intro l m k e row r hl h1 hr
    unfold raC at hr
    rw [hr]
    exact callC_ok mixed orcUa_ok askUa_ok (Eq.mpr (rang_run l m e row k (arg0 r) (arg1 r) _) ⟨rfl, rfl, rfl, rfl, rfl, rfl, rfl, ⟨hl, h1⟩, fun h _ => by show gi 0 = gi (raE (arg0 r) (arg1 r) l); rw [h], fun _ => rfl⟩)
noncomputable def askUb : Asks := asksV Tryz.prog.globals.size 59 (slY raC raO) (asksV Tryz.prog.globals.size 64 (slY eaC eaO) askUa)
theorem askUb_ok : AsksOk orcUb askUb := asksV_ok (slY_ok fun _ _ _ h => ⟨h, rfl⟩) (asksV_ok (slY_ok fun _ _ _ h => ⟨h, rfl⟩) askUa_ok)
theorem ct_run (l : List Int) (m e row k : Nat) (a b c d w : Int) (K : Value → Prop) : callC Tryz.prog (exec Tryz.prog orcUb 10) (syOf [(9, 7)]) askUb (noLoops _) 20 22 #[towV (m + 1) k a b c d w] (canon Tryz.prog [(l.map gi, e, row)]) (fun v _ => K v) = ((goN (m + 1) = goN (m + 1) ∧ [liP (m + 1) k, gi a, gi b, gi c, gi d, gi w][0]? = Option.some (liP (m + 1) k) ∧ [liP (m + 1) k, gi a, gi b, gi c, gi d, gi w][5]? = Option.some (gi w) ∧ Value.agg #[gi c, gi d] = Value.agg #[gi c, gi d] ∧ Value.agg #[gi a, gi b] = Value.agg #[gi a, gi b] ∧ [liP (m + 1) k, gi a, gi b, gi c, gi d, gi w][0]? = Option.some (liP (m + 1) k) ∧ (List.all (List.map gi l) (flat 3) = true ∧ True) ∧ towOk (List.map gi l) (m + 1) ∧ eaC (decI (List.map gi l)) [Value.func (.func 65) #[] #[]] ∧ goN (m + 1) = goN (m + 1) ∧ [liP (m + 1) k, gi a, gi b, gi c, gi d, gi w][0]? = Option.some (liP (m + 1) k) ∧ [liP (m + 1) k, gi a, gi b, gi c, gi d, gi w][5]? = Option.some (gi w) ∧ Value.agg #[gi c, gi d] = Value.agg #[gi c, gi d] ∧ Value.agg #[gi a, gi b] = Value.agg #[gi a, gi b] ∧ goN (m + 1) = goN (m + 1) ∧ [liP (m + 1) k, gi a, gi b, gi c, gi d, gi w][0]? = Option.some (liP (m + 1) k) ∧ [liP (m + 1) k, gi a, gi b, gi c, gi d, gi w][5]? = Option.some (gi w) ∧ Value.agg #[gi c, gi d] = Value.agg #[gi c, gi d] ∧ goN (m + 1) = goN (m + 1) ∧ [liP (m + 1) k, gi a, gi b, gi c, gi d, gi w][0]? = Option.some (liP (m + 1) k) ∧ [liP (m + 1) k, gi a, gi b, gi c, gi d, gi w][5]? = Option.some (gi w) ∧ K (gi (firstS [firstS [whenS (ieq (Int.ofNat (m + 1)) 0) 12, whenS (ilt 64 (Int.ofNat (m + 1))) 5], eaE (hiOf [Value.func (.func 65) #[] #[]]) (decI (List.map gi l)), itE a b 0 100000, itE c d 0 100000, withinS w 1 (Int.ofNat (m + 1))])))) := by kernel_rfl
theorem rt_run (l : List Int) (m e row k : Nat) (a b c d w : Int) (K : Value → Prop) : callC Tryz.prog (exec Tryz.prog orcUb 10) (syOf [(15, 7)]) askUb (noLoops _) 20 13 #[towV (m + 1) k a b c d w] (canon Tryz.prog [(l.map gi, e, row)]) (fun v _ => K v) = ((goN (m + 1) = goN (m + 1) ∧ [liP (m + 1) k, gi a, gi b, gi c, gi d, gi w][0]? = Option.some (liP (m + 1) k) ∧ [liP (m + 1) k, gi a, gi b, gi c, gi d, gi w][5]? = Option.some (gi w) ∧ Value.agg #[gi c, gi d] = Value.agg #[gi c, gi d] ∧ Value.agg #[gi a, gi b] = Value.agg #[gi a, gi b] ∧ [liP (m + 1) k, gi a, gi b, gi c, gi d, gi w][0]? = Option.some (liP (m + 1) k) ∧ goN (m + 1) = goN (m + 1) ∧ [liP (m + 1) k, gi a, gi b, gi c, gi d, gi w][0]? = Option.some (liP (m + 1) k) ∧ goN (m + 1) = goN (m + 1) ∧ [liP (m + 1) k, gi a, gi b, gi c, gi d, gi w][0]? = Option.some (liP (m + 1) k) ∧ [liP (m + 1) k, gi a, gi b, gi c, gi d, gi w][5]? = Option.some (gi w) ∧ Value.agg #[gi c, gi d] = Value.agg #[gi c, gi d] ∧ Value.agg #[gi a, gi b] = Value.agg #[gi a, gi b] ∧ [liP (m + 1) k, gi a, gi b, gi c, gi d, gi w][0]? = Option.some (liP (m + 1) k) ∧ (List.all (List.map gi l) (flat 3) = true ∧ True) ∧ towOk (List.map gi l) (m + 1) ∧ raC (decI (List.map gi l)) [gi 0, gi 100000] ∧ goN (m + 1) = goN (m + 1) ∧ [liP (m + 1) k, gi a, gi b, gi c, gi d, gi w][0]? = Option.some (liP (m + 1) k) ∧ [liP (m + 1) k, gi a, gi b, gi c, gi d, gi w][5]? = Option.some (gi w) ∧ Value.agg #[gi c, gi d] = Value.agg #[gi c, gi d] ∧ Value.agg #[gi a, gi b] = Value.agg #[gi a, gi b] ∧ goN (m + 1) = goN (m + 1) ∧ [liP (m + 1) k, gi a, gi b, gi c, gi d, gi w][0]? = Option.some (liP (m + 1) k) ∧ [liP (m + 1) k, gi a, gi b, gi c, gi d, gi w][5]? = Option.some (gi w) ∧ Value.agg #[gi c, gi d] = Value.agg #[gi c, gi d] ∧ goN (m + 1) = goN (m + 1) ∧ [liP (m + 1) k, gi a, gi b, gi c, gi d, gi w][0]? = Option.some (liP (m + 1) k) ∧ [liP (m + 1) k, gi a, gi b, gi c, gi d, gi w][5]? = Option.some (gi w) ∧ K (gi (firstS [whenS (ieq (Int.ofNat (m + 1)) 0) 12, whenS (ilt 64 (Int.ofNat (m + 1))) 5, raE (arg0 [gi 0, gi 100000]) (arg1 [gi 0, gi 100000]) (decI (List.map gi l)), itE a b 0 100000, itE c d 0 100000, withinS w 1 (Int.ofNat (m + 1))])))) := by kernel_rfl
theorem cc_run (n k e row : Nat) (l : List Int) (a b c d w x : Int) (K : Value → Prop) : callC Tryz.prog (exec Tryz.prog orcUb 10) (syOf [(7, 1)]) askUb (noLoops _) 20 55 #[towV n k a b c d w, gi x] (canon Tryz.prog [(l.map gi, e, row)]) (fun v _ => K v) = (((ilt x 0 = true → K (gi 10)) ∧ (ilt x 0 = false → K (gi (whenS (ilt w x) 10))))) := by kernel_rfl
theorem rc_run (n k e row : Nat) (l : List Int) (a b c d w x : Int) (K : Value → Prop) : callC Tryz.prog (exec Tryz.prog orcUb 10) (syOf [(7, 1)]) askUb (noLoops _) 20 15 #[towV n k a b c d w, gi x] (canon Tryz.prog [(l.map gi, e, row)]) (fun v _ => K v) = (((ilt x 0 = true → K (gi 10)) ∧ (ilt x 0 = false → K (gi (whenS (ilt w x) 10))))) := by kernel_rfl
theorem in_run (a b x : Int) (K : Value → Prop) : callC Tryz.prog (exec Tryz.prog orcUb 10) (syOf [(9, 1)]) askUb (noLoops _) 20 14 #[gi x, .agg #[gi a, gi b]] (emp Tryz.prog) (fun v _ => K v) = (((ilt x a = true → K (gi 3)) ∧ (ilt x a = false → K (gi (whenS (ilt b x) 3))))) := by kernel_rfl
end Go.Proofs.YtfkiiacbchbgdaaGreatDoor
