/-
  OWN WORK. The first index whose integer is great enough, by the program.
-/
import Derived.Test.YtnlkkapeldhemaaGreatDoorSuC
import Derived.Test.YtnlkkapeldhemaaGreatDoorAm9
namespace Go.Proofs.YtnlkkapeldhemaaGreatDoor
open Go Go.Am

theorem tg_body (c : List Value) (n k j e row : Nat) (lv b : Int) (g : Nat → Value) (Q : Exit → List Value → AHeap → Prop) : execC Tryz.prog (exec Tryz.prog orcZ 10) (syOf [(15, 1), (17, 2), (18, 3), (22, 1), (29, 1)]) askZ (noLoops _) 40 (loopOf Tryz.prog 96 0) (stOf 34 [(1, gi lv), (2, gi b), (8, gi 0), (9, .bool false), (12, liP n k), (13, goN n), (14, goN j)] g) (liH c e row) (told 34 [1, 2, 8, 9, 12, 13, 14] Q) = (((Nat.blt j n = true → (Nat.blt j n = true ∧ c[(0 + (j * 1))]? = Option.some (gi (intAt c (0 + (j * 1)))) ∧ (ilt (Int.ofNat j) b = true → Q .normal [gi lv, gi b, gi 0, .bool false, liP n k, goN n, gi (fwrap IntKind.i64 (Int.ofNat (j + 1)))] (liH c e row)) ∧ (ilt (Int.ofNat j) b = false → (((!(ilt (if (IntKind.wrap .i64 (0 - intAt c (0 + (j * 1))) : Int) > intAt c (0 + (j * 1)) then IntKind.wrap .i64 (0 - intAt c (0 + (j * 1))) else intAt c (0 + (j * 1))) lv)) = true → Q (.exit 0) [gi lv, gi b, goN j, .bool true, liP n k, goN n, goN j] (liH c e row)) ∧ ((!(ilt (if (IntKind.wrap .i64 (0 - intAt c (0 + (j * 1))) : Int) > intAt c (0 + (j * 1)) then IntKind.wrap .i64 (0 - intAt c (0 + (j * 1))) else intAt c (0 + (j * 1))) lv)) = false → Q .normal [gi lv, gi b, gi 0, .bool false, liP n k, goN n, gi (fwrap IntKind.i64 (Int.ofNat (j + 1)))] (liH c e row)))))) ∧ (Nat.blt j n = false → Q (.exit 0) [gi lv, gi b, gi 0, .bool false, liP n k, goN n, goN j] (liH c e row)))) := by kernel_rfl
noncomputable def absI (u : Int) : Int := if (IntKind.wrap .i64 (0 - u) : Int) > u then IntKind.wrap .i64 (0 - u) else u
/-- The first index from b on whose integer has at least the absolute value lv; the first element has the index i. -/
noncomputable def tgF (lv b : Int) : List Int → Nat → Option Nat
  | [], _ => none
  | u :: l, i => match ilt (Int.ofNat i) b with
    | true => tgF lv b l (i + 1)
    | false => match !ilt (absI u) lv with
      | true => some i
      | false => tgF lv b l (i + 1)
theorem tgF_drop {lv b : Int} {l : List Int} {j : Nat} (hj : j < l.length) : tgF lv b (l.drop j) j = match ilt (Int.ofNat j) b with
    | true => tgF lv b (l.drop (j + 1)) (j + 1)
    | false => match !ilt (absI l[j]) lv with
      | true => some j
      | false => tgF lv b (l.drop (j + 1)) (j + 1) := by
  rw [List.drop_eq_getElem_cons hj]
  rfl
theorem tgF_end {lv b : Int} {l : List Int} {j : Nat} (hj : l.length ≤ j) : tgF lv b (l.drop j) j = none := by
  rw [List.drop_eq_nil_of_le hj]
  rfl
noncomputable def tgV (o : Option Nat) : Value := .tuple #[gi (Int.ofNat (o.getD 0)), .bool o.isSome]
set_option maxRecDepth 100000 in
theorem tg_loop (l : List Int) (n e row k : Nat) (lv b : Int) (hn : n ≤ l.length) (hl : n ≤ 65536) : ∀ a : AAct, a.n = 34 → a.marks = [] → [1, 2, 8, 9, 12, 13, 14].map a.tmp = [gi lv, gi b, gi 0, .bool false, liP n k, goN n, goN 0] →
    J Tryz.prog (.loop (loopOf Tryz.prog 96 0)) a (liH (l.map gi) e row) (told 34 [1, 2, 8, 9, 12, 13, 14] fun ex vs h => ex = .exit 0 ∧ ∃ j, vs = [gi lv, gi b, gi (Int.ofNat ((tgF lv b (l.take n) 0).getD 0)), .bool (tgF lv b (l.take n) 0).isSome, liP n k, goN n, goN j]) := by
  intro a hn' hm hv
  have hlen : (l.take n).length = n := by rw [List.length_take]; omega
  refine loop_rule (fun m vs h => ∃ j, j ≤ n ∧ m = n - j ∧ vs = [gi lv, gi b, gi 0, .bool false, liP n k, goN n, goN j] ∧ h = liH (l.map gi) e row ∧ tgF lv b (l.take n) 0 = tgF lv b ((l.take n).drop j) j) _ ?_ n _ _ a ⟨0, Nat.zero_le _, rfl, rfl, rfl, rfl⟩ hn' hm hv
  rintro m vs h g ⟨j, hj, rfl, rfl, rfl, hf⟩
  refine execC_ok mixed orcZ_ok askZ_ok (noLoops _) (Eq.mpr (tg_body _ n k j e row lv b g _) ?_)
  refine ⟨fun hlt => ?_, fun hge => ?_⟩
  · have hj' := blt_true hlt
    have hjl : j < l.length := by omega
    obtain ⟨h1, h2⟩ := int_at (List.getElem?_eq_getElem hjl)
    have hjt : j < (l.take n).length := by omega
    have hd := tgF_drop (lv := lv) (b := b) hjt
    rw [List.getElem_take] at hd
    rw [h2]
    rw [fwrap_nat (by omega)]
    refine ⟨hlt, h2 ▸ h1, fun hb => ?_, fun hb => ⟨fun hc => ?_, fun hc => ?_⟩⟩
    · refine ⟨n - (j + 1), by omega, j + 1, hj', rfl, rfl, rfl, ?_⟩
      rw [hf, hd, hb]
    · refine ⟨rfl, j, ?_⟩
      have : tgF lv b (l.take n) 0 = some j := by
        rw [hf, hd, hb]
        simp only [show (!ilt (absI l[j]) lv) = true from hc]
      rw [this]
      rfl
    · refine ⟨n - (j + 1), by omega, j + 1, hj', rfl, rfl, rfl, ?_⟩
      rw [hf, hd, hb]
      simp only [show (!ilt (absI l[j]) lv) = false from hc]
  · have hge := blt_false hge
    refine ⟨rfl, j, ?_⟩
    rw [hf, tgF_end (by omega)]
    rfl
noncomputable def tgLoops (l : List Int) (n e row k : Nat) (lv b : Int) : Loops Tryz.prog where
  body := fun _ => loopOf Tryz.prog 96 0
  spec := fun _ a h c => entry a 34 [(1, gi lv), (2, gi b), (8, gi 0), (9, .bool false), (12, liP n k), (13, goN n), (14, goN 0)] (h = liH (l.map gi) e row ∧ (n ≤ l.length ∧ n ≤ 65536) ∧
    ∀ g h', c (.exit 0) (stOf 34 [(8, gi (Int.ofNat ((tgF lv b (l.take n) 0).getD 0))), (9, .bool (tgF lv b (l.take n) 0).isSome)] g) h')
  ok := fun i a h c q => by
    obtain ⟨h1, h2, h3, rfl, ⟨hs1, hs2⟩, h4⟩ := entry_facts q
    refine J.of_told (tg_loop l n e row k lv b hs1 hs2 a h1 h2 ?_) ?_
    · simp only [List.map_cons, List.map_nil]
      rw [h3 (1, gi lv) (by simp), h3 (2, gi b) (by simp), h3 (8, gi 0) (by simp), h3 (9, .bool false) (by simp), h3 (12, liP n k) (by simp), h3 (13, goN n) (by simp), h3 (14, goN 0) (by simp)]
    · rintro ex vs h' g ⟨rfl, j, rfl⟩
      refine cast ?_ (h4 (ov [(1, gi lv), (2, gi b), (12, liP n k), (13, goN n), (14, goN j)] g) h')
      congr 1
theorem tg_run (l : List Int) (n e row k : Nat) (lv b : Int) (K : Value → Prop) : callC Tryz.prog (exec Tryz.prog orcZ 10) (syOf []) askZ (tgLoops l n e row k lv b) 20 96 #[liP n k, gi lv, gi b] (liH (l.map gi) e row) (fun v _ => K v) = ((loopOf Tryz.prog 96 0 = loopOf Tryz.prog 96 0 ∧ gi lv = gi lv ∧ gi b = gi b ∧ gi 0 = gi 0 ∧ Value.bool false = Value.bool false ∧ liP n k = liP n k ∧ goN n = goN n ∧ gi 0 = goN 0 ∧ liH (List.map gi l) e row = liH (List.map gi l) e row ∧ ((n : Nat) ≤ List.length l ∧ (n : Nat) ≤ 65536) ∧ (∀ y1 : Nat → Value, (∀ y2 : AHeap, K (Value.tuple #[goN (Option.getD (tgF lv b (List.take n l) 0) 0), Value.bool (Option.isSome (tgF lv b (List.take n l) 0))]))))) := by kernel_rfl
end Go.Proofs.YtnlkkapeldhemaaGreatDoor
