/-
  OWN WORK. Stage 6: the errors of a series, ratios that compare and sums by limits, as known calls.
-/
import Derived.Test.YtihnnmejkpddeaaGreatDoorJcAE
namespace Go.Proofs.YtihnnmejkpddeaaGreatDoor
open Go Go.Am

theorem firstS_one (x : Int) : firstS [x] = x := by
  show (bif ieq x 0 then 0 else x) = x
  cases h : ieq x 0 with
  | false => rfl
  | true =>
    rw [ieq_dec] at h
    exact (of_decide_eq_true h).symm
noncomputable def serE (l : List Int) : Int := firstS [cnE (Int.ofNat l.length) 128, firstE uE l]
theorem ser_no {l : List Int} {m : Nat} (hl : l.length = m + 1) (h : (!(ieq (cnE (Int.ofNat (m + 1)) 128) 0)) = true) : serE l = cnE (Int.ofNat (m + 1)) 128 := by
  unfold serE
  rw [hl]
  show (bif ieq (cnE (Int.ofNat (m + 1)) 128) 0 then _ else _) = _
  rw [not_ieqT h]; rfl
theorem ser_go {l : List Int} {m : Nat} (hl : l.length = m + 1) (h : (!(ieq (cnE (Int.ofNat (m + 1)) 128) 0)) = false) : serE l = firstE uE l := by
  unfold serE
  rw [hl]
  show (bif ieq (cnE (Int.ofNat (m + 1)) 128) 0 then firstS [firstE uE l] else _) = _
  rw [not_ieqF h, firstS_one]; rfl
def oneC {α : Type} (c : Value) (_ : List α) (r : List Value) : Prop := r = [c]
def nonC {α : Type} (_ : List α) (r : List Value) : Prop := r = []
noncomputable abbrev eacO (_ : Nat) (l : List Int) (_ : List Value) : Out := .plain (gi (firstE uE l))
noncomputable abbrev serO (_ : Nat) (l : List Int) (_ : List Value) : Out := .plain (gi (serE l))
noncomputable def qcL : List Value → Option Value
  | [.agg x, .agg y] => match x.toList, y.toList with
    | [.int .i64 a, .int .i64 b], [.int .i64 c, .int .i64 d] => some (gi (cpR (a, b) (c, d)))
    | _, _ => none
  | _ => none
/-- What is asked of a sum by limits. -/
noncomputable def sumB (x y a b : Int) : Bool := (inI64 (x * b) && (inI64 (y * a) && (inI64 (x * b + y * a) && inI64 (a * b)))) && dvB (x * b + y * a) (a * b)
noncomputable abbrev sumV (x y a b : Int) : Value := rqV (x * b + y * a) (a * b)
noncomputable def sumLL : List Value → Option (Bool × Value)
  | [.int .i64 x, .int .i64 y, .agg l] => match l.toList with
    | [.int .i64 a, .int .i64 b] => some (sumB x y a b, sumV x y a b)
    | _ => none
  | _ => none
noncomputable def orcJc : Orc := orElse 19 (s1O tiT nonC serO) (orElse 103 (s1O tiT (oneC cUn) eacO) (orElse 111 (condO sumLL) (orElse 77 (flatSpec qcL) (orElse 149 (flatSpec qcL) orcJb))))
set_option maxRecDepth 100000 in
theorem orcJc_ok : OrcOk Tryz.prog orcJc := by
  refine s1O_ok (s1O_ok (condO_ok (fun l v h => ?_) (flatSpec_ok (fun l v h => ?_) (flatSpec_ok (fun l v h => ?_) orcJb_ok))) (fun _ _ _ _ => rfl) ?_) (fun _ _ _ _ => rfl) ?_
  · unfold sumLL at h
    split at h
    · split at h
      · rename_i ha
        injection h with h
        injection h with h1 h2
        obtain rfl := agg_eq ha
        unfold sumB at h1
        simp only [Bool.and_eq_true] at h1
        obtain ⟨⟨k1, k2, k3, k4⟩, k5⟩ := h1
        subst h2
        exact ⟨rfl, rfl, callC_ok mixed orcJb_ok askJb_ok (Eq.mpr (su_run _ _ _ _ _) ⟨k1, k2, k3, k4, k5, rfl⟩)⟩
      · cases h
    · cases h
  · unfold qcL at h
    split at h
    · split at h
      · rename_i ha hb
        cases h
        obtain rfl := agg_eq ha
        obtain rfl := agg_eq hb
        exact ⟨rfl, rfl, callC_ok mixed orcJb_ok askJb_ok (Eq.mpr (rc_run _ _ _ _ _) cp_ok)⟩
      · cases h
    · cases h
  · unfold qcL at h
    split at h
    · split at h
      · rename_i ha hb
        cases h
        obtain rfl := agg_eq ha
        obtain rfl := agg_eq hb
        exact ⟨rfl, rfl, callC_ok mixed orcJb_ok askJb_ok (Eq.mpr (qc_run _ _ _ _ _) rfl)⟩
      · cases h
    · cases h
  · rintro l m k e row r hl h1 rfl
    exact callC_ok mixed orcJb_ok askJb_ok (Eq.mpr (eac_run l m e row k _) ⟨rfl, rfl, rfl, rfl, rfl, rfl, rfl, ⟨hl, h1⟩, fun h _ => by show gi 0 = gi (firstE uE l); rw [h], fun _ => rfl⟩)
  · rintro l m k e row r hl h1 rfl
    refine callC_ok mixed orcJb_ok askJb_ok (Eq.mpr (ser_run l m e row k _) ⟨fun h => ?_, fun h => ?_⟩)
    · show gi (cnE (Int.ofNat (m + 1)) 128) = gi (serE l)
      rw [ser_no hl h]
    · exact ⟨rfl, rfl, rfl, rfl, rfl, ⟨hl, h1⟩, fun h' _ => by show gi 0 = gi (serE l); rw [ser_go hl h, h'], fun _ => by show gi (firstE uE l) = gi (serE l); rw [ser_go hl h]⟩
noncomputable def askJc : Asks := asksV Tryz.prog.globals.size 19 (s1AY tiT nonC serO) (asksV Tryz.prog.globals.size 103 (s1AY tiT (oneC cUn) eacO) (asksF 111 sumLL (skipA 77 (skipA 149 askJb))))
theorem askJc_ok : AsksOk orcJc askJc := asksV_ok (s1A_ok fun _ _ _ h => ⟨h, rfl⟩) (asksV_ok (s1A_ok fun _ _ _ h => ⟨h, rfl⟩) (asksF_ok (skipA_ok (skipA_ok askJb_ok))))
theorem pse_run (l : List Int) (m e row k : Nat) (K : Value → Prop) : callC Tryz.prog (exec Tryz.prog orcJc 10) (syOf [(7, 7)]) askJc (noLoops _) 40 35 #[liP (m + 1) k] (serHm l e row) (fun v _ => K v) = (((List.all (List.map gi l) (flat 3) = true ∧ True) ∧ okT tiT (List.map gi l) (m + 1) ∧ oneC cUn (TellT.dec tiT (List.map gi l)) [Value.func (.func 96) #[] #[]] ∧ K (gi (firstS [cnE (Int.ofNat (m + 1)) 128, firstE uE (TellT.dec tiT (List.map gi l))])))) := by kernel_rfl
end Go.Proofs.YtihnnmejkpddeaaGreatDoor
