/-
  OWN WORK. Tows: what is reached, the last stopping point, copies; tows without pulls.
-/
import Derived.Test.YtfkiiacbchbgdaaGreatDoorTwNO
import Derived.Test.YtfkiiacbchbgdaaGreatDoorTwK
import Derived.Test.YtfkiiacbchbgdaaGreatDoorTwL
import Derived.Test.YtfkiiacbchbgdaaGreatDoorTwM
import Derived.Test.YtfkiiacbchbgdaaGreatDoorWk4
/-! (OWN WORK. Tows: what is reached, and the last stopping point, as known calls.) -/
namespace Go.Proofs.YtfkiiacbchbgdaaGreatDoor
open Go Go.Am

theorem reI_run (l : List Int) (m e row k : Nat) (a b c d w : Int) (K : Value → Prop) : callC Tryz.prog (exec Tryz.prog orcUd 10) (syOf [(10, 7), (12, 31)]) askUd (noLoops _) 20 9 #[towV (m + 1) k a b c d w] (canon Tryz.prog [(l.map gi, e, row)]) (fun v _ => K v) = (((List.all (List.map gi l) (flat 3) = true ∧ True) ∧ towOk (List.map gi l) (m + 1) ∧ noR (decI (List.map gi l)) (Prod.mk a (Prod.mk b (Prod.mk c (Prod.mk d w)))) [] ∧ (!(ieq (ctE (List.length (decI (List.map gi l))) (decI (List.map gi l)) (Prod.mk a (Prod.mk b (Prod.mk c (Prod.mk d w))))) 0)) = true ∧ K (Value.tuple #[nilS, gi (ctE (List.length (decI (List.map gi l))) (decI (List.map gi l)) (Prod.mk a (Prod.mk b (Prod.mk c (Prod.mk d w)))))]))) := by kernel_rfl
theorem laI_run (l : List Int) (m e row k : Nat) (a b c d w : Int) (K : Value → Prop) : callC Tryz.prog (exec Tryz.prog orcUd 10) (syOf [(9, 7), (11, 31)]) askUd (noLoops _) 20 12 #[towV (m + 1) k a b c d w] (canon Tryz.prog [(l.map gi, e, row)]) (fun v _ => K v) = (((List.all (List.map gi l) (flat 3) = true ∧ True) ∧ towOk (List.map gi l) (m + 1) ∧ noR (decI (List.map gi l)) (Prod.mk a (Prod.mk b (Prod.mk c (Prod.mk d w)))) [] ∧ (!(ieq (ctE (List.length (decI (List.map gi l))) (decI (List.map gi l)) (Prod.mk a (Prod.mk b (Prod.mk c (Prod.mk d w))))) 0)) = true ∧ K (Value.tuple #[gi 0, gi (ctE (List.length (decI (List.map gi l))) (decI (List.map gi l)) (Prod.mk a (Prod.mk b (Prod.mk c (Prod.mk d w)))))]))) := by kernel_rfl
noncomputable def lastS (sf : Int → Bool) : Nat → Nat → Int → Int
  | 0, _, L => L
  | k + 1, i, L => bif sf (Int.ofNat i) then lastS sf k (i + 1) (Int.ofNat i) else L
noncomputable def laV (l : List Int) (t : T5) : Int := lastS (sfB l t) (Int.toNat t.2.2.2.2 + 1) 0 0
theorem lastS_t {sf : Int → Bool} {k i : Nat} {L : Int} (h : sf (Int.ofNat i) = true) : lastS sf (k + 1) i L = lastS sf k (i + 1) (Int.ofNat i) := by
  show (bif sf (Int.ofNat i) then lastS sf k (i + 1) (Int.ofNat i) else L) = _
  rw [h]; rfl
theorem lastS_f {sf : Int → Bool} {k i : Nat} {L : Int} (h : sf (Int.ofNat i) = false) : lastS sf (k + 1) i L = L := by
  show (bif sf (Int.ofNat i) then lastS sf k (i + 1) (Int.ofNat i) else L) = _
  rw [h]; rfl
/-! The reference's Last. -/
noncomputable abbrev rlH (l : List Int) (e row n k : Nat) (a b c d w : Int) : AHeap := (canon Tryz.prog [(l.map gi, e, row)]).push (.cells [liP n k, gi a, gi b, gi c, gi d, gi w] 26 0 false)
set_option maxRecDepth 100000 in
theorem rl_loop (l : List Int) (e row m k : Nat) (a b c d w : Int) (hl : l.length = m + 1) (h1 : m + 1 ≤ 65536) (hc : ctE l.length l (a, b, c, d, w) = 0) : ∀ ac : AAct, ac.n = 18 → ac.marks = [] → [1, 2, 3, 4].map ac.tmp = [ptN 1, gi 0, gi 0, goN 0] →
    J Tryz.prog (.loop (loopOf Tryz.prog 21 0)) ac (rlH l e row (m + 1) k a b c d w) (told 18 [1, 2, 3, 4] fun ex vs h => h = rlH l e row (m + 1) k a b c d w ∧ ((ex = .exit 0 ∧ ∃ x, vs = [ptN 1, gi 0, gi (laV l (a, b, c, d, w)), x]) ∨ (ex = .ret ∧ ∃ x y, vs = [ptN 1, gi (laV l (a, b, c, d, w)), x, y]))) := by
  obtain ⟨k1, k2, k3, k4, k5, k6⟩ := ctE_zero hc
  have hW : (Int.toNat w : Int) = w := by omega
  refine scan_rule _ (fun j => [ptN 1, gi 0, gi (Int.ofNat (j - 1)), goN j]) (fun j => laV l (a, b, c, d, w) = lastS (sfB l (a, b, c, d, w)) (Int.toNat w + 1 - j) j (Int.ofNat (j - 1))) (Int.toNat w + 1) rfl _ ?_ ?_
  · intro j hj hI g
    have hle : ilt w (Int.ofNat j) = false := by rw [ilt_say]; exact decide_eq_false (by simp only [Int.ofNat_eq_natCast]; omega)
    have hsc : rSC l (a, b, c, d, w) [goN j] := ⟨hc, rfl, by show (0 : Int) ≤ Int.ofNat j; simp only [Int.ofNat_eq_natCast]; omega, by show Int.ofNat j ≤ w; simp only [Int.ofNat_eq_natCast]; omega⟩
    have hk : Int.toNat w + 1 - j = (Int.toNat w - j) + 1 := by omega
    rw [hk] at hI
    refine execC_ok mixed orcUf_ok (askUf_ok true true) (noLoops _) (Eq.mpr (rl_body _ _ e row m k a b c d w _ j g _) ?_)
    rw [decI_map, hle]
    refine ⟨fun _ => ⟨⟨flat_ints l, trivial⟩, towOk_of hl (Nat.succ_pos m) h1, hsc, fun z => ?_, fun z => ?_⟩, fun z => (by cases z)⟩
    · rw [lastS_f (sf := sfB l (a, b, c, d, w)) (i := j) (not_f z)] at hI
      exact ⟨rfl, .inr ⟨rfl, _, _, by rw [hI]⟩⟩
    · rw [lastS_t (sf := sfB l (a, b, c, d, w)) (i := j) (not_t z)] at hI
      refine ⟨?_, by rw [fwrap_nat (by omega)]; rfl, rfl⟩
      rw [hI, show Int.toNat w + 1 - (j + 1) = Int.toNat w - j by omega]; rfl
  · intro hI g
    have hlt : ilt w (Int.ofNat (Int.toNat w + 1)) = true := by rw [ilt_say]; exact decide_eq_true (by simp only [Int.ofNat_eq_natCast]; omega)
    rw [Nat.sub_self] at hI
    refine execC_ok mixed orcUf_ok (askUf_ok true true) (noLoops _) (Eq.mpr (rl_body _ _ e row m k a b c d w _ _ g _) ?_)
    rw [hlt]
    exact ⟨fun z => (by cases z), fun _ => ⟨rfl, .inl ⟨rfl, _, by rw [hI]; rfl⟩⟩⟩
noncomputable def rlLoops (l : List Int) (e row m k : Nat) (a b c d w : Int) : Loops Tryz.prog where
  body := fun _ => loopOf Tryz.prog 21 0
  spec := fun _ ac h q => entry ac 18 [(1, ptN 1), (2, gi 0), (3, gi 0), (4, goN 0)] (h = rlH l e row (m + 1) k a b c d w ∧ (l.length = m + 1 ∧ m + 1 ≤ 65536 ∧ ctE l.length l (a, b, c, d, w) = 0) ∧ (∀ g, q (.exit 0) (stOf 18 [(3, gi (laV l (a, b, c, d, w)))] g) (rlH l e row (m + 1) k a b c d w)) ∧ ∀ g, q .ret (stOf 18 [(2, gi (laV l (a, b, c, d, w)))] g) (rlH l e row (m + 1) k a b c d w))
  ok := fun i ac h q p => by
    obtain ⟨h1, h2, h3, rfl, ⟨c1, c3, c4⟩, h4, h5⟩ := entry_facts p
    refine J.of_told (rl_loop l e row m k a b c d w c1 c3 c4 ac h1 h2 ?_) ?_
    · simp only [List.map_cons, List.map_nil]
      rw [h3 (1, ptN 1) (by simp), h3 (2, gi 0) (by simp), h3 (3, gi 0) (by simp), h3 (4, goN 0) (by simp)]
    · rintro ex vs h' g ⟨rfl, ⟨rfl, x, rfl⟩ | ⟨rfl, x, y, rfl⟩⟩
      · exact h4 (ov [(1, ptN 1), (2, gi 0), (4, x)] g)
      · exact h5 (ov [(1, ptN 1), (3, x), (4, y)] g)
theorem rl_run (l : List Int) (m e row k : Nat) (a b c d w : Int) (K : Value → Prop) : callC Tryz.prog (exec Tryz.prog orcUf 10) (syOf []) (askUf true true) (rlLoops l e row m k a b c d w) 40 21 #[towV (m + 1) k a b c d w] (canon Tryz.prog [(l.map gi, e, row)]) (fun v _ => K v) =
  (loopOf Tryz.prog 21 0 = loopOf Tryz.prog 21 0 ∧ ptN 1 = ptN 1 ∧ gi 0 = gi 0 ∧ gi 0 = gi 0 ∧ gi 0 = goN 0 ∧ rlH l e row (m + 1) k a b c d w = rlH l e row (m + 1) k a b c d w ∧ (l.length = m + 1 ∧ m + 1 ≤ 65536 ∧ ctE l.length l (a, b, c, d, w) = 0) ∧ (∀ _ : Nat → Value, K (gi (laV l (a, b, c, d, w)))) ∧ ∀ _ : Nat → Value, K (gi (laV l (a, b, c, d, w)))) := by kernel_rfl
/-! The program's. -/
theorem bnW_eq {a c w : Int} {i : Nat} (ha : 0 ≤ a) (ha' : a ≤ 100000) (hc : 0 ≤ c) (hc' : c ≤ 100000) (hi : (i : Int) ≤ w) (hw : w ≤ 64) : bnW a c w i = (w - Int.ofNat i) * (c + a) := by
  unfold bnW
  simp only [Int.ofNat_eq_natCast]
  have m1 : (w - i) * (c + a) ≤ 64 * 200000 := Int.mul_le_mul (by omega) (by omega) (by omega) (by omega)
  have m0 : 0 ≤ (w - i) * (c + a) := Int.mul_nonneg (by omega) (by omega)
  rw [fwrap_mid (x := w - i) (by omega) (by omega), fwrap_mid (x := c + a) (by omega) (by omega), fwrap_mid (x := (w - i) * (c + a)) (by omega) (by omega)]
theorem laY_ok {a c w : Int} {sf : Int → Bool} {sq : Nat → Int} {K : Int → Prop} (ha : 0 ≤ a) (ha' : a ≤ 100000) (hc : 0 ≤ c) (hc' : c ≤ 100000) (hw0 : 0 ≤ w) (hw : w ≤ 64) (hsf : ∀ j : Nat, (j : Int) ≤ w → sf (Int.ofNat j) = !(ilt ((w - Int.ofNat j) * (c + a)) (sq j))) :
    ∀ (r : List Int) (i : Nat) (L s : Int), (∀ q, q ≤ r.length → (rnL a s r)[q]? = some (sq (i + q))) → (∀ x ∈ r, 0 ≤ x ∧ x ≤ 100000) → 0 ≤ s → s + 100000 * r.length ≤ 100000000 → w ≤ i + r.length → K (lastS sf (Int.toNat w + 1 - i) i L) → laY a c w i L s r K
  | [], i, L, s, hq, _, _, _, hi, hk => by
    have hs : s = sq i := Option.some.inj (hq 0 (Nat.le_refl _))
    simp only [List.length_nil] at hi
    refine ⟨fun z => ?_, fun z => ?_⟩
    · rw [ilt_say] at z
      have z := of_decide_eq_true z
      simp only [Int.ofNat_eq_natCast] at z
      rw [show Int.toNat w + 1 - i = 0 by omega] at hk
      exact hk
    · rw [ilt_say] at z
      have z := of_decide_eq_false z
      simp only [Int.ofNat_eq_natCast] at z
      rw [show Int.toNat w + 1 - i = 0 + 1 by omega] at hk
      have h1 := hsf i (by omega)
      rw [bnW_eq ha ha' hc hc' (by omega) hw, hs]
      refine ⟨fun z => ?_, fun z => ?_⟩
      · rw [z] at h1; rw [lastS_f h1] at hk; exact hk
      · rw [z] at h1; rw [lastS_t h1] at hk; exact hk
  | x :: r, i, L, s, hq, hx, h0, hs', hi, hk => by
    have hx0 := hx x (.head _)
    have hs : s = sq i := Option.some.inj (hq 0 (Nat.zero_le _))
    have e : ((x :: r).length : Int) = (r.length : Int) + 1 := by simp
    rw [e] at hs' hi
    refine ⟨fun z => ?_, fun z => ?_⟩
    · rw [ilt_say] at z
      have z := of_decide_eq_true z
      simp only [Int.ofNat_eq_natCast] at z
      rw [show Int.toNat w + 1 - i = 0 by omega] at hk
      exact hk
    · rw [ilt_say] at z
      have z := of_decide_eq_false z
      simp only [Int.ofNat_eq_natCast] at z
      rw [show Int.toNat w + 1 - i = (Int.toNat w - i) + 1 by omega] at hk
      have h1 := hsf i (by omega)
      rw [bnW_eq ha ha' hc hc' (by omega) hw]
      refine ⟨fun z => ?_, fun z => ⟨inI64_small (by omega) (by omega), inI64_small (by omega) (by omega), ?_⟩⟩
      · rw [hs] at z; rw [z] at h1; rw [lastS_f h1] at hk; exact hk
      · rw [hs] at z; rw [z] at h1; rw [lastS_t h1] at hk
        refine laY_ok ha ha' hc hc' hw0 hw hsf r (i + 1) (Int.ofNat i) (mxN s x a) (fun q hq' => ?_) (fun y hy => hx y (.tail _ hy)) ?_ ?_ (by omega) ?_
        · have := hq (q + 1) (by simp; omega)
          rw [show i + 1 + q = i + (q + 1) by omega, ← this]; rfl
        · unfold mxN; split <;> omega
        · unfold mxN; split <;> omega
        · rw [show Int.toNat w + 1 - (i + 1) = Int.toNat w - i by omega]; exact hk
theorem sq_nth (l : List Int) (f : Int) (q : Nat) (h : q ≤ l.length) : (rnL f 0 l)[q]? = some (sqA l f (Int.ofNat q)) := by
  have hl : q < (rnL f 0 l).length := by rw [rnL_len]; omega
  obtain ⟨_, e2⟩ := first_at hl
  unfold sqA
  rw [List.getElem?_eq_getElem hl, show Int.toNat (Int.ofNat q) = q from rfl, e2]
theorem reY_ok {n : Nat} {f : Int} {K : Prop} (hf : 0 ≤ f) (hf' : f ≤ 100000) (hK : K) : ∀ {r : List Int} {i : Nat} {s : Int} {q : List Int}, (∀ x ∈ r, 0 ≤ x ∧ x ≤ 100000) → 0 ≤ s → s + 100000 * r.length ≤ 100000000 → reY n f i s q r K
  | [], _, _, [], _, _, _ => hK
  | [], _, _, _ :: _, _, _, _ => ⟨rfl, rfl, rfl, hK⟩
  | _ :: _, _, _, [], _, _, _ => hK
  | x :: r, _, s, _ :: q, hx, h0, hs => by
    have hx0 := hx x (.head _)
    have e : ((x :: r).length : Int) = (r.length : Int) + 1 := by simp
    rw [e] at hs
    refine ⟨rfl, rfl, rfl, inI64_small (by omega) (by omega), inI64_small (by omega) (by omega), reY_ok hf hf' hK (fun y hy => hx y (.tail _ hy)) ?_ ?_⟩
    · unfold mxN; split <;> omega
    · unfold mxN; split <;> omega
theorem rrY_ok {K : Prop} (hK : K) : ∀ {P Q : List Int}, rrY P Q K
  | [], _ => hK
  | _ :: _, [] => hK
  | _ :: P, _ :: Q => ⟨rfl, rfl, rrY_ok hK (P := P) (Q := Q)⟩
theorem zipR_eq : ∀ P Q : List Int, zipR P Q = zipP P Q
  | [], _ => rfl
  | _ :: _, [] => rfl
  | x :: P, y :: Q => by
    show (x, y) :: zipR P Q = (x, y) :: zipP P Q
    rw [zipR_eq P Q]
theorem zipP_len : ∀ P Q : List Int, P.length = Q.length → (zipP P Q).length = P.length
  | [], _, _ => rfl
  | _ :: _, [], h => by cases h
  | _ :: P, _ :: Q, h => by
    show (zipP P Q).length + 1 = P.length + 1
    rw [zipP_len P Q (by simpa using h)]
end Go.Proofs.YtfkiiacbchbgdaaGreatDoor
/-! (OWN WORK. Tows: what is reached, the last stopping point, and copies, as known calls.) -/
namespace Go.Proofs.YtfkiiacbchbgdaaGreatDoor
open Go Go.Am

noncomputable def towM (n : Nat) (a b c d w : Int) : Nat → Value := fun r => .agg #[.slice (some ⟨r, 0, none⟩) n n, gi a, gi b, gi c, gi d, gi w]
theorem names_tow (n : Nat) (a b c d w : Int) : Names (towM n a b c d w) where
  ren := fun r m => .agg (l := [.slice (some ⟨r, 0, none⟩) n n, gi a, gi b, gi c, gi d, gi w]) (l₂ := [.slice (some ⟨m, 0, none⟩) n n, gi a, gi b, gi c, gi d, gi w]) rfl fun i x y ha hb => by
    match i, ha, hb with
    | 0, ha, hb => cases ha; cases hb; exact .slice (by simp)
    | 1, ha, hb => cases ha; cases hb; exact .flat rfl
    | 2, ha, hb => cases ha; cases hb; exact .flat rfl
    | 3, ha, hb => cases ha; cases hb; exact .flat rfl
    | 4, ha, hb => cases ha; cases hb; exact .flat rfl
    | 5, ha, hb => cases ha; cases hb; exact .flat rfl
  born := fun r ρ c hv => by
    obtain ⟨vs, rfl, e1, e2⟩ := hv.unfold
    have hlt : 0 < vs.size := by rw [← e1]; exact Nat.succ_pos _
    exact Mentions.born (.inl ⟨0, n, n, rfl⟩) (e2 0 (.slice (some ⟨r, 0, none⟩) n n) vs[0] rfl (Array.getElem?_eq_getElem hlt))
noncomputable def agKY (K : Nat → Nat → List Value → Option AObj → Prop) (v : Value) (h : AHeap) : Prop := match v with
  | .agg arr => match arr.toList with
    | .slice (some ⟨i, 0, none⟩) n k :: r => K n k r (h.get i)
    | _ => False
  | _ => False
theorem agK_wide {mk : Nat → Value} {xs : List Value} {el n k row : Nat} {r : List Value} {v : Value} {h : AHeap} (hm : ∀ b, mk b = .agg ⟨.slice (some ⟨b, 0, none⟩) n k :: r⟩) (q : agKY (fun a b s o => a = n ∧ b = k ∧ s = r ∧ o = some (.cells xs el row false)) v h) : ∃ b, v = mk b ∧ h.get b = some (.cells xs el row false) := by
  unfold agKY at q
  split at q
  · rename_i arr
    split at q
    · rename_i i n' k' r' ha
      obtain ⟨rfl, rfl, rfl, h3⟩ := q
      exact ⟨i, by rw [hm, agg_eq ha], h3⟩
    · exact q.elim
  · exact q.elim
theorem ii_run (l : List Int) (m e row k : Nat) (K : Nat → Nat → Option AObj → Prop) : callC Tryz.prog (exec Tryz.prog orcUd 10) (syOf [(5, 16)]) askUd (noLoops _) 20 27 #[liP (m + 1) k] (canon Tryz.prog [(l.map gi, e, row)]) (skKY K) = ((Nat.ble (0 + (m + 1)) (List.length (List.map gi l)) = true ∧ Nat.ble (((2 * (m + 1)) + 256) * 8) 281474976710656 = true ∧ List.all (List.take (m + 1) (List.drop 0 (List.map gi l))) Value.oneCell' = true ∧ K (m + 1) (m + 1) (((((canon Tryz.prog [Prod.mk (List.map gi l) (Prod.mk e row)]).push (.cells [] 3 2 false)).set (nG1 + 1) (.dead)).push (.cells (List.take (m + 1) (List.drop 0 (List.map gi l))) 3 2 false)).get (nG1 + 2)))) := by kernel_rfl
noncomputable abbrev pGO' (b : Bool) (n : Nat) (l : List Int) (t : T5) (_ : List Value) : Out := bif b then .wide (tupM [] (n + 1) [gi 0]) (cellsP (zipP (rnL t.2.1 0 l) (rnL t.1 0 l))) 24 3 else .plain (.tuple #[nilS, gi (ctE l.length l t)])
noncomputable def pGO (n : Nat) (l : List Int) (t : T5) (r : List Value) : Out := pGO' (ieq (ctE l.length l t) 0) n l t r
noncomputable def laA (l : List Int) (t : T5) : Int := bif ieq (ctE l.length l t) 0 then laV l t else 0
noncomputable abbrev pLO (_ : Nat) (l : List Int) (t : T5) (_ : List Value) : Out := .plain (.tuple #[gi (laA l t), gi (ctE l.length l t)])
noncomputable abbrev rGO (n : Nat) (l : List Int) (t : T5) (_ : List Value) : Out := .wide (slM (n + 1)) (cellsP (zipP (rnL t.2.1 0 l) (rnL t.1 0 l))) 24 3
noncomputable abbrev rLO (_ : Nat) (l : List Int) (t : T5) (_ : List Value) : Out := .plain (gi (laV l t))
def niC (_ : List Int) (r : List Value) : Prop := r = []
noncomputable abbrev inO (n : Nat) (l : List Int) (_ : List Value) : Out := .wide (slM n) (l.map gi) 3 2
theorem ints_one (l : List Int) : List.all (l.map gi) Value.oneCell' = true := by
  rw [List.all_eq_true]
  intro x hx
  obtain ⟨y, _, rfl⟩ := List.mem_map.1 hx
  rfl
noncomputable def orcUg : Orc := orElse 9 (twO noR pGO) (orElse 12 (twO noR pLO) (orElse 20 (twO rTC rGO) (orElse 21 (twO rTC rLO) (orElse 27 (slO niC inO) orcUf))))
set_option maxRecDepth 100000 in
theorem orcUg_ok : OrcOk Tryz.prog orcUg := by
  refine twO_ok (twO_ok (twO_ok (twO_ok (slO_ok orcUf_ok (fun _ _ _ _ => ⟨names_sl _, flat_ints _⟩) ?_) (fun _ _ _ _ _ => rfl) ?_) (fun _ _ _ _ _ => ⟨names_sl _, cellsP_flat _⟩) ?_) (fun _ _ _ _ _ => rfl) ?_) (fun n l t r _ => ?_) ?_
  · rintro l m k e row r hl h1 rfl
    have ht : List.take (m + 1) (List.drop 0 (l.map gi)) = l.map gi := by rw [List.drop_zero, List.take_of_length_le (by rw [List.length_map]; omega)]
    refine (callC_ok mixed orcUd_ok askUd_ok (Eq.mpr (ii_run l m e row k _) ?_)).mono fun v h' q => skK_wide (mk := slM (m + 1)) (fun _ => rfl) q
    rw [ht]
    exact ⟨by rw [Nat.ble_eq, List.length_map]; omega, by rw [Nat.ble_eq]; omega, ints_one l, rfl, rfl, by kernel_rfl⟩
  · rintro l m k e row a b c d w r hl h1 ⟨hc, rfl⟩
    exact callC_ok mixed orcUf_ok (askUf_ok true true) (Eq.mpr (rl_run l m e row k a b c d w _) ⟨rfl, rfl, rfl, rfl, rfl, rfl, ⟨hl, h1, hc⟩, fun _ => rfl, fun _ => rfl⟩)
  · rintro l m k e row a b c d w r hl h1 ⟨hc, rfl⟩
    have hf := flat_ints l
    have ht := towOk_of hl (Nat.succ_pos m) h1
    obtain ⟨k1, k2, k3, k4, k5, k6⟩ := ctE_zero hc
    have ha : ruC l (a, b, c, d, w) [gi a] := ⟨hc, rfl, k3.1, by show a ≤ 100000; omega⟩
    have hb : ruC l (a, b, c, d, w) [gi b] := ⟨hc, rfl, by show 0 ≤ b; omega, by show b ≤ 100000; omega⟩
    have p := rr_n a b c d w e row k (fun j => l.getD j 0) (fun x y o => x = m + 1 + 1 ∧ y = m + 1 + 1 ∧ o = some (.cells (cellsP (zipP (rnL b 0 l) (rnL a 0 l))) 24 3 false)) (m + 1) (by omega) (by omega)
    unfold RrS fnYr at p
    have el : lsN (fun j => l.getD j 0) 0 (m + 1) = l := by rw [← hl, lsN_all]
    rw [el, decI_map] at p
    refine (CallJ.ofN mixed orcUd_ok askUd_ok (Eq.mpr p ?_)).mono fun v h' q => skK_wide (mk := slM (m + 1 + 1)) (fun _ => rfl) q
    exact ⟨⟨hf, trivial⟩, ht, hb, rfl, rfl, ⟨hf, trivial⟩, ht, ha, rrY_ok ⟨rfl, rfl, by rw [zipR_eq]⟩⟩
  · rintro l m k e row a b c d w r hl h1 rfl
    have hf := flat_ints l
    have ht := towOk_of hl (Nat.succ_pos m) h1
    show CallJ _ _ _ _ (fun v _ => v = .tuple #[gi (laA l (a, b, c, d, w)), gi (ctE l.length l (a, b, c, d, w))])
    cases hz : ieq (ctE l.length l (a, b, c, d, w)) 0 with
    | false =>
      refine callC_ok mixed orcUd_ok askUd_ok (Eq.mpr (laI_run l m e row k a b c d w _) ?_)
      rw [decI_map]
      refine ⟨⟨hf, trivial⟩, ht, rfl, by rw [hz]; rfl, ?_⟩
      unfold laA; rw [hz]; rfl
    | true =>
      have hc : ctE l.length l (a, b, c, d, w) = 0 := by rw [ieq_dec] at hz; exact of_decide_eq_true hz
      obtain ⟨k1, k2, k3, k4, k5, k6⟩ := ctE_zero hc
      have p := la_n a b c d w e row k (fun j => l.getD j 0) (fun v => v = .tuple #[gi (laA l (a, b, c, d, w)), gi (ctE l.length l (a, b, c, d, w))]) (m + 1) (by omega) (by omega)
      unfold LaS vaYl at p
      have el : lsN (fun j => l.getD j 0) 0 (m + 1) = l := by rw [← hl, lsN_all]
      rw [el, decI_map] at p
      refine CallJ.ofN mixed orcUd_ok askUd_ok (Eq.mpr p ⟨⟨hf, trivial⟩, ht, rfl, by rw [hz]; rfl, ?_⟩)
      refine laY_ok (a := a) (c := c) (w := w) (sf := sfB l (a, b, c, d, w)) (sq := fun j => sqA l a (Int.ofNat j)) k3.1 (by omega) k4.1 (by omega) (by omega) (by omega) (fun j _ => rfl) l 0 0 0 (fun q hq => by rw [Nat.zero_add]; exact sq_nth l a q hq) k2 (Int.le_refl 0) (by omega) (by omega) ?_
      unfold laA; rw [hz, hc]; rfl
  · unfold pGO
    cases ieq (ctE l.length l t) 0
    · rfl
    · exact ⟨names_tup rfl rfl, cellsP_flat _⟩
  · rintro l m k e row a b c d w r hl h1 rfl
    have hf := flat_ints l
    have ht := towOk_of hl (Nat.succ_pos m) h1
    cases hz : ieq (ctE l.length l (a, b, c, d, w)) 0 with
    | false =>
      have eo : pGO (m + 1) l (a, b, c, d, w) [] = .plain (.tuple #[nilS, gi (ctE l.length l (a, b, c, d, w))]) := by unfold pGO; rw [hz]; rfl
      rw [eo]
      refine callC_ok mixed orcUd_ok askUd_ok (Eq.mpr (reI_run l m e row k a b c d w _) ?_)
      rw [decI_map]
      exact ⟨⟨hf, trivial⟩, ht, rfl, by rw [hz]; rfl, rfl⟩
    | true =>
      have eo : pGO (m + 1) l (a, b, c, d, w) [] = .wide (tupM [] (m + 1 + 1) [gi 0]) (cellsP (zipP (rnL b 0 l) (rnL a 0 l))) 24 3 := by unfold pGO; rw [hz]; rfl
      rw [eo]
      have hc : ctE l.length l (a, b, c, d, w) = 0 := by rw [ieq_dec] at hz; exact of_decide_eq_true hz
      obtain ⟨k1, k2, k3, k4, k5, k6⟩ := ctE_zero hc
      have hb : ruC l (a, b, c, d, w) [gi b] := ⟨hc, rfl, by show 0 ≤ b; omega, by show b ≤ 100000; omega⟩
      have p := re_n a b c d w e row k (fun j => l.getD j 0) (fun x y s o => x = m + 1 + 1 ∧ y = m + 1 + 1 ∧ s = [gi 0] ∧ o = some (.cells (cellsP (zipP (rnL b 0 l) (rnL a 0 l))) 24 3 false)) (m + 1) (by omega) (by omega)
      unfold ReS vaY fnY at p
      have el : lsN (fun j => l.getD j 0) 0 (m + 1) = l := by rw [← hl, lsN_all]
      rw [el, decI_map] at p
      refine (CallJ.ofN mixed orcUd_ok askUd_ok (Eq.mpr p ?_)).mono fun v h' q => tpK_wide (mk := tupM [] (m + 1 + 1) [gi 0]) (fun _ => rfl) q
      exact ⟨⟨hf, trivial⟩, ht, rfl, by rw [hz]; rfl, ⟨hf, trivial⟩, ht, hb, reY_ok k3.1 (by omega) ⟨rfl, rfl, rfl, rfl⟩ k2 (Int.le_refl 0) (by omega)⟩
noncomputable def askUg (b b' b2 : Bool) : Asks := asksV Tryz.prog.globals.size 9 (twY (fun l t r => noR l t r ∧ ieq (ctE l.length l t) 0 = b2) (pGO' b2)) (asksV Tryz.prog.globals.size 12 (twY noR pLO) (asksV Tryz.prog.globals.size 20 (twY rTC rGO) (asksV Tryz.prog.globals.size 21 (twY rTC rLO) (asksV Tryz.prog.globals.size 27 (slY niC inO) (askUf b b')))))
theorem askUg_ok (b b' b2 : Bool) : AsksOk orcUg (askUg b b' b2) := asksV_ok (twY_ok fun _ _ _ _ h => ⟨h.1, by unfold pGO; rw [h.2]⟩) (asksV_ok (twY_ok fun _ _ _ _ h => ⟨h, rfl⟩) (asksV_ok (twY_ok fun _ _ _ _ h => ⟨h, rfl⟩) (asksV_ok (twY_ok fun _ _ _ _ h => ⟨h, rfl⟩) (asksV_ok (slY_ok fun _ _ _ h => ⟨h, rfl⟩) (askUf_ok b b')))))
theorem gv_run (l : List Int) (m e row k : Nat) (a b c d w : Int) (K : Nat → Nat → List Value → Option AObj → Prop) : callC Tryz.prog (exec Tryz.prog orcUg 10) (syOf [(5, 7)]) (askUg true true true) (noLoops _) 20 8 #[towV (m + 1) k a b c d w] (canon Tryz.prog [(l.map gi, e, row)]) (agKY K) = (((List.all (List.map gi l) (flat 3) = true ∧ True) ∧ towOk (List.map gi l) (m + 1) ∧ niC (decI (List.map gi l)) [] ∧ [liP (m + 1) k, gi a, gi b, gi c, gi d, gi w][5]? = Option.some (gi w) ∧ Value.agg #[gi c, gi d] = Value.agg #[gi c, gi d] ∧ Value.agg #[gi a, gi b] = Value.agg #[gi a, gi b] ∧ K (m + 1) (m + 1) [gi a, gi b, gi c, gi d, gi w] ((((((canon Tryz.prog [Prod.mk (List.map gi l) (Prod.mk e row)]).push (.cells [liP (m + 1) k, gi a, gi b, gi c, gi d, gi w] 26 0 false)).push (.cells [nilS, gi 0, gi 0, gi 0, gi 0, gi 0] 32 0 false)).push (.cells (List.map gi (decI (List.map gi l))) 3 2 false)).set (nG1 + 2) (.cells ([] ++ ([Value.slice (some ⟨nG1 + 3, 0, none⟩) (m + 1) (m + 1), gi a, gi b, gi c, gi d, gi w] ++ [])) 32 0 false)).get (nG1 + 3)))) := by kernel_rfl
noncomputable abbrev gvO (n : Nat) (l : List Int) (t : T5) (_ : List Value) : Out := .wide (towM n t.1 t.2.1 t.2.2.1 t.2.2.2.1 t.2.2.2.2) (l.map gi) 3 2
noncomputable def orcUh : Orc := orElse 8 (twO noR gvO) orcUg
set_option maxRecDepth 100000 in
theorem orcUh_ok : OrcOk Tryz.prog orcUh := by
  refine twO_ok orcUg_ok (fun _ _ _ _ _ => ⟨names_tow _ _ _ _ _ _, flat_ints _⟩) ?_
  rintro l m k e row a b c d w r hl h1 rfl
  refine (callC_ok mixed orcUg_ok (askUg_ok true true true) (Eq.mpr (gv_run l m e row k a b c d w _) ?_)).mono fun v h' q => agK_wide (mk := towM (m + 1) a b c d w) (fun _ => rfl) q
  rw [decI_map]
  exact ⟨⟨flat_ints l, trivial⟩, towOk_of hl (Nat.succ_pos m) h1, rfl, rfl, rfl, rfl, rfl, rfl, rfl, by kernel_rfl⟩
noncomputable def askUh (b b' b2 : Bool) : Asks := asksV Tryz.prog.globals.size 8 (twY noR gvO) (askUg b b' b2)
theorem askUh_ok (b b' b2 : Bool) : AsksOk orcUh (askUh b b' b2) := asksV_ok (twY_ok fun _ _ _ _ h => ⟨h, rfl⟩) (askUg_ok b b' b2)
end Go.Proofs.YtfkiiacbchbgdaaGreatDoor
/-! (OWN WORK. Tows without pulls.) -/
namespace Go.Proofs.YtfkiiacbchbgdaaGreatDoor
open Go Go.Am

noncomputable abbrev emV (v : Value) (a b c d w : Int) : Value := .agg #[v, gi a, gi b, gi c, gi d, gi w]
noncomputable abbrev emS (k : Nat) : Value := .slice (some ⟨0, 0, none⟩) 0 k
noncomputable def isEm (v : Value) : Bool := match v with
  | .slice none 0 0 => true
  | .slice (some ⟨0, 0, none⟩) 0 _ => true
  | _ => false
noncomputable def emX (out : T5 → List Value → Option Out) (vs : List Value) (B : List Cells) : Option Out := match B with
  | [] => match vs with
    | .agg arr :: r => match arr.toList with
      | [v, .int .i64 a, .int .i64 b, .int .i64 c, .int .i64 d, .int .i64 w] => match isEm v with
        | true => out (a, b, c, d, w) r
        | false => none
      | _ => none
    | _ => none
  | _ => none
theorem emX_some {out : T5 → List Value → Option Out} {vs : List Value} {B : List Cells} {o : Out} (h : emX out vs B = some o) : ∃ (v : Value) (a b c d w : Int) (r : List Value), (v = nilS ∨ ∃ k, v = emS k) ∧ vs = emV v a b c d w :: r ∧ B = [] ∧ out (a, b, c, d, w) r = some o := by
  unfold emX at h
  split at h
  · split at h
    · split at h
      · rename_i v a b c d w ha
        split at h
        · rename_i hv
          refine ⟨v, a, b, c, d, w, _, ?_, by rw [agg_eq ha], rfl, h⟩
          unfold isEm at hv
          split at hv
          · exact .inl rfl
          · exact .inr ⟨_, rfl⟩
          · cases hv
        · cases h
      · cases h
    · cases h
  · cases h
theorem emO_ok {f : FuncId} {out : T5 → List Value → Option Out} {orc : Orc} (ho : OrcOk Tryz.prog orc)
    (hk : ∀ (v : Value) (a b c d w : Int) (r : List Value) (o : Out), (v = nilS ∨ ∃ k, v = emS k) → out (a, b, c, d, w) r = some o → o.Ok ∧ CallJ Tryz.prog f (emV v a b c d w :: r).toArray (canon Tryz.prog []) o.Got) : OrcOk Tryz.prog (orElse f (anyO Tryz.prog.globals.size (emX out)) orc) := by
  refine anyO_ok globs_pos ho fun vs B o h _ => ?_
  obtain ⟨v, a, b, c, d, w, r, hv, rfl, rfl, h'⟩ := emX_some h
  exact hk v a b c d w r o hv h'
theorem eC_n (a b c d w x : Int) (K : Value → Prop) : callC Tryz.prog (exec Tryz.prog orcUb 20) (syOf [(7, 1)]) askUb (noLoops _) 30 55 #[emV nilS a b c d w, gi x] (canon Tryz.prog []) (fun v _ => K v) = (((ilt x 0 = true → K (gi 10)) ∧ (ilt x 0 = false → K (gi (whenS (ilt w x) 10))))) := by kernel_rfl
theorem eC_e (k : Nat) (a b c d w x : Int) (K : Value → Prop) : callC Tryz.prog (exec Tryz.prog orcUb 20) (syOf [(7, 1)]) askUb (noLoops _) 30 55 #[emV (emS k) a b c d w, gi x] (canon Tryz.prog []) (fun v _ => K v) = (((ilt x 0 = true → K (gi 10)) ∧ (ilt x 0 = false → K (gi (whenS (ilt w x) 10))))) := by kernel_rfl
theorem eT_n (a b c d w : Int) (K : Value → Prop) : callC Tryz.prog (exec Tryz.prog orcUb 20) (syOf []) askUb (noLoops _) 30 22 #[emV nilS a b c d w] (canon Tryz.prog []) (fun v _ => K v) = ((gi 0 = gi 0 ∧ [nilS, gi a, gi b, gi c, gi d, gi w][0]? = Option.some nilS ∧ [nilS, gi a, gi b, gi c, gi d, gi w][5]? = Option.some (gi w) ∧ Value.agg #[gi c, gi d] = Value.agg #[gi c, gi d] ∧ Value.agg #[gi a, gi b] = Value.agg #[gi a, gi b] ∧ [nilS, gi a, gi b, gi c, gi d, gi w][0]? = Option.some nilS ∧ gi 0 = gi 0 ∧ [nilS, gi a, gi b, gi c, gi d, gi w][0]? = Option.some nilS ∧ [nilS, gi a, gi b, gi c, gi d, gi w][5]? = Option.some (gi w) ∧ Value.agg #[gi c, gi d] = Value.agg #[gi c, gi d] ∧ Value.agg #[gi a, gi b] = Value.agg #[gi a, gi b] ∧ gi 0 = gi 0 ∧ [nilS, gi a, gi b, gi c, gi d, gi w][0]? = Option.some nilS ∧ [nilS, gi a, gi b, gi c, gi d, gi w][5]? = Option.some (gi w) ∧ Value.agg #[gi c, gi d] = Value.agg #[gi c, gi d] ∧ gi 0 = gi 0 ∧ [nilS, gi a, gi b, gi c, gi d, gi w][0]? = Option.some nilS ∧ [nilS, gi a, gi b, gi c, gi d, gi w][5]? = Option.some (gi w) ∧ K (gi (firstS [12, 0, itE a b 0 100000, itE c d 0 100000, withinS w 1 0])))) := by kernel_rfl
theorem eT_e (k : Nat) (a b c d w : Int) (K : Value → Prop) : callC Tryz.prog (exec Tryz.prog orcUb 20) (syOf []) askUb (noLoops _) 30 22 #[emV (emS k) a b c d w] (canon Tryz.prog []) (fun v _ => K v) = ((gi 0 = gi 0 ∧ [emS k, gi a, gi b, gi c, gi d, gi w][0]? = Option.some (emS k) ∧ [emS k, gi a, gi b, gi c, gi d, gi w][5]? = Option.some (gi w) ∧ Value.agg #[gi c, gi d] = Value.agg #[gi c, gi d] ∧ Value.agg #[gi a, gi b] = Value.agg #[gi a, gi b] ∧ [emS k, gi a, gi b, gi c, gi d, gi w][0]? = Option.some (emS k) ∧ gi 0 = gi 0 ∧ [emS k, gi a, gi b, gi c, gi d, gi w][0]? = Option.some (emS k) ∧ [emS k, gi a, gi b, gi c, gi d, gi w][5]? = Option.some (gi w) ∧ Value.agg #[gi c, gi d] = Value.agg #[gi c, gi d] ∧ Value.agg #[gi a, gi b] = Value.agg #[gi a, gi b] ∧ gi 0 = gi 0 ∧ [emS k, gi a, gi b, gi c, gi d, gi w][0]? = Option.some (emS k) ∧ [emS k, gi a, gi b, gi c, gi d, gi w][5]? = Option.some (gi w) ∧ Value.agg #[gi c, gi d] = Value.agg #[gi c, gi d] ∧ gi 0 = gi 0 ∧ [emS k, gi a, gi b, gi c, gi d, gi w][0]? = Option.some (emS k) ∧ [emS k, gi a, gi b, gi c, gi d, gi w][5]? = Option.some (gi w) ∧ K (gi (firstS [12, 0, itE a b 0 100000, itE c d 0 100000, withinS w 1 0])))) := by kernel_rfl
theorem eU_n (a b c d w : Int) (K : Value → Prop) : callC Tryz.prog (exec Tryz.prog orcUb 20) (syOf []) askUb (noLoops _) 30 13 #[emV nilS a b c d w] (canon Tryz.prog []) (fun v _ => K v) = ((gi 0 = gi 0 ∧ [nilS, gi a, gi b, gi c, gi d, gi w][0]? = Option.some nilS ∧ [nilS, gi a, gi b, gi c, gi d, gi w][5]? = Option.some (gi w) ∧ Value.agg #[gi c, gi d] = Value.agg #[gi c, gi d] ∧ Value.agg #[gi a, gi b] = Value.agg #[gi a, gi b] ∧ [nilS, gi a, gi b, gi c, gi d, gi w][0]? = Option.some nilS ∧ gi 0 = gi 0 ∧ [nilS, gi a, gi b, gi c, gi d, gi w][0]? = Option.some nilS ∧ gi 0 = gi 0 ∧ [nilS, gi a, gi b, gi c, gi d, gi w][0]? = Option.some nilS ∧ [nilS, gi a, gi b, gi c, gi d, gi w][5]? = Option.some (gi w) ∧ Value.agg #[gi c, gi d] = Value.agg #[gi c, gi d] ∧ Value.agg #[gi a, gi b] = Value.agg #[gi a, gi b] ∧ [nilS, gi a, gi b, gi c, gi d, gi w][0]? = Option.some nilS ∧ gi 0 = gi 0 ∧ [nilS, gi a, gi b, gi c, gi d, gi w][0]? = Option.some nilS ∧ [nilS, gi a, gi b, gi c, gi d, gi w][5]? = Option.some (gi w) ∧ Value.agg #[gi c, gi d] = Value.agg #[gi c, gi d] ∧ Value.agg #[gi a, gi b] = Value.agg #[gi a, gi b] ∧ gi 0 = gi 0 ∧ [nilS, gi a, gi b, gi c, gi d, gi w][0]? = Option.some nilS ∧ [nilS, gi a, gi b, gi c, gi d, gi w][5]? = Option.some (gi w) ∧ Value.agg #[gi c, gi d] = Value.agg #[gi c, gi d] ∧ gi 0 = gi 0 ∧ [nilS, gi a, gi b, gi c, gi d, gi w][0]? = Option.some nilS ∧ [nilS, gi a, gi b, gi c, gi d, gi w][5]? = Option.some (gi w) ∧ K (gi (firstS [12, 0, 0, itE a b 0 100000, itE c d 0 100000, withinS w 1 0])))) := by kernel_rfl
theorem eU_e (k : Nat) (a b c d w : Int) (K : Value → Prop) : callC Tryz.prog (exec Tryz.prog orcUb 20) (syOf []) askUb (noLoops _) 30 13 #[emV (emS k) a b c d w] (canon Tryz.prog []) (fun v _ => K v) = ((gi 0 = gi 0 ∧ [emS k, gi a, gi b, gi c, gi d, gi w][0]? = Option.some (emS k) ∧ [emS k, gi a, gi b, gi c, gi d, gi w][5]? = Option.some (gi w) ∧ Value.agg #[gi c, gi d] = Value.agg #[gi c, gi d] ∧ Value.agg #[gi a, gi b] = Value.agg #[gi a, gi b] ∧ [emS k, gi a, gi b, gi c, gi d, gi w][0]? = Option.some (emS k) ∧ gi 0 = gi 0 ∧ [emS k, gi a, gi b, gi c, gi d, gi w][0]? = Option.some (emS k) ∧ gi 0 = gi 0 ∧ [emS k, gi a, gi b, gi c, gi d, gi w][0]? = Option.some (emS k) ∧ [emS k, gi a, gi b, gi c, gi d, gi w][5]? = Option.some (gi w) ∧ Value.agg #[gi c, gi d] = Value.agg #[gi c, gi d] ∧ Value.agg #[gi a, gi b] = Value.agg #[gi a, gi b] ∧ [emS k, gi a, gi b, gi c, gi d, gi w][0]? = Option.some (emS k) ∧ gi 0 = gi 0 ∧ [emS k, gi a, gi b, gi c, gi d, gi w][0]? = Option.some (emS k) ∧ [emS k, gi a, gi b, gi c, gi d, gi w][5]? = Option.some (gi w) ∧ Value.agg #[gi c, gi d] = Value.agg #[gi c, gi d] ∧ Value.agg #[gi a, gi b] = Value.agg #[gi a, gi b] ∧ gi 0 = gi 0 ∧ [emS k, gi a, gi b, gi c, gi d, gi w][0]? = Option.some (emS k) ∧ [emS k, gi a, gi b, gi c, gi d, gi w][5]? = Option.some (gi w) ∧ Value.agg #[gi c, gi d] = Value.agg #[gi c, gi d] ∧ gi 0 = gi 0 ∧ [emS k, gi a, gi b, gi c, gi d, gi w][0]? = Option.some (emS k) ∧ [emS k, gi a, gi b, gi c, gi d, gi w][5]? = Option.some (gi w) ∧ K (gi (firstS [12, 0, 0, itE a b 0 100000, itE c d 0 100000, withinS w 1 0])))) := by kernel_rfl
theorem eG_n (a b c d w : Int) (K : Nat → Nat → List Value → Option AObj → Prop) : callC Tryz.prog (exec Tryz.prog orcUb 20) (syOf []) askUb (noLoops _) 30 8 #[emV nilS a b c d w] (canon Tryz.prog []) (agKY K) = (([nilS, gi a, gi b, gi c, gi d, gi w][5]? = Option.some (gi w) ∧ Value.agg #[gi c, gi d] = Value.agg #[gi c, gi d] ∧ Value.agg #[gi a, gi b] = Value.agg #[gi a, gi b] ∧ K 0 0 [gi a, gi b, gi c, gi d, gi w] ((((((canon Tryz.prog []).push (.cells [nilS, gi a, gi b, gi c, gi d, gi w] 26 0 false)).push (.cells [nilS, gi 0, gi 0, gi 0, gi 0, gi 0] 32 0 false)).push (.cells [] 3 2 false)).set (nG1 + 1) (.cells ([] ++ ([Value.slice (some ⟨nG1 + 2, 0, none⟩) 0 0, gi a, gi b, gi c, gi d, gi w] ++ [])) 32 0 false)).get (nG1 + 2)))) := by kernel_rfl
theorem eG_e (k : Nat) (a b c d w : Int) (K : Nat → Nat → List Value → Option AObj → Prop) : callC Tryz.prog (exec Tryz.prog orcUb 20) (syOf []) askUb (noLoops _) 30 8 #[emV (emS k) a b c d w] (canon Tryz.prog []) (agKY K) = (([emS k, gi a, gi b, gi c, gi d, gi w][5]? = Option.some (gi w) ∧ Value.agg #[gi c, gi d] = Value.agg #[gi c, gi d] ∧ Value.agg #[gi a, gi b] = Value.agg #[gi a, gi b] ∧ K 0 0 [gi a, gi b, gi c, gi d, gi w] ((((((canon Tryz.prog []).push (.cells [emS k, gi a, gi b, gi c, gi d, gi w] 26 0 false)).push (.cells [nilS, gi 0, gi 0, gi 0, gi 0, gi 0] 32 0 false)).push (.cells [] 3 2 false)).set (nG1 + 1) (.cells ([] ++ ([Value.slice (some ⟨nG1 + 2, 0, none⟩) 0 0, gi a, gi b, gi c, gi d, gi w] ++ [])) 32 0 false)).get (nG1 + 2)))) := by kernel_rfl
noncomputable def eTO (_ : T5) (r : List Value) : Option Out := match r with
  | [] => some (.plain (gi 12))
  | _ => none
noncomputable def eCO (t : T5) (r : List Value) : Option Out := match r with
  | [.int .i64 x] => some (.plain (gi (ceE t.2.2.2.2 x)))
  | _ => none
noncomputable def eGO (t : T5) (r : List Value) : Option Out := match r with
  | [] => some (.wide (towM 0 t.1 t.2.1 t.2.2.1 t.2.2.2.1 t.2.2.2.2) [] 3 2)
  | _ => none
noncomputable def orcVa : Orc := orElse 8 (anyO Tryz.prog.globals.size (emX eGO)) (orElse 13 (anyO Tryz.prog.globals.size (emX eTO)) (orElse 22 (anyO Tryz.prog.globals.size (emX eTO)) (orElse 55 (anyO Tryz.prog.globals.size (emX eCO)) orcUb)))
set_option maxRecDepth 100000 in
theorem orcVa_ok : OrcOk Tryz.prog orcVa := by
  refine emO_ok (emO_ok (emO_ok (emO_ok orcUb_ok ?_) ?_) ?_) ?_
  · intro v a b c d w r o hv h
    unfold eCO at h
    split at h
    · cases h
      refine ⟨rfl, ?_⟩
      rcases hv with rfl | ⟨k, rfl⟩
      · exact callC_ok mixed orcUb_ok askUb_ok (Eq.mpr (eC_n _ _ _ _ _ _ _) (or_split (K := fun u => u = _) rfl))
      · exact callC_ok mixed orcUb_ok askUb_ok (Eq.mpr (eC_e _ _ _ _ _ _ _ _) (or_split (K := fun u => u = _) rfl))
    · cases h
  · intro v a b c d w r o hv h
    unfold eTO at h
    split at h
    · cases h
      refine ⟨rfl, ?_⟩
      rcases hv with rfl | ⟨k, rfl⟩
      · exact callC_ok mixed orcUb_ok askUb_ok (Eq.mpr (eT_n _ _ _ _ _ _) (by repeat' (first | exact rfl | exact trivial | apply And.intro)))
      · exact callC_ok mixed orcUb_ok askUb_ok (Eq.mpr (eT_e _ _ _ _ _ _ _) (by repeat' (first | exact rfl | exact trivial | apply And.intro)))
    · cases h
  · intro v a b c d w r o hv h
    unfold eTO at h
    split at h
    · cases h
      refine ⟨rfl, ?_⟩
      rcases hv with rfl | ⟨k, rfl⟩
      · exact callC_ok mixed orcUb_ok askUb_ok (Eq.mpr (eU_n _ _ _ _ _ _) (by repeat' (first | exact rfl | exact trivial | apply And.intro)))
      · exact callC_ok mixed orcUb_ok askUb_ok (Eq.mpr (eU_e _ _ _ _ _ _ _) (by repeat' (first | exact rfl | exact trivial | apply And.intro)))
    · cases h
  · intro v a b c d w r o hv h
    unfold eGO at h
    split at h
    · cases h
      refine ⟨⟨names_tow _ _ _ _ _ _, rfl⟩, ?_⟩
      rcases hv with rfl | ⟨k, rfl⟩
      · exact (callC_ok mixed orcUb_ok askUb_ok (Eq.mpr (eG_n a b c d w _) ⟨rfl, rfl, rfl, rfl, rfl, rfl, by kernel_rfl⟩)).mono fun v h' q => agK_wide (mk := towM 0 a b c d w) (fun _ => rfl) q
      · exact (callC_ok mixed orcUb_ok askUb_ok (Eq.mpr (eG_e k a b c d w _) ⟨rfl, rfl, rfl, rfl, rfl, rfl, by kernel_rfl⟩)).mono fun v h' q => agK_wide (mk := towM 0 a b c d w) (fun _ => rfl) q
    · cases h
noncomputable def askVa : Asks := skipA 8 (skipA 13 (skipA 22 (skipA 55 askUb)))
theorem askVa_ok : AsksOk orcVa askVa := skipA_ok (skipA_ok (skipA_ok (skipA_ok askUb_ok)))
end Go.Proofs.YtfkiiacbchbgdaaGreatDoor
/-! (OWN WORK. Tows without pulls: runs, brakes and safe cells.) -/
namespace Go.Proofs.YtfkiiacbchbgdaaGreatDoor
open Go Go.Am

theorem eR_n (a b c d w f : Int) (K : Value → Prop) : callC Tryz.prog (exec Tryz.prog orcVa 20) (syOf []) askVa (noLoops _) 30 7 #[emV nilS a b c d w, gi f] (canon Tryz.prog []) (fun v _ => K v) = (([nilS, gi a, gi b, gi c, gi d, gi w][2]? = Option.some (gi b) ∧ [nilS, gi a, gi b, gi c, gi d, gi w][1]? = Option.some (gi a) ∧ K (Value.tuple #[nilS, gi (firstS [12, withinS f a b])]))) := by kernel_rfl
theorem eR_e (k : Nat) (a b c d w f : Int) (K : Value → Prop) : callC Tryz.prog (exec Tryz.prog orcVa 20) (syOf []) askVa (noLoops _) 30 7 #[emV (emS k) a b c d w, gi f] (canon Tryz.prog []) (fun v _ => K v) = (([emS k, gi a, gi b, gi c, gi d, gi w][2]? = Option.some (gi b) ∧ [emS k, gi a, gi b, gi c, gi d, gi w][1]? = Option.some (gi a) ∧ K (Value.tuple #[nilS, gi (firstS [12, withinS f a b])]))) := by kernel_rfl
theorem eB_n (a b c d w x f g : Int) (K : Value → Prop) : callC Tryz.prog (exec Tryz.prog orcVa 20) (syOf []) askVa (noLoops _) 30 10 #[emV nilS a b c d w, gi x, gi f, gi g] (canon Tryz.prog []) (fun v _ => K v) = (([nilS, gi a, gi b, gi c, gi d, gi w][4]? = Option.some (gi d) ∧ [nilS, gi a, gi b, gi c, gi d, gi w][3]? = Option.some (gi c) ∧ [nilS, gi a, gi b, gi c, gi d, gi w][2]? = Option.some (gi b) ∧ [nilS, gi a, gi b, gi c, gi d, gi w][1]? = Option.some (gi a) ∧ Value.agg #[nilS, gi a, gi b, gi c, gi d, gi w] = Value.agg #[nilS, gi a, gi b, gi c, gi d, gi w] ∧ [nilS, gi a, gi b, gi c, gi d, gi w][4]? = Option.some (gi d) ∧ [nilS, gi a, gi b, gi c, gi d, gi w][3]? = Option.some (gi c) ∧ [nilS, gi a, gi b, gi c, gi d, gi w][2]? = Option.some (gi b) ∧ [nilS, gi a, gi b, gi c, gi d, gi w][1]? = Option.some (gi a) ∧ [nilS, gi a, gi b, gi c, gi d, gi w][4]? = Option.some (gi d) ∧ [nilS, gi a, gi b, gi c, gi d, gi w][3]? = Option.some (gi c) ∧ K (Value.tuple #[gi 0, gi (firstS [12, ceE w x, withinS f a b, withinS g c d])]))) := by kernel_rfl
theorem eB_e (k : Nat) (a b c d w x f g : Int) (K : Value → Prop) : callC Tryz.prog (exec Tryz.prog orcVa 20) (syOf []) askVa (noLoops _) 30 10 #[emV (emS k) a b c d w, gi x, gi f, gi g] (canon Tryz.prog []) (fun v _ => K v) = (([emS k, gi a, gi b, gi c, gi d, gi w][4]? = Option.some (gi d) ∧ [emS k, gi a, gi b, gi c, gi d, gi w][3]? = Option.some (gi c) ∧ [emS k, gi a, gi b, gi c, gi d, gi w][2]? = Option.some (gi b) ∧ [emS k, gi a, gi b, gi c, gi d, gi w][1]? = Option.some (gi a) ∧ Value.agg #[emS k, gi a, gi b, gi c, gi d, gi w] = Value.agg #[emS k, gi a, gi b, gi c, gi d, gi w] ∧ [emS k, gi a, gi b, gi c, gi d, gi w][4]? = Option.some (gi d) ∧ [emS k, gi a, gi b, gi c, gi d, gi w][3]? = Option.some (gi c) ∧ [emS k, gi a, gi b, gi c, gi d, gi w][2]? = Option.some (gi b) ∧ [emS k, gi a, gi b, gi c, gi d, gi w][1]? = Option.some (gi a) ∧ [emS k, gi a, gi b, gi c, gi d, gi w][4]? = Option.some (gi d) ∧ [emS k, gi a, gi b, gi c, gi d, gi w][3]? = Option.some (gi c) ∧ K (Value.tuple #[gi 0, gi (firstS [12, ceE w x, withinS f a b, withinS g c d])]))) := by kernel_rfl
theorem eS_n (a b c d w x : Int) (K : Value → Prop) : callC Tryz.prog (exec Tryz.prog orcVa 20) (syOf []) askVa (noLoops _) 30 11 #[emV nilS a b c d w, gi x] (canon Tryz.prog []) (fun v _ => K v) = ((Value.agg #[nilS, gi a, gi b, gi c, gi d, gi w] = Value.agg #[nilS, gi a, gi b, gi c, gi d, gi w] ∧ K (Value.tuple #[Value.bool false, gi (firstS [12, ceE w x])]))) := by kernel_rfl
theorem eS_e (k : Nat) (a b c d w x : Int) (K : Value → Prop) : callC Tryz.prog (exec Tryz.prog orcVa 20) (syOf []) askVa (noLoops _) 30 11 #[emV (emS k) a b c d w, gi x] (canon Tryz.prog []) (fun v _ => K v) = ((Value.agg #[emS k, gi a, gi b, gi c, gi d, gi w] = Value.agg #[emS k, gi a, gi b, gi c, gi d, gi w] ∧ K (Value.tuple #[Value.bool false, gi (firstS [12, ceE w x])]))) := by kernel_rfl
noncomputable def eRO (_ : T5) (r : List Value) : Option Out := match r with
  | [.int .i64 _] => some (.plain (.tuple #[nilS, gi 12]))
  | _ => none
noncomputable def eBO (_ : T5) (r : List Value) : Option Out := match r with
  | [.int .i64 _, .int .i64 _, .int .i64 _] => some (.plain (.tuple #[gi 0, gi 12]))
  | _ => none
noncomputable def eSO (_ : T5) (r : List Value) : Option Out := match r with
  | [.int .i64 _] => some (.plain (.tuple #[.bool false, gi 12]))
  | _ => none
noncomputable def orcVb : Orc := orElse 7 (anyO Tryz.prog.globals.size (emX eRO)) (orElse 10 (anyO Tryz.prog.globals.size (emX eBO)) (orElse 11 (anyO Tryz.prog.globals.size (emX eSO)) orcVa))
set_option maxRecDepth 100000 in
theorem orcVb_ok : OrcOk Tryz.prog orcVb := by
  refine emO_ok (emO_ok (emO_ok orcVa_ok ?_) ?_) ?_
  · intro v a b c d w r o hv h
    unfold eSO at h
    split at h
    · cases h
      refine ⟨rfl, ?_⟩
      rcases hv with rfl | ⟨k, rfl⟩
      · exact callC_ok mixed orcVa_ok askVa_ok (Eq.mpr (eS_n _ _ _ _ _ _ _) (by repeat' (first | exact rfl | exact trivial | apply And.intro)))
      · exact callC_ok mixed orcVa_ok askVa_ok (Eq.mpr (eS_e _ _ _ _ _ _ _ _) (by repeat' (first | exact rfl | exact trivial | apply And.intro)))
    · cases h
  · intro v a b c d w r o hv h
    unfold eBO at h
    split at h
    · cases h
      refine ⟨rfl, ?_⟩
      rcases hv with rfl | ⟨k, rfl⟩
      · exact callC_ok mixed orcVa_ok askVa_ok (Eq.mpr (eB_n _ _ _ _ _ _ _ _ _) (by repeat' (first | exact rfl | exact trivial | apply And.intro)))
      · exact callC_ok mixed orcVa_ok askVa_ok (Eq.mpr (eB_e _ _ _ _ _ _ _ _ _ _) (by repeat' (first | exact rfl | exact trivial | apply And.intro)))
    · cases h
  · intro v a b c d w r o hv h
    unfold eRO at h
    split at h
    · cases h
      refine ⟨rfl, ?_⟩
      rcases hv with rfl | ⟨k, rfl⟩
      · exact callC_ok mixed orcVa_ok askVa_ok (Eq.mpr (eR_n _ _ _ _ _ _ _) (by repeat' (first | exact rfl | exact trivial | apply And.intro)))
      · exact callC_ok mixed orcVa_ok askVa_ok (Eq.mpr (eR_e _ _ _ _ _ _ _ _) (by repeat' (first | exact rfl | exact trivial | apply And.intro)))
    · cases h
noncomputable def askVb : Asks := skipA 7 (skipA 10 (skipA 11 askVa))
theorem askVb_ok : AsksOk orcVb askVb := skipA_ok (skipA_ok (skipA_ok askVa_ok))
noncomputable def orcVn : Orc := wkO orcVb
theorem orcVn_ok : OrcOk Tryz.prog orcVn := wkO_ok orcVb_ok
noncomputable def askVn : Asks := skipA 6 askVb
theorem askVn_ok : AsksOk orcVn askVn := skipA_ok askVb_ok
noncomputable abbrev bH4 (es : Nat → TypeId) : AHeap := base tabs4 es Tryz.prog.globals.size
noncomputable abbrev ag3 (x f g : Int) : Value := .agg #[gi x, gi f, gi g]
end Go.Proofs.YtfkiiacbchbgdaaGreatDoor
