/-
  OWN WORK. Stage 6: margins and risks as known calls.
-/
import Derived.Test.YtihnnmejkpddeaaGreatDoorMgH
namespace Go.Proofs.YtihnnmejkpddeaaGreatDoor
open Go Go.Am

noncomputable def bolOf : Value → Bool
  | .bool b => b
  | _ => false
noncomputable def mgE (a b c d x y : Int) : Int := firstS [bcE a b c d, szE x y]
noncomputable def mgR (a b c d : Int) (o : Bool) (x y : Int) : Int := bif ieq (mgE a b c d x y) 0 then mgV a b c d o x y else 0
noncomputable def mgL : List Value → Option (Bool × Value)
  | [.agg x, .agg y] => match x.toList, y.toList with
    | [.int .i64 a, .int .i64 b, .int .i64 c, .int .i64 d, .bool o], [.int .i64 p, .int .i64 q] => some ((okI a b && okI c d) && okI p q, .tuple #[gi (mgR a b c d o p q), gi (mgE a b c d p q)])
    | _, _ => none
  | _ => none
noncomputable def rkE (l : List P3) (r : List Value) : Int := firstS [tabE l, szE (ratOf r).1 (ratOf r).2]
noncomputable def rkR (l : List P3) (r : List Value) : Int := bif ieq (rkE l r) 0 then rkF (ratOf r) 0 l else 0
noncomputable def lastR (l : List P3) : Int := intAt (cells3 l) (0 + (l.length - 1) * 3 + 2)
noncomputable def bnOf : List Value → Int × Int × Int × Int × Bool
  | [.agg a] => match a.toList with
    | [p, q, r, s, t] => (intOf p, intOf q, intOf r, intOf s, bolOf t)
    | _ => (0, 0, 0, 0, false)
  | _ => (0, 0, 0, 0, false)
noncomputable def rbE (l : List P3) (r : List Value) : Int := firstS [tabE l, bcE (bnOf r).1 (bnOf r).2.1 (bnOf r).2.2.1 (bnOf r).2.2.2.1]
noncomputable def rbLo (l : List P3) (r : List Value) : Int := rkF ((bnOf r).1, (bnOf r).2.1) 0 l
noncomputable def rbHi (l : List P3) (r : List Value) : Int := bif (bnOf r).2.2.2.2 then lastR l else rkF ((bnOf r).2.2.1, (bnOf r).2.2.2.1) 0 l
def rsC (l : List P3) (r : List Value) : Prop := (∃ x y : Int, r = [.agg #[gi x, gi y]] ∧ okI x y = true) ∧ okL l
def rnC (l : List P3) (r : List Value) : Prop := (∃ (a b c d : Int) (o : Bool), r = [bndV a b c d o] ∧ (okI a b && okI c d) = true) ∧ okL l
def rnD (_ : List P3) (r : List Value) : Prop := ∃ (a b c d : Int) (o : Bool), r = [bndV a b c d o]
noncomputable abbrev rsO (_ : Nat) (l : List P3) (r : List Value) : Out := .plain (.tuple #[gi (rkR l r), gi (rkE l r)])
noncomputable def rbP (l : List P3) (r : List Value) : Int := bif ieq (rbE l r) 0 then rbLo l r else 0
noncomputable def rbQ (l : List P3) (r : List Value) : Int := bif ieq (rbE l r) 0 then rbHi l r else 0
noncomputable abbrev rnO (_ : Nat) (l : List P3) (r : List Value) : Out := .plain (.tuple #[.agg #[gi (rbP l r), gi (rbQ l r)], gi (rbE l r)])
noncomputable abbrev rwO (_ : Nat) (l : List P3) (r : List Value) : Out := .plain (.agg #[gi (rbLo l r), gi (rbHi l r)])
theorem tab_ok {l : List P3} (h : tabE l = 0) : l.length ≤ 16 ∧ tbE (-1, 1, 0) l = 0 := by
  have h1 := firstS_none h _ (.head _)
  have h2 := firstS_none h _ (.tail _ (.head _))
  have h3 := when_none (by decide) (firstS_none h1 _ (.tail _ (.head _)))
  rw [ilt_say] at h3
  have h3 := of_decide_eq_false h3
  refine ⟨?_, h2⟩
  simp only [Int.ofNat_eq_natCast] at h3
  omega
theorem sz_zero2 {l : List P3} {x : Int} (h : (!(ieq (firstS [tabE l, x]) 0)) = false) : tabE l = 0 ∧ x = 0 := by
  have h := not_ieq' h
  exact ⟨firstS_none h _ (.head _), firstS_none h _ (.tail _ (.head _))⟩
theorem bc_okR {a b c d : Int} (h : bcE a b c d = 0) : okR (a, b) ∧ okR (c, d) := ⟨szE_ok (firstS_none h _ (.head _)), szE_ok (firstS_none h _ (.tail _ (.head _)))⟩
theorem lastI {m : Nat} (h : m + 1 ≤ 65536) : inI64 (Int.ofNat (m + 1) - 1) = true ∧ ahasIndex (Int.ofNat (m + 1) - 1) (m + 1) = true ∧ Int.toNat (Int.ofNat (m + 1) - 1) = m := by
  have e : Int.ofNat (m + 1) - 1 = Int.ofNat m := by simp only [Int.ofNat_eq_natCast]; omega
  rw [e]
  refine ⟨inI64_nat (by omega), ?_, rfl⟩
  show Nat.blt m (m + 1) = true
  rw [Nat.blt_eq]; omega
noncomputable def orcMe : Orc := orElse 60 (condO mgL) (orElse 61 (s1O ts3 rsC rsO) (orElse 63 (s1O ts3 rnC rnO) (orElse 68 (s1O ts3 rnD rwO) orcMd)))
set_option maxRecDepth 100000 in
theorem orcMe_ok : OrcOk Tryz.prog orcMe := by
  refine condO_ok (fun l v h => ?_) (s1O_ok (s1O_ok (s1O_ok orcMd_ok (fun _ _ _ _ => rfl) ?_) (fun _ _ _ _ => rfl) ?_) (fun _ _ _ _ => rfl) ?_)
  · unfold mgL at h
    split at h
    · split at h
      · rename_i a b c d o p q ha hb
        injection h with h
        injection h with h1 h2
        obtain rfl := agg_eq ha
        obtain rfl := agg_eq hb
        rw [Bool.and_eq_true] at h1
        subst h2
        refine ⟨rfl, rfl, CallJ.ofR mixed orcMd_ok askMd_ok (Eq.mpr (mg_run a b c d o p q _) ⟨h1.1, rfl, h1.2, fun hz => ?_, fun hz => ?_⟩)⟩
        · show _ = Value.tuple #[gi (bif ieq (mgE a b c d p q) 0 then mgV a b c d o p q else 0), gi (mgE a b c d p q)]
          rw [show ieq (mgE a b c d p q) 0 = false from not_ieqT hz]; rfl
        · show Bool.rec _ _ _
          rw [show Value.tuple #[gi (mgR a b c d o p q), gi (mgE a b c d p q)] = Value.tuple #[gi (mgV a b c d o p q), gi 0] by
            unfold mgR
            rw [show mgE a b c d p q = 0 from not_ieq' hz]; rfl]
          unfold mgV
          generalize (ilt (cpR (c, d) (p, q)) 0 && !o) = u
          generalize ilt 0 (cpR (a, b) (p, q)) = w
          cases u <;> cases w <;> exact rfl
      · cases h
    · cases h
  · rintro l m k e row r hl h1 ⟨a, b, c, d, o, rfl⟩
    have okc : okT ts3 (ts3.cells l) (m + 1) := okT_of hl (by omega) h1
    obtain ⟨⟨_, _, f2⟩, _⟩ := cells3_at0 (l := l) (j := m) (by omega)
    obtain ⟨e1, e2, e3⟩ := lastI h1
    have el : lastR l = intAt (cells3 l) (0 + m * 3 + 2) := by unfold lastR; rw [hl]; rfl
    refine callC_ok mixed orcMd_ok askMd_ok (Eq.mpr (rrb_run l m e row k a b c d o _) ⟨rfl, rfl, ⟨cells3_flat l, trivial⟩, okc, ⟨_, _, rfl⟩, rfl, rfl, ⟨cells3_flat l, trivial⟩, okc, ⟨_, _, rfl⟩, rfl, fun ho => ⟨e1, e2, by rw [e3]; exact f2, ?_⟩, fun ho => ?_⟩)
    · subst ho
      rw [e3, show TellT.dec ts3 (cells3 l) = l from dec3_cells l]
      show _ = Value.agg #[gi (rkF (a, b) 0 l), gi (lastR l)]
      rw [el]; rfl
    · subst ho
      rw [show TellT.dec ts3 (cells3 l) = l from dec3_cells l]; rfl
  · rintro l m k e row r hl h1 ⟨⟨a, b, c, d, o, rfl, hk⟩, hL⟩
    have okc : okT ts3 (ts3.cells l) (m + 1) := okT_of hl (by omega) h1
    obtain ⟨⟨_, _, f2⟩, _⟩ := cells3_at0 (l := l) (j := m) (by omega)
    obtain ⟨e1, e2, e3⟩ := lastI h1
    have el : lastR l = intAt (cells3 l) (0 + m * 3 + 2) := by unfold lastR; rw [hl]; rfl
    refine callC_ok mixed orcMd_ok askMd_ok (Eq.mpr (rb_run l m e row k a b c d o _) ?_)
    rw [show TellT.dec ts3 (cells3 l) = l from dec3_cells l]
    refine ⟨⟨cells3_flat l, trivial⟩, okc, ⟨rfl, hL⟩, rfl, hk, fun hz => ?_, fun hz => ?_⟩
    · show _ = Value.tuple #[.agg #[gi (bif ieq (rbE l [bndV a b c d o]) 0 then _ else 0), gi (bif ieq (rbE l [bndV a b c d o]) 0 then _ else 0)], gi (rbE l [bndV a b c d o])]
      rw [show ieq (rbE l [bndV a b c d o]) 0 = false from not_ieqT hz]; rfl
    · obtain ⟨z1, z2⟩ := sz_zero2 hz
      obtain ⟨t1, t2⟩ := tab_ok z1
      obtain ⟨b1, b2⟩ := bc_okR z2
      have hE : rbE l [bndV a b c d o] = 0 := not_ieq' hz
      refine ⟨⟨cells3_flat l, trivial⟩, okc, ⟨⟨_, _, rfl, b2⟩, t1, t2⟩, fun ho => ⟨e1, e2, by rw [e3]; exact f2, ⟨cells3_flat l, trivial⟩, okc, ⟨⟨_, _, rfl, b1⟩, t1, t2⟩, ?_⟩, fun ho => ⟨⟨cells3_flat l, trivial⟩, okc, ⟨⟨_, _, rfl, b1⟩, t1, t2⟩, ?_⟩⟩
      · subst ho
        rw [e3]
        show _ = Value.tuple #[.agg #[gi (bif ieq (rbE l [bndV a b c d true]) 0 then rkF (a, b) 0 l else 0), gi (bif ieq (rbE l [bndV a b c d true]) 0 then lastR l else 0)], gi (rbE l [bndV a b c d true])]
        rw [hE, el]; rfl
      · subst ho
        show _ = Value.tuple #[.agg #[gi (bif ieq (rbE l [bndV a b c d false]) 0 then rkF (a, b) 0 l else 0), gi (bif ieq (rbE l [bndV a b c d false]) 0 then rkF (c, d) 0 l else 0)], gi (rbE l [bndV a b c d false])]
        rw [hE]; rfl
  · rintro l m k e row r hl h1 ⟨⟨x, y, rfl, hk⟩, hL⟩
    have okc : okT ts3 (ts3.cells l) (m + 1) := okT_of hl (by omega) h1
    refine callC_ok mixed orcMd_ok askMd_ok (Eq.mpr (ri_run l m e row k x y _) ?_)
    rw [show TellT.dec ts3 (cells3 l) = l from dec3_cells l]
    refine ⟨⟨cells3_flat l, trivial⟩, okc, ⟨rfl, hL⟩, rfl, hk, fun hz => ?_, fun hz => ?_⟩
    · show _ = Value.tuple #[gi (bif ieq (rkE l [.agg #[gi x, gi y]]) 0 then _ else 0), gi (rkE l [.agg #[gi x, gi y]])]
      rw [show ieq (rkE l [.agg #[gi x, gi y]]) 0 = false from not_ieqT hz]; rfl
    · obtain ⟨z1, z2⟩ := sz_zero2 hz
      obtain ⟨t1, t2⟩ := tab_ok z1
      have hE : rkE l [.agg #[gi x, gi y]] = 0 := not_ieq' hz
      refine ⟨⟨cells3_flat l, trivial⟩, okc, ⟨⟨_, _, rfl, szE_ok z2⟩, t1, t2⟩, ?_⟩
      show _ = Value.tuple #[gi (bif ieq (rkE l [.agg #[gi x, gi y]]) 0 then rkF (x, y) 0 l else 0), gi (rkE l [.agg #[gi x, gi y]])]
      rw [hE]; rfl
noncomputable def askMe : Asks := asksF 60 mgL (asksV Tryz.prog.globals.size 61 (s1AY ts3 rsC rsO) (asksV Tryz.prog.globals.size 63 (s1AY ts3 rnC rnO) (asksV Tryz.prog.globals.size 68 (s1AY ts3 rnD rwO) askMd)))
theorem askMe_ok : AsksOk orcMe askMe := asksF_ok (asksV_ok (s1A_ok fun _ _ _ h => ⟨h, rfl⟩) (asksV_ok (s1A_ok fun _ _ _ h => ⟨h, rfl⟩) (asksV_ok (s1A_ok fun _ _ _ h => ⟨h, rfl⟩) askMd_ok)))
end Go.Proofs.YtihnnmejkpddeaaGreatDoor
