/-
  OWN WORK. Stage 6: Worth, Best, CheckBest.
-/
import Derived.Test.YtihnnmejkpddeaaGreatDoorBsTV
import Derived.Test.YtihnnmejkpddeaaGreatDoorMgAC
/-! (OWN WORK. Stage 6: Worth, Best and CheckBest of the program, carried out.) -/
namespace Go.Proofs.YtihnnmejkpddeaaGreatDoor
open Go Go.Am
def roC (cs : List Value) (n k row : Nat) (r : List Value) : Prop := r = [agW (agN r).1 (agN r).2] ∧ roOk cs row n k (agN r).1 (agN r).2
noncomputable abbrev sp2 (x : W4) : Value := .agg #[gi x.1, gi x.2.1]
noncomputable abbrev roV (cs : List Value) (n lo hi : Nat) : Value := .tuple #[sp2 (oX (bsO cs lo hi n n)), rt2 (oX (bsO cs lo hi n n)).2.2, .bool (oB (bsO cs lo hi n n))]
noncomputable def orcBd0 : Orc := orElse 25 (anyO Tryz.prog.globals.size (hpX roC roV)) orcBc
set_option maxRecDepth 100000 in
theorem orcBd0_ok : OrcOk Tryz.prog orcBd0 := by
 refine anyO_ok globs_pos orcBc_ok ?_
 intro vs B o h _
 obtain ⟨cs, n, k, e, row, r, rfl, rfl, ⟨hr, O⟩, rfl⟩ := hpX_inv h
 refine ⟨rfl, ?_⟩
 rw [hr, agN_at]
 generalize (agN r).1 = lo at *
 generalize (agN r).2 = hi at *
 have C := O.1
 obtain ⟨m, rfl⟩ : ∃ m, n = m + 1 := ⟨n - 1, by have := C.n0; omega⟩
 show CallJ Tryz.prog 25 #[liP (m + 1) k, agW lo hi] (liH cs e row) (fun v _ => v = roV cs (m + 1) lo hi)
 exact callC_ok mixed orcBc_ok (askBc_ok _ _ _ _) (Eq.mpr (ro_run cs m k e row lo hi _) ⟨rfl, rfl, rfl, rfl, rfl, rfl, rfl, rfl, rfl, by kernel_rfl, O, fun _ => ⟨rfl, rfl⟩⟩)
noncomputable def inGY (vs : List Value) (B : List Cells) (K : Out → Prop) : Prop := s1Y False (fun cs n r => okT tiT cs n ∧ clCv (TellT.dec tiT cs) r ∧ ∀ L : List Int, TellT.dec tiT cs = L → K (.wide (slM n) (L.map gi) 3 2)) vs B
theorem inG_ok (vs : List Value) (B : List Cells) (K : Out → Prop) (h : inGY vs B K) : ∃ o, s1X tiT clCv cloOv vs B = some o ∧ K o := by
 rcases s1Y_inv (z := False) (f := fun cs n r => okT tiT cs n ∧ clCv (TellT.dec tiT cs) r ∧ ∀ L : List Int, TellT.dec tiT cs = L → K (.wide (slM n) (L.map gi) 3 2)) (vs := vs) (B := B) with q | ⟨cs, n, k, e, row, r, rfl, rfl⟩
 ·unfold inGY at h; rw [q] at h; exact h.elim
 ·unfold inGY at h
  rw [s1Y_at] at h
  obtain ⟨h1, h2, h3⟩ := h
  unfold s1X
  rw [s1Y_at, if_pos ⟨h1, h2⟩]
  exact ⟨_, rfl, h3 _ rfl⟩
noncomputable def seGY (vs : List Value) (B : List Cells) (K : Out → Prop) : Prop := s1Y False (fun cs n r => okT tiT cs n ∧ nonC (TellT.dec tiT cs) r ∧ ∀ L : List Int, TellT.dec tiT cs = L → K (.plain (gi (serE L)))) vs B
theorem seG_ok (vs : List Value) (B : List Cells) (K : Out → Prop) (h : seGY vs B K) : ∃ o, s1X tiT nonC serO vs B = some o ∧ K o := by
 rcases s1Y_inv (z := False) (f := fun cs n r => okT tiT cs n ∧ nonC (TellT.dec tiT cs) r ∧ ∀ L : List Int, TellT.dec tiT cs = L → K (.plain (gi (serE L)))) (vs := vs) (B := B) with q | ⟨cs, n, k, e, row, r, rfl, rfl⟩
 ·unfold seGY at h; rw [q] at h; exact h.elim
 ·unfold seGY at h
  rw [s1Y_at] at h
  obtain ⟨h1, h2, h3⟩ := h
  unfold s1X
  rw [s1Y_at, if_pos ⟨h1, h2⟩]
  exact ⟨_, rfl, h3 _ rfl⟩
noncomputable def askLo : Asks := asksV Tryz.prog.globals.size 35 seGY (asksV Tryz.prog.globals.size 16 inGY (asksV Tryz.prog.globals.size 14 vshY askLa))
theorem askLo_ok : AsksOk orcLb0 askLo := asksV_ok seG_ok (asksV_ok inG_ok (asksV_ok vshY_ok askLa_ok))
noncomputable def orcBd : Orc := liftO 35 orcLb0 (liftO 16 orcLb0 (liftO 14 orcLb0 (liftO 91 orcMa (liftO 23 orcMa orcBd0))))
theorem orcBd_ok : OrcOk Tryz.prog orcBd := liftO_ok orcLb0_ok (liftO_ok orcLb0_ok (liftO_ok orcLb0_ok (liftO_ok orcMa_ok (liftO_ok orcMa_ok orcBd0_ok))))
noncomputable def askBd (p q lo hi : Nat) : Asks := liftA 35 askLo (liftA 16 askLo (liftA 14 askLo (liftA 91 askMa (liftA 23 askMa (asksV Tryz.prog.globals.size 25 (hpAY roOk roV lo hi) (askBc p q lo hi))))))
theorem askBd_ok (p q lo hi : Nat) : AsksOk orcBd (askBd p q lo hi) := liftA_ok askLo_ok (liftA_ok askLo_ok (liftA_ok askLo_ok (liftA_ok askMa_ok (liftA_ok askMa_ok (asksV_ok (hpA_ok (fun _ _ _ _ _ _ h => ⟨rfl, h⟩) lo hi) (askBc_ok p q lo hi))))))
noncomputable def woSy (s : Sy) (f : FuncId) : Sy := bif Nat.beq f 87 then syOf [(9, 60), (13, 60), (24, 7)] else s
end Go.Proofs.YtihnnmejkpddeaaGreatDoor
/-! (OWN WORK. Stage 6: Worth, Best and CheckBest of the program: known calls.) -/
namespace Go.Proofs.YtihnnmejkpddeaaGreatDoor
open Go Go.Am
theorem ieq_zero {x : Int} (h : ieq x 0 = true) : x = 0 := by rw [ieq_dec] at h; exact of_decide_eq_true h
theorem ln_zero {a b : Int} (h : lnE a b = 0) : ∃ lo hi : Nat, a = Int.ofNat lo ∧ b = Int.ofNat hi ∧ 0 < lo ∧ lo ≤ hi ∧ hi ≤ 128 := by
 have h1 := within_zero (firstS_none h _ (.head _))
 have h2 := within_zero (firstS_none h _ (.tail _ (.head _)))
 have h3 := when_none (by decide) (firstS_none h _ (.tail _ (.tail _ (.head _))))
 rw [ilt_say] at h3
 have h3 := of_decide_eq_false h3
 simp only [Int.ofNat_eq_natCast]
 exact ⟨a.toNat, b.toNat, by omega, by omega, by omega, by omega, by omega⟩
noncomputable def worE (l : List Int) (n : Nat) (a b : Int) : Int := firstS [serE l, cwE (Int.ofNat n) a b]
noncomputable def worV (w : Bool) (l : List Int) (n : Nat) (a b : Int) : Value := bif w then .tuple #[rt2 (wtP (l.map gi) a.toNat b.toNat), gi 0] else .tuple #[rt2 (0, 0), gi (worE l n a b)]
noncomputable def besE (l : List Int) (n : Nat) (a b : Int) : Int := firstS [serE l, lnE a b, whenS (ilt (Int.ofNat n) a) 16]
noncomputable def besV (w : Bool) (l : List Int) (n : Nat) (a b : Int) : Value := bif w then .tuple #[sp2 (bstW (l.map gi) a.toNat b.toNat n), rt2 (bstW (l.map gi) a.toNat b.toNat n).2.2, gi 0] else .tuple #[rt2 (0, 0), rt2 (0, 0), gi (besE l n a b)]
noncomputable def chkE (l : List Int) (n : Nat) (a b x y u v : Int) : Int := firstS [serE l, lnE a b, cwE (Int.ofNat n) x y, szE u v, whenS (ilt (Int.ofNat n) a) 16]
noncomputable def eqW (m : W4) (x y u v : Int) : Bool := (ieq x m.1 && (ieq y m.2.1 && true)) && ((ieq u m.2.2.1 && (ieq v m.2.2.2 && true)) && true)
noncomputable def chkV (w : Bool) (l : List Int) (n : Nat) (a b x y u v : Int) : Value := bif w then gi (whenS (!(eqW (bstW (l.map gi) a.toNat b.toNat n) x y u v)) 19) else gi (chkE l n a b x y u v)
noncomputable def agI : List Value → P2
 | [.agg a] => match a.toList with
  | [.int .i64 x, .int .i64 y] => (x, y)
  | _ => (0, 0)
 | _ => (0, 0)
noncomputable def agJ : List Value → P2 × P2 × P2
 | [x, y, z] => (agI [x], agI [y], agI [z])
 | _ => ((0, 0), (0, 0), (0, 0))
def worC (_ : List Int) (r : List Value) : Prop := r = [rt2 (agI r)]
def chkC (_ : List Int) (r : List Value) : Prop := r = [rt2 (agJ r).1, rt2 (agJ r).2.1, rt2 (agJ r).2.2] ∧ okI (agJ r).2.2.1 (agJ r).2.2.2 = true
noncomputable abbrev worO (n : Nat) (l : List Int) (r : List Value) : Out := .plain (worV (ieq (worE l n (agI r).1 (agI r).2) 0) l n (agI r).1 (agI r).2)
noncomputable abbrev besO (n : Nat) (l : List Int) (r : List Value) : Out := .plain (besV (ieq (besE l n (agI r).1 (agI r).2) 0) l n (agI r).1 (agI r).2)
noncomputable abbrev chkO (n : Nat) (l : List Int) (r : List Value) : Out := .plain (chkV (ieq (chkE l n (agJ r).1.1 (agJ r).1.2 (agJ r).2.1.1 (agJ r).2.1.2 (agJ r).2.2.1 (agJ r).2.2.2) 0) l n (agJ r).1.1 (agJ r).1.2 (agJ r).2.1.1 (agJ r).2.1.2 (agJ r).2.2.1 (agJ r).2.2.2)
noncomputable def orcBe : Orc := orElse 15 (s1O tiT worC worO) (orElse 17 (s1O tiT worC besO) (orElse 18 (s1O tiT chkC chkO) orcBd))
end Go.Proofs.YtihnnmejkpddeaaGreatDoor
