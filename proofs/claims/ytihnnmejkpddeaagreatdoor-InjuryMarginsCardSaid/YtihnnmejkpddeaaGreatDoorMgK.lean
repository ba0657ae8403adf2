/-
  OWN WORK. Stage 6: the law of margins.
-/
import Derived.Test.YtihnnmejkpddeaaGreatDoorMgJ
namespace Go.Proofs.YtihnnmejkpddeaaGreatDoor
open Go Go.Am

theorem dec3W (l : List P3) : TellT.dec ts3 (cells3 l) = l := dec3_cells l
theorem mg_t {a b c d : Int} {o : Bool} {x y : Int} (h : ieq (firstS [bcE a b c d, szE x y]) 0 = true) : ieq (mgR a b c d o x y) (mgV a b c d o x y) = true := by
  unfold mgR
  rw [show ieq (mgE a b c d x y) 0 = true from h]
  exact ieq_self _
theorem mg_f {a b c d : Int} {o : Bool} {x y : Int} (h : ieq (firstS [bcE a b c d, szE x y]) 0 = false) : ieq (mgR a b c d o x y) 0 = true := by
  unfold mgR
  rw [show ieq (mgE a b c d x y) 0 = false from h]; rfl
theorem rk_t {l : List P3} {x y : Int} (h : ieq (firstS [tabE l, szE x y]) 0 = true) : ieq (rkR l [.agg #[gi x, gi y]]) (rkF (ratOf [.agg #[gi x, gi y]]) 0 l) = true := by
  unfold rkR
  rw [show ieq (rkE l [.agg #[gi x, gi y]]) 0 = true from h]
  exact ieq_self _
theorem rk_f {l : List P3} {x y : Int} (h : ieq (firstS [tabE l, szE x y]) 0 = false) : ieq (rkR l [.agg #[gi x, gi y]]) 0 = true := by
  unfold rkR
  rw [show ieq (rkE l [.agg #[gi x, gi y]]) 0 = false from h]; rfl
theorem rb_t {l : List P3} {a b c d : Int} {o : Bool} (h : ieq (firstS [tabE l, bcE a b c d]) 0 = true) : Value.bool (ieq (rbP l [bndV a b c d o]) (rbLo l [bndV a b c d o]) && (ieq (rbQ l [bndV a b c d o]) (rbHi l [bndV a b c d o]) && true)) = Value.bool true := by
  unfold rbP rbQ
  rw [show ieq (rbE l [bndV a b c d o]) 0 = true from h, cond_true, cond_true, ieq_self, ieq_self]; rfl
theorem rb_f {l : List P3} {a b c d : Int} {o : Bool} (h : ieq (firstS [tabE l, bcE a b c d]) 0 = false) : Value.bool (ieq (rbP l [bndV a b c d o]) 0 && (ieq (rbQ l [bndV a b c d o]) 0 && true)) = Value.bool true := by
  unfold rbP rbQ
  rw [show ieq (rbE l [bndV a b c d o]) 0 = false from h]; rfl
theorem valB {x y : Int} (h : x = y) : Value.bool (ieq x y) = Value.bool true := by rw [h, ieq_self]
section
variable (es : Nat → TypeId) (a b c d : Int) (o : Bool) (x y : Int) (hk : ((okI a b && okI c d) && okI x y) = true)
include hk
set_option maxRecDepth 100000 in
theorem mar_n : CallJ Tryz.prog 9 #[nilS, bndV a b c d o, liV x y] (vB es) (fun v _ => v = .bool true) := by
  have k0 := hk
  rw [Bool.and_eq_true] at k0
  obtain ⟨k1, k2⟩ := k0
  have z1 : ieq (firstS [12, szE x y]) 0 = false := by rw [first12]; rfl
  have z2 : ieq (firstS [12, bcE a b c d]) 0 = false := by rw [first12]; rfl
  have s1 : ieq (firstS [12, szE x y]) (firstS [12, szE x y]) = true := ieq_self _
  have s2 : Value.bool (ieq (firstS [12, bcE a b c d]) (firstS [12, bcE a b c d])) = Value.bool true := valB rfl
  have s3 : ieq (mgE a b c d x y) (firstS [bcE a b c d, szE x y]) = true := ieq_self _
  cases h : ieq (firstS [bcE a b c d, szE x y]) 0 with
  | false =>
    have m1 := mg_f (o := o) h
    refine callC_ok mixed orcM0_ok askM0_ok (Eq.mpr (lw_n0 es a b c d o x y _) ?_)
    repeat' (first | assumption | exact rfl | exact trivial | apply And.intro)
  | true =>
    have m1 := mg_t (o := o) h
    refine callC_ok mixed orcM0_ok askM0_ok (Eq.mpr (lw_n1 es a b c d o x y _) ?_)
    repeat' (first | assumption | exact rfl | exact trivial | apply And.intro)
set_option maxRecDepth 100000 in
theorem mar_e (q : Nat) : CallJ Tryz.prog 9 #[.slice (some ⟨Tryz.prog.globals.size, 0, none⟩) 0 q, bndV a b c d o, liV x y] (vD (vB es)) (fun v _ => v = .bool true) := by
  have k0 := hk
  rw [Bool.and_eq_true] at k0
  obtain ⟨k1, k2⟩ := k0
  have z1 : ieq (firstS [12, szE x y]) 0 = false := by rw [first12]; rfl
  have z2 : ieq (firstS [12, bcE a b c d]) 0 = false := by rw [first12]; rfl
  have s1 : ieq (firstS [12, szE x y]) (firstS [12, szE x y]) = true := ieq_self _
  have s2 : Value.bool (ieq (firstS [12, bcE a b c d]) (firstS [12, bcE a b c d])) = Value.bool true := valB rfl
  have s3 : ieq (mgE a b c d x y) (firstS [bcE a b c d, szE x y]) = true := ieq_self _
  cases h : ieq (firstS [bcE a b c d, szE x y]) 0 with
  | false =>
    have m1 := mg_f (o := o) h
    refine callC_ok mixed orcM0_ok askM0_ok (Eq.mpr (lw_e0 es q a b c d o x y _) ?_)
    repeat' (first | assumption | exact rfl | exact trivial | apply And.intro)
  | true =>
    have m1 := mg_t (o := o) h
    refine callC_ok mixed orcM0_ok askM0_ok (Eq.mpr (lw_e1 es q a b c d o x y _) ?_)
    repeat' (first | assumption | exact rfl | exact trivial | apply And.intro)
set_option maxRecDepth 100000 in
theorem mar_f (l : List P3) (k e row : Nat) (h0 : 0 < l.length) (hL : okL l) : CallJ Tryz.prog 9 #[liP l.length k, bndV a b c d o, liV x y] (v3 (vB es) l e row) (fun v _ => v = .bool true) := by
  obtain ⟨m, hl⟩ : ∃ m, l.length = m + 1 := ⟨l.length - 1, by omega⟩
  rw [hl]
  cases hs : ilt 17 (Int.ofNat (m + 1)) with
  | true => exact CallJ.ofR mixed orcMg_ok askMg_ok (Eq.mpr (lw_na es l m k e row a b c d o x y _) ⟨by rw [hs]; rfl, rfl⟩)
  | false =>
  have hsm : m + 1 ≤ 17 := by
    rw [ilt_say] at hs
    have hs := of_decide_eq_false hs
    simp only [Int.ofNat_eq_natCast] at hs
    omega
  have n1 : (!(!(ilt 17 (Int.ofNat (m + 1))))) = false := by rw [hs]; rfl
  have k0 := hk
  rw [Bool.and_eq_true] at k0
  obtain ⟨k1, k2⟩ := k0
  have hf : List.all (cells3 l) (flat 3) = true := cells3_flat l
  have okc : okT ts3 (cells3 l) (m + 1) := okT_of (T := ts3) hl (by omega) (by omega)
  have c1 : nonC l [] := rfl
  have c2 : rsC l [Value.agg #[gi x, gi y]] := ⟨⟨x, y, rfl, k2⟩, hL⟩
  have c3 : rnC l [Value.agg #[gi a, gi b, gi c, gi d, Value.bool o]] := ⟨⟨a, b, c, d, o, rfl, k1⟩, hL⟩
  have c4 : raC l [Value.agg #[gi x, gi y]] := ⟨x, y, rfl⟩
  have c5 : rnD l [Value.agg #[gi a, gi b, gi c, gi d, Value.bool o]] := ⟨a, b, c, d, o, rfl⟩
  have s1 : ieq (mgE a b c d x y) (firstS [bcE a b c d, szE x y]) = true := ieq_self _
  have s2 : ieq (rkE l [Value.agg #[gi x, gi y]]) (firstS [tabE l, szE x y]) = true := ieq_self _
  have s3 : Value.bool (ieq (rbE l [Value.agg #[gi a, gi b, gi c, gi d, Value.bool o]]) (firstS [tabE l, bcE a b c d])) = Value.bool true := valB rfl
  cases h1 : ieq (firstS [bcE a b c d, szE x y]) 0 with
  | false =>
    have m1 := mg_f (o := o) h1
    cases h2 : ieq (firstS [tabE l, szE x y]) 0 with
    | false =>
      have m2 := rk_f h2
      cases h3 : ieq (firstS [tabE l, bcE a b c d]) 0 with
      | false =>
        have m3 := rb_f (o := o) h3
        refine CallJ.ofR mixed orcMg_ok askMg_ok (Eq.mpr (lw_000 es l m k e row a b c d o x y _) ?_)
        simp only [dec3W]
        repeat' (first | assumption | exact rfl | exact trivial | apply And.intro)
      | true =>
        have m3 := rb_t (o := o) h3
        refine CallJ.ofR mixed orcMg_ok askMg_ok (Eq.mpr (lw_001 es l m k e row a b c d o x y _) ?_)
        simp only [dec3W]
        repeat' (first | assumption | exact rfl | exact trivial | apply And.intro)
    | true =>
      have m2 := rk_t h2
      cases h3 : ieq (firstS [tabE l, bcE a b c d]) 0 with
      | false =>
        have m3 := rb_f (o := o) h3
        refine CallJ.ofR mixed orcMg_ok askMg_ok (Eq.mpr (lw_010 es l m k e row a b c d o x y _) ?_)
        simp only [dec3W]
        repeat' (first | assumption | exact rfl | exact trivial | apply And.intro)
      | true =>
        have m3 := rb_t (o := o) h3
        refine CallJ.ofR mixed orcMg_ok askMg_ok (Eq.mpr (lw_011 es l m k e row a b c d o x y _) ?_)
        simp only [dec3W]
        repeat' (first | assumption | exact rfl | exact trivial | apply And.intro)
  | true =>
    have m1 := mg_t (o := o) h1
    cases h2 : ieq (firstS [tabE l, szE x y]) 0 with
    | false =>
      have m2 := rk_f h2
      cases h3 : ieq (firstS [tabE l, bcE a b c d]) 0 with
      | false =>
        have m3 := rb_f (o := o) h3
        refine CallJ.ofR mixed orcMg_ok askMg_ok (Eq.mpr (lw_100 es l m k e row a b c d o x y _) ?_)
        simp only [dec3W]
        repeat' (first | assumption | exact rfl | exact trivial | apply And.intro)
      | true =>
        have m3 := rb_t (o := o) h3
        refine CallJ.ofR mixed orcMg_ok askMg_ok (Eq.mpr (lw_101 es l m k e row a b c d o x y _) ?_)
        simp only [dec3W]
        repeat' (first | assumption | exact rfl | exact trivial | apply And.intro)
    | true =>
      have m2 := rk_t h2
      cases h3 : ieq (firstS [tabE l, bcE a b c d]) 0 with
      | false =>
        have m3 := rb_f (o := o) h3
        refine CallJ.ofR mixed orcMg_ok askMg_ok (Eq.mpr (lw_110 es l m k e row a b c d o x y _) ?_)
        simp only [dec3W]
        repeat' (first | assumption | exact rfl | exact trivial | apply And.intro)
      | true =>
        have m3 := rb_t (o := o) h3
        refine CallJ.ofR mixed orcMg_ok askMg_ok (Eq.mpr (lw_111 es l m k e row a b c d o x y _) ?_)
        simp only [dec3W]
        repeat' (first | assumption | exact rfl | exact trivial | apply And.intro)
end
end Go.Proofs.YtihnnmejkpddeaaGreatDoor
