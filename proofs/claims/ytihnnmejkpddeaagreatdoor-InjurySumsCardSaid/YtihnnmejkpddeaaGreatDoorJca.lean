/-
  OWN WORK. Stage 6: the law of sums: true for all series, limits and shifts.
-/
import Derived.Test.YtihnnmejkpddeaaGreatDoorJcZ2
namespace Go.Proofs.YtihnnmejkpddeaaGreatDoor
open Go Go.Am

theorem ieq_of {x y : Int} (h : x = y) : ieq x y = true := by rw [h, ieq_self]
theorem shB_zero {m : Nat} (h : shB (m + 1) = true) : m + 1 ≤ 40 ∨ m + 1 = 129 := by
  unfold shB at h
  rw [ilt_say, ieq_dec] at h
  by_cases h1 : m + 1 ≤ 40
  · exact .inl h1
  · rw [decide_eq_true (show (40 : Int) < Int.ofNat (m + 1) by simp only [Int.ofNat_eq_natCast]; omega)] at h
    have h := of_decide_eq_true h
    simp only [Int.ofNat_eq_natCast] at h
    exact .inr (by omega)
theorem pa_ff (a b : List Int) {m m' : Nat} (hl : a.length = m + 1) (hl' : b.length = m' + 1) : firstS [serE a, serE b, whenS (!(ieq (Int.ofNat (m + 1)) (Int.ofNat (m' + 1)))) 2] = pairE a b := by
  unfold pairE; rw [hl, hl']
theorem cmC_sh {a b : List Int} {m : Nat} (hl : a.length = m + 1) (u v : Int) (h : m + 1 ≤ 40 ∨ m + 1 = 129) : cmC a b [.agg #[gi u, gi v]] := by
  refine ⟨rfl, fun h0 => ?_⟩
  have h0 : cmE a b u v = 0 := h0
  have := (ser_zero ((firstS_none ((firstS_none h0) (pairE a b) (.head _))) (serE a) (.head _))).2
  omega
theorem best_meet {a b : List Int} {u v : Int} {m : Nat} (hl : a.length = m + 1) (hl' : b.length = m + 1) (ba : bdU a) (bb : bdU b) (hu : lim1 u) (hv : lim1 v) :
    (mxG (cmL a b u v)) = (bsP (coR u v a b)).1 ∧ idxB (eqP (mxG (cmL a b u v))) (cmL a b u v) 0 = Int.ofNat (bsP (coR u v a b)).2 := by
  have e : cmL a b u v = coR u v a b := by
    show coL u v (a.map abP) (b.map abP) = coL u v (a.map abR) (b.map abR)
    rw [ab_map ba, ab_map bb]
  have ok : ∀ y ∈ coR u v a b, okR y := coL_ok hu hv (ab_bd ba) (ab_bd bb)
  have len := coR_len (u := u) (v := v) hl hl'
  rw [e]
  generalize coR u v a b = L at ok len
  match L, len with
  | y :: r, _ =>
    have h := bs_all ok
    exact ⟨h.1.symm, h.2⟩
theorem si_same {l : List Int} {m : Nat} (hl : l.length = m + 1) (h1 : m + 1 ≤ 65536) : siC [liP (m + 1) (m + 1), slQ (m + 1) (m + 1)] [(l.map gi, 3, 2), (l.map gi, 3, 2)] :=
  .inr ⟨l, m, m + 1, 3, 2, m + 1, 3, 2, rfl, rfl, by omega, h1⟩
section
variable (es : Nat → TypeId) (u v x : Int)
set_option maxRecDepth 100000 in
theorem sums_nn : CallJ Tryz.prog 5 #[nilS, nilS, jnV u v x] (lB es) (fun v _ => v = .bool true) := by
  refine callC_ok mixed orcLn_ok askLn_ok (Eq.mpr (sm_nn es u v x _) ?_)
  rw [firstS_bad (r := [limE u v]) (show (12 : Int) ≠ 0 by decide), firstS_bad (r := [withinS x (-1000) 1000]) (show (12 : Int) ≠ 0 by decide)]
  exact ⟨rfl, rfl, rfl, rfl, rfl, trivial, rfl, rfl, rfl, rfl, trivial, rfl, rfl, rfl, rfl, rfl, rfl, rfl, trivial, .inl ⟨rfl, rfl⟩, rfl, rfl⟩
set_option maxRecDepth 100000 in
theorem sums_ne (q : Nat) : CallJ Tryz.prog 5 #[nilS, .slice (some ⟨Tryz.prog.globals.size, 0, none⟩) 0 q, jnV u v x] (lD (lB es)) (fun v _ => v = .bool true) := by
  refine callC_ok mixed orcLn_ok askLn_ok (Eq.mpr (sm_ne es q u v x _) ?_)
  rw [firstS_bad (r := [limE u v]) (show (12 : Int) ≠ 0 by decide), firstS_bad (r := [withinS x (-1000) 1000]) (show (12 : Int) ≠ 0 by decide)]
  exact ⟨rfl, rfl, rfl, rfl, rfl, trivial, rfl, rfl, rfl, rfl, trivial, rfl, rfl, rfl, rfl, rfl, rfl, rfl, trivial, .inl ⟨rfl, rfl⟩, rfl, rfl⟩
set_option maxRecDepth 100000 in
theorem sums_en (p : Nat) : CallJ Tryz.prog 5 #[.slice (some ⟨Tryz.prog.globals.size, 0, none⟩) 0 p, nilS, jnV u v x] (lD (lB es)) (fun v _ => v = .bool true) := by
  refine callC_ok mixed orcLn_ok askLn_ok (Eq.mpr (sm_en es p u v x _) ?_)
  rw [firstS_bad (r := [limE u v]) (show (12 : Int) ≠ 0 by decide), firstS_bad (r := [withinS x (-1000) 1000]) (show (12 : Int) ≠ 0 by decide)]
  exact ⟨rfl, rfl, rfl, rfl, rfl, trivial, rfl, rfl, rfl, rfl, trivial, rfl, rfl, rfl, rfl, rfl, rfl, rfl, trivial, .inl ⟨rfl, rfl⟩, rfl, rfl⟩
set_option maxRecDepth 100000 in
theorem sums_ee (p q : Nat) : CallJ Tryz.prog 5 #[.slice (some ⟨Tryz.prog.globals.size, 0, none⟩) 0 p, .slice (some ⟨Tryz.prog.globals.size + 1, 0, none⟩) 0 q, jnV u v x] (lD (lD (lB es))) (fun v _ => v = .bool true) := by
  refine callC_ok mixed orcLn_ok askLn_ok (Eq.mpr (sm_ee es p q u v x _) ?_)
  rw [firstS_bad (r := [limE u v]) (show (12 : Int) ≠ 0 by decide), firstS_bad (r := [withinS x (-1000) 1000]) (show (12 : Int) ≠ 0 by decide)]
  exact ⟨rfl, rfl, rfl, rfl, rfl, trivial, rfl, rfl, rfl, rfl, trivial, rfl, rfl, rfl, rfl, rfl, rfl, rfl, trivial, .inl ⟨rfl, rfl⟩, rfl, rfl⟩
set_option maxRecDepth 100000 in
theorem sums_fn (a : List Int) (k e row : Nat) (h0 : 0 < a.length) : CallJ Tryz.prog 5 #[liP a.length k, nilS, jnV u v x] (lI (lB es) a e row) (fun v _ => v = .bool true) := by
  obtain ⟨m, hl⟩ : ∃ m, a.length = m + 1 := ⟨a.length - 1, by omega⟩
  rw [hl]
  cases hs : shB (m + 1) with
  | false => exact callC_ok mixed orcLf_ok askLf_ok (Eq.mpr (sm_fn1 es a m k e row u v x _) ⟨⟨flat_ints a, trivial⟩, by rw [hs]; rfl, rfl⟩)
  | true =>
    have h1 := shB_zero hs
    have oa := okI hl (by omega)
    have ns : (!(shB (m + 1))) = false := by rw [hs]; rfl
    refine callC_ok mixed orcLf_ok askLf_ok (Eq.mpr (sm_fn0 es a m k e row u v x _) ?_)
    repeat rw [decT]
    rw [pa_nil a hl, bad_fe a [limE u v], bad_fe a [withinS x (-1000) 1000]]
    exact ⟨⟨flat_ints a, trivial⟩, ns, rfl, ⟨flat_ints a, trivial⟩, oa, rfl, rfl, rfl, rfl, rfl, ⟨flat_ints a, trivial⟩, oa, rfl, rfl, ⟨flat_ints a, trivial⟩, oa, rfl, rfl, rfl, ⟨flat_ints a, trivial⟩, oa, rfl, ⟨flat_ints a, trivial⟩, oa, rfl, rfl, rfl, rfl, ieq_ne (pair_fe a), ieq_ne (pair_fe a), ieq_self _, trivial, .inl ⟨rfl, rfl⟩, ieq_self _, rfl⟩
set_option maxRecDepth 100000 in
theorem sums_fe (q : Nat) (a : List Int) (k e row : Nat) (h0 : 0 < a.length) : CallJ Tryz.prog 5 #[liP a.length k, .slice (some ⟨Tryz.prog.globals.size + 1, 0, none⟩) 0 q, jnV u v x] (lD (lI (lB es) a e row)) (fun v _ => v = .bool true) := by
  obtain ⟨m, hl⟩ : ∃ m, a.length = m + 1 := ⟨a.length - 1, by omega⟩
  rw [hl]
  cases hs : shB (m + 1) with
  | false => exact callC_ok mixed orcLf_ok askLf_ok (Eq.mpr (sm_fe1 es a m k e row q u v x _) ⟨⟨flat_ints a, trivial⟩, by rw [hs]; rfl, rfl⟩)
  | true =>
    have h1 := shB_zero hs
    have oa := okI hl (by omega)
    have ns : (!(shB (m + 1))) = false := by rw [hs]; rfl
    refine callC_ok mixed orcLf_ok askLf_ok (Eq.mpr (sm_fe0 es a m k e row q u v x _) ?_)
    repeat rw [decT]
    rw [pa_nil a hl, bad_fe a [limE u v], bad_fe a [withinS x (-1000) 1000]]
    exact ⟨⟨flat_ints a, trivial⟩, ns, rfl, ⟨flat_ints a, trivial⟩, oa, rfl, rfl, rfl, rfl, rfl, ⟨flat_ints a, trivial⟩, oa, rfl, rfl, ⟨flat_ints a, trivial⟩, oa, rfl, rfl, rfl, ⟨flat_ints a, trivial⟩, oa, rfl, ⟨flat_ints a, trivial⟩, oa, rfl, rfl, rfl, rfl, ieq_ne (pair_fe a), ieq_ne (pair_fe a), ieq_self _, trivial, .inl ⟨rfl, rfl⟩, ieq_self _, rfl⟩
set_option maxRecDepth 100000 in
theorem sums_nf (a : List Int) (k e row : Nat) (h0 : 0 < a.length) : CallJ Tryz.prog 5 #[nilS, liP a.length k, jnV u v x] (lI (lB es) a e row) (fun v _ => v = .bool true) := by
  obtain ⟨m, hl⟩ : ∃ m, a.length = m + 1 := ⟨a.length - 1, by omega⟩
  rw [hl]
  cases hs : shB (m + 1) with
  | false => exact callC_ok mixed orcLe_ok askLe_ok (Eq.mpr (sm_nf1 es a m k e row u v x _) ⟨⟨flat_ints a, trivial⟩, by rw [hs]; rfl, rfl⟩)
  | true =>
    have h1 := shB_zero hs
    have oa := okI hl (by omega)
    have ns : (!(shB (m + 1))) = false := by rw [hs]; rfl
    refine callC_ok mixed orcLe_ok askLe_ok (Eq.mpr (sm_nf0 es a m k e row u v x _) ?_)
    repeat rw [decT]
    rw [nil_pa a hl, bad_ef a [limE u v], bad_ef a [withinS x (-1000) 1000]]
    exact ⟨⟨flat_ints a, trivial⟩, ns, rfl, rfl, rfl, ⟨flat_ints a, trivial⟩, oa, rfl, rfl, rfl, ⟨flat_ints a, trivial⟩, oa, rfl, rfl, rfl, ⟨flat_ints a, trivial⟩, oa, rfl, rfl, ⟨flat_ints a, trivial⟩, oa, rfl, ⟨flat_ints a, trivial⟩, oa, rfl, rfl, rfl, rfl, ieq_ne (pair_ef a), ieq_ne (pair_ef a), ieq_self _, trivial, .inl ⟨rfl, rfl⟩, ieq_self _, rfl⟩
set_option maxRecDepth 100000 in
theorem sums_ef (q : Nat) (a : List Int) (k e row : Nat) (h0 : 0 < a.length) : CallJ Tryz.prog 5 #[.slice (some ⟨Tryz.prog.globals.size, 0, none⟩) 0 q, slQ a.length k, jnV u v x] (lI (lD (lB es)) a e row) (fun v _ => v = .bool true) := by
  obtain ⟨m, hl⟩ : ∃ m, a.length = m + 1 := ⟨a.length - 1, by omega⟩
  rw [hl]
  cases hs : shB (m + 1) with
  | false => exact callC_ok mixed orcLe_ok askLe_ok (Eq.mpr (sm_ef1 es a m k e row q u v x _) ⟨⟨flat_ints a, trivial⟩, by rw [hs]; rfl, rfl⟩)
  | true =>
    have h1 := shB_zero hs
    have oa := okI hl (by omega)
    have ns : (!(shB (m + 1))) = false := by rw [hs]; rfl
    refine callC_ok mixed orcLe_ok askLe_ok (Eq.mpr (sm_ef0 es a m k e row q u v x _) ?_)
    repeat rw [decT]
    rw [nil_pa a hl, bad_ef a [limE u v], bad_ef a [withinS x (-1000) 1000]]
    exact ⟨⟨flat_ints a, trivial⟩, ns, rfl, rfl, rfl, ⟨flat_ints a, trivial⟩, oa, rfl, rfl, rfl, ⟨flat_ints a, trivial⟩, oa, rfl, rfl, rfl, ⟨flat_ints a, trivial⟩, oa, rfl, rfl, ⟨flat_ints a, trivial⟩, oa, rfl, ⟨flat_ints a, trivial⟩, oa, rfl, rfl, rfl, rfl, ieq_ne (pair_ef a), ieq_ne (pair_ef a), ieq_self _, trivial, .inl ⟨rfl, rfl⟩, ieq_self _, rfl⟩
set_option maxRecDepth 100000 in
theorem sums_ff (a b : List Int) (k e row k' e' row' : Nat) (h0 : 0 < a.length) (h0' : 0 < b.length) : CallJ Tryz.prog 5 #[liP a.length k, slQ b.length k', jnV u v x] (lI (lI (lB es) a e row) b e' row') (fun v _ => v = .bool true) := by
  obtain ⟨m, hl⟩ : ∃ m, a.length = m + 1 := ⟨a.length - 1, by omega⟩
  obtain ⟨m', hl'⟩ : ∃ m', b.length = m' + 1 := ⟨b.length - 1, by omega⟩
  rw [hl, hl']
  cases hs : shB (m + 1) with
  | false => exact callC_ok mixed orcLs_ok (askLs_ok true true 0) (Eq.mpr (sm_na es a b m k e row m' k' e' row' u v x _) ⟨⟨flat_ints a, trivial⟩, by rw [hs]; rfl, rfl⟩)
  | true =>
  have h1 := shB_zero hs
  have oa := okI hl (by omega)
  have nsa : (!(shB (m + 1))) = false := by rw [hs]; rfl
  cases hs' : shB (m' + 1) with
  | false => exact callC_ok mixed orcLs_ok (askLs_ok true true 0) (Eq.mpr (sm_nb es a b m k e row m' k' e' row' u v x _) ⟨⟨flat_ints a, trivial⟩, nsa, ⟨flat_ints b, trivial⟩, by rw [hs']; rfl, rfl⟩)
  | true =>
  have h1' := shB_zero hs'
  have ob := okI hl' (by omega)
  have nsb : (!(shB (m' + 1))) = false := by rw [hs']; rfl
  have cC := cmC_sh (b := b) hl u v h1
  have hk : m + 1 ≤ 65536 := by omega
  cases hc : ieq (cmE a b u v) 0 with
  | false =>
    cases hm : ieq (mmE a b x) 0 with
    | false =>
      refine callC_ok mixed orcLs_ok (askLs_ok false false (m + 1)) (Eq.mpr (sm_00 es a b m k e row m' k' e' row' u v x _) ?_)
      repeat rw [decT]
      rw [pa_ff a b hl hl']
      exact ⟨⟨flat_ints a, trivial⟩, nsa, ⟨flat_ints b, trivial⟩, nsb, rfl, ⟨flat_ints a, trivial⟩, oa, rfl, rfl, rfl, ⟨flat_ints b, trivial⟩, ob, rfl, rfl, rfl, ⟨flat_ints a, flat_ints b, trivial⟩, oa, ob, ⟨cC, hc⟩, rfl, ⟨flat_ints a, trivial⟩, oa, rfl, rfl, ⟨flat_ints b, trivial⟩, ob, rfl, rfl, ⟨flat_ints a, flat_ints b, trivial⟩, oa, ob, ⟨⟨rfl, hl⟩, hm⟩, ⟨flat_ints a, trivial⟩, oa, rfl, ⟨flat_ints b, trivial⟩, ob, rfl, rfl, rfl, rfl, hc, hm, rfl, rfl, ieq_self _, trivial, .inl ⟨rfl, rfl⟩, ieq_self _, rfl⟩
    | true =>
      have mz : mmE a b x = 0 := by rw [ieq_dec] at hm; exact of_decide_eq_true hm
      obtain ⟨⟨ba, bb, hab⟩, hx⟩ := mm_zero mz
      obtain rfl : m' = m := by omega
      refine callC_ok mixed orcLs_ok (askLs_ok false true (m' + 1)) (Eq.mpr (sm_01 es a b m' k e row k' e' row' u v x _) ?_)
      repeat rw [decT]
      rw [pa_ff a b hl hl']
      exact ⟨⟨flat_ints a, trivial⟩, nsa, ⟨flat_ints b, trivial⟩, nsb, rfl, ⟨flat_ints a, trivial⟩, oa, rfl, rfl, rfl, ⟨flat_ints b, trivial⟩, ob, rfl, rfl, rfl, ⟨flat_ints a, flat_ints b, trivial⟩, oa, ob, ⟨cC, hc⟩, rfl, ⟨flat_ints a, trivial⟩, oa, rfl, rfl, ⟨flat_ints b, trivial⟩, ob, rfl, rfl, ⟨flat_ints a, flat_ints b, trivial⟩, oa, ob, ⟨⟨rfl, hl⟩, hm⟩, ⟨flat_ints a, trivial⟩, oa, rfl, ⟨flat_ints b, trivial⟩, ob, rfl, rfl, rfl, rfl, hc, hm, ⟨flat_ints a, flat_ints b, trivial⟩, oa, ob, ⟨hl, rfl, hab, ba, bb, hx⟩, rfl, rfl, ieq_self _, ⟨flat_ints _, flat_ints _, trivial⟩, si_same (moL_len hl hl') hk, ieq_of mz.symm, rfl⟩
  | true =>
    have cz : cmE a b u v = 0 := by rw [ieq_dec] at hc; exact of_decide_eq_true hc
    obtain ⟨⟨ba, bb, hab⟩, hu, hv⟩ := cm_zero cz
    obtain rfl : m' = m := by omega
    have be := best_meet hl hl' ba bb hu hv
    cases hm : ieq (mmE a b x) 0 with
    | false =>
      refine callC_ok mixed orcLs_ok (askLs_ok true false (m' + 1)) (Eq.mpr (sm_10 es a b m' k e row k' e' row' u v x _) ?_)
      repeat rw [decT]
      rw [pa_ff a b hl hl']
      exact ⟨⟨flat_ints a, trivial⟩, nsa, ⟨flat_ints b, trivial⟩, nsb, rfl, ⟨flat_ints a, trivial⟩, oa, rfl, rfl, rfl, ⟨flat_ints b, trivial⟩, ob, rfl, rfl, rfl, ⟨flat_ints a, flat_ints b, trivial⟩, oa, ob, ⟨cC, hc⟩, rfl, ⟨flat_ints a, trivial⟩, oa, rfl, rfl, ⟨flat_ints b, trivial⟩, ob, rfl, rfl, ⟨flat_ints a, flat_ints b, trivial⟩, oa, ob, ⟨⟨rfl, hl⟩, hm⟩, ⟨flat_ints a, trivial⟩, oa, rfl, ⟨flat_ints b, trivial⟩, ob, rfl, rfl, rfl, rfl, hc, ⟨flat_ints a, flat_ints b, trivial⟩, oa, ob, ⟨rfl, hab, ba, bb, hu, hv⟩, hm, by rw [be.1, ieq_self, ieq_self]; rfl, by rw [be.2, ieq_self], ieq_of cz.symm, trivial, .inl ⟨rfl, rfl⟩, ieq_self _, rfl⟩
    | true =>
      have mz : mmE a b x = 0 := by rw [ieq_dec] at hm; exact of_decide_eq_true hm
      obtain ⟨_, hx⟩ := mm_zero mz
      refine callC_ok mixed orcLs_ok (askLs_ok true true (m' + 1)) (Eq.mpr (sm_11 es a b m' k e row k' e' row' u v x _) ?_)
      repeat rw [decT]
      rw [pa_ff a b hl hl']
      exact ⟨⟨flat_ints a, trivial⟩, nsa, ⟨flat_ints b, trivial⟩, nsb, rfl, ⟨flat_ints a, trivial⟩, oa, rfl, rfl, rfl, ⟨flat_ints b, trivial⟩, ob, rfl, rfl, rfl, ⟨flat_ints a, flat_ints b, trivial⟩, oa, ob, ⟨cC, hc⟩, rfl, ⟨flat_ints a, trivial⟩, oa, rfl, rfl, ⟨flat_ints b, trivial⟩, ob, rfl, rfl, ⟨flat_ints a, flat_ints b, trivial⟩, oa, ob, ⟨⟨rfl, hl⟩, hm⟩, ⟨flat_ints a, trivial⟩, oa, rfl, ⟨flat_ints b, trivial⟩, ob, rfl, rfl, rfl, rfl, hc, ⟨flat_ints a, flat_ints b, trivial⟩, oa, ob, ⟨rfl, hab, ba, bb, hu, hv⟩, hm, ⟨flat_ints a, flat_ints b, trivial⟩, oa, ob, ⟨hl, rfl, hab, ba, bb, hx⟩, by rw [be.1, ieq_self, ieq_self]; rfl, by rw [be.2, ieq_self], ieq_of cz.symm, ⟨flat_ints _, flat_ints _, trivial⟩, si_same (moL_len hl hl') hk, ieq_of mz.symm, rfl⟩
end
end Go.Proofs.YtihnnmejkpddeaaGreatDoor
