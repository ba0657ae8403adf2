/-
  OWN WORK. Gates: the law on the abstract machine: true for all gates and places.
-/
import Derived.Test.YtclohbagdmelbaaGreatDoorGtK
namespace Go.Proofs.YtclohbagdmelbaaGreatDoor
open Go Go.Am

theorem two_eq (x y : Int) : Value.bool (ieq x x && (ieq y y && true)) = Value.bool true := by rw [ieq_self, ieq_self]; rfl
section
variable {a b c d : Int}
theorem ov_no (h : ieq (ovE a b c d) 0 = false) : Value.bool (ieq (ovX a b c d) 0 && (ieq (ovY a b c d) 0 && true)) = Value.bool true ∧ ieq (ovZ a b c d) (ovE a b c d) = true := by
  unfold ovX ovY ovZ ovB
  rw [h]
  exact ⟨rfl, ieq_self _⟩
theorem sd_no {l : List P3} (h : chkE l ≠ 0) : Value.bool (ieq (sdA l) 0 && (ieq (sdB l) 0 && true)) = Value.bool true ∧ ieq (sdZ l) (chkE l) = true := by
  unfold sdA sdB sdZ
  rw [ieq_ne h]
  exact ⟨rfl, ieq_self _⟩
variable (es : Nat → TypeId) (a b c d)
set_option maxRecDepth 100000 in
theorem speeds_nil : CallJ Tryz.prog 3 #[nilS, ag4 a b c d] (base tabs4 es Tryz.prog.globals.size) (fun v _ => v = .bool true) := by
  cases h : ieq (ovE a b c d) 0 with
  | true => exact callC_ok mixed orcTn_ok askTn_ok (Eq.mpr (lw_nil_t es a b c d _) ⟨rfl, rfl, rfl, h, h, two_eq _ _, ieq_self _, rfl⟩)
  | false => exact callC_ok mixed orcTn_ok askTn_ok (Eq.mpr (lw_nil_f es a b c d _) ⟨rfl, rfl, rfl, h, (ov_no h).1, (ov_no h).2, rfl⟩)
set_option maxRecDepth 100000 in
theorem speeds_emp (k : Nat) : CallJ Tryz.prog 3 #[.slice (some ⟨Tryz.prog.globals.size, 0, none⟩) 0 k, ag4 a b c d] ((base tabs4 es Tryz.prog.globals.size).push .dead) (fun v _ => v = .bool true) := by
  cases h : ieq (ovE a b c d) 0 with
  | true => exact callC_ok mixed orcTn_ok askTn_ok (Eq.mpr (lw_emp_t es k a b c d _) ⟨rfl, rfl, rfl, h, h, two_eq _ _, ieq_self _, rfl⟩)
  | false => exact callC_ok mixed orcTn_ok askTn_ok (Eq.mpr (lw_emp_f es k a b c d _) ⟨rfl, rfl, rfl, h, (ov_no h).1, (ov_no h).2, rfl⟩)
set_option maxRecDepth 100000 in
theorem speeds_full (l : List P3) (k e row : Nat) (h0 : 0 < l.length) : CallJ Tryz.prog 3 #[liP l.length k, ag4 a b c d] (argG es l e row) (fun v _ => v = .bool true) := by
  obtain ⟨p, t, rfl⟩ : ∃ p t, l = p :: t := by
    match l, h0 with
    | p :: t, _ => exact ⟨p, t, rfl⟩
  show CallJ _ _ #[liP (t.length + 1) k, _] _ _
  cases hs : ilt 9 (Int.ofNat (t.length + 1)) with
  | true => exact callC_ok mixed orcTz_ok (askTz_ok true) (Eq.mpr (lw_long es (p :: t) a b c d t.length k e row _) ⟨hs, rfl⟩)
  | false =>
    have hle : t.length + 1 ≤ 9 := by
      rw [ilt_say] at hs
      have := of_decide_eq_false hs
      simp only [Int.ofNat_eq_natCast] at this
      omega
    have hf : (List.all (cells3 (p :: t)) (flat 3) = true ∧ True) := ⟨cells3_flat _, trivial⟩
    have hn : (0 : Nat) < t.length + 1 ∧ (p :: t).length = t.length + 1 ∧ t.length + 1 ≤ 65536 := ⟨Nat.succ_pos _, rfl, by omega⟩
    have hck : ckC (p :: t) [] := ⟨rfl, by simp, by simpa using hle⟩
    have hsp : spC [liP (t.length + 1) (t.length + 1)] [(cells3 (p :: t), 54, 4)] (p :: t) := ⟨_, _, rfl, rfl, rfl, hle⟩
    by_cases hc : chkE (p :: t) = 0
    · obtain ⟨p', q, r, e', h6, _, _⟩ := chk_ok hc
      cases e'
      have hz : ieq (chkE (p :: q :: r)) 0 = true := by rw [hc]; rfl
      have hz' : ieq 0 (chkE (p :: q :: r)) = true := by rw [hc]; rfl
      have hv : ckV (p :: q :: r) [] := ⟨rfl, hc⟩
      have hg : List.all (cellsP (spF p (q :: r))) (flat 3) = true := cellsP_flat _
      have hsi : siC [liP (r.length + 1) (r.length + 1), .slice (some ⟨Tryz.prog.globals.size + 1, 0, none⟩) (r.length + 1) (r.length + 1)] [(cellsP (spF p (q :: r)), 34, 3), (cellsP (spF p (q :: r)), 34, 3)] :=
        .inr ⟨_, _, _, _, _, _, _, _, rfl, rfl, spF_len _ _, by omega⟩
      cases h : ieq (ovE a b c d) 0 with
      | true => exact callC_ok mixed orcTz_ok (askTz_ok true) (Eq.mpr (lw_vt es (p :: q :: r) a b c d _ k e row _) ⟨hs, hf, rfl, _, rfl, hn, _, _, rfl, hck, hf, _, _, _, hsp, hc, hf, rfl, _, rfl, hn, _, _, rfl, hck, hf, _, hsp, hf, rfl, _, rfl, hn, hck, rfl, rfl, rfl, hz, hf, rfl, _, rfl, hn, _, _, _, rfl, hv, hf, rfl, _, rfl, hn, hv, h, h, hf, rfl, _, rfl, hn, _, _, rfl, hck, hf, rfl, _, rfl, hn, hck, ieq_self _, ⟨hg, hg, trivial⟩, hsi, hz', two_eq _ _, ieq_self _, two_eq _ _, ieq_self _, rfl⟩)
      | false => exact callC_ok mixed orcTz_ok (askTz_ok true) (Eq.mpr (lw_vf es (p :: q :: r) a b c d _ k e row _) ⟨hs, hf, rfl, _, rfl, hn, _, _, rfl, hck, hf, _, _, _, hsp, hc, hf, rfl, _, rfl, hn, _, _, rfl, hck, hf, _, hsp, hf, rfl, _, rfl, hn, hck, rfl, rfl, rfl, hz, hf, rfl, _, rfl, hn, _, _, _, rfl, hv, hf, rfl, _, rfl, hn, hv, h, hf, rfl, _, rfl, hn, _, _, rfl, hck, hf, rfl, _, rfl, hn, hck, ieq_self _, ⟨hg, hg, trivial⟩, hsi, hz', two_eq _ _, ieq_self _, (ov_no h).1, (ov_no h).2, rfl⟩)
    · have hz : ieq (chkE (p :: t)) 0 = false := ieq_ne hc
      have hsi : siC [nilS, nilS] [] := .inl ⟨rfl, rfl⟩
      cases h : ieq (ovE a b c d) 0 with
      | true => exact callC_ok mixed orcTz_ok (askTz_ok false) (Eq.mpr (lw_it es (p :: t) a b c d _ k e row _) ⟨hs, hf, rfl, _, rfl, hn, _, _, rfl, hck, hf, _, hsp, hc, hf, rfl, _, rfl, hn, _, _, rfl, hck, hf, _, hsp, hf, rfl, _, rfl, hn, hck, rfl, rfl, rfl, hz, h, h, hf, rfl, _, rfl, hn, _, _, rfl, hck, hf, rfl, _, rfl, hn, hck, ieq_self _, trivial, hsi, ieq_self _, (sd_no hc).1, (sd_no hc).2, two_eq _ _, ieq_self _, rfl⟩)
      | false => exact callC_ok mixed orcTz_ok (askTz_ok false) (Eq.mpr (lw_if es (p :: t) a b c d _ k e row _) ⟨hs, hf, rfl, _, rfl, hn, _, _, rfl, hck, hf, _, hsp, hc, hf, rfl, _, rfl, hn, _, _, rfl, hck, hf, _, hsp, hf, rfl, _, rfl, hn, hck, rfl, rfl, rfl, hz, h, hf, rfl, _, rfl, hn, _, _, rfl, hck, hf, rfl, _, rfl, hn, hck, ieq_self _, trivial, hsi, ieq_self _, (sd_no hc).1, (sd_no hc).2, (ov_no h).1, (ov_no h).2, rfl⟩)
end
end Go.Proofs.YtclohbagdmelbaaGreatDoor
