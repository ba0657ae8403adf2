/-
  OWN WORK. Farther walls: what the law says, about numbers.
-/
import Derived.Test.YtfkiiacbchbgdaaGreatDoorFaE
namespace Go.Proofs.YtfkiiacbchbgdaaGreatDoor
open Go Go.Am

section
variable {l : List Int} {a b c d : Int} {W : Nat}
noncomputable abbrev uT (l : List Int) (a : Int) (W : Nat) : List Int := (rnL a 0 l).take (W + 1)
theorem u_len (hW : W ≤ l.length) : (uT l a W).length = W + 1 := by rw [List.length_take, rnL_len]; omega
theorem u_get {j : Nat} (h : j ≤ W) : (uT l a W).getD j 0 = (rnL a 0 l).getD j 0 := by
  rw [List.getD_eq_getElem?_getD, List.getElem?_take, if_pos (by omega), ← List.getD_eq_getElem?_getD]
theorem set_get {L : List Int} {i j : Nat} {v : Int} : (L.set i v).getD j 0 = if i = j ∧ j < L.length then v else L.getD j 0 := by
  rw [List.getD_eq_getElem?_getD, List.getElem?_set, List.getD_eq_getElem?_getD]
  by_cases h : i = j
  · subst h
    by_cases h2 : i < L.length
    · simp [h2]
    · simp [h2]
  · simp [h]
theorem mem_get {L : List Int} {y : Int} (h : y ∈ L) : ∃ j, j < L.length ∧ y = L.getD j 0 := by
  obtain ⟨j, hj, rfl⟩ := List.mem_iff_getElem.1 h
  exact ⟨j, hj, by rw [List.getD_eq_getElem?_getD, List.getElem?_eq_getElem hj]; rfl⟩
theorem u_bd (hc : ctE l.length l (a, b, c, d, Int.ofNat W) = 0) (j : Nat) : 0 ≤ (rnL a 0 l).getD j 0 ∧ (rnL a 0 l).getD j 0 ≤ 6400000 := by
  obtain ⟨k1, k2, k3, k4, k5, k6⟩ := ctE_zero hc
  obtain ⟨q1, q2⟩ := rn_bd k3.1 l 0 j k2 (Int.le_refl 0)
  exact ⟨q1, by omega⟩
theorem u_W (hc : ctE l.length l (a, b, c, d, Int.ofNat W) = 0) : 1 ≤ W ∧ W ≤ l.length ∧ l.length ≤ 64 := by
  obtain ⟨k1, k2, k3, k4, k5, k6⟩ := ctE_zero hc
  simp only [Int.ofNat_eq_natCast] at k5 k6
  omega
theorem u_mem (hc : ctE l.length l (a, b, c, d, Int.ofNat W) = 0) : ∀ y ∈ uT l a W, 0 ≤ y ∧ y ≤ 100000000 := by
  intro y hy
  obtain ⟨h1, h2, h3⟩ := u_W hc
  obtain ⟨j, hj, rfl⟩ := mem_get hy
  rw [u_len h2] at hj
  rw [u_get (by omega)]
  have := u_bd hc j
  omega
theorem pv_pre (hc : ctE l.length l (a, b, c, d, Int.ofNat W) = 0) : ∀ j, j < W + 1 → ieq (kV l (uT l a W) (a, b, c, d, Int.ofNat W) (Int.ofNat j)) 0 = true → pvd l (rnL a 0 l) W a b c d (Int.ofNat W) j = true
  | 0, _, _ => rfl
  | j + 1, hj, h => by
    obtain ⟨h1, h2, h3⟩ := u_W hc
    show ieq (kV l (uT l a W) (a, b, c, d, Int.ofNat W) (Int.ofNat j)) 0 = true
    rw [ke_of hc (by omega) (u_len h2) (u_mem hc) (by omega)] at h ⊢
    have p : pvB l (uT l a W) (a, b, c, d, Int.ofNat W) (Int.ofNat (j + 1)) = true := by
      cases e : pvB l (uT l a W) (a, b, c, d, Int.ofNat W) (Int.ofNat (j + 1)) with
      | true => rfl
      | false => rw [e] at h; cases h
    have q : pvB l (uT l a W) (a, b, c, d, Int.ofNat W) (Int.ofNat j) = true := by
      unfold pvB at p ⊢
      rw [Bool.and_eq_true] at p ⊢
      exact ⟨p.1, allB_iff'.2 fun i k1 k2 => allB_iff'.1 p.2 i k1 (by show i < 0 + (j + 1 + 1); have : i < 0 + (j + 1) := k2; omega)⟩
    rw [q]; rfl
theorem pv_no {tab : List Int} {x : Int} (h : allB (stB l tab a) W 0 = false ∨ allB (bdB tab (Int.ofNat W) (c + a)) (Int.toNat x + 1) 0 = false) : whenS (!(pvB l tab (a, b, c, d, Int.ofNat W) x)) 19 = 19 := by
  have e : pvB l tab (a, b, c, d, Int.ofNat W) x = false := by
    unfold pvB
    show (allB (stB l tab a) W 0 && allB (bdB tab (Int.ofNat W) (c + a)) (Int.toNat x + 1) 0) = false
    rcases h with h | h
    · rw [h]; rfl
    · rw [h, Bool.and_false]
  rw [e]; rfl
theorem kv_small (hc : ctE l.length l (a, b, c, d, Int.ofNat W) = 0) {r : Nat} {x : Int} (hr : r < W) (hx : 0 ≤ x) (hv : 0 ≤ (uT l a W).getD (r + 1) 0 - (1 + x)) :
    kV l ((uT l a W).set (r + 1) ((uT l a W).getD (r + 1) 0 - (1 + x))) (a, b, c, d, Int.ofNat W) 0 = 19 := by
  obtain ⟨h1, h2, h3⟩ := u_W hc
  have hl := u_len (a := a) h2
  have hu := u_get (l := l) (a := a) (W := W) (j := r + 1) (by omega)
  have hu0 := u_get (l := l) (a := a) (W := W) (j := r) (by omega)
  have hb := u_bd hc (r + 1)
  have hstep := rn_step a l 0 r (by omega)
  refine (ke_of (j := 0) hc (by omega) (by rw [List.length_set]; exact hl) ?_ (Nat.zero_le _)).trans (pv_no (.inl (allB_no (j := r) hr ?_)))
  · intro y hy
    rcases List.mem_or_eq_of_mem_set hy with hy | rfl
    · exact u_mem hc y hy
    · exact ⟨hv, by omega⟩
  · unfold stB
    rw [nA_get (by rw [List.length_set]; omega), nA_get (by rw [List.length_set]; omega), nA_get (by omega), set_get, set_get, if_pos ⟨rfl, by omega⟩, if_neg (by omega), hu0]
    rw [hu] at hv ⊢
    rw [hstep] at hv ⊢
    rw [ilt_yes]
    · rfl
    · unfold mxN at hv ⊢
      split at hv
      · rename_i h; rw [if_pos h]; omega
      · omega
theorem kv_great (hc : ctE l.length l (a, b, c, d, Int.ofNat W) = 0) : kV l ((uT l a W).set W ((uT l a W).getD W 0 + 1)) (a, b, c, d, Int.ofNat W) (Int.ofNat W) = 19 := by
  obtain ⟨h1, h2, h3⟩ := u_W hc
  have hl := u_len (a := a) h2
  have hu := u_get (l := l) (a := a) (W := W) (j := W) (by omega)
  have hb := u_bd hc W
  refine (ke_of (j := W) hc (by omega) (by rw [List.length_set]; exact hl) ?_ (Nat.le_refl _)).trans (pv_no (.inr (allB_no (j := W) (by show W < W + 1; omega) ?_)))
  · intro y hy
    rcases List.mem_or_eq_of_mem_set hy with hy | rfl
    · exact u_mem hc y hy
    · omega
  · unfold bdB
    rw [nA_get (by rw [List.length_set]; omega), set_get, if_pos ⟨rfl, by omega⟩, Int.sub_self, Int.zero_mul, ilt_yes (by omega)]
    rfl
theorem la_val {w : Int} (hc : ctE l.length l (a, b, c, d, w) = 0) : laA l (a, b, c, d, w) = lastS (sfB l (a, b, c, d, w)) (Int.toNat w + 1) 0 0 := by
  unfold laA laV
  rw [hc]; rfl
theorem sf_iff {w : Int} {j : Nat} (h : j ≤ l.length) : sfB l (a, b, c, d, w) (Int.ofNat j) = true ↔ (rnL a 0 l).getD j 0 ≤ (w - Int.ofNat j) * (c + a) := by
  unfold sfB
  rw [sq_get h, ilt_say]
  simp only [Bool.not_eq_true', decide_eq_false_iff_not, Int.not_lt]
theorem la_strong (hc : ctE l.length l (a, b, c, d, Int.ofNat W) = 0) {c' d' : Int} (h1 : c ≤ c') (h2 : c' ≤ d') (h3 : d' ≤ 100000) : ctE l.length l (a, b, c', d', Int.ofNat W) = 0 ∧ laA l (a, b, c, d, Int.ofNat W) ≤ laA l (a, b, c', d', Int.ofNat W) := by
  obtain ⟨k1, k2, k3, k4, k5, k6⟩ := ctE_zero hc
  obtain ⟨u1, u2, u3⟩ := u_W hc
  have hc' : ctE l.length l (a, b, c', d', Int.ofNat W) = 0 := ct_of (by omega) k1 k2 k3 ⟨by omega, h2, h3⟩ ⟨k5, k6⟩
  refine ⟨hc', ?_⟩
  rw [la_val hc, la_val hc']
  refine last_mono _ _ _ _ (Nat.le_refl _) (fun j _ hj h => ?_) (by simp)
  have hj : j < 0 + (W + 1) := hj
  rw [sf_iff (by omega)] at h ⊢
  refine Int.le_trans h (Int.mul_le_mul_of_nonneg_left (by omega) ?_)
  simp only [Int.ofNat_eq_natCast]; omega
theorem la_far (hc : ctE l.length l (a, b, c, d, Int.ofNat W) = 0) (hl : l.length < 64) : ctE (l ++ [0]).length (l ++ [0]) (a, b, c, d, Int.ofNat (W + 1)) = 0 ∧ laA l (a, b, c, d, Int.ofNat W) ≤ laA (l ++ [0]) (a, b, c, d, Int.ofNat (W + 1)) := by
  obtain ⟨k1, k2, k3, k4, k5, k6⟩ := ctE_zero hc
  obtain ⟨u1, u2, u3⟩ := u_W hc
  have e : (l ++ [0]).length = l.length + 1 := by simp
  have hc' : ctE (l ++ [0]).length (l ++ [0]) (a, b, c, d, Int.ofNat (W + 1)) = 0 := by
    refine ct_of (by omega) (by omega) (fun x hx => ?_) k3 k4 ⟨by simp; omega, by rw [e]; simp; omega⟩
    rcases List.mem_append.1 hx with hx | hx
    · exact k2 x hx
    · rw [List.mem_singleton.1 hx]; decide
  refine ⟨hc', ?_⟩
  rw [la_val hc, la_val hc']
  refine last_mono _ _ _ _ (by show W + 1 ≤ W + 1 + 1; omega) (fun j _ hj h => ?_) (by simp)
  have hj : j < 0 + (W + 1) := hj
  rw [sf_iff (by omega)] at h
  rw [sf_iff (by omega), rn_app a 0 l 0 j (by omega)]
  refine Int.le_trans h (Int.mul_le_mul_of_nonneg_right ?_ (by omega))
  simp only [Int.ofNat_eq_natCast]; omega
theorem la_more (hc : ctE l.length l (a, b, c, d, Int.ofNat W) = 0) {q : Nat} {v : Int} (h1 : l.getD q 0 ≤ v) (h2 : v ≤ 100000) : ctE (l.set q v).length (l.set q v) (a, b, c, d, Int.ofNat W) = 0 ∧ laA (l.set q v) (a, b, c, d, Int.ofNat W) ≤ laA l (a, b, c, d, Int.ofNat W) := by
  obtain ⟨k1, k2, k3, k4, k5, k6⟩ := ctE_zero hc
  obtain ⟨u1, u2, u3⟩ := u_W hc
  have e : (l.set q v).length = l.length := List.length_set
  have hv : 0 ≤ v := by
    by_cases hq : q < l.length
    · have := k2 (l.getD q 0) (by rw [List.getD_eq_getElem?_getD, List.getElem?_eq_getElem hq]; exact List.getElem_mem _)
      omega
    · have : l.getD q 0 = 0 := by rw [List.getD_eq_getElem?_getD, List.getElem?_eq_none (by omega)]; rfl
      omega
  have hc' : ctE (l.set q v).length (l.set q v) (a, b, c, d, Int.ofNat W) = 0 := by
    refine ct_of (by omega) (by omega) (fun x hx => ?_) k3 k4 ⟨k5, by rw [e]; exact k6⟩
    rcases List.mem_or_eq_of_mem_set hx with hx | rfl
    · exact k2 x hx
    · exact ⟨hv, h2⟩
  refine ⟨hc', ?_⟩
  rw [la_val hc, la_val hc']
  refine last_mono _ _ _ _ (Nat.le_refl _) (fun j _ hj h => ?_) (by simp)
  have hj : j < 0 + (W + 1) := hj
  rw [sf_iff (by omega)] at h
  rw [sf_iff (by omega)]
  refine Int.le_trans (rn_mono a l (l.set q v) 0 0 j e.symm (fun i => ?_) (Int.le_refl 0)) h
  rw [set_get]
  split
  · rename_i hi; rw [← hi.1]; exact h1
  · exact Int.le_refl _
end
theorem splice_ints {L : List Int} {i : Nat} {v : Int} (h : i < L.length) : splice (L.map gi) (0 + i * 1) [gi v] = (L.set i v).map gi := by
  have e : 0 + i * 1 = i := by omega
  rw [e]
  unfold splice
  rw [List.set_eq_take_append_cons_drop, if_pos h, List.map_append, List.map_cons, List.map_take, List.map_drop]
  rfl
end Go.Proofs.YtfkiiacbchbgdaaGreatDoor
