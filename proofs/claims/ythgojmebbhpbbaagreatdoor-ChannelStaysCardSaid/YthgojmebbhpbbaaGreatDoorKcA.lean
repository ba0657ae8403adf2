/-
  OWN WORK. The mathematics of what stays.
-/
import Derived.Test.YthgojmebbhpbbaaGreatDoorKdE
import Derived.Test.YthgojmebbhpbbaaGreatDoorAmFu
/-! (OWN WORK. Kernels: what filters leave as it is: constants, mirror images, opposites but for halves, shifts.) -/
namespace Go.Proofs.YthgojmebbhpbbaaGreatDoor
open Go Go.Am
noncomputable def cl (U : List Int) (z : Int) : Int := U.getD (atN z U.length) 0
theorem atN_eq {z : Int} {n : Nat} (hn : 1 ≤ n) : atN z n = if z < 0 then 0 else if z < n then z.toNat else n - 1 := by
 unfold atN atE
 simp only [Int.ofNat_eq_natCast]
 repeat' split
 all_goals omega
theorem cl_in {U : List Int} {z : Int} (h0 : 0 ≤ z) (h1 : z < U.length) : cl U z = U.getD z.toNat 0 := by
 unfold cl
 rw [atN_eq (by omega), if_neg (by omega), if_pos h1]
theorem cl_low {U : List Int} {z : Int} (hn : 1 ≤ U.length) (h : z ≤ 0) : cl U z = U.getD 0 0 := by
 unfold cl
 rw [atN_eq hn]
 split
 ·rfl
 ·rw [if_pos (by omega), show z.toNat = 0 by omega]
theorem cl_high {U : List Int} {z : Int} (hn : 1 ≤ U.length) (h : (U.length : Int) - 1 ≤ z) : cl U z = U.getD (U.length - 1) 0 := by
 unfold cl
 rw [atN_eq hn, if_neg (by omega)]
 split
 ·rw [show z.toNat = U.length - 1 by omega]
 ·rfl
theorem dotE_cl {U : List Int} {n j : Nat} {d : Int} (hl : U.length = n) (h1 : 1 ≤ n) : ∀ (W : List Int) (i : Nat) (s : Int), dotE U n j d W i s = dq (fun z => cl U (Int.ofNat j + z)) W (d + Int.ofNat i) s
 | [], _, _ => rfl
 | w :: W, i, s => by
  show dotE U n j d W (i + 1) (s + w * U.getD (plN n j d (Int.ofNat i)) 0) = dq (fun z => cl U (Int.ofNat j + z)) W (d + Int.ofNat i + 1) (s + w * U.getD (atN (Int.ofNat j + (d + Int.ofNat i)) U.length) 0)
  rw [dotE_cl hl h1 W (i + 1), show d + Int.ofNat (i + 1) = d + Int.ofNat i + 1 by simp only [Int.ofNat_eq_natCast]; omega]
  have e : plN n j d (Int.ofNat i) = atN (Int.ofNat j + (d + Int.ofNat i)) U.length := by unfold plN atN; rw [pl_at, hl]
  rw [e]
noncomputable def fv (U W : List Int) (d v x : Int) : Int := nearE (dq (fun z => cl U (x + z)) W d 0) v
theorem valU_fv {U W : List Int} {n j : Nat} {d v : Int} (hl : U.length = n) (h1 : 1 ≤ n) : valU U n W d v j = fv U W d v (Int.ofNat j) := by
 unfold valU fv
 rw [dotE_cl hl h1, show d + Int.ofNat 0 = d from Int.add_zero d]
theorem dq_start {q : Int → Int} : ∀ (W : List Int) (z s : Int), dq q W z s = s + dq q W z 0
 | [], _, s => (Int.add_zero s).symm
 | w :: W, z, s => by
  show dq q W (z + 1) (s + w * q z) = s + dq q W (z + 1) (0 + w * q z)
  rw [dq_start W (z + 1) (s + w * q z), dq_start W (z + 1) (0 + w * q z)]; omega
theorem dq_cons {q : Int → Int} (w : Int) (W : List Int) (z : Int) : dq q (w :: W) z 0 = w * q z + dq q W (z + 1) 0 := by
 show dq q W (z + 1) (0 + w * q z) = _
 rw [dq_start]; omega
theorem dq_congr {q q' : Int → Int} : ∀ (W : List Int) (z z' : Int), (∀ i : Nat, i < W.length → q (z + i) = q' (z' + i)) → dq q W z 0 = dq q' W z' 0
 | [], _, _, _ => rfl
 | w :: W, z, z', h => by
  rw [dq_cons, dq_cons, dq_congr W (z + 1) (z' + 1) fun i hi => by
   have := h (i + 1) (by rw [List.length_cons]; omega)
   rw [show z + 1 + (i : Int) = z + ((i + 1 : Nat) : Int) by omega, show z' + 1 + (i : Int) = z' + ((i + 1 : Nat) : Int) by omega]; exact this]
  have := h 0 (by rw [List.length_cons]; omega)
  rw [show z + ((0 : Nat) : Int) = z by omega, show z' + ((0 : Nat) : Int) = z' by omega] at this
  rw [this]
theorem dq_const {q : Int → Int} {c : Int} : ∀ (W : List Int) (z : Int), (∀ i : Nat, i < W.length → q (z + i) = c) → dq q W z 0 = c * W.sum
 | [], _, _ => (Int.mul_zero c).symm
 | w :: W, z, h => by
  rw [dq_cons, dq_const W (z + 1) fun i hi => by
   have := h (i + 1) (by rw [List.length_cons]; omega)
   rw [show z + 1 + (i : Int) = z + ((i + 1 : Nat) : Int) by omega]; exact this]
  have := h 0 (by rw [List.length_cons]; omega)
  rw [show z + ((0 : Nat) : Int) = z by omega] at this
  rw [this, List.sum_cons, Int.mul_add, Int.mul_comm w c]
theorem dq_neg {q q' : Int → Int} : ∀ (W : List Int) (z : Int), (∀ i : Nat, i < W.length → q' (z + i) = -q (z + i)) → dq q' W z 0 = -dq q W z 0
 | [], _, _ => rfl
 | w :: W, z, h => by
  rw [dq_cons, dq_cons, dq_neg W (z + 1) fun i hi => by
   have := h (i + 1) (by rw [List.length_cons]; omega)
   rw [show z + 1 + (i : Int) = z + ((i + 1 : Nat) : Int) by omega]; exact this]
  have := h 0 (by rw [List.length_cons]; omega)
  rw [show z + ((0 : Nat) : Int) = z by omega] at this
  rw [this, Int.mul_neg]; omega
theorem dq_snoc {q : Int → Int} (w : Int) : ∀ (W : List Int) (z : Int), dq q (W ++ [w]) z 0 = dq q W z 0 + w * q (z + W.length)
 | [], z => by
  rw [List.nil_append, dq_cons, show z + (([] : List Int).length : Int) = z from Int.add_zero z]
  show w * q z + 0 = 0 + w * q z
  omega
 | x :: W, z => by
  rw [List.cons_append, dq_cons, dq_cons, dq_snoc w W (z + 1), List.length_cons, show z + 1 + (W.length : Int) = z + ((W.length + 1 : Nat) : Int) by omega]; omega
theorem dq_rev {q : Int → Int} : ∀ (W : List Int) (z : Int), dq q W.reverse z 0 = dq (fun t => q (2 * z + W.length - 1 - t)) W z 0
 | [], _ => rfl
 | w :: W, z => by
  rw [List.reverse_cons, dq_snoc, dq_cons, dq_rev W z, List.length_reverse, List.length_cons]
  rw [show (2 * z + ((W.length + 1 : Nat) : Int) - 1 - z) = z + (W.length : Int) by omega]
  rw [dq_congr (q' := fun t => q (2 * z + ((W.length + 1 : Nat) : Int) - 1 - t)) W z (z + 1) fun i hi => by
   show q (2 * z + (W.length : Int) - 1 - (z + i)) = q (2 * z + ((W.length + 1 : Nat) : Int) - 1 - (z + 1 + i))
   rw [show 2 * z + (W.length : Int) - 1 - (z + i) = 2 * z + ((W.length + 1 : Nat) : Int) - 1 - (z + 1 + i) by omega]]
  omega
theorem cl_rev {U : List Int} (hn : 1 ≤ U.length) (z : Int) : cl U.reverse z = cl U ((U.length : Int) - 1 - z) := by
 by_cases h0 : z < 0
 ·rw [cl_low (by rw [List.length_reverse]; exact hn) (by omega), cl_high hn (by omega)]
  rw [List.getD_eq_getElem?_getD, List.getD_eq_getElem?_getD, List.getElem?_reverse (by omega), Nat.sub_zero]
 ·by_cases h1 : z < U.length
  ·rw [cl_in (by omega) (by rw [List.length_reverse]; exact h1), cl_in (by omega) (by omega)]
   rw [List.getD_eq_getElem?_getD, List.getD_eq_getElem?_getD, List.getElem?_reverse (by omega), show U.length - 1 - z.toNat = ((U.length : Int) - 1 - z).toNat by omega]
  ·rw [cl_high (by rw [List.length_reverse]; exact hn) (by rw [List.length_reverse]; omega), cl_low hn (by omega), List.length_reverse]
   rw [List.getD_eq_getElem?_getD, List.getD_eq_getElem?_getD, List.getElem?_reverse (by omega), show U.length - 1 - (U.length - 1) = 0 by omega]
theorem fv_rev {U W : List Int} {d v : Int} (hn : 1 ≤ U.length) (hw : W.reverse = W) (hd : 2 * d + W.length = 1) (x : Int) : fv U.reverse W d v x = fv U W d v ((U.length : Int) - 1 - x) := by
 unfold fv
 congr 1
 have e := dq_rev (q := fun z => cl U.reverse (x + z)) W d
 rw [hw] at e
 rw [e]
 refine dq_congr W d d fun i hi => ?_
 show cl U.reverse (x + (2 * d + W.length - 1 - (d + i))) = cl U ((U.length : Int) - 1 - x + (d + i))
 rw [cl_rev hn]
 congr 1
 omega
theorem floorE_spec {a b : Int} (hb : 0 < b) : b * floorE a b ≤ a ∧ a < b * floorE a b + b := by
 have h1 := Int.mul_tdiv_add_tmod a b
 have h2 := Int.tmod_lt_of_pos a hb
 have h3 : -b < a.tmod b := by
  have h := Int.natAbs_tmod a b
  have h' : a.natAbs % b.natAbs < b.natAbs := Nat.mod_lt _ (by omega)
  omega
 unfold floorE
 rw [ilt_say]
 by_cases hc : a.tmod b < 0
 ·rw [decide_eq_true hc, cond_true, Int.mul_sub, Int.mul_one]; omega
 ·rw [decide_eq_false hc, cond_false]; omega
theorem nearE_spec {a b : Int} (hb : 0 < b) : 2 * b * nearE a b ≤ 2 * a + b ∧ 2 * a + b < 2 * b * nearE a b + 2 * b := floorE_spec (by omega)
theorem lt_cancel {b x y : Int} (hb : 0 < b) (h : b * x < b * y) : x < y := Int.lt_of_mul_lt_mul_left h (by omega)
theorem near_const {c v : Int} (hv : 0 < v) : nearE (c * v) v = c := by
 obtain ⟨h1, h2⟩ := nearE_spec (a := c * v) hv
 have e : 2 * (c * v) = 2 * v * c := by rw [Int.mul_comm c v, Int.mul_assoc]
 have a : 2 * v * nearE (c * v) v < 2 * v * (c + 1) := by rw [Int.mul_add, Int.mul_one]; omega
 have b : 2 * v * c < 2 * v * (nearE (c * v) v + 1) := by rw [Int.mul_add, Int.mul_one]; omega
 have := lt_cancel (by omega) a
 have := lt_cancel (by omega) b
 omega
theorem near_half {x v : Int} (hv : 0 < v) : nearE (-x) v + nearE x v = 0 ∨ nearE (-x) v + nearE x v = 1 := by
 obtain ⟨h1, h2⟩ := nearE_spec (a := x) hv
 obtain ⟨h3, h4⟩ := nearE_spec (a := -x) hv
 have a : 2 * v * (nearE (-x) v + nearE x v) < 2 * v * 2 := by rw [Int.mul_add]; omega
 have b : 2 * v * (-1) < 2 * v * (nearE (-x) v + nearE x v) := by rw [Int.mul_add]; omega
 have := lt_cancel (by omega) a
 have := lt_cancel (by omega) b
 omega
theorem fv_const {U W : List Int} {d v c x : Int} (hv : 0 < v) (hs : W.sum = v) (h : ∀ i : Nat, i < W.length → cl U (x + (d + i)) = c) : fv U W d v x = c := by
 unfold fv
 rw [dq_const W d h, hs, near_const hv]
theorem cl_neg {U : List Int} (z : Int) : cl (U.map fun x => -x) z = -cl U z := by
 unfold cl
 rw [List.length_map, List.getD_eq_getElem?_getD, List.getD_eq_getElem?_getD, List.getElem?_map]
 cases U[atN z U.length]? with
 | none => rfl
 | some y => rfl
theorem fv_neg {U W : List Int} {d v x : Int} (hv : 0 < v) : fv (U.map fun x => -x) W d v x + fv U W d v x = 0 ∨ fv (U.map fun x => -x) W d v x + fv U W d v x = 1 := by
 unfold fv
 rw [dq_neg (q := fun z => cl U (x + z)) W d fun i _ => cl_neg _]
 exact near_half hv
noncomputable def padL (L : List Int) (a b : Nat) : List Int := List.replicate a (L.getD 0 0) ++ L ++ List.replicate b (L.getD (L.length - 1) 0)
theorem padL_length (L : List Int) (a b : Nat) : (padL L a b).length = a + L.length + b := by simp [padL]; omega
theorem padL_get {L : List Int} (hn : 1 ≤ L.length) {a b i : Nat} (hi : i < a + L.length + b) : (padL L a b).getD i 0 = cl L (i - a) := by
 unfold padL
 rw [List.getD_eq_getElem?_getD]
 by_cases h0 : i < a
 ·rw [List.getElem?_append_left (by simp; omega), List.getElem?_append_left (by simp; omega), List.getElem?_replicate, if_pos h0, cl_low hn (by omega)]; rfl
 ·by_cases h1 : i < a + L.length
  ·rw [List.getElem?_append_left (by simp; omega), List.getElem?_append_right (by simp; omega), List.length_replicate, cl_in (by omega) (by omega), List.getD_eq_getElem?_getD, show ((i : Int) - a).toNat = i - a by omega]
  ·rw [List.getElem?_append_right (by simp; omega), List.getElem?_replicate, if_pos (by simp; omega), cl_high hn (by omega)]; rfl
theorem cl_pad {L : List Int} (hn : 1 ≤ L.length) (a b : Nat) (z : Int) : cl (padL L a b) z = cl L (z - a) := by
 have hl := padL_length L a b
 unfold cl
 rw [show (padL L a b).getD (atN z (padL L a b).length) 0 = cl L ((atN z (padL L a b).length : Int) - a) from padL_get hn (by have := atN_lt z (n := (padL L a b).length) (by omega); omega)]
 rw [atN_eq (by omega), hl]
 by_cases h0 : z < 0
 ·rw [if_pos h0, cl_low hn (by omega)]
  exact (cl_low hn (by omega)).symm
 ·rw [if_neg h0]
  by_cases h1 : z < ((a + L.length + b : Nat) : Int)
  ·rw [if_pos h1, show ((z.toNat : Nat) : Int) = z by omega]; rfl
  ·rw [if_neg h1, cl_high hn (by omega)]
   exact (cl_high hn (by omega)).symm
theorem fv_pad {L W : List Int} {d v : Int} (hn : 1 ≤ L.length) (a b : Nat) (x : Int) : fv (padL L a b) W d v x = fv L W d v (x - a) := by
 unfold fv
 congr 1
 refine dq_congr W d d fun i _ => ?_
 show cl (padL L a b) (x + (d + i)) = cl L (x - a + (d + i))
 rw [cl_pad hn]
 congr 1
 omega
end Go.Proofs.YthgojmebbhpbbaaGreatDoor
/-! (OWN WORK. Kernels: sums of weights, their symmetry; samples of integers are valid, and have these integers.) -/
namespace Go.Proofs.YthgojmebbhpbbaaGreatDoor
open Go Go.Am Ieee
theorem foldW {l : List Int} : ∀ {s : Int} {B : Nat}, (∀ w ∈ l, Bd 100 w) → Bd B s → B + l.length * 100 ≤ 4000000000 → l.foldl (fun s w => fwrap .i64 (s + w)) s = s + l.sum := by
 induction l with
 | nil => intro s B _ _ _; simp
 | cons w l ih =>
  intro s B hw hs hB
  have h1 := hw w (by simp)
  rw [List.length_cons] at hB
  rw [List.foldl_cons, fwrap_mid (by unfold Bd at *; omega) (by unfold Bd at *; omega), ih (B := B + 100) (fun x hx => hw x (by simp [hx])) (by unfold Bd at *; omega) (by omega), List.sum_cons]
  omega
theorem sumW_sum {kl : List Int} (h : keE kl = 0) : sumW kl = kl.sum := by
 obtain ⟨⟨h1, h2⟩, h3, _⟩ := ke_valid h
 unfold sumW
 rw [foldW (B := 0) h3 (by unfold Bd; omega) (by omega), Int.zero_add]
theorem sumW_pos {kl : List Int} (h : keE kl = 0) : 0 < sumW kl := by
 have := (ke_valid h).2.2
 rw [ilt_say] at this
 simpa using this
theorem rev_sum {kl : List Int} (h : keE kl = 0) : kl.reverse.sum = sumW kl := by rw [sumW_sum h, List.sum_reverse]
theorem wts_sum {kl : List Int} (h : keE kl = 0) : (wtsE kl).sum = sumW kl * sumW kl := by
 rw [sumW_sum h]
 obtain ⟨⟨h1, h2⟩, _, _⟩ := ke_valid h
 match kl, h1, h2 with
 | [a], _, _ => rw [wts_1]; simp
 | [a, b], _, _ => rw [wts_2]; simp [Int.add_mul, Int.mul_add]; omega
 | [a, b, c], _, _ => rw [wts_3]; simp [Int.add_mul, Int.mul_add]; omega
 | [a, b, c, d], _, _ => rw [wts_4]; simp [Int.add_mul, Int.mul_add]; omega
 | [a, b, c, d, p], _, _ => rw [wts_5]; simp [Int.add_mul, Int.mul_add]; omega
 | [a, b, c, d, p, u], _, _ => rw [wts_6]; simp [Int.add_mul, Int.mul_add]; omega
 | [a, b, c, d, p, u, z], _, _ => rw [wts_7]; simp [Int.add_mul, Int.mul_add]; omega
 | _ :: _ :: _ :: _ :: _ :: _ :: _ :: _ :: _, _, h2 => exact absurd h2 (by simp)
theorem wts_sym {kl : List Int} (h : keE kl = 0) : (wtsE kl).reverse = wtsE kl := by
 obtain ⟨⟨h1, h2⟩, _, _⟩ := ke_valid h
 match kl, h1, h2 with
 | [a], _, _ => rw [wts_1]; rfl
 | [a, b], _, _ => rw [wts_2]; simp [Int.mul_comm]
 | [a, b, c], _, _ => rw [wts_3]; simp [Int.mul_comm, Int.add_comm]
 | [a, b, c, d], _, _ => rw [wts_4]; simp [Int.mul_comm, Int.add_comm]
 | [a, b, c, d, p], _, _ => rw [wts_5]; simp [Int.mul_comm, Int.add_comm]
 | [a, b, c, d, p, u], _, _ => rw [wts_6]; simp [Int.mul_comm, Int.add_comm]
 | [a, b, c, d, p, u, z], _, _ => rw [wts_7]; simp [Int.mul_comm, Int.add_comm]
 | _ :: _ :: _ :: _ :: _ :: _ :: _ :: _ :: _, _, h2 => exact absurd h2 (by simp)
theorem pow_cut (N : Nat) : ∀ e f : Nat, f = 149 + e → 16 * (N * 2 ^ 145 * 2 ^ e) = N * 2 ^ f := fun e f h => by
 subst h
 rw [Nat.pow_add 2 149 e, show (2 : Nat) ^ 149 = 16 * 2 ^ 145 by decide, Nat.mul_assoc, ← Nat.mul_assoc 16, Nat.mul_comm 16 N, Nat.mul_assoc N 16, ← Nat.mul_assoc 16]
theorem smp_made {u : Int} (h : Bd 16384 u) : smpE (sampleE u) = 0 := by
 unfold Bd at h
 obtain ⟨b, b1, b2, b3, _⟩ := smI_some (u := u) (by omega) (by omega)
 have hs : sampleE u = b := by unfold sampleE; rw [b1]; rfl
 obtain ⟨c, y, k1, _, k3, k4, k5, _⟩ := scaled_fin b2
 have hm : floatBits .mul .f64 d16 (cvt b) = some y := by rw [cvt_eq k1]; exact k3
 have hy : sclE b = y := by unfold sclE; rw [hm]; rfl
 have hv : mv (y % 2 ^ 63) = u.natAbs * 2 ^ 1074 := by rw [k5, b3]; exact pow_cut _ 925 1074 (by decide)
 unfold smpE
 rw [hs, finB_iff.2 b2]
 show whenS (badE b) 3 = _
 have hb : badE b = (gtF (y % 2 ^ 63) c16 || neF y (trF y)) := by unfold badE; rw [hy, absE_mod]
 obtain ⟨g1, g2⟩ := good_fin k4 (N := u.natAbs) (by omega) hv
 rw [hb, g1, g2]; rfl
theorem unit_made {u : Int} (h : Bd 16384 u) : unitE (sampleE u) = u := by
 have hv := smp_made h
 unfold Bd at h
 obtain ⟨b, b1, b2, b3, b4⟩ := smI_some (u := u) (by omega) (by omega)
 have hs : sampleE u = b := by unfold sampleE; rw [b1]; rfl
 rw [hs] at hv ⊢
 obtain ⟨hf, hb⟩ := smp_valid hv
 obtain ⟨c, y, h1, _, h3, h4, h5, _⟩ := scaled_fin hf
 have hm : floatBits .mul .f64 d16 (cvt b) = some y := by rw [cvt_eq h1]; exact h3
 have hs' : sclE b = y := by unfold sclE; rw [hm]; rfl
 unfold badE at hb
 rw [hs', absE_mod, Bool.or_eq_false_iff] at hb
 obtain ⟨N, n1, n2⟩ := whole_fin h4 hb.1 hb.2
 rw [h5] at n2
 obtain ⟨p, k1, k2⟩ := unit_fin hf n1 n2
 have e1 : floatBits .mul .f32 s16 b = some p := k1
 have e2 : mulE b = p := by unfold mulE; rw [e1]; rfl
 have e3 : unitE b = if (b / 2 ^ 31 % 2 == 1) = true then -(N : Int) else N := by unfold unitE; rw [e2, k2]; rfl
 have hN : rv single (b % 2 ^ 31) = N * 2 ^ 145 := cut_pow n2 (by decide)
 rw [b3] at hN
 have hN := Nat.eq_of_mul_eq_mul_right (Nat.two_pow_pos 145) hN
 rw [e3, b4]
 by_cases hu : u < 0
 ·rw [if_pos (by simpa using hu)]; omega
 ·rw [if_neg (by simpa using hu)]; omega
theorem smps_made : ∀ {L : List Int}, (∀ u ∈ L, Bd 16384 u) → smpsE (L.map sampleE) = 0
 | [], _ => rfl
 | u :: L, h => by
  have e : smpsE ((u :: L).map sampleE) = bif ieq (smpE (sampleE u)) 0 then smpsE (L.map sampleE) else smpE (sampleE u) := rfl
  rw [e, smp_made (h u (by simp)), smps_made fun x hx => h x (by simp [hx])]; rfl
theorem cs_made {L : List Int} (h : ∀ u ∈ L, Bd 16384 u) (hl : L.length ≤ 4096) : csE (L.map sampleE) = 0 := by
 unfold csE
 rw [smps_made h, List.length_map]
 have : ilt 4096 (Int.ofNat L.length) = false := by rw [ilt_say]; simp; omega
 rw [this]; rfl
theorem units_made {L : List Int} (h : ∀ u ∈ L, Bd 16384 u) : (L.map sampleE).map unitE = L := by
 rw [List.map_map]
 conv => rhs; rw [← List.map_id L]
 exact List.map_congr_left fun u hu => unit_made (h u hu)
end Go.Proofs.YthgojmebbhpbbaaGreatDoor
/-! (OWN WORK. Kernels: the filtered lists of constants, mirror images, opposites and shifted lists.) -/
namespace Go.Proofs.YthgojmebbhpbbaaGreatDoor
open Go Go.Am
noncomputable def fvL (L W : List Int) (d v : Int) : List Int := (List.range L.length).map fun j => fv L W d v (Int.ofNat j)
def okV (L W : List Int) (d v : Int) : Prop := ∀ j, j < L.length → okU (fv L W d v (Int.ofNat j))
theorem fvL_length (L W : List Int) (d v : Int) : (fvL L W d v).length = L.length := by simp [fvL]
theorem fvL_get {L W : List Int} {d v : Int} {j : Nat} (h : j < L.length) : (fvL L W d v).getD j 0 = fv L W d v (Int.ofNat j) := by
 unfold fvL
 rw [List.getD_eq_getElem?_getD, List.getElem?_map, List.getElem?_range h]; rfl
theorem fvL_at {L W : List Int} {d v : Int} {j : Nat} (h : j < L.length) : (fvL L W d v)[j]? = some (fv L W d v (Int.ofNat j)) := by
 unfold fvL
 rw [List.getElem?_map, List.getElem?_range h]; rfl
theorem okV_mem {L W : List Int} {d v : Int} (h : okV L W d v) : ∀ x ∈ fvL L W d v, Bd 16384 x := fun x hx => by
 obtain ⟨j, hj, rfl⟩ := List.mem_map.1 hx
 exact okU_iff.1 (h j (List.mem_range.1 hj))
theorem fv_rep {n : Nat} {W : List Int} {d v c x : Int} (hn : 1 ≤ n) (hv : 0 < v) (hs : W.sum = v) : fv (List.replicate n c) W d v x = c :=
 fv_const hv hs fun i _ => by
  unfold cl
  have := atN_lt (x + (d + i)) (n := (List.replicate n c).length) (by simp; omega)
  rw [List.length_replicate] at this ⊢
  rw [List.getD_eq_getElem?_getD, List.getElem?_replicate, if_pos this]; rfl
theorem fvL_rep {n : Nat} {W : List Int} {d v c : Int} (hn : 1 ≤ n) (hv : 0 < v) (hs : W.sum = v) : fvL (List.replicate n c) W d v = List.replicate n c := by
 unfold fvL
 rw [List.length_replicate]
 refine List.ext_getElem (by simp) fun i _ _ => ?_
 rw [List.getElem_map, List.getElem_replicate]
 exact fv_rep hn hv hs
theorem okV_rep {n : Nat} {W : List Int} {d v c : Int} (hn : 1 ≤ n) (hv : 0 < v) (hs : W.sum = v) (hc : Bd 16384 c) : okV (List.replicate n c) W d v := fun j _ => by
 rw [fv_rep hn hv hs]; exact okU_iff.2 hc
section
variable {L W : List Int} {d v : Int} (hn : 1 ≤ L.length)
include hn
theorem fvL_rev (hw : W.reverse = W) (hd : 2 * d + W.length = 1) : fvL L.reverse W d v = (fvL L W d v).reverse := by
 refine List.ext_getElem? fun i => ?_
 by_cases hi : i < L.length
 ·rw [fvL_at (by rw [List.length_reverse]; exact hi), List.getElem?_reverse (by rw [fvL_length]; exact hi), fvL_length, fvL_at (by omega), fv_rev hn hw hd]
  congr 2
  simp only [Int.ofNat_eq_natCast]; omega
 ·rw [List.getElem?_eq_none (by rw [fvL_length, List.length_reverse]; omega), List.getElem?_eq_none (by rw [List.length_reverse, fvL_length]; omega)]
theorem okV_rev (hw : W.reverse = W) (hd : 2 * d + W.length = 1) (h : okV L W d v) : okV L.reverse W d v := fun j hj => by
 rw [List.length_reverse] at hj
 rw [fv_rev hn hw hd]
 have := h (L.length - 1 - j) (by omega)
 rw [show Int.ofNat (L.length - 1 - j) = (L.length : Int) - 1 - Int.ofNat j by simp only [Int.ofNat_eq_natCast]; omega] at this
 exact this
theorem okV_rev_iff (hw : W.reverse = W) (hd : 2 * d + W.length = 1) : okV L.reverse W d v ↔ okV L W d v := by
 refine ⟨fun h => ?_, okV_rev hn hw hd⟩
 have := okV_rev (L := L.reverse) (by rw [List.length_reverse]; exact hn) hw hd h
 rwa [List.reverse_reverse] at this
theorem fvL_mirror (hw : W.reverse = W) (hd : 2 * d + W.length = 1) : (fvL (L ++ L.reverse) W d v).reverse = fvL (L ++ L.reverse) W d v := by
 have := fvL_rev (L := L ++ L.reverse) (v := v) (by simp; omega) hw hd
 rw [List.reverse_append, List.reverse_reverse] at this
 exact this.symm
theorem fv_head {x : Int} (hv : 0 < v) (hs : W.sum = v) (h : x + d + W.length ≤ 1) : fv L W d v x = L.getD 0 0 :=
 fv_const hv hs fun i hi => cl_low hn (by omega)
theorem okV_late (hv : 0 < v) (hs : W.sum = v) (hb : Bd 16384 (L.getD 0 0)) {a b c : Nat} (ha : (a : Int) + 1 + d = 1) (hd : 2 * d + W.length = 1) : okV (padL L (a + c) b) W d v ↔ okV (padL L a b) W d v := by
 constructor
 ·intro h j hj
  rw [padL_length] at hj
  have := h (j + c) (by rw [padL_length]; omega)
  rw [fv_pad hn] at this ⊢
  rw [show Int.ofNat j - (a : Int) = Int.ofNat (j + c) - ((a + c : Nat) : Int) by simp only [Int.ofNat_eq_natCast]; omega]
  exact this
 ·intro h j hj
  rw [padL_length] at hj
  rw [fv_pad hn]
  by_cases hjc : j < c
  ·rw [fv_head hn hv hs (by simp only [Int.ofNat_eq_natCast]; omega)]
   exact okU_iff.2 hb
  ·have := h (j - c) (by rw [padL_length]; omega)
   rw [fv_pad hn] at this
   rw [show Int.ofNat j - ((a + c : Nat) : Int) = Int.ofNat (j - c) - (a : Int) by simp only [Int.ofNat_eq_natCast]; omega]
   exact this
theorem fvL_late (a b c : Nat) : (fvL (padL L (a + c) b) W d v).drop c = fvL (padL L a b) W d v := by
 refine List.ext_getElem? fun i => ?_
 rw [List.getElem?_drop]
 by_cases hi : i < a + L.length + b
 ·rw [fvL_at (by rw [padL_length]; omega), fvL_at (by rw [padL_length]; omega), fv_pad hn, fv_pad hn]
  congr 2
  simp only [Int.ofNat_eq_natCast]; omega
 ·rw [List.getElem?_eq_none (by rw [fvL_length, padL_length]; omega), List.getElem?_eq_none (by rw [fvL_length, padL_length]; omega)]
theorem fvL_middle (a b : Nat) : ((fvL (padL L a b) W d v).drop a).take L.length = fvL L W d v := by
 refine List.ext_getElem? fun i => ?_
 by_cases hi : i < L.length
 ·rw [List.getElem?_take_of_lt hi, List.getElem?_drop, fvL_at (by rw [padL_length]; omega), fvL_at hi, fv_pad hn]
  congr 2
  simp only [Int.ofNat_eq_natCast]; omega
 ·rw [List.getElem?_eq_none (by rw [List.length_take]; omega), List.getElem?_eq_none (by rw [fvL_length]; omega)]
end
theorem fOut_made {L kl W : List Int} {d v : Int} (hL : ∀ u ∈ L, Bd 16384 u) (hn : 1 ≤ L.length) (h41 : L.length ≤ 4096) (hk : keE kl = 0) :
  erE (L.map sampleE) kl = 0 ∧ (okAll ((L.map sampleE).map unitE) W d v (L.map sampleE).length ↔ okV L W d v) ∧ dstF (valU ((L.map sampleE).map unitE) (L.map sampleE).length W d v) (L.map sampleE).length (L.map sampleE).length = ((fvL L W d v).map sampleE).map gf := by
 have hu := units_made hL
 rw [hu, List.length_map]
 have hv : ∀ j, valU L L.length W d v j = fv L W d v (Int.ofNat j) := fun j => valU_fv rfl hn
 refine ⟨?_, ?_, ?_⟩
 ·show firstS [csE (L.map sampleE), keE kl] = 0
  rw [cs_made hL h41, hk]; rfl
 ·unfold okAll okV
  constructor
  ·intro h j hj
   rw [← hv j]; exact h j hj
  ·intro h j hj
   rw [hv j]; exact h j hj
 ·unfold dstF fvL
  rw [Nat.sub_self, List.replicate_zero, List.append_nil, List.map_map, List.map_map]
  refine List.map_congr_left fun j _ => ?_
  rw [hv j]; rfl
end Go.Proofs.YthgojmebbhpbbaaGreatDoor
/-! (OWN WORK. Kernels: filters, records and weights as a law of one list of integers asks for them.) -/
namespace Go.Proofs.YthgojmebbhpbbaaGreatDoor
open Go Go.Am
noncomputable def flZY (W : List Int → List Int) (v : List Int → Int) (l : List Nat) (kl : List Int) (r : List Value) (K : Out → Prop) : Prop :=
 r = [] ∧ ∃ (L : List Int) (m : Nat), (l = L.map sampleE ∧ (∀ u ∈ L, Bd 16384 u) ∧ L.length = m + 1 ∧ m + 1 ≤ 41 ∧ keE kl = 0) ∧
  (okV L (W kl) (1 - (kl.length : Int)) (v kl) → K (.fresh (tupM [] (m + 1) [gi 0]) (((fvL L (W kl) (1 - (kl.length : Int)) (v kl)).map sampleE).map gf) 50)) ∧
  (¬ okV L (W kl) (1 - (kl.length : Int)) (v kl) → K (.plain (erV 4)))
theorem flZY_ok {W : List Int → List Int} {v : List Int → Int} (l : List Nat) (kl : List Int) (r : List Value) (K : Out → Prop) (h : flZY W v l kl r K) : ∃ o, pX W v l kl r = some o ∧ K o := by
 obtain ⟨rfl, L, m, ⟨rfl, h1, h2, h3, h4⟩, k1, k2⟩ := h
 obtain ⟨e1, e2, e3⟩ := fOut_made (L := L) (kl := kl) (W := W kl) (d := 1 - (kl.length : Int)) (v := v kl) h1 (by omega) (by omega) h4
 refine ⟨_, if_pos ⟨rfl, .inl (by rw [List.length_map]; omega)⟩, ?_⟩
 rw [fOut_val e1]
 unfold outP
 by_cases ho : okV L (W kl) (1 - (kl.length : Int)) (v kl)
 ·rw [if_pos (e2.2 ho), e3, List.length_map, h2]; exact k1 ho
 ·rw [if_neg fun q => ho (e2.1 q)]; exact k2 ho
noncomputable def mdZY (l : List Int) (r : List Value) (K : Out → Prop) : Prop := (r = [] ∧ ∀ u ∈ l, Bd 16384 u) ∧ ∃ m, l.length = m + 1 ∧ K (.fresh (slM (m + 1)) ((l.map sampleE).map gf) 50)
theorem mdZY_ok (l : List Int) (r : List Value) (K : Out → Prop) (h : mdZY l r K) : ∃ o, ifX mdC mdO l r = some o ∧ K o := by
 obtain ⟨⟨rfl, h1⟩, m, hm, hk⟩ := h
 refine ⟨_, if_pos ⟨rfl, fun x hx => okU_iff.2 (h1 x hx)⟩, ?_⟩
 rw [mdO_ne fun q => by rw [q] at hm; simp at hm, mdP_end, hm]
 rw [List.map_map] at hk
 exact hk
end Go.Proofs.YthgojmebbhpbbaaGreatDoor
