/-
  Kernels: both sides filter alike; the filters of the reference as known calls.
-/
import Derived.Test.YtjimnbmnkfdfcaaGreatDoorKaT
/-! (OWN WORK. Kernels: the sums of the program's filters and of the reference's are the same.) -/
namespace Go.Proofs.YtjimnbmnkfdfcaaGreatDoor
open Go Go.Am
noncomputable def dq (q : Int → Int) : List Int → Int → Int → Int
  | [], _, s => s
  | w :: W, z, s => dq q W (z + 1) (s + w * q z)
noncomputable def rq (q : Int → Int) : List Int → Int → Int → Int
  | [], _, s => s
  | w :: W, z, s => rq q W (z - 1) (s + w * q z)
noncomputable def roq (q : Int → Int) (w : Int) : List Int → Int → Int → Int
  | [], _, s => s
  | w' :: W, z, s => roq q w W (z - 1) (s + (w * w') * q z)
noncomputable def sqq (q : Int → Int) (kl : List Int) : List Int → Int → Int → Int
  | [], _, s => s
  | w :: W, z, s => sqq q kl W (z + 1) (roq q w kl z s)
noncomputable def qAt (l : List Nat) (n j : Nat) (z : Int) : Int := uAt l (Int.ofNat j + z) n
theorem pl_at (n j : Nat) (d i : Int) : plF n j d i = atE (Int.ofNat j + (d + i)) (Int.ofNat n) := by
  unfold plF atE
  rw [show Int.ofNat j + (d + i) = Int.ofNat j + d + i by omega]
  generalize Int.ofNat j + d + i = x
  generalize Int.ofNat n - 1 = y
  repeat' split
  all_goals omega
theorem u_at {l : List Nat} {n j : Nat} {d i : Int} (hl : l.length = n) (h1 : 1 ≤ n) : (l.map unitE).getD (plN n j d i) 0 = qAt l n j (d + i) := by
  have e : plN n j d i = atN (Int.ofNat j + (d + i)) n := by unfold plN atN; rw [pl_at]
  have hlt : atN (Int.ofNat j + (d + i)) n < l.length := by rw [hl]; exact atN_lt _ h1
  unfold qAt uAt
  rw [e, List.getD_eq_getElem?_getD, List.getElem?_map, List.getD_eq_getElem?_getD, List.getElem?_eq_getElem hlt]
  rfl
theorem dotE_q {l : List Nat} {n j : Nat} {d : Int} (hl : l.length = n) (h1 : 1 ≤ n) : ∀ (W : List Int) (i : Nat) (s : Int), dotE (l.map unitE) n j d W i s = dq (qAt l n j) W (d + Int.ofNat i) s
  | [], _, _ => rfl
  | w :: W, i, s => by
    show dotE (l.map unitE) n j d W (i + 1) (s + w * (l.map unitE).getD (plN n j d (Int.ofNat i)) 0) = dq (qAt l n j) W (d + Int.ofNat i + 1) (s + w * qAt l n j (d + Int.ofNat i))
    rw [u_at hl h1, dotE_q hl h1 W (i + 1), show d + Int.ofNat (i + 1) = d + Int.ofNat i + 1 by simp only [Int.ofNat_eq_natCast]; omega]
theorem refE_q {l : List Nat} {n j : Nat} : ∀ (W : List Int) (i : Nat) (s : Int), refE l n j W i s = rq (qAt l n j) W (-Int.ofNat i) s
  | [], _, _ => rfl
  | w :: W, i, s => by
    show refE l n j W (i + 1) (s + w * uAt l (Int.ofNat j - Int.ofNat i) n) = rq (qAt l n j) W (-Int.ofNat i - 1) (s + w * uAt l (Int.ofNat j + -Int.ofNat i) n)
    rw [refE_q W (i + 1), show -Int.ofNat (i + 1) = -Int.ofNat i - 1 by simp only [Int.ofNat_eq_natCast]; omega, show Int.ofNat j - Int.ofNat i = Int.ofNat j + -Int.ofNat i by omega]
theorem rowE_q {l : List Nat} {n j i : Nat} {w : Int} : ∀ (W : List Int) (jj : Nat) (s : Int), rowE l n j i w W jj s = roq (qAt l n j) w W (Int.ofNat i - Int.ofNat jj) s
  | [], _, _ => rfl
  | w' :: W, jj, s => by
    show rowE l n j i w W (jj + 1) (s + (w * w') * uAt l (Int.ofNat (j + i) - Int.ofNat jj) n) = roq (qAt l n j) w W (Int.ofNat i - Int.ofNat jj - 1) (s + (w * w') * uAt l (Int.ofNat j + (Int.ofNat i - Int.ofNat jj)) n)
    rw [rowE_q W (jj + 1), show Int.ofNat i - Int.ofNat (jj + 1) = Int.ofNat i - Int.ofNat jj - 1 by simp only [Int.ofNat_eq_natCast]; omega, show Int.ofNat (j + i) - Int.ofNat jj = Int.ofNat j + (Int.ofNat i - Int.ofNat jj) by simp only [Int.ofNat_eq_natCast]; omega]
theorem sqrE_q {l : List Nat} {n j : Nat} {kl : List Int} : ∀ (W : List Int) (i : Nat) (s : Int), sqrE l n j kl W i s = sqq (qAt l n j) kl W (Int.ofNat i) s
  | [], _, _ => rfl
  | w :: W, i, s => by
    show sqrE l n j kl W (i + 1) (rowE l n j i w kl 0 s) = sqq (qAt l n j) kl W (Int.ofNat i + 1) (roq (qAt l n j) w kl (Int.ofNat i) s)
    rw [sqrE_q W (i + 1), rowE_q kl 0, show Int.ofNat i - Int.ofNat 0 = Int.ofNat i by simp]
    rfl
theorem once_1 (q : Int → Int) (a : Int) : rq q [a] 0 0 = dq q [a].reverse (0) 0 := by
  simp [rq, dq]
theorem wts_1 (a : Int) : wtsE [a] = [0 + a * a] := by kernel_rfl
theorem twice_1 (q : Int → Int) (a : Int) : sqq q [a] [a] 0 0 = dq q (wtsE [a]) (0) 0 := by
  rw [wts_1]
  simp [sqq, roq, dq, Int.add_mul]
theorem once_2 (q : Int → Int) (a b : Int) : rq q [a, b] 0 0 = dq q [a, b].reverse (-1) 0 := by
  simp [rq, dq]
  omega
theorem wts_2 (a b : Int) : wtsE [a, b] = [0 + a * b, 0 + a * a + b * b, 0 + b * a] := by kernel_rfl
theorem twice_2 (q : Int → Int) (a b : Int) : sqq q [a, b] [a, b] 0 0 = dq q (wtsE [a, b]) (-1) 0 := by
  rw [wts_2]
  simp [sqq, roq, dq, Int.add_mul]
  omega
theorem once_3 (q : Int → Int) (a b c : Int) : rq q [a, b, c] 0 0 = dq q [a, b, c].reverse (-2) 0 := by
  simp [rq, dq]
  omega
theorem wts_3 (a b c : Int) : wtsE [a, b, c] = [0 + a * c, 0 + a * b + b * c, 0 + a * a + b * b + c * c, 0 + b * a + c * b, 0 + c * a] := by kernel_rfl
theorem twice_3 (q : Int → Int) (a b c : Int) : sqq q [a, b, c] [a, b, c] 0 0 = dq q (wtsE [a, b, c]) (-2) 0 := by
  rw [wts_3]
  simp [sqq, roq, dq, Int.add_mul]
  omega
theorem once_4 (q : Int → Int) (a b c d : Int) : rq q [a, b, c, d] 0 0 = dq q [a, b, c, d].reverse (-3) 0 := by
  simp [rq, dq]
  omega
theorem wts_4 (a b c d : Int) : wtsE [a, b, c, d] = [0 + a * d, 0 + a * c + b * d, 0 + a * b + b * c + c * d, 0 + a * a + b * b + c * c + d * d, 0 + b * a + c * b + d * c, 0 + c * a + d * b, 0 + d * a] := by kernel_rfl
theorem twice_4 (q : Int → Int) (a b c d : Int) : sqq q [a, b, c, d] [a, b, c, d] 0 0 = dq q (wtsE [a, b, c, d]) (-3) 0 := by
  rw [wts_4]
  simp [sqq, roq, dq, Int.add_mul]
  omega
theorem once_5 (q : Int → Int) (a b c d p : Int) : rq q [a, b, c, d, p] 0 0 = dq q [a, b, c, d, p].reverse (-4) 0 := by
  simp [rq, dq]
  omega
theorem wts_5 (a b c d p : Int) : wtsE [a, b, c, d, p] = [0 + a * p, 0 + a * d + b * p, 0 + a * c + b * d + c * p, 0 + a * b + b * c + c * d + d * p, 0 + a * a + b * b + c * c + d * d + p * p, 0 + b * a + c * b + d * c + p * d, 0 + c * a + d * b + p * c, 0 + d * a + p * b, 0 + p * a] := by kernel_rfl
theorem twice_5 (q : Int → Int) (a b c d p : Int) : sqq q [a, b, c, d, p] [a, b, c, d, p] 0 0 = dq q (wtsE [a, b, c, d, p]) (-4) 0 := by
  rw [wts_5]
  simp [sqq, roq, dq, Int.add_mul]
  omega
theorem once_6 (q : Int → Int) (a b c d p u : Int) : rq q [a, b, c, d, p, u] 0 0 = dq q [a, b, c, d, p, u].reverse (-5) 0 := by
  simp [rq, dq]
  omega
theorem wts_6 (a b c d p u : Int) : wtsE [a, b, c, d, p, u] = [0 + a * u, 0 + a * p + b * u, 0 + a * d + b * p + c * u, 0 + a * c + b * d + c * p + d * u, 0 + a * b + b * c + c * d + d * p + p * u, 0 + a * a + b * b + c * c + d * d + p * p + u * u, 0 + b * a + c * b + d * c + p * d + u * p, 0 + c * a + d * b + p * c + u * d, 0 + d * a + p * b + u * c, 0 + p * a + u * b, 0 + u * a] := by kernel_rfl
theorem twice_6 (q : Int → Int) (a b c d p u : Int) : sqq q [a, b, c, d, p, u] [a, b, c, d, p, u] 0 0 = dq q (wtsE [a, b, c, d, p, u]) (-5) 0 := by
  rw [wts_6]
  simp [sqq, roq, dq, Int.add_mul]
  omega
theorem once_7 (q : Int → Int) (a b c d p u z : Int) : rq q [a, b, c, d, p, u, z] 0 0 = dq q [a, b, c, d, p, u, z].reverse (-6) 0 := by
  simp [rq, dq]
  omega
theorem wts_7 (a b c d p u z : Int) : wtsE [a, b, c, d, p, u, z] = [0 + a * z, 0 + a * u + b * z, 0 + a * p + b * u + c * z, 0 + a * d + b * p + c * u + d * z, 0 + a * c + b * d + c * p + d * u + p * z, 0 + a * b + b * c + c * d + d * p + p * u + u * z, 0 + a * a + b * b + c * c + d * d + p * p + u * u + z * z, 0 + b * a + c * b + d * c + p * d + u * p + z * u, 0 + c * a + d * b + p * c + u * d + z * p, 0 + d * a + p * b + u * c + z * d, 0 + p * a + u * b + z * c, 0 + u * a + z * b, 0 + z * a] := by kernel_rfl
theorem twice_7 (q : Int → Int) (a b c d p u z : Int) : sqq q [a, b, c, d, p, u, z] [a, b, c, d, p, u, z] 0 0 = dq q (wtsE [a, b, c, d, p, u, z]) (-6) 0 := by
  rw [wts_7]
  simp [sqq, roq, dq, Int.add_mul]
  omega
theorem once_all (q : Int → Int) (kl : List Int) (h1 : 1 ≤ kl.length) (h2 : kl.length ≤ 7) : rq q kl 0 0 = dq q kl.reverse (1 - (kl.length : Int)) 0 :=
  match kl, h1, h2 with
  | [a], _, _ => once_1 q a
  | [a, b], _, _ => once_2 q a b
  | [a, b, c], _, _ => once_3 q a b c
  | [a, b, c, d], _, _ => once_4 q a b c d
  | [a, b, c, d, p], _, _ => once_5 q a b c d p
  | [a, b, c, d, p, u], _, _ => once_6 q a b c d p u
  | [a, b, c, d, p, u, z], _, _ => once_7 q a b c d p u z
  | _ :: _ :: _ :: _ :: _ :: _ :: _ :: _ :: _, _, h2 => absurd h2 (by simp)
theorem twice_all (q : Int → Int) (kl : List Int) (h1 : 1 ≤ kl.length) (h2 : kl.length ≤ 7) : sqq q kl kl 0 0 = dq q (wtsE kl) (1 - (kl.length : Int)) 0 :=
  match kl, h1, h2 with
  | [a], _, _ => twice_1 q a
  | [a, b], _, _ => twice_2 q a b
  | [a, b, c], _, _ => twice_3 q a b c
  | [a, b, c, d], _, _ => twice_4 q a b c d
  | [a, b, c, d, p], _, _ => twice_5 q a b c d p
  | [a, b, c, d, p, u], _, _ => twice_6 q a b c d p u
  | [a, b, c, d, p, u, z], _, _ => twice_7 q a b c d p u z
  | _ :: _ :: _ :: _ :: _ :: _ :: _ :: _ :: _, _, h2 => absurd h2 (by simp)
theorem same1 {l : List Nat} {kl : List Int} (h1 : 1 ≤ l.length) (hk : keE kl = 0) (j : Nat) : refF1 l kl j = valU (l.map unitE) l.length kl.reverse (1 - (kl.length : Int)) (sumW kl) j := by
  obtain ⟨⟨k1, k2⟩, _, _⟩ := ke_valid hk
  unfold refF1 valU
  rw [refE_q, dotE_q rfl h1]
  show nearE (rq _ kl 0 0) _ = nearE (dq _ _ (1 - (kl.length : Int) + 0) 0) _
  rw [Int.add_zero, once_all _ kl k1 k2]
theorem same2 {l : List Nat} {kl : List Int} (h1 : 1 ≤ l.length) (hk : keE kl = 0) (j : Nat) : refF2 l kl j = valU (l.map unitE) l.length (wtsE kl) (1 - (kl.length : Int)) (sumW kl * sumW kl) j := by
  obtain ⟨⟨k1, k2⟩, _, _⟩ := ke_valid hk
  unfold refF2 valU
  rw [sqrE_q, dotE_q rfl h1]
  show nearE (sqq _ kl kl 0 0) _ = nearE (dq _ _ (1 - (kl.length : Int) + 0) 0) _
  rw [Int.add_zero, twice_all _ kl k1 k2]
end Go.Proofs.YtjimnbmnkfdfcaaGreatDoor
/-! (OWN WORK. Kernels: Passed and Filtered of the reference.) -/
namespace Go.Proofs.YtjimnbmnkfdfcaaGreatDoor
open Go Go.Am
theorem ren_one {b n k : Nat} : renV Tryz.prog.globals.size [b] (slX b n k) = some (slX nG1 n k) := by
  show (match posOf b [b] Tryz.prog.globals.size with | some j => some (Value.slice (some ⟨j, 0, none⟩) n k) | none => none) = _
  have : posOf b [b] Tryz.prog.globals.size = some Tryz.prog.globals.size := by simp [posOf]
  rw [this]
noncomputable def rpL (l : List Nat) (kl : List Int) (n q k k' e row e' row' : Nat) : Loops Tryz.prog where
  body := fun _ => loopOf Tryz.prog 18 0
  spec := fun _ a h c => entry a 50 [(0, slX nG1 n k), (1, slX (nG1 + 1) q k'), (6, nilS), (7, goN 0)] ((h.get nG1 = some (.cells (l.map gf) e row true) ∧ h.get (nG1 + 1) = some (.cells (kl.map gi) e' row' true)) ∧ (keE kl = 0 ∧ csE l = 0 ∧ l.length = n ∧ 1 ≤ n ∧ kl.length = q) ∧ ∀ g, c (.exit 0) (stOf 50 [(6, slX nG1 n n)] g) (canonT [] (fun _ => 0) Tryz.prog.globals.size [(fP (refF1 l kl) n, 3, 2, false)]))
  ok := fun i a h c q => by
    obtain ⟨h1, h2, h3, ⟨g0, g1⟩, ⟨c1, c2, c3, c4, rfl⟩, k1⟩ := entry_facts q
    refine J.of_toldR globs_pos (rp_loop l kl c1 c2 n c3 c4 k k' e row e' row' a h g0 g1 h1 h2 ?_) ?_
    · have e0 : a.tmp 0 = slX nG1 n k := h3 (0, slX nG1 n k) (by simp)
      have e1 : a.tmp 1 = slX (nG1 + 1) kl.length k' := h3 (1, slX (nG1 + 1) kl.length k') (by simp)
      have e2 : a.tmp 6 = nilS := h3 (6, nilS) (by simp)
      have e3 : a.tmp 7 = goN 0 := h3 (7, goN 0) (by simp)
      show [a.tmp 0, a.tmp 1, a.tmp 6, a.tmp 7] = _
      rw [e0, e1, e2, e3]
    · rintro ex vs h' ⟨rfl, b, hb, rfl, hg⟩
      refine ⟨[6], [slX b n n], [slX nG1 n n], [(fP (refF1 l kl) n, 3, 2, false)], [b], fun x hx => ?_, rfl, by simp, fun i hi => ?_, fun j b' i hb' hi => ?_, ?_, fun i hi => ?_, k1⟩
      · cases List.mem_singleton.1 hx; simp
      · cases List.mem_singleton.1 hi; exact hb
      · match j, hb', hi with
        | 0, hb', hi => cases hb'; cases hi; exact ⟨hg, fP_flat _ _⟩
      · simp only [amapM, ren_one, Option.map_some]
      · cases List.mem_singleton.1 hi; exact ⟨(6, slX b n n), by simp, by simp [named]⟩
theorem rp_run (l : List Nat) (kl : List Int) (m q k k' e row e' row' : Nat) (K : Value → AHeap → Prop) : callC Tryz.prog (exec Tryz.prog orcKm 10) (syOf [(47, 7)]) (askKm 1) (rpL l kl (m + 1) (q + 1) k k' e row e' row') 20 18 #[slX nG1 (m + 1) k, slX (nG1 + 1) (q + 1) k'] (canon Tryz.prog [(l.map gf, e, row), (kl.map gi, e', row')]) K =
  (loopOf Tryz.prog 18 0 = loopOf Tryz.prog 18 0 ∧ slX nG1 (m + 1) k = slX nG1 (m + 1) k ∧ slX (nG1 + 1) (q + 1) k' = slX (nG1 + 1) (q + 1) k' ∧ nilS = nilS ∧ gi 0 = goN 0 ∧ (some (AObj.cells (l.map gf) e row true) = some (.cells (l.map gf) e row true) ∧ some (AObj.cells (kl.map gi) e' row' true) = some (.cells (kl.map gi) e' row' true)) ∧ (keE kl = 0 ∧ csE l = 0 ∧ l.length = m + 1 ∧ 1 ≤ m + 1 ∧ kl.length = q + 1) ∧
    ∀ _ : Nat → Value, (List.all (fP (refF1 l kl) (m + 1)) (flat 3) = true ∧ True) ∧ true = true ∧ ∃ x : List Int, fP (refF1 l kl) (m + 1) = x.map gi ∧ (0 < m + 1 ∧ x.length = m + 1 ∧ m + 1 ≤ 65536) ∧ mkY x [] fun o => o.kont (canonT [] (fun _ => 0) Tryz.prog.globals.size [(fP (refF1 l kl) (m + 1), 3, 2, false)]) K) := by kernel_rfl
theorem rpn_run (kl : List Int) (q k' e' row' : Nat) (K : Value → Prop) : callR Tryz.prog orcKm (fun _ => syOf [(47, 7)]) (askKm 1) 100 18 #[nilS, slX nG1 (q + 1) k'] (canon Tryz.prog [(kl.map gi, e', row')]) (fun v _ => K v) = (True ∧ mkY [] [] fun o => o.kont (canon Tryz.prog [(kl.map gi, e', row')]) fun v _ => K v) := by kernel_rfl
theorem rpe_run (kl : List Int) (i q k' e' row' : Nat) (K : Value → Prop) : callR Tryz.prog orcKm (fun _ => syOf [(47, 7)]) (askKm 1) 100 18 #[emS i, slX nG1 (q + 1) k'] (canon Tryz.prog [(kl.map gi, e', row')]) (fun v _ => K v) = (True ∧ mkY [] [] fun o => o.kont (canon Tryz.prog [(kl.map gi, e', row')]) fun v _ => K v) := by kernel_rfl
noncomputable def rfL (l : List Nat) (kl : List Int) (n q k k' e row e' row' : Nat) : Loops Tryz.prog where
  body := fun _ => loopOf Tryz.prog 19 0
  spec := fun _ a h c => entry a 67 [(0, slX nG1 n k), (1, slX (nG1 + 1) q k'), (6, nilS), (7, goN 0)] ((h.get nG1 = some (.cells (l.map gf) e row true) ∧ h.get (nG1 + 1) = some (.cells (kl.map gi) e' row' true)) ∧ (keE kl = 0 ∧ csE l = 0 ∧ l.length = n ∧ 1 ≤ n ∧ kl.length = q) ∧ ∀ g, c (.exit 0) (stOf 67 [(6, slX nG1 n n)] g) (canonT [] (fun _ => 0) Tryz.prog.globals.size [(fP (refF2 l kl) n, 3, 2, false)]))
  ok := fun i a h c q => by
    obtain ⟨h1, h2, h3, ⟨g0, g1⟩, ⟨c1, c2, c3, c4, rfl⟩, k1⟩ := entry_facts q
    refine J.of_toldR globs_pos (rf_loop l kl c1 c2 n c3 c4 k k' e row e' row' a h g0 g1 h1 h2 ?_) ?_
    · have e0 : a.tmp 0 = slX nG1 n k := h3 (0, slX nG1 n k) (by simp)
      have e1 : a.tmp 1 = slX (nG1 + 1) kl.length k' := h3 (1, slX (nG1 + 1) kl.length k') (by simp)
      have e2 : a.tmp 6 = nilS := h3 (6, nilS) (by simp)
      have e3 : a.tmp 7 = goN 0 := h3 (7, goN 0) (by simp)
      show [a.tmp 0, a.tmp 1, a.tmp 6, a.tmp 7] = _
      rw [e0, e1, e2, e3]
    · rintro ex vs h' ⟨rfl, b, hb, rfl, hg⟩
      refine ⟨[6], [slX b n n], [slX nG1 n n], [(fP (refF2 l kl) n, 3, 2, false)], [b], fun x hx => ?_, rfl, by simp, fun i hi => ?_, fun j b' i hb' hi => ?_, ?_, fun i hi => ?_, k1⟩
      · cases List.mem_singleton.1 hx; simp
      · cases List.mem_singleton.1 hi; exact hb
      · match j, hb', hi with
        | 0, hb', hi => cases hb'; cases hi; exact ⟨hg, fP_flat _ _⟩
      · simp only [amapM, ren_one, Option.map_some]
      · cases List.mem_singleton.1 hi; exact ⟨(6, slX b n n), by simp, by simp [named]⟩
theorem rf_run (l : List Nat) (kl : List Int) (m q k k' e row e' row' : Nat) (K : Value → AHeap → Prop) : callC Tryz.prog (exec Tryz.prog orcKm 10) (syOf [(64, 7)]) (askKm 1) (rfL l kl (m + 1) (q + 1) k k' e row e' row') 20 19 #[slX nG1 (m + 1) k, slX (nG1 + 1) (q + 1) k'] (canon Tryz.prog [(l.map gf, e, row), (kl.map gi, e', row')]) K =
  (loopOf Tryz.prog 19 0 = loopOf Tryz.prog 19 0 ∧ slX nG1 (m + 1) k = slX nG1 (m + 1) k ∧ slX (nG1 + 1) (q + 1) k' = slX (nG1 + 1) (q + 1) k' ∧ nilS = nilS ∧ gi 0 = goN 0 ∧ (some (AObj.cells (l.map gf) e row true) = some (.cells (l.map gf) e row true) ∧ some (AObj.cells (kl.map gi) e' row' true) = some (.cells (kl.map gi) e' row' true)) ∧ (keE kl = 0 ∧ csE l = 0 ∧ l.length = m + 1 ∧ 1 ≤ m + 1 ∧ kl.length = q + 1) ∧
    ∀ _ : Nat → Value, (List.all (fP (refF2 l kl) (m + 1)) (flat 3) = true ∧ True) ∧ true = true ∧ ∃ x : List Int, fP (refF2 l kl) (m + 1) = x.map gi ∧ (0 < m + 1 ∧ x.length = m + 1 ∧ m + 1 ≤ 65536) ∧ mkY x [] fun o => o.kont (canonT [] (fun _ => 0) Tryz.prog.globals.size [(fP (refF2 l kl) (m + 1), 3, 2, false)]) K) := by kernel_rfl
theorem rfn_run (kl : List Int) (q k' e' row' : Nat) (K : Value → Prop) : callR Tryz.prog orcKm (fun _ => syOf [(64, 7)]) (askKm 1) 100 19 #[nilS, slX nG1 (q + 1) k'] (canon Tryz.prog [(kl.map gi, e', row')]) (fun v _ => K v) = (True ∧ mkY [] [] fun o => o.kont (canon Tryz.prog [(kl.map gi, e', row')]) fun v _ => K v) := by kernel_rfl
theorem rfe_run (kl : List Int) (i q k' e' row' : Nat) (K : Value → Prop) : callR Tryz.prog orcKm (fun _ => syOf [(64, 7)]) (askKm 1) 100 19 #[emS i, slX nG1 (q + 1) k'] (canon Tryz.prog [(kl.map gi, e', row')]) (fun v _ => K v) = (True ∧ mkY [] [] fun o => o.kont (canon Tryz.prog [(kl.map gi, e', row')]) fun v _ => K v) := by kernel_rfl
end Go.Proofs.YtjimnbmnkfdfcaaGreatDoor
/-! (OWN WORK. Kernels: Passed and Filtered of the reference as known calls; the program's Weights.) -/
namespace Go.Proofs.YtjimnbmnkfdfcaaGreatDoor
open Go Go.Am
noncomputable abbrev rL (f : List Nat → List Int → Nat → Int) (l : List Nat) (kl : List Int) : List Int := (List.range l.length).map (f l kl)
theorem mkO_ok (l : List Int) : (mkO l []).Ok := by
  unfold mkO
  split
  · exact rfl
  · split
    · exact ⟨names_tup rfl rfl, mdP_flat _ _⟩
    · exact rfl
theorem mkY_of {l : List Int} {K : Out → Prop} (h : K (mkO l [])) : mkY l [] K := by
  refine ⟨rfl, fun hl => ?_, fun hl ho => ?_, fun hl ho => ?_⟩
  · unfold mkO at h
    rw [if_pos hl] at h; exact h
  · unfold mkO at h
    rw [if_neg hl, if_pos ho] at h
    obtain ⟨m, hm⟩ : ∃ m, l.length = m + 1 := ⟨l.length - 1, by have := List.length_pos_iff.2 hl; omega⟩
    rw [hm] at h
    exact ⟨m, hm, h⟩
  · unfold mkO at h
    rw [if_neg hl, if_neg ho] at h; exact h
open Classical in
noncomputable def rX (f : List Nat → List Int → Nat → Int) (l : List Nat) (kl : List Int) (r : List Value) : Option Out := if r = [] ∧ erE l kl = 0 then some (mkO (rL f l kl) []) else none
theorem rX_some {f : List Nat → List Int → Nat → Int} {l : List Nat} {kl : List Int} {r : List Value} {o : Out} (h : rX f l kl r = some o) : r = [] ∧ erE l kl = 0 ∧ o = mkO (rL f l kl) [] := by
  unfold rX at h
  split at h
  · rename_i hc; cases h; exact ⟨hc.1, hc.2, rfl⟩
  · cases h
noncomputable def rY (f : List Nat → List Int → Nat → Int) (l : List Nat) (kl : List Int) (r : List Value) (K : Out → Prop) : Prop := (r = [] ∧ erE l kl = 0) ∧ mkY (rL f l kl) [] K
theorem rY_ok {f : List Nat → List Int → Nat → Int} (l : List Nat) (kl : List Int) (r : List Value) (K : Out → Prop) (h : rY f l kl r K) : ∃ o, rX f l kl r = some o ∧ K o := by
  obtain ⟨o, ho, hk⟩ := mkY_ok _ _ _ h.2
  rw [show ifX mkC' mkO (rL f l kl) [] = some (mkO (rL f l kl) []) from if_pos rfl] at ho
  cases ho
  exact ⟨_, if_pos h.1, hk⟩
theorem fP_map (f : Nat → Int) (n : Nat) : fP f n = ((List.range n).map f).map gi := by simp [fP]
noncomputable def orcKn : Orc := orElse 19 (twoO Tryz.prog.globals.size tF tI (rX refF2)) (orElse 18 (twoO Tryz.prog.globals.size tF tI (rX refF1)) orcKm)
set_option maxRecDepth 100000 in
theorem orcKn_ok : OrcOk Tryz.prog orcKn := by
  refine twoO_ok globs_pos (twoO_ok globs_pos orcKm_ok ?_ ?_ ?_ ?_ ?_) ?_ ?_ ?_ ?_ ?_
  · intro l l' r o h
    obtain ⟨_, _, rfl⟩ := rX_some h
    exact mkO_ok _
  · intro r o a b h ha hb
    exact absurd (rX_some h).2.1 (er_k0 _)
  · intro kl r o a m k e row h ha hl h1 hk
    obtain ⟨rfl, hc, rfl⟩ := rX_some h
    rcases ha with rfl | ⟨i, rfl⟩
    · exact CallJ.ofR mixed orcKm_ok (askKm_ok 1) (Eq.mpr (rpn_run kl m k e row fun v => v = erV 0) ⟨trivial, mkY_of (kont_got _ _)⟩)
    · exact CallJ.ofR mixed orcKm_ok (askKm_ok 1) (Eq.mpr (rpe_run kl i m k e row fun v => v = erV 0) ⟨trivial, mkY_of (kont_got _ _)⟩)
  · intro l r o b m k e row h hb hl h1 hk
    exact absurd (rX_some h).2.1 (er_k0 _)
  · intro l kl r o m k m' k' e row e' row' h hl h1 hk hl' h1' hk'
    obtain ⟨rfl, hc, rfl⟩ := rX_some h
    obtain ⟨c1, c2⟩ := er_zero hc
    refine callC_ok mixed orcKm_ok (askKm_ok 1) (Eq.mpr (rp_run l kl m m' k k' e row e' row' _) ⟨rfl, rfl, rfl, rfl, rfl, ⟨rfl, rfl⟩, ⟨c2, c1, hl, by omega, hl'⟩, fun _ => ⟨⟨fP_flat _ _, trivial⟩, rfl, rL refF1 l kl, ?_, ⟨by omega, by simp [rL, hl], h1⟩, mkY_of (kont_got _ _)⟩⟩)
    rw [fP_map]; unfold rL; rw [hl]
  · intro l l' r o h
    obtain ⟨_, _, rfl⟩ := rX_some h
    exact mkO_ok _
  · intro r o a b h ha hb
    exact absurd (rX_some h).2.1 (er_k0 _)
  · intro kl r o a m k e row h ha hl h1 hk
    obtain ⟨rfl, hc, rfl⟩ := rX_some h
    rcases ha with rfl | ⟨i, rfl⟩
    · exact CallJ.ofR mixed orcKm_ok (askKm_ok 1) (Eq.mpr (rfn_run kl m k e row fun v => v = erV 0) ⟨trivial, mkY_of (kont_got _ _)⟩)
    · exact CallJ.ofR mixed orcKm_ok (askKm_ok 1) (Eq.mpr (rfe_run kl i m k e row fun v => v = erV 0) ⟨trivial, mkY_of (kont_got _ _)⟩)
  · intro l r o b m k e row h hb hl h1 hk
    exact absurd (rX_some h).2.1 (er_k0 _)
  · intro l kl r o m k m' k' e row e' row' h hl h1 hk hl' h1' hk'
    obtain ⟨rfl, hc, rfl⟩ := rX_some h
    obtain ⟨c1, c2⟩ := er_zero hc
    refine callC_ok mixed orcKm_ok (askKm_ok 1) (Eq.mpr (rf_run l kl m m' k k' e row e' row' _) ⟨rfl, rfl, rfl, rfl, rfl, ⟨rfl, rfl⟩, ⟨c2, c1, hl, by omega, hl'⟩, fun _ => ⟨⟨fP_flat _ _, trivial⟩, rfl, rL refF2 l kl, ?_, ⟨by omega, by simp [rL, hl], h1⟩, mkY_of (kont_got _ _)⟩⟩)
    rw [fP_map]; unfold rL; rw [hl]
noncomputable def askKn (n : Nat) : Asks := asks2 Tryz.prog.globals.size 19 tF tI (rY refF2) (asks2 Tryz.prog.globals.size 18 tF tI (rY refF1) (askKm n))
theorem askKn_ok (n : Nat) : AsksOk orcKn (askKn n) := asks2_ok rY_ok (asks2_ok rY_ok (askKm_ok n))
end Go.Proofs.YtjimnbmnkfdfcaaGreatDoor
