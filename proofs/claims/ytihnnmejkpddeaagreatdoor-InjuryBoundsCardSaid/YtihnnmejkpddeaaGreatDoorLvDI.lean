/-
  OWN WORK. Stage 6: what is held, by the iterator.
-/
import Derived.Test.YtihnnmejkpddeaaGreatDoorLvAC
import Derived.Test.YtihnnmejkpddeaaGreatDoorAmZ
import Derived.Test.YtihnnmejkpddeaaGreatDoorAmV
/-! (OWN WORK. Stage 6: what a series holds for some samples: rounds of the iterator over windows, with the body that collects the least ones.) -/
namespace Go.Proofs.YtihnnmejkpddeaaGreatDoor
open Go Go.Am
noncomputable def hdAs : Code := (rangeAt Tryz.prog 101).2.2.1
noncomputable def hdBd : Code := (rangeAt Tryz.prog 101).2.2.2
noncomputable abbrev yV : Value := .func (.yield (Tryz.prog.globals.size + 7)) #[] #[]
noncomputable def hvB (c : List Value) (e row n k s : Nat) (lv : Value) : AHeap := canonT [] (fun _ => 0) Tryz.prog.globals.size [(c, e, row, true), ([liP n k], 22, 0, false), ([lv], 22, 0, false), ([goN s, goN s], 26, 0, false), ([goN n], 3, 0, false), ([goN s, goN s], 26, 0, false)]
noncomputable def hvL (b : AAct) : AObj := .loop .ready none b #[14] hdAs hdBd (Tryz.prog.globals.size + 6)
noncomputable def hvA (g : Nat → Value) : AAct := stOf 31 [(2, ptN 1), (6, ptN 2)] g
noncomputable def hvH (c : List Value) (e row n k s : Nat) (lv : Value) (arr : AObj) (g : Nat → Value) : AHeap := ((((hvB c e row n k s lv).push .defd).push (hvL (hvA g))).push arr).push .dead
noncomputable def hvN (c : List Value) (e row n k s : Nat) (g : Nat → Value) : AHeap := hvH c e row n k s nilS .dead g
noncomputable def hvG (c : List Value) (e row n k s : Nat) (d : List Value) (q : Nat) (g : Nat → Value) : AHeap := hvH c e row n k s (slP 8 q q) (.cells d 3 2 false) g
noncomputable def wiSA : List Sy := [syOf [(23, 1), (30, 50)], syOf [(21, 53), (22, 7)]]
noncomputable def wiSD : List Sy := [syOf [(23, 1), (30, 50)], syOf [(21, 53), (22, 7), (24, 10)]]
theorem wi_A (c : List Value) (e row n k s p q : Nat) (la : Int) (g g₂ : Nat → Value) (Q : Exit → List Value → AHeap → Prop) : execR Tryz.prog orcLa (fun _ => syOf []) askLa 80 wiSA none (loopOf Tryz.prog 182 2) (stOf 33 [(0, yV), (1, ptN 4), (2, ptN 5), (4, goN p), (5, gi la), (6, goN q), (7, goN n), (8, goN p)] g) (hvN c e row n k s g₂) (told 33 [0, 1, 2, 4, 5, 6, 7, 8] Q) = ((((!(ilt la (Int.ofNat q))) = true → ((0 : Int) ≤ Int.ofNat p ∧ (Int.ofNat p : Int) ≤ Int.ofNat q ∧ (Int.ofNat q : Int) ≤ Int.ofNat k ∧ (Int.ofNat p : Int) < Int.ofNat k ∧ (Nat.beq row 0 || Nat.beq row 2) = true ∧ (∃ x1 : Nat, ((q - p) = (x1 + 1) ∧ (List.all c (flat 3) = true ∧ True) ∧ okPs c (0 + (p * 1)) (x1 + 1) ∧ c0 [] ∧ [nilS][0]? = Option.some nilS ∧ [nilS][0]? = Option.some nilS ∧ Q .normal [yV, ptN 4, ptN 5, goN p, gi la, gi (fwrap IntKind.i64 (Int.ofNat (q + 1))), goN n, goN p] ((((((((hvN c e row n k s g₂).push (.cells [gi 0, gi 0] 24 0 false)).set (nG1 + 10) (.cells ([] ++ ([goN p, goN q] ++ [])) 24 0 false)).set (nG1 + 7) (AObj.loop LoopState.busy Option.none (hvA g₂) #[14] hdAs hdBd 10)).push (.cells [mnF c (0 + (p * 1)) (x1 + 1) []] 3 2 false)).push (.cells ([] ++ [mnF c (0 + (p * 1)) (x1 + 1) []]) 3 2 false)).set (nG1 + 2) (.cells ([] ++ ([Value.slice (some ⟨nG1 + 12, 0, none⟩) 1 1] ++ [])) 22 0 false)).set (nG1 + 7) (AObj.loop (if Eq true true then LoopState.ready else LoopState.done) Option.none (hvA g₂) #[14] hdAs hdBd 10)))))) ∧ ((!(ilt la (Int.ofNat q))) = false → Q (.exit 2) [yV, ptN 4, ptN 5, goN p, gi la, goN q, goN n, goN p] (hvN c e row n k s g₂)))) := by kernel_rfl
theorem wi_D (c : List Value) (e row n k s p q : Nat) (la : Int) (d : List Value) (u : Nat) (g g₂ : Nat → Value) (Q : Exit → List Value → AHeap → Prop) : execR Tryz.prog orcLa (fun _ => syOf []) askLa 80 wiSD none (loopOf Tryz.prog 182 2) (stOf 33 [(0, yV), (1, ptN 4), (2, ptN 5), (4, goN p), (5, gi la), (6, goN q), (7, goN n), (8, goN p)] g) (hvG c e row n k s d u g₂) (told 33 [0, 1, 2, 4, 5, 6, 7, 8] Q) = ((((!(ilt la (Int.ofNat q))) = true → ((0 : Int) ≤ Int.ofNat p ∧ (Int.ofNat p : Int) ≤ Int.ofNat q ∧ (Int.ofNat q : Int) ≤ Int.ofNat k ∧ (Int.ofNat p : Int) < Int.ofNat k ∧ (Nat.beq row 0 || Nat.beq row 2) = true ∧ (∃ x1 : Nat, ((q - p) = (x1 + 1) ∧ (List.all c (flat 3) = true ∧ True) ∧ okPs c (0 + (p * 1)) (x1 + 1) ∧ c0 [] ∧ [slP 8 u u][0]? = Option.some (slP 8 u u) ∧ [slP 8 u u][0]? = Option.some (slP 8 u u) ∧ Nat.ble (u + 1) u = false ∧ Nat.ble (((2 * (u + 1)) + 256) * 8) 281474976710656 = true ∧ (u * 1) = List.length d ∧ Q .normal [yV, ptN 4, ptN 5, goN p, gi la, gi (fwrap IntKind.i64 (Int.ofNat (q + 1))), goN n, goN p] (((((((((hvG c e row n k s d u g₂).push (.cells [gi 0, gi 0] 24 0 false)).set (nG1 + 10) (.cells ([] ++ ([goN p, goN q] ++ [])) 24 0 false)).set (nG1 + 7) (AObj.loop LoopState.busy Option.none (hvA g₂) #[14] hdAs hdBd 10)).push (.cells [mnF c (0 + (p * 1)) (x1 + 1) []] 3 2 false)).set (nG1 + 8) (.dead)).push (.cells (d ++ [mnF c (0 + (p * 1)) (x1 + 1) []]) 3 2 false)).set (nG1 + 2) (.cells ([] ++ ([Value.slice (some ⟨nG1 + 12, 0, none⟩) (u + 1) (u + 1)] ++ [])) 22 0 false)).set (nG1 + 7) (AObj.loop (if Eq true true then LoopState.ready else LoopState.done) Option.none (hvA g₂) #[14] hdAs hdBd 10)))))) ∧ ((!(ilt la (Int.ofNat q))) = false → Q (.exit 2) [yV, ptN 4, ptN 5, goN p, gi la, goN q, goN n, goN p] (hvG c e row n k s d u g₂)))) := by kernel_rfl
end Go.Proofs.YtihnnmejkpddeaaGreatDoor
/-! (OWN WORK. Stage 6: what a series holds for some samples: how the blocks are seen behind a round.) -/
namespace Go.Proofs.YtihnnmejkpddeaaGreatDoor
open Go Go.Am
def LowN (h : AHeap) : Prop := ∀ i, i < Tryz.prog.globals.size → h.get i = none
theorem LowN.push {h : AHeap} (o : AObj) (x : LowN h) (hn : Tryz.prog.globals.size ≤ h.n) : LowN (h.push o) := fun i hi => by
 rw [AHeap.get_push_ne (by rw [Tr.beq_eq]; exact decide_eq_false (by omega))]; exact x i hi
theorem LowN.set {h : AHeap} (o : AObj) {j : Nat} (x : LowN h) (hn : Tryz.prog.globals.size ≤ j) : LowN (h.set j o) := fun i hi => by
 rw [AHeap.get_set_neB (by rw [Tr.beq_eq]; exact decide_eq_false (by omega))]; exact x i hi
theorem low_canon (B : List Blk) : LowN (canonT [] (fun _ => 0) Tryz.prog.globals.size B) := fun i hi => by
 rw [canonT_get (T := []) rfl, if_neg (by omega)]; rfl
theorem low_hvH (c : List Value) (e row n k s : Nat) (lv : Value) (arr : AObj) (g : Nat → Value) : LowN (hvH c e row n k s lv arr g) :=
 (((((low_canon _).push _ (of_decide_eq_true (by kernel_rfl))).push _ (of_decide_eq_true (by kernel_rfl))).push _ (of_decide_eq_true (by kernel_rfl))).push _ (of_decide_eq_true (by kernel_rfl)))
noncomputable def hvS (c : List Value) (e row n k s : Nat) (L : List Int) (g : Nat → Value) : AHeap := match L with
 | [] => hvN c e row n k s g
 | x :: r => hvG c e row n k s (List.map gi (x :: r)) (x :: r).length g
noncomputable abbrev szG : Nat := Tryz.prog.globals.size
theorem preK_low {K i : Nat} {pre : Pre} (h : i < K) : preK K pre i = some i := by simp only [preK, if_pos h]
def okTV (v : Value) : Prop := flat 3 v = true ∨ v = yV ∨ ∃ i, i < 8 ∧ v = ptN i
theorem okTV.ren {v : Value} {pre : Pre} (h : okTV v) : RenY (preK (szG + 8) pre) v v := by
 rcases h with h | rfl | ⟨i, hi, rfl⟩
 ·exact .inl (.flat h)
 ·exact .inr ⟨_, rfl, rfl, preK_low (by show szG + 7 < szG + 8; omega)⟩
 ·exact .inl (.ptr (preK_low (by show szG + i < szG + 8; omega)))
structure HvF (c : List Value) (e row n k s : Nat) (h' : AHeap) (b : AAct) : Prop where
 low : LowN h'
 g0 : h'.get (szG + 0) = some (.cells c e row true)
 g1 : h'.get (szG + 1) = some (.cells [liP n k] 22 0 false)
 g3 : h'.get (szG + 3) = some (.cells [goN s, goN s] 26 0 false)
 g4 : h'.get (szG + 4) = some (.cells [goN n] 3 0 false)
 g5 : h'.get (szG + 5) = some (.cells [goN s, goN s] 26 0 false)
 g6 : h'.get (szG + 6) = some .defd
 g7 : h'.get (szG + 7) = some (hvL b)
 bn : b.n = 31
 b2 : b.tmp 2 = ptN 1
 b6 : b.tmp 6 = ptN 2
theorem hvA_tmp2 (g : Nat → Value) : (hvA g).tmp 2 = ptN 1 := by kernel_rfl
theorem hvA_tmp6 (g : Nat → Value) : (hvA g).tmp 6 = ptN 2 := by kernel_rfl
theorem hvA_n (g : Nat → Value) : (hvA g).n = 31 := by kernel_rfl
theorem hvF_H (c : List Value) (e row n k s : Nat) (lv : Value) (arr : AObj) (g : Nat → Value) : HvF c e row n k s (hvH c e row n k s lv arr g) (hvA g) :=
 ⟨low_hvH _ _ _ _ _ _ _ _ _, by kernel_rfl, by kernel_rfl, by kernel_rfl, by kernel_rfl, by kernel_rfl, by kernel_rfl, by kernel_rfl, hvA_n g, hvA_tmp2 g, hvA_tmp6 g⟩
theorem sameP_cells {pre : Pre} {x y : Option AObj} {c : List Value} {e row : Nat} {ro : Bool} (h1 : x = some (.cells c e row ro)) (h2 : y = some (.cells c e row ro)) (hf : ∀ v ∈ c, Ren pre v v) : SameP pre x y :=
 .inr ⟨_, _, h1, h2, .inl ⟨rfl, rfl, rfl, fun q u v hu hv => by rw [hu] at hv; cases hv; exact hf u (List.mem_of_getElem? hu), fun h => h⟩⟩
theorem sameP_one {pre : Pre} {x y : Option AObj} {u v : Value} {e row : Nat} {ro : Bool} (h1 : x = some (.cells [u] e row ro)) (h2 : y = some (.cells [v] e row ro)) (hf : Ren pre u v) : SameP pre x y :=
 .inr ⟨_, _, h1, h2, .inl ⟨rfl, rfl, rfl, fun q u' v' hu hv => by
  match q, hu, hv with
  | 0, hu, hv => cases hu; cases hv; exact hf, fun h => h⟩⟩
section
variable {c : List Value} {e row n k s : Nat} {h' : AHeap} {b : AAct} {vs : List Value}
theorem hv_pin {lv lv' : Value} {arr : AObj} {pre : Pre} (F : HvF c e row n k s h' b) (cf : c.all (flat 3) = true) (g2 : h'.get (szG + 2) = some (.cells [lv] 22 0 false)) (hr : Ren (preK (szG + 8) pre) lv lv') (i : Nat) (hi : i < szG + 8) (hne : i ≠ szG + 7) (g : Nat → Value) : SameP (preK (szG + 8) pre) (h'.get i) ((hvH c e row n k s lv' arr g).get i) := by
 have G := hvF_H c e row n k s lv' arr g
 by_cases hl : i < szG
 ·exact .inl ⟨F.low i hl, G.low i hl⟩
 obtain ⟨t, rfl⟩ : ∃ t, i = szG + t := ⟨i - szG, by omega⟩
 have ht : t < 7 := by omega
 have fl : ∀ v, flat 3 v = true → Ren (preK (szG + 8) pre) v v := fun v h => .flat h
 match t, ht with
 | 0, _ => exact sameP_cells F.g0 G.g0 fun v hv => .flat (List.all_eq_true.1 cf v hv)
 | 1, _ =>
  exact sameP_cells F.g1 G.g1 fun v hv => by
   simp only [List.mem_cons, List.not_mem_nil, or_false] at hv
   rw [hv]; exact .slice (preK_low (by show szG < szG + 8; omega))
 | 2, _ => exact sameP_one g2 (by kernel_rfl) hr
 | 3, _ =>
  exact sameP_cells F.g3 G.g3 fun v hv => by
   simp only [List.mem_cons, List.not_mem_nil, or_false] at hv
   rcases hv with rfl | rfl <;> exact .flat rfl
 | 4, _ =>
  exact sameP_cells F.g4 G.g4 fun v hv => by
   simp only [List.mem_cons, List.not_mem_nil, or_false] at hv
   rw [hv]; exact .flat rfl
 | 5, _ =>
  exact sameP_cells F.g5 G.g5 fun v hv => by
   simp only [List.mem_cons, List.not_mem_nil, or_false] at hv
   rcases hv with rfl | rfl <;> exact .flat rfl
 | 6, _ => exact .inr ⟨_, _, F.g6, G.g6, .inl trivial⟩
theorem hv_loop {lv' : Value} {arr : AObj} {pre : Pre} (F : HvF c e row n k s h' b) : ∃ st pd a ps asg bd d, h'.get (szG + 7) = some (.loop st pd a ps asg bd d) ∧ d < szG + 8 ∧ (∀ g, (hvH c e row n k s lv' arr g).get (szG + 7) = some (.loop st pd (stOf a.n [(2, ptN 1), (6, ptN 2)] g) ps asg bd d)) ∧ ∀ x ∈ ([(2, ptN 1), (6, ptN 2)] : List (Nat × Value)), Ren (preK (szG + 8) pre) (a.tmp x.1) x.2 := by
 refine ⟨_, _, b, _, _, _, _, F.g7, by show szG + 6 < szG + 8; omega, fun g => ?_, fun x hx => ?_⟩
 ·rw [F.bn]; show _ = _; kernel_rfl
 ·simp only [List.mem_cons, List.not_mem_nil, or_false] at hx
  rcases hx with rfl | rfl
  ·rw [F.b2]; exact .ptr (preK_low (by show szG + 1 < szG + 8; omega))
  ·rw [F.b6]; exact .ptr (preK_low (by show szG + 2 < szG + 8; omega))
theorem see_A (F : HvF c e row n k s h' b) (cf : c.all (flat 3) = true) (g2 : h'.get (szG + 2) = some (.cells [nilS] 22 0 false)) (hv : ∀ v ∈ vs, okTV v) : See (szG + 8) (szG + 7) h' vs vs (hvS c e row n k s []) := by
 refine ⟨fun _ => none, szG + 10, [(2, ptN 1), (6, ptN 2)], szG + 9, ⟨fun g => (by kernel_rfl), (by omega), fun j i h => (by cases h), fun j j' i h => (by cases h), fun i hi hne g => hv_pin F cf g2 (.flat rfl) i hi hne g, (by omega), hv_loop F, fun j i h => (by cases h), fun j h1 _ h2 g o ho => ?_⟩, ⟨by omega, by omega, rfl⟩, fun j i h => (by cases h), rfl, fun q x y hx hy => ?_⟩
 ·obtain ⟨t, rfl⟩ : ∃ t, j = szG + t := ⟨j - szG, by omega⟩
  obtain rfl | rfl : t = 8 ∨ t = 9 := by omega
  ·have : (hvS c e row n k s [] g).get (szG + 8) = some .dead := by kernel_rfl
   rw [this] at ho; cases ho; rfl
  ·have : (hvS c e row n k s [] g).get (szG + 9) = some .dead := by kernel_rfl
   rw [this] at ho; cases ho; rfl
 ·rw [hx] at hy; cases hy
  exact (hv x (List.mem_of_getElem? hx)).ren
theorem see_D {x u : Nat} {L : List Int} (F : HvF c e row n k s h' b) (cf : c.all (flat 3) = true) (g2 : h'.get (szG + 2) = some (.cells [.slice (some ⟨szG + x, 0, none⟩) u u] 22 0 false)) (ga : h'.get (szG + x) = some (.cells (L.map gi) 3 2 false)) (hx : 8 ≤ x) (hu : L.length = u) (hL : L ≠ []) (hv : ∀ v ∈ vs, okTV v) (hy : yV ∈ vs) : See (szG + 8) (szG + 7) h' vs vs (hvS c e row n k s L) := by
 obtain ⟨a, r, rfl⟩ : ∃ a r, L = a :: r := by
  cases L with
  | nil => exact absurd rfl hL
  | cons a r => exact ⟨a, r, rfl⟩
 subst hu
 have born : BnV h' vs (szG + x) := .cell (.loop (t := 6) (.yield hy) F.g7 (by rw [F.b6]; exact .inr (.inl ⟨0, rfl⟩))) g2 (.head _) (.inl ⟨0, _, _, rfl⟩)
 have pe : ∀ j i, (fun j => if j = szG + 8 then some (szG + x) else none : Pre) j = some i → j = szG + 8 ∧ i = szG + x := fun j i h => by
  simp only at h
  split at h
  ·cases h; exact ⟨by assumption, rfl⟩
  ·cases h
 refine ⟨fun j => if j = szG + 8 then some (szG + x) else none, szG + 10, [(2, ptN 1), (6, ptN 2)], szG + 9, ⟨fun g => (by kernel_rfl), (by omega), fun j i h => ?_, fun j j' i h h' => ?_, fun i hi hne g => hv_pin F cf g2 (.slice ?_) i hi hne g, (by omega), hv_loop F, fun j i h g => ?_, fun j h1 hp h2 g o ho => ?_⟩, ⟨by omega, by omega, ?_⟩, fun j i h => ?_, rfl, fun q x y hx hy => ?_⟩
 ·obtain ⟨rfl, rfl⟩ := pe j i h
  omega
 ·rw [(pe j i h).1, (pe j' i h').1]
 ·show preK (szG + 8) _ (szG + 8) = some (szG + x)
  simp only [preK]
  rw [if_neg (by omega), if_pos trivial]
 ·obtain ⟨rfl, rfl⟩ := pe j i h
  refine ⟨_, _, ga, (by kernel_rfl : (hvS c e row n k s (a :: r) g).get (szG + 8) = some (.cells (List.map gi (a :: r)) 3 2 false)), rfl, rfl, rfl, flat_ren (flat_ints _), fun h => h⟩
 ·obtain ⟨t, rfl⟩ : ∃ t, j = szG + t := ⟨j - szG, by omega⟩
  obtain rfl | rfl : t = 8 ∨ t = 9 := by omega
  ·rw [if_pos rfl] at hp; cases hp
  ·have : (hvS c e row n k s (a :: r) g).get (szG + 9) = some .dead := by kernel_rfl
   rw [this] at ho; cases ho; rfl
 ·show (if szG + 9 = szG + 8 then some (szG + x) else none) = none
  rw [if_neg (by omega)]
 ·obtain ⟨rfl, rfl⟩ := pe j i h
  exact born
 ·rw [hx] at hy; cases hy
  exact (hv x (List.mem_of_getElem? hx)).ren
end
end Go.Proofs.YtihnnmejkpddeaaGreatDoor
/-! (OWN WORK. Stage 6: what a series holds for some samples: the iterator's inner loop.) -/
namespace Go.Proofs.YtihnnmejkpddeaaGreatDoor
open Go Go.Am
noncomputable def wnF (c : List Value) (p len : Nat) : Int := mnJ (fnI c (0 + p * 1)) (len - 1)
noncomputable def wsL (c : List Value) (p s : Nat) : Nat → List Int
 | 0 => []
 | j + 1 => wsL c p s j ++ [wnF c p (s + j)]
theorem wsL_len (c : List Value) (p s : Nat) : ∀ j, (wsL c p s j).length = j
 | 0 => rfl
 | j + 1 => by
  show (wsL c p s j ++ [wnF c p (s + j)]).length = j + 1
  rw [List.length_append, wsL_len c p s j]; rfl
noncomputable abbrev wiV (n p la q : Nat) : List Value := [yV, ptN 4, ptN 5, goN p, goN la, goN q, goN n, goN p]
theorem wiV_ok (n p la q : Nat) : ∀ v ∈ wiV n p la q, okTV v := by
 intro v hv
 simp only [List.mem_cons, List.not_mem_nil, or_false] at hv
 rcases hv with rfl | rfl | rfl | rfl | rfl | rfl | rfl | rfl
 ·exact .inr (.inl rfl)
 ·exact .inr (.inr ⟨4, by omega, rfl⟩)
 ·exact .inr (.inr ⟨5, by omega, rfl⟩)
 all_goals exact .inl rfl
structure HvC (c : List Value) (row n k s : Nat) : Prop where
 cf : c.all (flat 3) = true
 rw : (Nat.beq row 0 || Nat.beq row 2) = true
 nk : n ≤ k
 n1 : n ≤ 65536
 s1 : 0 < s
 s2 : s ≤ 65536
 at_ : ∀ j, j < n → c[j]? = some (gi (intAt c j))
theorem HvC.ok {c : List Value} {row n k s : Nat} (C : HvC c row n k s) {p len : Nat} (h0 : 0 < len) (h1 : p + len ≤ n) : okPs c (0 + p * 1) len := by
 refine ⟨h0, by have := C.n1; omega, fun j hj => ?_⟩
 rw [show 0 + p * 1 + j * 1 = p + j by omega]
 exact C.at_ _ (by omega)
theorem see_self {c : List Value} {e row n k s : Nat} {L : List Int} {g₂ : Nat → Value} {vs : List Value} (cf : c.all (flat 3) = true) (hv : ∀ v ∈ vs, okTV v) (hy : yV ∈ vs) : See (szG + 8) (szG + 7) (hvS c e row n k s L g₂) vs vs (hvS c e row n k s L) := by
 cases L with
 | nil => exact see_A (b := hvA g₂) (hvF_H c e row n k s nilS .dead g₂) cf (by kernel_rfl) hv
 | cons x r => exact see_D (b := hvA g₂) (x := 8) (u := (x :: r).length) (hvF_H c e row n k s _ _ g₂) cf (by kernel_rfl) (by kernel_rfl) (by omega) rfl (by simp) hv hy
section
variable {c : List Value} {row n k s : Nat} (C : HvC c row n k s)
include C
set_option maxRecDepth 100000 in
theorem wi_loop (e p la : Nat) (L₀ : List Int) (hla : la ≤ n) (hL : L₀.length ≤ 10000000000) : ∀ (a : AAct) (h : AHeap), See (szG + 8) (szG + 7) h ([0, 1, 2, 4, 5, 6, 7, 8].map a.tmp) (wiV n p la (p + s)) (hvS c e row n k s L₀) → a.n = 33 → a.marks = [] →
  JK (szG + 8) Tryz.prog (.loop (loopOf Tryz.prog 182 2)) a h (told 33 [0, 1, 2, 4, 5, 6, 7, 8] fun ex vs h' => ex = .exit 2 ∧ vs = wiV n p la (p + s + (la + 1 - (p + s))) ∧ ∃ g₂, h' = hvS c e row n k s (L₀ ++ wsL c p s (la + 1 - (p + s))) g₂) := by
 obtain ⟨cf, hrw, hnk, hn1, hs1, hs2, hat⟩ := id C
 refine JK.foldL (by show szG ≤ szG + 8; omega) (fun j => wiV n p la (p + s + j)) (fun j => hvS c e row n k s (L₀ ++ wsL c p s j)) (fun _ => True) (la + 1 - (p + s)) trivial _ ?_ ?_ |> fun x => by simpa only [wsL, List.append_nil, Nat.add_zero] using x
 ·intro j hj _ g g₂
  have hq : p + s + j ≤ la := by omega
  have e1 : Int.ofNat (p + s + j) ≤ Int.ofNat k := by simp only [Int.ofNat_eq_natCast]; omega
  have e2 : Int.ofNat p ≤ Int.ofNat (p + s + j) := by simp only [Int.ofNat_eq_natCast]; omega
  have e3 : Int.ofNat p < Int.ofNat k := by simp only [Int.ofNat_eq_natCast]; omega
  have e0 : (0 : Int) ≤ Int.ofNat p := by simp only [Int.ofNat_eq_natCast]; omega
  have hx : p + s + j - p = (s + j - 1) + 1 := by omega
  have ok := C.ok (p := p) (len := s + j - 1 + 1) (by omega) (by omega)
  have hw : mnF c (0 + p * 1) (s + j - 1 + 1) [] = gi (wnF c p (s + j)) := by
   show gi (mnJ (fnI c (0 + p * 1)) (s + j - 1 + 1 - 1)) = gi (mnJ (fnI c (0 + p * 1)) (s + j - 1))
   rw [show s + j - 1 + 1 - 1 = s + j - 1 by omega]
  have es : L₀ ++ wsL c p s (j + 1) = (L₀ ++ wsL c p s j) ++ [wnF c p (s + j)] := by
   rw [List.append_assoc]; rfl
  have len : (L₀ ++ wsL c p s j).length ≤ 20000000000 := by rw [List.length_append, wsL_len]; omega
  generalize hLj : L₀ ++ wsL c p s j = Lj at es len
  cases Lj with
  | nil =>
   refine JK.ofR mixed orcLa_ok askLa_ok (Eq.mpr (wi_A c e row n k s p (p + s + j) (Int.ofNat la) g g₂ _) ⟨fun hlt => ⟨e0, e2, e1, e3, hrw, s + j - 1, hx, ⟨cf, trivial⟩, ok, rfl, rfl, rfl, trivial, ?_⟩, fun hge => ?_⟩)
   ·rw [fwrap_nat (by omega), hw]
    show See _ _ _ (wiV n p la (p + s + j + 1)) (wiV n p la (p + s + (j + 1))) (hvS c e row n k s (L₀ ++ wsL c p s (j + 1)))
    rw [es, show p + s + (j + 1) = p + s + j + 1 by omega]
    refine see_D (b := hvA g₂) (x := 12) (u := 1) (L := [wnF c p (s + j)]) ⟨?_, by kernel_rfl, by kernel_rfl, by kernel_rfl, by kernel_rfl, by kernel_rfl, by kernel_rfl, by kernel_rfl, hvA_n _, hvA_tmp2 _, hvA_tmp6 _⟩ cf (by kernel_rfl) (by kernel_rfl) (by omega) rfl (by simp) (wiV_ok _ _ _ _) (.head _)
    (repeat' (first | with_reducible apply LowN.set | with_reducible apply LowN.push)) <;> first | exact low_hvH _ _ _ _ _ _ _ _ _ | exact of_decide_eq_true (by kernel_rfl)
   ·have hge := not_t hge
    rw [ilt_say] at hge
    have := of_decide_eq_true hge
    simp only [Int.ofNat_eq_natCast] at this
    omega
  | cons y r =>
   refine JK.ofR mixed orcLa_ok askLa_ok (Eq.mpr (wi_D c e row n k s p (p + s + j) (Int.ofNat la) (List.map gi (y :: r)) (y :: r).length g g₂ _) ⟨fun hlt => ⟨e0, e2, e1, e3, hrw, s + j - 1, hx, ⟨cf, trivial⟩, ok, rfl, rfl, rfl, ble_noV (by omega), by rw [Nat.ble_eq]; omega, by rw [List.length_map]; omega, trivial, ?_⟩, fun hge => ?_⟩)
   ·rw [fwrap_nat (by omega), hw]
    show See _ _ _ (wiV n p la (p + s + j + 1)) (wiV n p la (p + s + (j + 1))) (hvS c e row n k s (L₀ ++ wsL c p s (j + 1)))
    rw [es, show p + s + (j + 1) = p + s + j + 1 by omega]
    refine see_D (b := hvA g₂) (x := 12) (u := (y :: r).length + 1) (L := (y :: r) ++ [wnF c p (s + j)]) ⟨?_, by kernel_rfl, by kernel_rfl, by kernel_rfl, by kernel_rfl, by kernel_rfl, by kernel_rfl, by kernel_rfl, hvA_n _, hvA_tmp2 _, hvA_tmp6 _⟩ cf (by kernel_rfl) ?_ (by omega) (by rw [List.length_append]; rfl) (by simp) (wiV_ok _ _ _ _) (.head _)
    ·(repeat' (first | with_reducible apply LowN.set | with_reducible apply LowN.push)) <;> first | exact low_hvH _ _ _ _ _ _ _ _ _ | exact of_decide_eq_true (by kernel_rfl)
    ·rw [List.map_append]; show _ = _; kernel_rfl
   ·have hge := not_t hge
    rw [ilt_say] at hge
    have := of_decide_eq_true hge
    simp only [Int.ofNat_eq_natCast] at this
    omega
 ·intro _ g g₂
  generalize hLj : L₀ ++ wsL c p s (la + 1 - (p + s)) = Lj
  have hge : ∀ {b : Prop}, (!(ilt (Int.ofNat la) (Int.ofNat (p + s + (la + 1 - (p + s)))))) = true → b := fun {b} h => by
   have h := not_f h
   rw [ilt_say] at h
   have := of_decide_eq_false h
   simp only [Int.ofNat_eq_natCast] at this
   omega
  cases Lj with
  | nil => exact JK.ofR mixed orcLa_ok askLa_ok (Eq.mpr (wi_A c e row n k s p _ (Int.ofNat la) g g₂ _) ⟨fun h => hge h, fun _ => ⟨rfl, rfl, g₂, rfl⟩⟩)
  | cons y r => exact JK.ofR mixed orcLa_ok askLa_ok (Eq.mpr (wi_D c e row n k s p _ (Int.ofNat la) (List.map gi (y :: r)) (y :: r).length g g₂ _) ⟨fun h => hge h, fun _ => ⟨rfl, rfl, g₂, rfl⟩⟩)
end
end Go.Proofs.YtihnnmejkpddeaaGreatDoor
/-! (OWN WORK. Stage 6: what a series holds for some samples: the iterator's outer loop.) -/
namespace Go.Proofs.YtihnnmejkpddeaaGreatDoor
open Go Go.Am
noncomputable def lvS : List Int → Value
 | [] => nilS
 | x :: r => slP 8 (x :: r).length (x :: r).length
noncomputable def arS : List Int → AObj
 | [] => .dead
 | x :: r => .cells (List.map gi (x :: r)) 3 2 false
theorem hvS_eq (c : List Value) (e row n k s : Nat) (L : List Int) (g : Nat → Value) : hvS c e row n k s L g = hvH c e row n k s (lvS L) (arS L) g := by
 cases L <;> rfl
noncomputable def wiK (c : List Value) (e row n k s p la : Nat) (lv : Value) (arr : AObj) : LoopsK (szG + 8) Tryz.prog where
 body := fun _ => loopOf Tryz.prog 182 2
 spec := fun _ a h q => entry a 33 [(0, yV), (1, ptN 4), (2, ptN 5), (4, goN p), (5, goN la), (6, goN (p + s)), (7, goN n), (8, goN p)] (∃ (L₀ : List Int) (g₂ : Nat → Value), lv = lvS L₀ ∧ arr = arS L₀ ∧ h = hvH c e row n k s lv arr g₂ ∧ (HvC c row n k s ∧ la ≤ n ∧ L₀.length ≤ 10000000000) ∧
  ∀ g g₂, q (.exit 2) (stOf 33 [(0, yV), (1, ptN 4), (2, ptN 5), (7, goN n), (8, goN p)] g) (hvH c e row n k s (lvS (L₀ ++ wsL c p s (la + 1 - (p + s)))) (arS (L₀ ++ wsL c p s (la + 1 - (p + s)))) g₂))
 ok := fun i a h q x => by
  obtain ⟨h1, h2, h3, L₀, g₂, rfl, rfl, rfl, ⟨C, hla, hL⟩, h5⟩ := entry_facts x
  refine JK.toJ (JK.of_told (wi_loop C e p la L₀ hla hL a _ ?_ h1 h2) ?_)
  ·rw [← hvS_eq]
   simp only [List.map_cons, List.map_nil]
   rw [h3 (0, yV) (by simp), h3 (1, ptN 4) (by simp), h3 (2, ptN 5) (by simp), h3 (4, goN p) (by simp), h3 (5, goN la) (by simp), h3 (6, goN (p + s)) (by simp), h3 (7, goN n) (by simp), h3 (8, goN p) (by simp)]
   exact see_self C.cf (wiV_ok n p la (p + s)) (.head _)
  ·rintro ex vs h' g ⟨rfl, rfl, g₂, rfl⟩
   rw [hvS_eq]
   exact h5 (ov [(4, goN p), (5, goN la), (6, goN (p + s + (la + 1 - (p + s))))] g) g₂
 okK := fun i a h q x => by
  obtain ⟨h1, h2, h3, L₀, g₂, rfl, rfl, rfl, ⟨C, hla, hL⟩, h5⟩ := entry_facts x
  refine JK.of_told (wi_loop C e p la L₀ hla hL a _ ?_ h1 h2) ?_
  ·rw [← hvS_eq]
   simp only [List.map_cons, List.map_nil]
   rw [h3 (0, yV) (by simp), h3 (1, ptN 4) (by simp), h3 (2, ptN 5) (by simp), h3 (4, goN p) (by simp), h3 (5, goN la) (by simp), h3 (6, goN (p + s)) (by simp), h3 (7, goN n) (by simp), h3 (8, goN p) (by simp)]
   exact see_self C.cf (wiV_ok n p la (p + s)) (.head _)
  ·rintro ex vs h' g ⟨rfl, rfl, g₂, rfl⟩
   rw [hvS_eq]
   exact h5 (ov [(4, goN p), (5, goN la), (6, goN (p + s + (la + 1 - (p + s))))] g) g₂
 rokK := fun i c a h k _ q => q.elim
 rfokK := fun c a h k q => q.elim
theorem wo_body (c : List Value) (e row n k s p la : Nat) (lv : Value) (arr : AObj) (g g₂ : Nat → Value) (Q : Exit → List Value → AHeap → Prop) : execC Tryz.prog (exec Tryz.prog orcLa 10) (syOf [(9, 1)]) askLa (wiK c e row n k s p la lv arr).toLoops 40 (loopOf Tryz.prog 182 0) (stOf 33 [(0, yV), (1, ptN 4), (2, ptN 5), (7, goN n), (8, goN p)] g) (hvH c e row n k s lv arr g₂) (told 33 [0, 1, 2, 7, 8] Q) = (((Nat.blt p n = true → (loopOf Tryz.prog 182 2 = loopOf Tryz.prog 182 2 ∧ yV = yV ∧ ptN 4 = ptN 4 ∧ ptN 5 = ptN 5 ∧ goN p = goN p ∧ gi (if (Int.ofNat n : Int) < fwrap IntKind.i64 (Int.ofNat (p + s)) then Int.ofNat n else fwrap IntKind.i64 (Int.ofNat (p + s))) = goN la ∧ gi (fwrap IntKind.i64 (Int.ofNat (p + s))) = goN (p + s) ∧ goN n = goN n ∧ goN p = goN p ∧ (∃ x1 : List Int, (∃ x2 : Nat → Value, (lv = lvS x1 ∧ arr = arS x1 ∧ hvH c e row n k s lv arr g₂ = hvH c e row n k s lv arr x2 ∧ (HvC c row n k s ∧ (la : Nat) ≤ n ∧ (List.length x1 : Nat) ≤ 10000000000) ∧ (∀ _ : Nat → Value, (∀ y4 : Nat → Value, Q .normal [yV, ptN 4, ptN 5, goN n, gi (fwrap IntKind.i64 (Int.ofNat (p + 1)))] (hvH c e row n k s (lvS (x1 ++ wsL c p s ((la + 1) - (p + s)))) (arS (x1 ++ wsL c p s ((la + 1) - (p + s)))) y4)))))))) ∧ (Nat.blt p n = false → Q (.exit 0) [yV, ptN 4, ptN 5, goN n, goN p] (hvH c e row n k s lv arr g₂)))) := by kernel_rfl
end Go.Proofs.YtihnnmejkpddeaaGreatDoor
/-! (OWN WORK. Stage 6: what a series holds for some samples: all windows are visited.) -/
namespace Go.Proofs.YtihnnmejkpddeaaGreatDoor
open Go Go.Am
noncomputable def allL (c : List Value) (s n : Nat) : Nat → List Int
 | 0 => []
 | j + 1 => allL c s n j ++ wsL c j s (min (j + s) n + 1 - (j + s))
theorem allL_len (c : List Value) (s n : Nat) : ∀ j, (allL c s n j).length ≤ j
 | 0 => Nat.le_refl _
 | j + 1 => by
  have := allL_len c s n j
  show (allL c s n j ++ wsL c j s (min (j + s) n + 1 - (j + s))).length ≤ j + 1
  rw [List.length_append, wsL_len]
  have : min (j + s) n ≤ j + s := Nat.min_le_left _ _
  omega
noncomputable abbrev woV (n p : Nat) : List Value := [yV, ptN 4, ptN 5, goN n, goN p]
theorem woV_ok (n p : Nat) : ∀ v ∈ woV n p, okTV v := by
 intro v hv
 simp only [List.mem_cons, List.not_mem_nil, or_false] at hv
 rcases hv with rfl | rfl | rfl | rfl | rfl
 ·exact .inr (.inl rfl)
 ·exact .inr (.inr ⟨4, by omega, rfl⟩)
 ·exact .inr (.inr ⟨5, by omega, rfl⟩)
 all_goals exact .inl rfl
theorem min_go {n x : Nat} (hx : x ≤ 1000000) : gi (if (Int.ofNat n : Int) < fwrap .i64 (Int.ofNat x) then Int.ofNat n else fwrap .i64 (Int.ofNat x)) = goN (min x n) := by
 rw [fwrap_nat (by omega)]
 show gi _ = gi (Int.ofNat (min x n))
 by_cases h : n < x
 ·rw [if_pos (by simp only [Int.ofNat_eq_natCast]; omega), Nat.min_eq_right (by omega)]
 ·rw [if_neg (by simp only [Int.ofNat_eq_natCast]; omega), Nat.min_eq_left (by omega)]
section
variable {c : List Value} {row n k s : Nat} (C : HvC c row n k s)
include C
set_option maxRecDepth 100000 in
theorem wo_loop (e : Nat) : ∀ (a : AAct) (h : AHeap), See (szG + 8) (szG + 7) h ([0, 1, 2, 7, 8].map a.tmp) (woV n 0) (hvS c e row n k s []) → a.n = 33 → a.marks = [] →
  JK (szG + 8) Tryz.prog (.loop (loopOf Tryz.prog 182 0)) a h (told 33 [0, 1, 2, 7, 8] fun ex _ h' => ex = .exit 0 ∧ ∃ g₂, h' = hvS c e row n k s (allL c s n n) g₂) := by
 have hn1 := C.n1
 have hs2 := C.s2
 refine JK.foldL (by show szG ≤ szG + 8; omega) (fun j => woV n j) (fun j => hvS c e row n k s (allL c s n j)) (fun _ => True) n trivial _ ?_ ?_
 ·intro j hj _ g g₂
  have len := allL_len c s n j
  show JK _ _ _ _ (hvS c e row n k s (allL c s n j) g₂) _
  rw [hvS_eq]
  refine execK_ok mixed orcLa_ok askLa_ok (wiK c e row n k s j (min (j + s) n) (lvS (allL c s n j)) (arS (allL c s n j))) (Eq.mpr (wo_body c e row n k s j (min (j + s) n) _ _ g g₂ _) ⟨fun hlt => ⟨rfl, rfl, rfl, rfl, rfl, min_go (by omega), by rw [fwrap_nat (by omega)], rfl, rfl, allL c s n j, g₂, rfl, rfl, rfl, ⟨C, Nat.min_le_right _ _, by omega⟩, fun _ g₃ => ⟨trivial, ?_⟩⟩, fun hge => absurd (blt_false hge) (by omega)⟩)
  rw [fwrap_nat (by omega), ← hvS_eq]
  exact see_self C.cf (woV_ok n (j + 1)) (.head _)
 ·intro _ g g₂
  show JK _ _ _ _ (hvS c e row n k s (allL c s n n) g₂) _
  rw [hvS_eq]
  refine execK_ok mixed orcLa_ok askLa_ok (wiK c e row n k s n n (lvS (allL c s n n)) (arS (allL c s n n))) (Eq.mpr (wo_body c e row n k s n n _ _ g g₂ _) ⟨fun hlt => absurd (blt_true hlt) (by omega), fun _ => ⟨rfl, g₂, (hvS_eq c e row n k s _ g₂).symm⟩⟩)
end
noncomputable def hvQ (c : List Value) (e row m k s : Nat) : AHeap := ((((((liH c e row).push (.cells [liP (m + 1) k] 22 0 false)).push (.cells [nilS] 22 0 false)).push (.cells [gi 0, gi 0] 26 0 false)).set (nG1 + 3) (.cells ([] ++ ([goN s, goN s] ++ [])) 26 0 false)).push (.cells [goN (m + 1)] 3 0 false)).push (.cells (List.take 2 (List.drop 0 ([] ++ ([goN s, goN s] ++ [])))) 26 0 false)
noncomputable def hvR (c : List Value) (e row m k s : Nat) (b : AAct) : AHeap := ((hvQ c e row m k s).push .defd).push (hvL b)
theorem low_liH (c : List Value) (e row : Nat) : LowN (liH c e row) := fun i hi => by
 rw [canon_get, if_neg (by omega)]
theorem hvF_R (c : List Value) (e row m k s : Nat) (b : AAct) (bn : b.n = 31) (b2 : b.tmp 2 = ptN 1) (b6 : b.tmp 6 = ptN 2) : HvF c e row (m + 1) k s (hvR c e row m k s b) b :=
 ⟨by
  unfold hvR hvQ
  (repeat' (first | with_reducible apply LowN.set | with_reducible apply LowN.push)) <;> first | exact low_liH _ _ _ | exact of_decide_eq_true (by kernel_rfl), by kernel_rfl, by kernel_rfl, by kernel_rfl, by kernel_rfl, by kernel_rfl, by kernel_rfl, by kernel_rfl, bn, b2, b6⟩
def bOk (b : AAct) : Prop := b.n = 31 ∧ b.tmp 2 = ptN 1 ∧ b.tmp 6 = ptN 2
noncomputable def woK (c : List Value) (e row m k s : Nat) (b : AAct) : LoopsK (szG + 8) Tryz.prog where
 body := fun _ => loopOf Tryz.prog 182 0
 spec := fun _ a h q => entry a 33 [(0, yV), (1, ptN 4), (2, ptN 5), (7, goN (m + 1)), (8, goN 0)] (h = hvR c e row m k s b ∧ (HvC c row (m + 1) k s ∧ bOk b) ∧ ∀ g g₂, q (.exit 0) (stOf 33 [] g) (hvS c e row (m + 1) k s (allL c s (m + 1) (m + 1)) g₂))
 ok := fun i a h q x => by
  obtain ⟨h1, h2, h3, rfl, ⟨C, bn, b2, b6⟩, h5⟩ := entry_facts x
  refine JK.toJ (JK.of_told (wo_loop C e a _ ?_ h1 h2) ?_)
  ·simp only [List.map_cons, List.map_nil]
   rw [h3 (0, yV) (by simp), h3 (1, ptN 4) (by simp), h3 (2, ptN 5) (by simp), h3 (7, goN (m + 1)) (by simp), h3 (8, goN 0) (by simp)]
   exact see_A (hvF_R c e row m k s b bn b2 b6) C.cf (by kernel_rfl) (woV_ok (m + 1) 0)
  ·rintro ex vs h' g ⟨rfl, g₂, rfl⟩
   exact h5 (ov ([0, 1, 2, 7, 8].zip vs) g) g₂
 okK := fun i a h q x => by
  obtain ⟨h1, h2, h3, rfl, ⟨C, bn, b2, b6⟩, h5⟩ := entry_facts x
  refine JK.of_told (wo_loop C e a _ ?_ h1 h2) ?_
  ·simp only [List.map_cons, List.map_nil]
   rw [h3 (0, yV) (by simp), h3 (1, ptN 4) (by simp), h3 (2, ptN 5) (by simp), h3 (7, goN (m + 1)) (by simp), h3 (8, goN 0) (by simp)]
   exact see_A (hvF_R c e row m k s b bn b2 b6) C.cf (by kernel_rfl) (woV_ok (m + 1) 0)
  ·rintro ex vs h' g ⟨rfl, g₂, rfl⟩
   exact h5 (ov ([0, 1, 2, 7, 8].zip vs) g) g₂
 rokK := fun i c a h k _ q => q.elim
 rfokK := fun c a h k q => q.elim
theorem w1_run (c : List Value) (e row m k s : Nat) (b : AAct) (K : Value → AHeap → Prop) : callC Tryz.prog (exec Tryz.prog orcLa 10) (syOf []) askLa (woK c e row m k s b).toLoops 40 182 #[yV, ptN 4, ptN 5] (hvR c e row m k s b) K = ((loopOf Tryz.prog 182 0 = loopOf Tryz.prog 182 0 ∧ yV = yV ∧ ptN 4 = ptN 4 ∧ ptN 5 = ptN 5 ∧ goN (m + 1) = goN (m + 1) ∧ gi 0 = goN 0 ∧ hvR c e row m k s b = hvR c e row m k s b ∧ (HvC c row (m + 1) k s ∧ bOk b) ∧ (∀ _ : Nat → Value, (∀ y2 : Nat → Value, K (Value.tuple #[]) (hvS c e row (m + 1) k s (allL c s (m + 1) (m + 1)) y2))))) := by kernel_rfl
end Go.Proofs.YtihnnmejkpddeaaGreatDoor
/-! (OWN WORK. Stage 6: what a series holds for some samples, carried out.) -/
namespace Go.Proofs.YtihnnmejkpddeaaGreatDoor
open Go Go.Am
theorem allL_app (c : List Value) (s n : Nat) : ∀ j, ∃ r, allL c s n (j + 1) = wsL c 0 s (min s n + 1 - s) ++ r
 | 0 => ⟨[], by
  show allL c s n 0 ++ wsL c 0 s (min (0 + s) n + 1 - (0 + s)) = _
  rw [Nat.zero_add, List.append_nil]; rfl⟩
 | j + 1 => by
  obtain ⟨r, hr⟩ := allL_app c s n j
  refine ⟨r ++ wsL c (j + 1) s (min (j + 1 + s) n + 1 - (j + 1 + s)), ?_⟩
  show allL c s n (j + 1) ++ wsL c (j + 1) s _ = _
  rw [hr, List.append_assoc]
theorem allL_ne {c : List Value} {s m : Nat} (h : s ≤ m + 1) : ∃ x r, allL c s (m + 1) (m + 1) = x :: r := by
 obtain ⟨r, hr⟩ := allL_app c s (m + 1) m
 rw [Nat.min_eq_left h, show s + 1 - s = 1 by omega] at hr
 exact ⟨_, r, hr⟩
noncomputable abbrev hvX (g : Nat → Value) : AObj := .loop .exhausted none (hvA g) #[14] hdAs hdBd (Tryz.prog.globals.size + 6)
noncomputable def hvE (c : List Value) (e row m k s : Nat) (x : Int) (r : List Int) (g : Nat → Value) : AHeap := (hvH c e row (m + 1) k s (slP 8 (r.length + 1) (r.length + 1)) (.cells (List.map gi (x :: r)) 3 2 false) g).set (Tryz.prog.globals.size + 7) (hvX g)
set_option maxRecDepth 100000 in
theorem range_ok {c : List Value} {e row m k s : Nat} {a : AAct} {q : Post} (C : HvC c row (m + 1) k s) (hs : s ≤ m + 1) (hf : fval a (.tmp 13) = .func (.func 182) #[] #[ptN 4, ptN 5]) (hm : a.marks = []) (hb : bOk a)
  (hk : ∀ x r g₂, allL c s (m + 1) (m + 1) = x :: r → q .normal { n := a.n, t := a.t, marks := [Tryz.prog.globals.size + 6] } (hvE c e row m k s x r g₂)) : J Tryz.prog (.rangeFunc (.tmp 13) #[14] hdAs hdBd) a (hvQ c e row m k s) q := by
 have hn : (hvQ c e row m k s).n = szG + 6 := by kernel_rfl
 refine J.rangeK (fn := Tryz.f182) hf (by kernel_rfl) (by kernel_rfl) ?_
 rw [hn, hm]
 refine callK_ok (L := woK c e row m k s a) mixed orcLa_ok askLa_ok (m := 10) (n := 40) (sy := syOf []) (Eq.mpr (w1_run c e row m k s a _) ⟨rfl, rfl, rfl, rfl, rfl, rfl, rfl, ⟨C, hb⟩, fun _ g₂ => ?_⟩)
 obtain ⟨x, r, hxr⟩ := allL_ne (c := c) hs
 rw [hxr]
 exact ⟨.ready, hvA g₂, #[14], hdAs, hdBd, szG + 6, by kernel_rfl, by simp, hk x r g₂ hxr⟩
noncomputable def hrL (c : List Value) (e row m k s : Nat) : Loops Tryz.prog where
 body := fun _ => .skip
 spec := fun _ _ _ _ => False
 ok := fun _ _ _ _ h => h.elim
 rf := fun cd a h q => cd = .rangeFunc (.tmp 13) #[14] hdAs hdBd ∧ h = hvQ c e row m k s ∧ (HvC c row (m + 1) k s ∧ s ≤ m + 1) ∧ fval a (.tmp 13) = .func (.func 182) #[] #[ptN 4, ptN 5] ∧ a.marks = [] ∧ a.n = 31 ∧ a.tmp 2 = ptN 1 ∧ a.tmp 6 = ptN 2 ∧
  ∀ x r g₂, allL c s (m + 1) (m + 1) = x :: r → q .normal { n := a.n, t := a.t, marks := [Tryz.prog.globals.size + 6] } (hvE c e row m k s x r g₂)
 rfok := fun cd a h q x => by
  obtain ⟨rfl, rfl, ⟨C, hs⟩, hf, hm, bn, b2, b6, hk⟩ := x
  exact range_ok C hs hf hm ⟨bn, b2, b6⟩ hk
theorem hd_run (c : List Value) (e row m k s : Nat) (K : Value → Prop) : callM Tryz.prog (exec Tryz.prog orcLa 40) (syOf [(26, 7), (30, 7)]) askLa (hrL c e row m k s) 60 101 #[liP (m + 1) k, goN s] (liH c e row) (fun v _ => K v) = ((goN (m + 1) = goN (m + 1) ∧ [liP (m + 1) k][0]? = Option.some (liP (m + 1) k) ∧ Code.rangeFunc (Operand.tmp 13) #[14] hdAs hdBd = Code.rangeFunc (Operand.tmp 13) #[14] hdAs hdBd ∧ ((((((liH c e row).push (.cells [liP (m + 1) k] 22 0 false)).push (.cells [nilS] 22 0 false)).push (.cells [gi 0, gi 0] 26 0 false)).set (nG1 + 3) (.cells ([] ++ ([goN s, goN s] ++ [])) 26 0 false)).push (.cells [goN (m + 1)] 3 0 false)).push (.cells (List.take 2 (List.drop 0 ([] ++ ([goN s, goN s] ++ [])))) 26 0 false) = hvQ c e row m k s ∧ (HvC c row (m + 1) k s ∧ (s : Nat) ≤ (m + 1)) ∧ Value.func (.func 182) #[] #[Value.pointer (Option.some (Addr.mk ((((((liH c e row).push (.cells [liP (m + 1) k] 22 0 false)).push (.cells [nilS] 22 0 false)).push (.cells [gi 0, gi 0] 26 0 false)).set (nG1 + 3) (.cells ([] ++ ([goN s, goN s] ++ [])) 26 0 false)).n) 0 Option.none)), Value.pointer (Option.some (Addr.mk (((((((liH c e row).push (.cells [liP (m + 1) k] 22 0 false)).push (.cells [nilS] 22 0 false)).push (.cells [gi 0, gi 0] 26 0 false)).set (nG1 + 3) (.cells ([] ++ ([goN s, goN s] ++ [])) 26 0 false)).push (.cells [goN (m + 1)] 3 0 false)).n) 0 Option.none))] = Value.func (.func 182) #[] #[ptN 4, ptN 5] ∧ ([] : List Nat) = [] ∧ 31 = 31 ∧ Value.pointer (some ⟨nG1 + 1, 0, none⟩) = ptN 1 ∧ Value.pointer (some ⟨nG1 + 2, 0, none⟩) = ptN 2 ∧ (∀ y1 : Int, (∀ y2 : List Int, (∀ y3 : Nat → Value, (allL c s (m + 1) (m + 1) = (y1 :: y2) → ((List.all (gi y1 :: List.map gi y2) (flat 3) = true ∧ True) ∧ okPs (gi y1 :: List.map gi y2) 0 (List.length y2 + 1) ∧ c0 [] ∧ (List.all (gi y1 :: List.map gi y2) (flat 3) = true ∧ True) ∧ okPs (gi y1 :: List.map gi y2) 0 (List.length y2 + 1) ∧ cx [mxFn (gi y1 :: List.map gi y2) 0 (List.length y2 + 1) []] ∧ (∃ x4 : AHeap, (Option.some ((hvE c e row m k s y1 y2 y3).set (nG1 + 6) (.dead)) = Option.some x4 ∧ K (Value.tuple #[mxFn (gi y1 :: List.map gi y2) 0 (List.length y2 + 1) [], ixF (gi y1 :: List.map gi y2) 0 (List.length y2 + 1) [mxFn (gi y1 :: List.map gi y2) 0 (List.length y2 + 1) []]])))))))))) := by kernel_rfl
end Go.Proofs.YtihnnmejkpddeaaGreatDoor
