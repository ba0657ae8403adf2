/-
  OWN WORK. Stage 6: what is held, carried out.
-/
import Derived.Test.YtihnnmejkpddeaaGreatDoorLvDG
import Derived.Test.YtihnnmejkpddeaaGreatDoorAmV
/-! (OWN WORK. Stage 6: what a series holds for some samples: all windows are visited.) -/
namespace Go.Proofs.YtihnnmejkpddeaaGreatDoor
open Go Go.Am
noncomputable def allL (c : List Value) (s n : Nat) : Nat → List Int
  | 0 => []
  | j + 1 => allL c s n j ++ wsL c j s (min (j + s) n + 1 - (j + s))
theorem allL_len (c : List Value) (s n : Nat) : ∀ j, (allL c s n j).length ≤ j
  | 0 => Nat.le_refl _
  | j + 1 => by
    have := allL_len c s n j
    show (allL c s n j ++ wsL c j s (min (j + s) n + 1 - (j + s))).length ≤ j + 1
    rw [List.length_append, wsL_len]
    have : min (j + s) n ≤ j + s := Nat.min_le_left _ _
    omega
noncomputable abbrev woV (n p : Nat) : List Value := [yV, ptN 4, ptN 5, goN n, goN p]
theorem woV_ok (n p : Nat) : ∀ v ∈ woV n p, okTV v := by
  intro v hv
  simp only [List.mem_cons, List.not_mem_nil, or_false] at hv
  rcases hv with rfl | rfl | rfl | rfl | rfl
  · exact .inr (.inl rfl)
  · exact .inr (.inr ⟨4, by omega, rfl⟩)
  · exact .inr (.inr ⟨5, by omega, rfl⟩)
  all_goals exact .inl rfl
theorem min_go {n x : Nat} (hx : x ≤ 1000000) : gi (if (Int.ofNat n : Int) < fwrap .i64 (Int.ofNat x) then Int.ofNat n else fwrap .i64 (Int.ofNat x)) = goN (min x n) := by
  rw [fwrap_nat (by omega)]
  show gi _ = gi (Int.ofNat (min x n))
  by_cases h : n < x
  · rw [if_pos (by simp only [Int.ofNat_eq_natCast]; omega), Nat.min_eq_right (by omega)]
  · rw [if_neg (by simp only [Int.ofNat_eq_natCast]; omega), Nat.min_eq_left (by omega)]
section
variable {c : List Value} {row n k s : Nat} (C : HvC c row n k s)
include C
set_option maxRecDepth 100000 in
theorem wo_loop (e : Nat) : ∀ (a : AAct) (h : AHeap), See (szG + 8) (szG + 7) h ([0, 1, 2, 7, 8].map a.tmp) (woV n 0) (hvS c e row n k s []) → a.n = 33 → a.marks = [] →
    JK (szG + 8) Tryz.prog (.loop (loopOf Tryz.prog 182 0)) a h (told 33 [0, 1, 2, 7, 8] fun ex _ h' => ex = .exit 0 ∧ ∃ g₂, h' = hvS c e row n k s (allL c s n n) g₂) := by
  have hn1 := C.n1
  have hs2 := C.s2
  refine JK.foldL (by show szG ≤ szG + 8; omega) (fun j => woV n j) (fun j => hvS c e row n k s (allL c s n j)) (fun _ => True) n trivial _ ?_ ?_
  · intro j hj _ g g₂
    have len := allL_len c s n j
    show JK _ _ _ _ (hvS c e row n k s (allL c s n j) g₂) _
    rw [hvS_eq]
    refine execK_ok mixed orcLa_ok askLa_ok (wiK c e row n k s j (min (j + s) n) (lvS (allL c s n j)) (arS (allL c s n j))) (Eq.mpr (wo_body c e row n k s j (min (j + s) n) _ _ g g₂ _) ⟨fun hlt => ⟨rfl, rfl, rfl, rfl, rfl, min_go (by omega), by rw [fwrap_nat (by omega)], rfl, rfl, allL c s n j, g₂, rfl, rfl, rfl, ⟨C, Nat.min_le_right _ _, by omega⟩, fun _ g₃ => ⟨trivial, ?_⟩⟩, fun hge => absurd (blt_false hge) (by omega)⟩)
    rw [fwrap_nat (by omega), ← hvS_eq]
    exact see_self C.cf (woV_ok n (j + 1)) (.head _)
  · intro _ g g₂
    show JK _ _ _ _ (hvS c e row n k s (allL c s n n) g₂) _
    rw [hvS_eq]
    refine execK_ok mixed orcLa_ok askLa_ok (wiK c e row n k s n n (lvS (allL c s n n)) (arS (allL c s n n))) (Eq.mpr (wo_body c e row n k s n n _ _ g g₂ _) ⟨fun hlt => absurd (blt_true hlt) (by omega), fun _ => ⟨rfl, g₂, (hvS_eq c e row n k s _ g₂).symm⟩⟩)
end
noncomputable def hvQ (c : List Value) (e row m k s : Nat) : AHeap := ((((((liH c e row).push (.cells [liP (m + 1) k] 22 0 false)).push (.cells [nilS] 22 0 false)).push (.cells [gi 0, gi 0] 26 0 false)).set (nG1 + 3) (.cells ([] ++ ([goN s, goN s] ++ [])) 26 0 false)).push (.cells [goN (m + 1)] 3 0 false)).push (.cells (List.take 2 (List.drop 0 ([] ++ ([goN s, goN s] ++ [])))) 26 0 false)
noncomputable def hvR (c : List Value) (e row m k s : Nat) (b : AAct) : AHeap := ((hvQ c e row m k s).push .defd).push (hvL b)
theorem low_liH (c : List Value) (e row : Nat) : LowN (liH c e row) := fun i hi => by
  rw [canon_get, if_neg (by omega)]
theorem hvF_R (c : List Value) (e row m k s : Nat) (b : AAct) (bn : b.n = 31) (b2 : b.tmp 2 = ptN 1) (b6 : b.tmp 6 = ptN 2) : HvF c e row (m + 1) k s (hvR c e row m k s b) b :=
  ⟨by
    unfold hvR hvQ
    (repeat' (first | with_reducible apply LowN.set | with_reducible apply LowN.push)) <;> first | exact low_liH _ _ _ | exact of_decide_eq_true (by kernel_rfl), by kernel_rfl, by kernel_rfl, by kernel_rfl, by kernel_rfl, by kernel_rfl, by kernel_rfl, by kernel_rfl, bn, b2, b6⟩
def bOk (b : AAct) : Prop := b.n = 31 ∧ b.tmp 2 = ptN 1 ∧ b.tmp 6 = ptN 2
noncomputable def woK (c : List Value) (e row m k s : Nat) (b : AAct) : LoopsK (szG + 8) Tryz.prog where
  body := fun _ => loopOf Tryz.prog 182 0
  spec := fun _ a h q => entry a 33 [(0, yV), (1, ptN 4), (2, ptN 5), (7, goN (m + 1)), (8, goN 0)] (h = hvR c e row m k s b ∧ (HvC c row (m + 1) k s ∧ bOk b) ∧ ∀ g g₂, q (.exit 0) (stOf 33 [] g) (hvS c e row (m + 1) k s (allL c s (m + 1) (m + 1)) g₂))
  ok := fun i a h q x => by
    obtain ⟨h1, h2, h3, rfl, ⟨C, bn, b2, b6⟩, h5⟩ := entry_facts x
    refine JK.toJ (JK.of_told (wo_loop C e a _ ?_ h1 h2) ?_)
    · simp only [List.map_cons, List.map_nil]
      rw [h3 (0, yV) (by simp), h3 (1, ptN 4) (by simp), h3 (2, ptN 5) (by simp), h3 (7, goN (m + 1)) (by simp), h3 (8, goN 0) (by simp)]
      exact see_A (hvF_R c e row m k s b bn b2 b6) C.cf (by kernel_rfl) (woV_ok (m + 1) 0)
    · rintro ex vs h' g ⟨rfl, g₂, rfl⟩
      exact h5 (ov ([0, 1, 2, 7, 8].zip vs) g) g₂
  okK := fun i a h q x => by
    obtain ⟨h1, h2, h3, rfl, ⟨C, bn, b2, b6⟩, h5⟩ := entry_facts x
    refine JK.of_told (wo_loop C e a _ ?_ h1 h2) ?_
    · simp only [List.map_cons, List.map_nil]
      rw [h3 (0, yV) (by simp), h3 (1, ptN 4) (by simp), h3 (2, ptN 5) (by simp), h3 (7, goN (m + 1)) (by simp), h3 (8, goN 0) (by simp)]
      exact see_A (hvF_R c e row m k s b bn b2 b6) C.cf (by kernel_rfl) (woV_ok (m + 1) 0)
    · rintro ex vs h' g ⟨rfl, g₂, rfl⟩
      exact h5 (ov ([0, 1, 2, 7, 8].zip vs) g) g₂
  rokK := fun i c a h k _ q => q.elim
  rfokK := fun c a h k q => q.elim
theorem w1_run (c : List Value) (e row m k s : Nat) (b : AAct) (K : Value → AHeap → Prop) : callC Tryz.prog (exec Tryz.prog orcLa 10) (syOf []) askLa (woK c e row m k s b).toLoops 40 182 #[yV, ptN 4, ptN 5] (hvR c e row m k s b) K = ((loopOf Tryz.prog 182 0 = loopOf Tryz.prog 182 0 ∧ yV = yV ∧ ptN 4 = ptN 4 ∧ ptN 5 = ptN 5 ∧ goN (m + 1) = goN (m + 1) ∧ gi 0 = goN 0 ∧ hvR c e row m k s b = hvR c e row m k s b ∧ (HvC c row (m + 1) k s ∧ bOk b) ∧ (∀ _ : Nat → Value, (∀ y2 : Nat → Value, K (Value.tuple #[]) (hvS c e row (m + 1) k s (allL c s (m + 1) (m + 1)) y2))))) := by kernel_rfl
end Go.Proofs.YtihnnmejkpddeaaGreatDoor
/-! (OWN WORK. Stage 6: what a series holds for some samples, carried out.) -/
namespace Go.Proofs.YtihnnmejkpddeaaGreatDoor
open Go Go.Am
theorem allL_app (c : List Value) (s n : Nat) : ∀ j, ∃ r, allL c s n (j + 1) = wsL c 0 s (min s n + 1 - s) ++ r
  | 0 => ⟨[], by
    show allL c s n 0 ++ wsL c 0 s (min (0 + s) n + 1 - (0 + s)) = _
    rw [Nat.zero_add, List.append_nil]; rfl⟩
  | j + 1 => by
    obtain ⟨r, hr⟩ := allL_app c s n j
    refine ⟨r ++ wsL c (j + 1) s (min (j + 1 + s) n + 1 - (j + 1 + s)), ?_⟩
    show allL c s n (j + 1) ++ wsL c (j + 1) s _ = _
    rw [hr, List.append_assoc]
theorem allL_ne {c : List Value} {s m : Nat} (h : s ≤ m + 1) : ∃ x r, allL c s (m + 1) (m + 1) = x :: r := by
  obtain ⟨r, hr⟩ := allL_app c s (m + 1) m
  rw [Nat.min_eq_left h, show s + 1 - s = 1 by omega] at hr
  exact ⟨_, r, hr⟩
noncomputable abbrev hvX (g : Nat → Value) : AObj := .loop .exhausted none (hvA g) #[14] hdAs hdBd (Tryz.prog.globals.size + 6)
noncomputable def hvE (c : List Value) (e row m k s : Nat) (x : Int) (r : List Int) (g : Nat → Value) : AHeap := (hvH c e row (m + 1) k s (slP 8 (r.length + 1) (r.length + 1)) (.cells (List.map gi (x :: r)) 3 2 false) g).set (Tryz.prog.globals.size + 7) (hvX g)
set_option maxRecDepth 100000 in
theorem range_ok {c : List Value} {e row m k s : Nat} {a : AAct} {q : Post} (C : HvC c row (m + 1) k s) (hs : s ≤ m + 1) (hf : fval a (.tmp 13) = .func (.func 182) #[] #[ptN 4, ptN 5]) (hm : a.marks = []) (hb : bOk a)
    (hk : ∀ x r g₂, allL c s (m + 1) (m + 1) = x :: r → q .normal { n := a.n, t := a.t, marks := [Tryz.prog.globals.size + 6] } (hvE c e row m k s x r g₂)) : J Tryz.prog (.rangeFunc (.tmp 13) #[14] hdAs hdBd) a (hvQ c e row m k s) q := by
  have hn : (hvQ c e row m k s).n = szG + 6 := by kernel_rfl
  refine J.rangeK (fn := Tryz.f182) hf (by kernel_rfl) (by kernel_rfl) ?_
  rw [hn, hm]
  refine callK_ok (L := woK c e row m k s a) mixed orcLa_ok askLa_ok (m := 10) (n := 40) (sy := syOf []) (Eq.mpr (w1_run c e row m k s a _) ⟨rfl, rfl, rfl, rfl, rfl, rfl, rfl, ⟨C, hb⟩, fun _ g₂ => ?_⟩)
  obtain ⟨x, r, hxr⟩ := allL_ne (c := c) hs
  rw [hxr]
  exact ⟨.ready, hvA g₂, #[14], hdAs, hdBd, szG + 6, by kernel_rfl, by simp, hk x r g₂ hxr⟩
noncomputable def hrL (c : List Value) (e row m k s : Nat) : Loops Tryz.prog where
  body := fun _ => .skip
  spec := fun _ _ _ _ => False
  ok := fun _ _ _ _ h => h.elim
  rf := fun cd a h q => cd = .rangeFunc (.tmp 13) #[14] hdAs hdBd ∧ h = hvQ c e row m k s ∧ (HvC c row (m + 1) k s ∧ s ≤ m + 1) ∧ fval a (.tmp 13) = .func (.func 182) #[] #[ptN 4, ptN 5] ∧ a.marks = [] ∧ a.n = 31 ∧ a.tmp 2 = ptN 1 ∧ a.tmp 6 = ptN 2 ∧
    ∀ x r g₂, allL c s (m + 1) (m + 1) = x :: r → q .normal { n := a.n, t := a.t, marks := [Tryz.prog.globals.size + 6] } (hvE c e row m k s x r g₂)
  rfok := fun cd a h q x => by
    obtain ⟨rfl, rfl, ⟨C, hs⟩, hf, hm, bn, b2, b6, hk⟩ := x
    exact range_ok C hs hf hm ⟨bn, b2, b6⟩ hk
theorem hd_run (c : List Value) (e row m k s : Nat) (K : Value → Prop) : callM Tryz.prog (exec Tryz.prog orcLa 40) (syOf [(26, 7), (30, 7)]) askLa (hrL c e row m k s) 60 101 #[liP (m + 1) k, goN s] (liH c e row) (fun v _ => K v) = ((goN (m + 1) = goN (m + 1) ∧ [liP (m + 1) k][0]? = Option.some (liP (m + 1) k) ∧ Code.rangeFunc (Operand.tmp 13) #[14] hdAs hdBd = Code.rangeFunc (Operand.tmp 13) #[14] hdAs hdBd ∧ ((((((liH c e row).push (.cells [liP (m + 1) k] 22 0 false)).push (.cells [nilS] 22 0 false)).push (.cells [gi 0, gi 0] 26 0 false)).set (nG1 + 3) (.cells ([] ++ ([goN s, goN s] ++ [])) 26 0 false)).push (.cells [goN (m + 1)] 3 0 false)).push (.cells (List.take 2 (List.drop 0 ([] ++ ([goN s, goN s] ++ [])))) 26 0 false) = hvQ c e row m k s ∧ (HvC c row (m + 1) k s ∧ (s : Nat) ≤ (m + 1)) ∧ Value.func (.func 182) #[] #[Value.pointer (Option.some (Addr.mk ((((((liH c e row).push (.cells [liP (m + 1) k] 22 0 false)).push (.cells [nilS] 22 0 false)).push (.cells [gi 0, gi 0] 26 0 false)).set (nG1 + 3) (.cells ([] ++ ([goN s, goN s] ++ [])) 26 0 false)).n) 0 Option.none)), Value.pointer (Option.some (Addr.mk (((((((liH c e row).push (.cells [liP (m + 1) k] 22 0 false)).push (.cells [nilS] 22 0 false)).push (.cells [gi 0, gi 0] 26 0 false)).set (nG1 + 3) (.cells ([] ++ ([goN s, goN s] ++ [])) 26 0 false)).push (.cells [goN (m + 1)] 3 0 false)).n) 0 Option.none))] = Value.func (.func 182) #[] #[ptN 4, ptN 5] ∧ ([] : List Nat) = [] ∧ 31 = 31 ∧ Value.pointer (some ⟨nG1 + 1, 0, none⟩) = ptN 1 ∧ Value.pointer (some ⟨nG1 + 2, 0, none⟩) = ptN 2 ∧ (∀ y1 : Int, (∀ y2 : List Int, (∀ y3 : Nat → Value, (allL c s (m + 1) (m + 1) = (y1 :: y2) → ((List.all (gi y1 :: List.map gi y2) (flat 3) = true ∧ True) ∧ okPs (gi y1 :: List.map gi y2) 0 (List.length y2 + 1) ∧ c0 [] ∧ (List.all (gi y1 :: List.map gi y2) (flat 3) = true ∧ True) ∧ okPs (gi y1 :: List.map gi y2) 0 (List.length y2 + 1) ∧ cx [mxFn (gi y1 :: List.map gi y2) 0 (List.length y2 + 1) []] ∧ (∃ x4 : AHeap, (Option.some ((hvE c e row m k s y1 y2 y3).set (nG1 + 6) (.dead)) = Option.some x4 ∧ K (Value.tuple #[mxFn (gi y1 :: List.map gi y2) 0 (List.length y2 + 1) [], ixF (gi y1 :: List.map gi y2) 0 (List.length y2 + 1) [mxFn (gi y1 :: List.map gi y2) 0 (List.length y2 + 1) []]])))))))))) := by kernel_rfl
end Go.Proofs.YtihnnmejkpddeaaGreatDoor
