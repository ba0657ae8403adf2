/-
  OWN WORK. Stage 6: what a series holds for some samples, carried out.
-/
import Derived.Test.YtihnnmejkpddeaaGreatDoorLvH
namespace Go.Proofs.YtihnnmejkpddeaaGreatDoor
open Go Go.Am

theorem allL_app (c : List Value) (s n : Nat) : ∀ j, ∃ r, allL c s n (j + 1) = wsL c 0 s (min s n + 1 - s) ++ r
  | 0 => ⟨[], by
    show allL c s n 0 ++ wsL c 0 s (min (0 + s) n + 1 - (0 + s)) = _
    rw [Nat.zero_add, List.append_nil]; rfl⟩
  | j + 1 => by
    obtain ⟨r, hr⟩ := allL_app c s n j
    refine ⟨r ++ wsL c (j + 1) s (min (j + 1 + s) n + 1 - (j + 1 + s)), ?_⟩
    show allL c s n (j + 1) ++ wsL c (j + 1) s _ = _
    rw [hr, List.append_assoc]
theorem allL_ne {c : List Value} {s m : Nat} (h : s ≤ m + 1) : ∃ x r, allL c s (m + 1) (m + 1) = x :: r := by
  obtain ⟨r, hr⟩ := allL_app c s (m + 1) m
  rw [Nat.min_eq_left h, show s + 1 - s = 1 by omega] at hr
  exact ⟨_, r, hr⟩
noncomputable abbrev hvX (g : Nat → Value) : AObj := .loop .exhausted none (hvA g) #[14] hdAs hdBd (Tryz.prog.globals.size + 6)
noncomputable def hvE (c : List Value) (e row m k s : Nat) (x : Int) (r : List Int) (g : Nat → Value) : AHeap := (hvH c e row (m + 1) k s (slP 8 (r.length + 1) (r.length + 1)) (.cells (List.map gi (x :: r)) 3 2 false) g).set (Tryz.prog.globals.size + 7) (hvX g)
set_option maxRecDepth 100000 in
theorem range_ok {c : List Value} {e row m k s : Nat} {a : AAct} {q : Post} (C : HvC c row (m + 1) k s) (hs : s ≤ m + 1) (hf : fval a (.tmp 13) = .func (.func 182) #[] #[ptN 4, ptN 5]) (hm : a.marks = []) (hb : bOk a)
    (hk : ∀ x r g₂, allL c s (m + 1) (m + 1) = x :: r → q .normal { n := a.n, t := a.t, marks := [Tryz.prog.globals.size + 6] } (hvE c e row m k s x r g₂)) : J Tryz.prog (.rangeFunc (.tmp 13) #[14] hdAs hdBd) a (hvQ c e row m k s) q := by
  have hn : (hvQ c e row m k s).n = szG + 6 := by kernel_rfl
  refine J.rangeK (fn := Tryz.f182) hf (by kernel_rfl) (by kernel_rfl) ?_
  rw [hn, hm]
  refine callK_ok (L := woK c e row m k s a) mixed orcLa_ok askLa_ok (m := 10) (n := 40) (sy := syOf []) (Eq.mpr (w1_run c e row m k s a _) ⟨rfl, rfl, rfl, rfl, rfl, rfl, rfl, ⟨C, hb⟩, fun _ g₂ => ?_⟩)
  obtain ⟨x, r, hxr⟩ := allL_ne (c := c) hs
  rw [hxr]
  exact ⟨.ready, hvA g₂, #[14], hdAs, hdBd, szG + 6, by kernel_rfl, by simp, hk x r g₂ hxr⟩
noncomputable def hrL (c : List Value) (e row m k s : Nat) : Loops Tryz.prog where
  body := fun _ => .skip
  spec := fun _ _ _ _ => False
  ok := fun _ _ _ _ h => h.elim
  rf := fun cd a h q => cd = .rangeFunc (.tmp 13) #[14] hdAs hdBd ∧ h = hvQ c e row m k s ∧ (HvC c row (m + 1) k s ∧ s ≤ m + 1) ∧ fval a (.tmp 13) = .func (.func 182) #[] #[ptN 4, ptN 5] ∧ a.marks = [] ∧ a.n = 31 ∧ a.tmp 2 = ptN 1 ∧ a.tmp 6 = ptN 2 ∧
    ∀ x r g₂, allL c s (m + 1) (m + 1) = x :: r → q .normal { n := a.n, t := a.t, marks := [Tryz.prog.globals.size + 6] } (hvE c e row m k s x r g₂)
  rfok := fun cd a h q x => by
    obtain ⟨rfl, rfl, ⟨C, hs⟩, hf, hm, bn, b2, b6, hk⟩ := x
    exact range_ok C hs hf hm ⟨bn, b2, b6⟩ hk
theorem hd_run (c : List Value) (e row m k s : Nat) (K : Value → Prop) : callM Tryz.prog (exec Tryz.prog orcLa 40) (syOf [(26, 7), (30, 7)]) askLa (hrL c e row m k s) 60 101 #[liP (m + 1) k, goN s] (liH c e row) (fun v _ => K v) = ((goN (m + 1) = goN (m + 1) ∧ [liP (m + 1) k][0]? = Option.some (liP (m + 1) k) ∧ Code.rangeFunc (Operand.tmp 13) #[14] hdAs hdBd = Code.rangeFunc (Operand.tmp 13) #[14] hdAs hdBd ∧ ((((((liH c e row).push (.cells [liP (m + 1) k] 22 0 false)).push (.cells [nilS] 22 0 false)).push (.cells [gi 0, gi 0] 26 0 false)).set (nG1 + 3) (.cells ([] ++ ([goN s, goN s] ++ [])) 26 0 false)).push (.cells [goN (m + 1)] 3 0 false)).push (.cells (List.take 2 (List.drop 0 ([] ++ ([goN s, goN s] ++ [])))) 26 0 false) = hvQ c e row m k s ∧ (HvC c row (m + 1) k s ∧ (s : Nat) ≤ (m + 1)) ∧ Value.func (.func 182) #[] #[Value.pointer (Option.some (Addr.mk ((((((liH c e row).push (.cells [liP (m + 1) k] 22 0 false)).push (.cells [nilS] 22 0 false)).push (.cells [gi 0, gi 0] 26 0 false)).set (nG1 + 3) (.cells ([] ++ ([goN s, goN s] ++ [])) 26 0 false)).n) 0 Option.none)), Value.pointer (Option.some (Addr.mk (((((((liH c e row).push (.cells [liP (m + 1) k] 22 0 false)).push (.cells [nilS] 22 0 false)).push (.cells [gi 0, gi 0] 26 0 false)).set (nG1 + 3) (.cells ([] ++ ([goN s, goN s] ++ [])) 26 0 false)).push (.cells [goN (m + 1)] 3 0 false)).n) 0 Option.none))] = Value.func (.func 182) #[] #[ptN 4, ptN 5] ∧ ([] : List Nat) = [] ∧ 31 = 31 ∧ Value.pointer (some ⟨nG1 + 1, 0, none⟩) = ptN 1 ∧ Value.pointer (some ⟨nG1 + 2, 0, none⟩) = ptN 2 ∧ (∀ y1 : Int, (∀ y2 : List Int, (∀ y3 : Nat → Value, (allL c s (m + 1) (m + 1) = (y1 :: y2) → ((List.all (gi y1 :: List.map gi y2) (flat 3) = true ∧ True) ∧ okP (gi y1 :: List.map gi y2) 0 (List.length y2 + 1) ∧ c0 [] ∧ (List.all (gi y1 :: List.map gi y2) (flat 3) = true ∧ True) ∧ okP (gi y1 :: List.map gi y2) 0 (List.length y2 + 1) ∧ cx [mxFn (gi y1 :: List.map gi y2) 0 (List.length y2 + 1) []] ∧ (∃ x4 : AHeap, (Option.some ((hvE c e row m k s y1 y2 y3).set (nG1 + 6) (.dead)) = Option.some x4 ∧ K (Value.tuple #[mxFn (gi y1 :: List.map gi y2) 0 (List.length y2 + 1) [], ixF (gi y1 :: List.map gi y2) 0 (List.length y2 + 1) [mxFn (gi y1 :: List.map gi y2) 0 (List.length y2 + 1) []]])))))))))) := by kernel_rfl
end Go.Proofs.YtihnnmejkpddeaaGreatDoor
