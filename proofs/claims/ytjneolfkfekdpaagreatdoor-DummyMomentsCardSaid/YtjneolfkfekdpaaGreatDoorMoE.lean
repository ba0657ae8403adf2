/-
  OWN WORK. The law on moments, carried out on vectors that are not known.
-/
import Derived.Test.YtjneolfkfekdpaaGreatDoorMoD
namespace Go.Proofs.YtjneolfkfekdpaaGreatDoor
open Go Go.Am
noncomputable section

def sel (e c : Int) : Int := bif ieq e 0 then c else 0
def momL : List Value → Option Value
  | [.agg u, .agg v, .agg w] => match u.toList, v.toList, w.toList with
    | [.int .i64 a, .int .i64 b, .int .i64 c], [.int .i64 d, .int .i64 e, .int .i64 f], [.int .i64 g, .int .i64 h, .int .i64 i] =>
      some (.tuple #[vec (sel (momE a b c d e f g h i) (comb a h f i e)) (sel (momE a b c d e f g h i) (comb b i d g f)) (sel (momE a b c d e f g h i) (comb c g e h d)), gi (momE a b c d e f g h i)])
    | _, _, _ => none
  | _ => none
theorem three {u : Array Value} {a b c : Int} (h : u.toList = [.int .i64 a, .int .i64 b, .int .i64 c]) : Value.agg u = vec a b c := by
  rw [show u = #[gi a, gi b, gi c] from Array.toList_inj.1 h]
  rfl
theorem momL_some {l : List Value} {r : Value} (q : momL l = some r) : ∃ a b c d e f g h i, l = [vec a b c, vec d e f, vec g h i] ∧ r = .tuple #[vec (sel (momE a b c d e f g h i) (comb a h f i e)) (sel (momE a b c d e f g h i) (comb b i d g f)) (sel (momE a b c d e f g h i) (comb c g e h d)), gi (momE a b c d e f g h i)] := by
  unfold momL at q
  split at q
  · rename_i u v w
    split at q
    · rename_i a b c d e f g h i hu hv hw
      cases q
      exact ⟨a, b, c, d, e, f, g, h, i, by rw [three hu, three hv, three hw], rfl⟩
    · cases q
  · cases q
def refL : List Value → Option Value
  | [.agg u, .agg v, .agg w] => match u.toList, v.toList, w.toList with
    | [.int .i64 a, .int .i64 b, .int .i64 c], [.int .i64 d, .int .i64 e, .int .i64 f], [.int .i64 g, .int .i64 h, .int .i64 i] =>
      some (vec (comb a h f i e) (comb b i d g f) (comb c g e h d))
    | _, _, _ => none
  | _ => none
theorem refL_some {l : List Value} {r : Value} (q : refL l = some r) : ∃ a b c d e f g h i, l = [vec a b c, vec d e f, vec g h i] ∧ r = vec (comb a h f i e) (comb b i d g f) (comb c g e h d) := by
  unfold refL at q
  split at q
  · rename_i u v w
    split at q
    · rename_i a b c d e f g h i hu hv hw
      cases q
      exact ⟨a, b, c, d, e, f, g, h, i, by rw [three hu, three hv, three hw], rfl⟩
    · cases q
  · cases q
def placeS (x y z e n a b c : Int) : Bool := (bif ieq n 0 then eqv x y z a b c else eqv x y z 0 0 0) && ieq e n
def placeL : List Value → Option Value
  | [.agg u, .int .i64 e, .int .i64 n, .agg w] => match u.toList, w.toList with
    | [.int .i64 x, .int .i64 y, .int .i64 z], [.int .i64 a, .int .i64 b, .int .i64 c] => some (.bool (placeS x y z e n a b c))
    | _, _ => none
  | _ => none
theorem placeL_some {l : List Value} {r : Value} (q : placeL l = some r) : ∃ x y z e n a b c, l = [vec x y z, gi e, gi n, vec a b c] ∧ r = .bool (placeS x y z e n a b c) := by
  unfold placeL at q
  split at q
  · rename_i u e n w
    split at q
    · rename_i x y z a b c hu hw
      cases q
      exact ⟨x, y, z, e, n, a, b, c, by rw [three hu, three hw], rfl⟩
    · cases q
  · cases q
def orm6 : Orc := orElse 8 (flatSpec placeL) (orElse 7 (flatSpec refL) (orElse 4 (flatSpec momL) (orElse 6 (flatSpec (vecL vecR)) orm5)))
set_option maxRecDepth 100000 in
theorem orm6_ok : OrcOk Tryz.prog orm6 := by
  refine flatSpec_ok (fun l v q => ?_) (flatSpec_ok (fun l v q => ?_) (flatSpec_ok (fun l v q => ?_) (flatSpec_ok (fun l v q => ?_) orm5_ok)))
  · obtain ⟨x, y, z, e, n, a, b, c, rfl, rfl⟩ := placeL_some q
    refine ⟨rfl, rfl, callC_ok mixed3 orm5_ok (noAsks_ok _) (Eq.mpr (place_run _ _ _ _ _ _ _ _ _) ?_)⟩
    unfold placeS
    generalize ieq n 0 = b1
    generalize eqv x y z 0 0 0 = b2
    generalize eqv x y z a b c = b3
    generalize ieq e n = b4
    cases b1 <;> cases b2 <;> cases b3 <;> cases b4 <;> simp
  · obtain ⟨a, b, c, d, e, f, g, h, i, rfl, rfl⟩ := refL_some q
    exact ⟨rfl, rfl, callC_ok mixed3 orm5_ok (noAsks_ok _) (Eq.mpr (RefMoment_run _ _ _ _ _ _ _ _ _ _) rfl)⟩
  · obtain ⟨a, b, c, d, e, f, g, h, i, rfl, rfl⟩ := momL_some q
    refine ⟨rfl, rfl, callC_ok mixed3 orm5_ok (noAsks_ok _) (Eq.mpr (Moment_run _ _ _ _ _ _ _ _ _ _) ⟨rfl, rfl, rfl, fun h1 => ?_, fun h1 => ?_⟩)⟩
    · unfold sel
      rw [show ieq (momE a b c d e f g h i) 0 = false by simpa using h1]
      rfl
    · have h2 : ieq (momE a b c d e f g h i) 0 = true := by simpa using h1
      unfold sel
      rw [h2]
      rw [ieq_dec] at h2
      rw [show momE a b c d e f g h i = 0 by simpa using h2]
      rfl
  · obtain ⟨x, y, z, m, rfl, rfl⟩ := vecL_some q
    exact ⟨rfl, rfl, callC_ok mixed3 orm5_ok (noAsks_ok _) (Eq.mpr (CheckVector_run _ _ _ _ _) ⟨rfl, rfl, rfl, rfl⟩)⟩
def orm7 : Orc := known tabs3 orm6 9 #[] (.bool true)

theorem law_run (es : Nat → TypeId) (a b c d e f g h i : Int) (K : Value → Prop) : callC Tryz.prog (exec Tryz.prog orm7 10) (syOf [(29, 1), (39, 1), (42, 1), (45, 1), (65, 1), (68, 15), (70, 1)]) noAsks (noLoops _) 60 3 #[vec a b c, vec d e f, vec g h i] (base tabs3 es Tryz.prog.globals.size) (fun v _ => K v) =
  (let E := momE a b c d e f g h i
   let R := momR a b c d e f g h i
   let A := sel E (comb a h f i e)
   let B := sel E (comb b i d g f)
   let C := sel E (comb c g e h d)
   let E2 := momE A B C d e f (negS g) (negS h) (negS i)
   let rest : Prop := (ieq R 0 = true → (ieq (vecR A B C 1000000) 0 = true →
        ((ieq E2 0 = true → (eqv (sel E2 (comb A (negS h) f (negS i) e)) (sel E2 (comb B (negS i) d (negS g) f)) (sel E2 (comb C (negS g) e (negS h) d)) a b c = true → K (.bool true)) ∧ (eqv (sel E2 (comb A (negS h) f (negS i) e)) (sel E2 (comb B (negS i) d (negS g) f)) (sel E2 (comb C (negS g) e (negS h) d)) a b c = false → K (.bool false))) ∧
         (ieq E2 0 = false → (false = true → K (.bool true)) ∧ (false = false → K (.bool false))))) ∧ (ieq (vecR A B C 1000000) 0 = false → K (.bool true))) ∧ (ieq R 0 = false → K (.bool true))
   (vec g h i = vec g h i ∧ vec d e f = vec d e f ∧ vec g h i = vec g h i ∧
    (ieq R 0 = true → ((!placeS A B C E R (comb a h f i e) (comb b i d g f) (comb c g e h d)) = true → K (.bool false)) ∧ ((!placeS A B C E R (comb a h f i e) (comb b i d g f) (comb c g e h d)) = false → rest)) ∧
    (ieq R 0 = false → ((!placeS A B C E R 0 0 0) = true → K (.bool false)) ∧ ((!placeS A B C E R 0 0 0) = false → rest)))) := by kernel_rfl
end
end Go.Proofs.YtjneolfkfekdpaaGreatDoor
