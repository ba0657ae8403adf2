/-
  OWN WORK. RecordNumbers returns true for every string, every pair of integers and every ratio, and leaves its arguments as they were: its card.
  Conditions: those of the card itself (the listed variables read as the program's text lays them).
-/
import Derived.Test.YtmfepbkpojafnaaGreatDoorLawC
import Derived.Test.YtmfepbkpojafnaaGreatDoorNumC
namespace Go.Proofs.YtmfepbkpojafnaaGreatDoor
open Go Go.Am

theorem same_one {h : AHeap} {i n k e row : Nat} {c : List Value} {ro : Bool} (hg : h.get i = some (.cells c e row ro)) (hn : n = 0) (hc : c.all (flat 3) = true) : sameO #[.slice (some ⟨i, 0, none⟩) n k, nilS] h = some (.bool true, h) := by
  unfold sameO
  simp only [hg]
  exact if_pos ⟨hn, hc⟩
theorem same_two {h : AHeap} {i n k j m k' e row e' row' : Nat} {ro ro' : Bool} {l : List Int} (hg : h.get i = some (.cells (l.map gi) e row ro)) (hg' : h.get j = some (.cells (l.map gi) e' row' ro')) (hne : i ≠ j) (hn : n = l.length) (hm : m = l.length) (hl : l.length ≤ 65536) :
    sameO #[.slice (some ⟨i, 0, none⟩) n k, .slice (some ⟨j, 0, none⟩) m k'] h = some (.bool true, h) := by
  unfold sameO
  simp only [hg, hg']
  exact if_pos ⟨hne, l, rfl, rfl, hn, hm, hl⟩
theorem same_zero (h : AHeap) : sameO #[nilS, nilS] h = some (.bool true, h) := rfl
theorem HL_n (es : Nat → TypeId) (a b c d : Int) : (HL es a b c d).n = Tryz.prog.globals.size + 2 := rfl
theorem get_last (h : AHeap) (o : AObj) : (h.push o).get h.n = some o := by rw [AHeap.get_push, if_pos rfl]
theorem get_last2 (h : AHeap) (o o' : AObj) : ((h.push o).push o').get h.n = some o := by
  rw [AHeap.get_push, if_neg (by rw [AHeap.push_n]; omega), get_last]
theorem shuf_length : ∀ (i : Nat) (x : Int) (l : List Int), (shuf i x l).length = l.length
  | 0, _, _ => rfl
  | i + 1, x, l => by rw [shuf, shuf_length, swapL_length]
theorem drawS_length (n : Int) (q : Nat) : (drawS n q).length = q := by rw [drawS, shuf_length]; simp
set_option maxRecDepth 100000 in
theorem numbers_call : NumbersCall := by
  intro s a b c d _ _ _ _ _ es
  refine callC_ok mixed orcK_ok numAsks_ok (Eq.mpr (law_run es s a b c d _) ⟨fun _ => rfl, fun _ => ⟨fun he => ⟨fun _ => ⟨he, fun hz => ?_, fun hz => ?_⟩, fun h1 => ?_⟩, fun he => ⟨fun h1 => ?_, fun _ => ?_⟩⟩⟩)
  · exact ⟨rfl, rfl, rfl, ⟨0, rfl, by rw [he]⟩, .inr (.inl ⟨_, rfl⟩), same_one (get_last (HL es a b c d) _) hz (flat_ints _), fun _ => rfl⟩
  · have hb := (drawE_zero he).2
    refine ⟨rfl, rfl, rfl, ⟨0, rfl, by rw [he]⟩, .inr (.inr ⟨_, rfl⟩), same_two (l := drawS a b.toNat) (get_last2 (HL es a b c d) _ _) (get_last ((HL es a b c d).push _) _) (by omega) (drawS_length _ _).symm (drawS_length _ _).symm (by rw [drawS_length]; omega), fun _ => rfl⟩
  · rw [ieq_dec, he] at h1
    exact absurd h1 (by decide)
  · rw [ieq_dec] at h1
    exact absurd (by simpa using h1) he
  · exact ⟨rfl, rfl, rfl, ⟨drawE a b, rfl, rfl⟩, .inl rfl, same_zero _, fun _ => rfl⟩
/-- ████ THE CARD ████ -/
theorem recordNumbers_holds : Rows.RecordNumbersCardSaid := numbers_card numbers_call
#print axioms recordNumbers_holds
end Go.Proofs.YtmfepbkpojafnaaGreatDoor
