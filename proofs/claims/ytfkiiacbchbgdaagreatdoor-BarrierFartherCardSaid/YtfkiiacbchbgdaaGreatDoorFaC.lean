/-
  OWN WORK. Farther walls: the law's loop as its run meets it, and the law, carried out.
-/
import Derived.Test.YtfkiiacbchbgdaaGreatDoorFaB
namespace Go.Proofs.YtfkiiacbchbgdaaGreatDoor
open Go Go.Am

noncomputable def blkY (h : AHeap) (i : Nat) (b : Blk) : Prop := match h.get i with
  | some (.cells c t r ro) => c = b.1 ∧ t = b.2.1 ∧ r = b.2.2.1 ∧ ro = b.2.2.2
  | _ => False
theorem blkY_get {h : AHeap} {i : Nat} {b : Blk} (k : blkY h i b) : h.get i = some (.cells b.1 b.2.1 b.2.2.1 b.2.2.2) := by
  unfold blkY at k
  split at k
  · rename_i c t r ro e
    obtain ⟨rfl, rfl, rfl, rfl⟩ := k
    exact e
  · exact k.elim
noncomputable def tabsY (h : AHeap) (K : Prop) : Prop := match hasTabs tabs4 h with
  | true => K
  | false => False
theorem tabsY_of {h : AHeap} {K : Prop} (k : tabsY h K) : hasTabs tabs4 h = true ∧ K := by
  unfold tabsY at k
  split at k
  · rename_i e; exact ⟨e, k⟩
  · exact k.elim
section
variable (l T : List Int) (e : TypeId) (row m k W kt : Nat) (a b c d w x y z : Int)
set_option maxRecDepth 100000 in
noncomputable def faL : Loops Tryz.prog where
  body := fun _ => loopOf Tryz.prog 5 0
  spec := fun _ a' h q => entry a' 253 [(2, ptP (nG1 + 1)), (3, ptP (nG1 + 2)), (17, slV (nG1 + 13) (W + 1) kt), (19, .bool true), (159, goN (W + 1)), (160, goN 0)] (tabsY h ((blkY h (nG1 + 1) ([slV nG1 (m + 1) k, gi a, gi b, gi c, gi d, gi w], 26, 0, false) ∧ blkY h (nG1 + 2) ([Value.int .u8 x, Value.int .u8 y, Value.int .u8 z], 62, 0, false) ∧ blkY h (nG1 + 13) (T.map gi, 3, 2, false) ∧ blkY h nG1 (l.map gi, e, row, true)) ∧
      (l.length = m + 1 ∧ m + 1 ≤ 65536 ∧ W + 1 ≤ T.length ∧ W + 1 ≤ 65536 ∧ ∀ j, j < W + 1 → ieq (kV l (T.take (W + 1)) (a, b, c, d, w) (Int.ofNat j)) 0 = true → pvd l T W a b c d w j = true) ∧
      ∀ es g, q (.exit 0) (stOf 253 [(2, ptP nG1), (3, ptP (nG1 + 1)), (17, slV (nG1 + 2) (W + 1) kt)] g) (canonT tabs4 es Tryz.prog.globals.size (faB l T e row m k a b c d w x y z (nG1 + 3)))))
  ok := fun i a' h q qq => by
    obtain ⟨h1, h2, h3, hty⟩ := entry_facts qq
    obtain ⟨ht, ⟨g0, g1, g2, g3⟩, ⟨c1, c2, c3, c4, c5⟩, k1⟩ := tabsY_of hty
    refine J.of_toldRT tabs4_flat ht (D := 3) (of_decide_eq_true (by kernel_rfl)) (by kernel_rfl) (fa_loop l T e row m k W kt a b c d w x y z (fun x => nG1 + [1, 2, 13, 0].getD x 0) (by decide) (fun x hx => by show _ ≤ nG1 + _; unfold nG1; omega) (fun j => by kernel_rfl) (by kernel_rfl) c1 c2 c3 c4 c5 a' h (fun x b hb => by match x, hb with | 0, hb => cases hb; exact blkY_get g0 | 1, hb => cases hb; exact blkY_get g1 | 2, hb => cases hb; exact blkY_get g2 | 3, hb => cases hb; exact blkY_get g3) h1 h2 ?_) ?_
    · simp only [List.map_cons, List.map_nil]
      rw [h3 (2, ptP (nG1 + 1)) (by simp), h3 (3, ptP (nG1 + 2)) (by simp), h3 (17, slV (nG1 + 13) (W + 1) kt) (by simp), h3 (19, .bool true) (by simp), h3 (159, goN (W + 1)) (by simp), h3 (160, goN 0) (by simp)]
      all_goals rfl
    · rintro ex vs h' ⟨rfl, rfl, lay⟩
      refine ⟨[2, 3, 17], [ptP nG1, ptP (nG1 + 1), slV (nG1 + 2) (W + 1) kt], [ptP nG1, ptP (nG1 + 1), slV (nG1 + 2) (W + 1) kt], faB l T e row m k a b c d w x y z (nG1 + 3), faB l T e row m k a b c d w x y z (nG1 + 3), [nG1, nG1 + 1, nG1 + 2, nG1 + 3], ?_, rfl, ?_, ?_, ?_, ?_, fun es g => k1 es g⟩
      · intro x hx
        simp only [List.zip_cons_cons, List.zip_nil_right, List.zip_nil_left, List.mem_cons, List.not_mem_nil, or_false] at hx ⊢
        rcases hx with rfl | rfl | rfl <;> simp
      · decide
      · intro x hx
        simp only [List.mem_cons, List.not_mem_nil, or_false] at hx
        rcases hx with rfl | rfl | rfl | rfl <;> (unfold nG1; omega)
      · intro x y bb hy hb
        match x, hb, hy with
        | 0, hb, hy => cases hb; cases hy; exact ⟨_, rfl, lay 0 _ rfl, by show _ = _; kernel_rfl, rfl⟩
        | 1, hb, hy => cases hb; cases hy; exact ⟨_, rfl, lay 1 _ rfl, amapM_flatF rfl, rfl⟩
        | 2, hb, hy => cases hb; cases hy; exact ⟨_, rfl, lay 2 _ rfl, amapM_flatF (flat_ints T), rfl⟩
        | 3, hb, hy => cases hb; cases hy; exact ⟨_, rfl, lay 3 _ rfl, amapM_flatF (flat_ints l), rfl⟩
      · kernel_rfl
end
end Go.Proofs.YtfkiiacbchbgdaaGreatDoor
