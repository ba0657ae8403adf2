/-
  OWN WORK. Prefix sums, by the reference: known for all samples that are valid; bounds of sums.
-/
import Derived.Test.YtpdpaifagakipaaGreatDoorSuH
namespace Go.Proofs.YtpdpaifagakipaaGreatDoor
open Go Go.Am

noncomputable def pxLoops (l : List Nat) (n e row k : Nat) : Loops Tryz.prog where
  body := fun _ => loopOf Tryz.prog 34 0
  spec := fun _ a h c => entry a 19 [(0, liP n k), (3, nilV), (4, goN 0)] (h = liH (l.map gf) e row ∧ (n ≤ l.length ∧ 0 < n ∧ n ≤ 65536 ∧ ∀ x ∈ l.take n, smpE x = 0) ∧
    ∀ g h', h'.get (N1 + 1) = some (icv ((preL ((l.take n).map unitE)).map gi)) → c (.exit 0) (stOf 19 [(3, slO (n + 1) (n + 1))] g) h')
  ok := fun i a h c q => by
    obtain ⟨h1, h2, h3, rfl, ⟨hs1, hs2, hs3, hs4⟩, h4⟩ := entry_facts q
    refine J.of_told (px_loop l n e row k _ hs1 hs2 hs3 hs4 ?_ a h1 h2 ?_) ?_
    · rw [canon_get, if_pos (Nat.le_refl _), Nat.sub_self]; rfl
    · simp only [List.map_cons, List.map_nil]
      rw [h3 (0, liP n k) (by simp), h3 (3, nilV) (by simp), h3 (4, goN 0) (by simp)]
    · rintro ex vs h' g ⟨rfl, rfl, hg⟩
      exact h4 (ov [(0, liP n k), (4, goN (n + 1))] g) h' hg
theorem px_run (l : List Nat) (n e row k : Nat) (K : Value → AHeap → Prop) : callC Tryz.prog (exec Tryz.prog orcPc 10) (syOf []) askPc (pxLoops l n e row k) 20 34 #[liP n k] (liH (l.map gf) e row) K =
  (loopOf Tryz.prog 34 0 = loopOf Tryz.prog 34 0 ∧ liP n k = liP n k ∧ nilV = nilV ∧ goN 0 = goN 0 ∧
    liH (l.map gf) e row = liH (l.map gf) e row ∧ (n ≤ l.length ∧ 0 < n ∧ n ≤ 65536 ∧ ∀ x ∈ l.take n, smpE x = 0) ∧
    ∀ (_ : Nat → Value) (h' : AHeap), h'.get (N1 + 1) = some (icv ((preL ((l.take n).map unitE)).map gi)) → K (slO (n + 1) (n + 1)) h') := by kernel_rfl
noncomputable def preU (l : List Nat) : List Value := (preL (l.map unitE)).map gi
noncomputable def pxX : List Nat → Option (List Value) := fun l => match allB l with
  | true => some (preU l)
  | false => none
theorem pxX_ok {l : List Nat} (h : validL l) : pxX l = some (preU l) := by
  unfold pxX
  rw [allB_iff.2 h]
theorem pxX_some {l : List Nat} {xs : List Value} (h : pxX l = some xs) : validL l ∧ xs = preU l := by
  unfold pxX at h
  split at h
  · rename_i hv
    cases h
    exact ⟨allB_iff.1 hv, rfl⟩
  · cases h
noncomputable def orcPd : Orc := orElse 34 (mapO dF 65535 (fun n => n + 1) noT pxX 3) orcPc
set_option maxRecDepth 100000 in
theorem orcPd_ok : OrcOk Tryz.prog orcPd := by
  refine mapO_ok dF_some (fun _ => rfl) orcPc_ok (fun l xs h => by obtain ⟨_, rfl⟩ := pxX_some h; exact flat_ints _) fun l n r xs el row k h0 h1 h2 ht hx => ?_
  obtain rfl := noT_some ht
  obtain ⟨hv, rfl⟩ := pxX_some hx
  exact callC_ok mixed orcPc_ok askPc_ok (Eq.mpr (px_run l n el row k _) ⟨rfl, rfl, rfl, rfl, rfl, ⟨h1, h0, by omega, hv⟩, fun _ h' hg => ⟨_, rfl, hg⟩⟩)
noncomputable def askPd : Asks := asksM 34 gf 65535 (fun n => n + 1) noT validL preU 3 askPc
theorem askPd_ok : AsksOk orcPd askPd := asksM_ok (d := dF) (e := gf) (fun _ => rfl) (fun _ => pxX_ok) askPc_ok
/-! bounds -/
theorem fwrap_small {x : Int} (h1 : -4611686018427387904 ≤ x) (h2 : x ≤ 4611686018427387904) : fwrap .i64 x = x := by
  have h : inI64 x = true := by
    cases x with
    | ofNat m => exact inI64_nat (by simp only [Int.ofNat_eq_natCast] at h2; omega)
    | negSucc m =>
      show Nat.blt m 9223372036854775808 = true
      rw [Nat.blt_eq]; omega
  simp only [fwrap, h]
theorem foldl_sum : ∀ (L : List Int) (s : Int) (B : Nat), (∀ u ∈ L, -16384 ≤ u ∧ u ≤ 16384) → -(16384 * (B : Int)) ≤ s → s ≤ 16384 * B → B + L.length ≤ 65536 →
    L.foldl (fun a u => fwrap .i64 (a + u)) s = s + L.sum ∧ -(16384 * ((B + L.length : Nat) : Int)) ≤ s + L.sum ∧ s + L.sum ≤ 16384 * ((B + L.length : Nat) : Int)
  | [], s, B, _, h1, h2, _ => by simp; omega
  | u :: L, s, B, hL, h1, h2, h3 => by
    have hu := hL u (.head _)
    simp only [List.length_cons] at h3
    have e : fwrap .i64 (s + u) = s + u := fwrap_small (by omega) (by omega)
    obtain ⟨i1, i2, i3⟩ := foldl_sum L (s + u) (B + 1) (fun v hv => hL v (.tail _ hv)) (by omega) (by omega) (by omega)
    rw [List.foldl_cons, e, i1, List.sum_cons, List.length_cons]
    refine ⟨by omega, by omega, by omega⟩
theorem wsum_sum {L : List Int} (hL : ∀ u ∈ L, -16384 ≤ u ∧ u ≤ 16384) (hl : L.length ≤ 65536) : wsum L = L.sum ∧ -1073741824 ≤ L.sum ∧ L.sum ≤ 1073741824 := by
  obtain ⟨h1, h2, h3⟩ := foldl_sum L 0 0 hL (by omega) (by omega) (by omega)
  unfold wsum
  rw [h1]
  refine ⟨by omega, by omega, by omega⟩
theorem span_diff {l : List Nat} {a b : Nat} (hv : validL l) (hl : l.length ≤ 65536) (hab : a ≤ b) (hb : b ≤ l.length) : fwrap .i64 (wsum ((l.map unitE).take b) - wsum ((l.map unitE).take a)) = spanW l a b := by
  have hu : ∀ u ∈ l.map unitE, -16384 ≤ u ∧ u ≤ 16384 := by
    intro u hu
    obtain ⟨x, hx, rfl⟩ := List.mem_map.1 hu
    exact (unit_ok (hv x hx)).2.2
  have e : ((l.map unitE).take b).sum = ((l.map unitE).take a).sum + (spanU l a b).sum := by
    rw [← List.sum_append]
    congr 1
    unfold spanU
    rw [List.map_drop, List.map_take]
    conv => lhs; rw [← List.take_append_drop a ((l.map unitE).take b)]
    rw [List.take_take, Nat.min_eq_left hab]
  obtain ⟨b1, b2, b3⟩ := wsum_sum (L := (l.map unitE).take b) (fun u h => hu u (List.mem_of_mem_take h)) (by rw [List.length_take, List.length_map]; omega)
  obtain ⟨a1, a2, a3⟩ := wsum_sum (L := (l.map unitE).take a) (fun u h => hu u (List.mem_of_mem_take h)) (by rw [List.length_take, List.length_map]; omega)
  obtain ⟨s1, s2, s3⟩ := wsum_sum (L := spanU l a b) (fun u h => hu u (by
    unfold spanU at h
    rw [List.map_drop, List.map_take] at h
    exact List.mem_of_mem_take (List.mem_of_mem_drop h))) (by unfold spanU; rw [List.length_map, List.length_drop, List.length_take]; omega)
  rw [b1, a1]
  unfold spanW
  rw [s1, e]
  rw [show ((l.map unitE).take a).sum + (spanU l a b).sum - ((l.map unitE).take a).sum = (spanU l a b).sum by omega]
  exact fwrap_small (by omega) (by omega)
theorem pre_at {l : List Int} {j : Nat} (hj : j ≤ l.length) : (preL l)[j]? = some (wsum (l.take j)) := by
  unfold preL
  rw [List.getElem?_map, List.getElem?_range (by omega)]
  rfl
end Go.Proofs.YtpdpaifagakipaaGreatDoor
