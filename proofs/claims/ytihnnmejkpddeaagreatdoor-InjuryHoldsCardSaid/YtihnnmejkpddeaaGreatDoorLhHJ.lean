/-
  OWN WORK. Stage 6: the law's loops as its run meets them.
-/
import Derived.Test.YtihnnmejkpddeaaGreatDoorLhFG
/-! (OWN WORK. Stage 6: the law's first loop as its run meets it.) -/
namespace Go.Proofs.YtihnnmejkpddeaaGreatDoor
open Go Go.Am
def hoS (l : List Int) (o s : Nat) (hv : Int) : Prop := l.length ≤ 65536 ∧ o + s ≤ l.length ∧ ∀ j x, o ≤ j → j < o + s → l[j]? = some x → hv ≤ x
noncomputable def ho1P (es : Nat → TypeId) (l : List Int) (n k e row t p q : Nat) (u w lv hv : Int) (a : AAct) (h : AHeap) (c : Post) : Prop :=
  entry a 298 [(0, liP n k), (5, ptN 1), (7, gi lv), (8, goN (t + 1)), (9, gi hv), (96, slT (0 + p * 1) (t + 1) (k - p)), (97, goN (t + 1)), (98, goN 0)] (h = hoH es (l.map gi) e row u w (l.map gi) p q ∧ (l.length = n ∧ hoS l (0 + p * 1) (t + 1) hv) ∧
    ∀ g, c (.exit 0) (stOf 298 [(0, liP n k), (5, ptN 1), (7, gi lv), (8, goN (t + 1)), (9, gi hv)] g) (hoH es (l.map gi) e row u w (l.map gi) p q))
set_option maxRecDepth 100000 in
theorem ho1P_ok {es : Nat → TypeId} {l : List Int} {n k e row t p q : Nat} {u w lv hv : Int} {a : AAct} {h : AHeap} {c : Post} (x : ho1P es l n k e row t p q u w lv hv a h c) : J Tryz.prog (.loop (loopOf Tryz.prog 12 0)) a h c := by
  obtain ⟨h1, h2, h3, rfl, ⟨rfl, hs1, hs2, hs3⟩, h5⟩ := entry_facts x
  refine J.of_told (ho1_loop es (l.map gi) p q l e row k (0 + p * 1) (t + 1) (k - p) u w lv hv hs1 hs2 hs3 a h1 h2 ?_) ?_
  · simp only [List.map_cons, List.map_nil]
    rw [h3 (0, liP l.length k) (by simp), h3 (5, ptN 1) (by simp), h3 (7, gi lv) (by simp), h3 (8, goN (t + 1)) (by simp), h3 (9, gi hv) (by simp), h3 (96, slT (0 + p * 1) (t + 1) (k - p)) (by simp), h3 (97, goN (t + 1)) (by simp), h3 (98, goN 0) (by simp)]
  · rintro ex vs h' g ⟨rfl, rfl, rfl⟩
    exact h5 (ov [(0, liP l.length k), (5, ptN 1), (7, gi lv), (8, goN (t + 1)), (9, gi hv), (96, slT (0 + p * 1) (t + 1) (k - p)), (97, goN (t + 1)), (98, goN (t + 1))] g)
end Go.Proofs.YtihnnmejkpddeaaGreatDoor
/-! (OWN WORK. Stage 6: the law's second loop, in any heap that holds its blocks.) -/
namespace Go.Proofs.YtihnnmejkpddeaaGreatDoor
open Go Go.Am
noncomputable abbrev slA (i n k : Nat) : Value := .slice (some ⟨i, 0, none⟩) n k
noncomputable abbrev ptA (i : Nat) : Value := .pointer (some ⟨i, 0, none⟩)
noncomputable abbrev hoC2 (c : List Value) (e row : Nat) (u w : Int) (p q : Nat) : List Blk := [(c, e, row, true), ([gu u, gu w], 129, 0, false), ([goN p, goN q], 24, 0, false)]
noncomputable def hoW (l : List Int) (k : Nat) (lv mv : Int) (pl : Nat → Nat) (j : Nat) : List Value := [slA (pl 0) l.length k, ptA (pl 1), gi lv, ptA (pl 2), gi mv, goN (kpL lv (l.take j)).length, goN (tlN lv l j), slA (pl 0) l.length k, goN l.length, goN j]
noncomputable def at2 : Nat → Nat := fun x => nG1 + [0, 1, 5].getD x 0
theorem laid2 (c : List Value) (e row : Nat) (u w : Int) (p q : Nat) : Laid (hoC2 c e row u w p q) (Tryz.prog.globals.size + ·) (hoH2 c e row u w p q) := by
  intro x b hb
  match x, hb with
  | 0, hb => cases hb; show _ = _; kernel_rfl
  | 1, hb => cases hb; show _ = _; kernel_rfl
  | 2, hb => cases hb; show _ = _; kernel_rfl
set_option maxRecDepth 100000 in
theorem ho2_fold (l : List Int) (e row k : Nat) (u w lv mv : Int) (h1 : l.length ≤ 65536) : ∀ (a : AAct) (h : AHeap), Laid (hoC2 (l.map gi) e row u w (lgE lv l).1 (lgE lv l).2) at2 h → a.n = 298 → a.marks = [] → [0, 5, 7, 14, 16, 25, 26, 206, 207, 208].map a.tmp = hoW l k lv mv at2 0 →
    J Tryz.prog (.loop (loopOf Tryz.prog 12 2)) a h (told 298 [0, 5, 7, 14, 16, 25, 26, 206, 207, 208] fun ex vs h => ex = .exit 2 ∧ vs = hoW l k lv mv (Tryz.prog.globals.size + ·) l.length ∧ h = hoH2 (l.map gi) e row u w (lgE lv l).1 (lgE lv l).2) := by
  refine fold_rule (P := Tryz.prog) 3 (fun _ => hoC2 (l.map gi) e row u w (lgE lv l).1 (lgE lv l).2) globs_pos (by decide) (by decide) (fun _ => rfl) (fun _ b hb => by
      simp only [List.mem_cons, List.not_mem_nil, or_false] at hb
      rcases hb with rfl | rfl | rfl
      · exact flat_ints l
      · rfl
      · rfl) (hoW l k lv mv) (fun _ => True) l.length trivial _ at2 (by decide) (fun q hq => by show _ ≤ nG1 + _; unfold nG1; omega) (fun j => by kernel_rfl) (fun j => by kernel_rfl) (fun at_ j q hq => by
      match q, hq with
      | 0, _ => exact ⟨(0, slA (at_ 0) l.length k), by simp [hoW], by simp [named]⟩
      | 1, _ => exact ⟨(5, ptA (at_ 1)), by simp [hoW], by simp [named]⟩
      | 2, _ => exact ⟨(14, ptA (at_ 2)), by simp [hoW], by simp [named]⟩) ?_ ?_
  · intro j hj _ g
    have B := ho2_step l e row k u w lv (gi mv) h1 j hj g
    refine B.mono fun ex a' h' q => ?_
    obtain ⟨q1, q2, q3⟩ := told_facts q
    simp only [told, q1, q2, Nat.beq_refl]
    cases ex with
    | normal => exact ⟨trivial, q3.1, by rw [q3.2]; exact laid2 _ _ _ _ _ _ _⟩
    | _ => exact q3.elim
  · intro _ g
    refine execC_ok mixed orcLb_ok (askLb_ok _ _ _ _ _) (noLoops _) (Eq.mpr (ho2_body (l.map gi) e row l.length k _ _ _ _ l.length u w lv (gi mv) g _) ⟨fun hlt => absurd (blt_true hlt) (by omega), fun _ => ⟨rfl, rfl, rfl⟩⟩)
end Go.Proofs.YtihnnmejkpddeaaGreatDoor
/-! (OWN WORK. Stage 6: the law's three loops as its run meets them.) -/
namespace Go.Proofs.YtihnnmejkpddeaaGreatDoor
open Go Go.Am
noncomputable def blkY (h : AHeap) (i : Nat) (b : Blk) : Prop := match h.get i with
  | some (.cells c t r ro) => c = b.1 ∧ t = b.2.1 ∧ r = b.2.2.1 ∧ ro = b.2.2.2
  | _ => False
theorem blkY_get {h : AHeap} {i : Nat} {b : Blk} (k : blkY h i b) : h.get i = some (.cells b.1 b.2.1 b.2.2.1 b.2.2.2) := by
  unfold blkY at k
  split at k
  · rename_i c t r ro e
    obtain ⟨rfl, rfl, rfl, rfl⟩ := k
    exact e
  · exact k.elim
noncomputable def ho2P (l : List Int) (n k e row : Nat) (u w lv mv : Int) (a : AAct) (h : AHeap) (c : Post) : Prop :=
  entry a 298 [(0, liP n k), (5, ptN 1), (7, gi lv), (14, ptN 5), (16, gi mv), (25, goN 0), (26, goN 0), (206, liP n k), (207, goN n), (208, goN 0)] ((blkY h nG1 (l.map gi, e, row, true) ∧ blkY h (nG1 + 1) ([gu u, gu w], 129, 0, false) ∧ blkY h (nG1 + 5) ([goN (lgE lv l).1, goN (lgE lv l).2], 24, 0, false)) ∧ (l.length = n ∧ n ≤ 65536) ∧
    ∀ g, c (.exit 2) (stOf 298 [(0, liP n k), (5, ptN 1), (16, gi mv), (25, goN (kpL lv l).length)] g) (hoH2 (l.map gi) e row u w (lgE lv l).1 (lgE lv l).2))
set_option maxRecDepth 100000 in
theorem ho2P_ok {l : List Int} {n k e row : Nat} {u w lv mv : Int} {a : AAct} {h : AHeap} {c : Post} (x : ho2P l n k e row u w lv mv a h c) : J Tryz.prog (.loop (loopOf Tryz.prog 12 2)) a h c := by
  obtain ⟨h1, h2, h3, ⟨b0, b1, b2⟩, ⟨rfl, hn⟩, h5⟩ := entry_facts x
  refine J.of_told (ho2_fold l e row k u w lv mv hn a h (fun q b hb => ?_) h1 h2 ?_) ?_
  · match q, hb with
    | 0, hb => cases hb; exact blkY_get b0
    | 1, hb => cases hb; exact blkY_get b1
    | 2, hb => cases hb; exact blkY_get b2
  · simp only [List.map_cons, List.map_nil]
    rw [h3 (0, liP l.length k) (by simp), h3 (5, ptN 1) (by simp), h3 (7, gi lv) (by simp), h3 (14, ptN 5) (by simp), h3 (16, gi mv) (by simp), h3 (25, goN 0) (by simp), h3 (26, goN 0) (by simp), h3 (206, liP l.length k) (by simp), h3 (207, goN l.length) (by simp), h3 (208, goN 0) (by simp)]
    rfl
  · rintro ex vs h' g ⟨rfl, rfl, rfl⟩
    have q := h5 (ov [(0, liP l.length k), (5, ptN 1), (7, gi lv), (14, ptN 2), (16, gi mv), (25, goN (kpL lv l).length), (26, goN (tlN lv l l.length)), (206, liP l.length k), (207, goN l.length), (208, goN l.length)] g)
    unfold hoW
    rw [List.take_of_length_le (Nat.le_refl _)]
    exact q
noncomputable def ho3P (l : List Int) (n k e row : Nat) (x y z : Int) (a : AAct) (h : AHeap) (c : Post) : Prop :=
  entry a 298 [(0, liP n k), (16, gi x), (25, gi y), (29, gi z), (30, nilS), (243, goN n), (244, goN 0)] (blkY h nG1 (l.map gi, e, row, true) ∧ (l.length = n ∧ 0 < n ∧ n ≤ 65536) ∧
    ∀ g, c (.exit 4) (stOf 298 [(0, liP n k), (16, gi x), (25, gi y), (29, gi z), (30, slN 1 n n)] g) (gW Tryz.prog (hoB (l.map gi) e row) ((fcL l).map gi) 3 2))
set_option maxRecDepth 100000 in
theorem ho3P_ok {l : List Int} {n k e row : Nat} {x y z : Int} {a : AAct} {h : AHeap} {c : Post} (p : ho3P l n k e row x y z a h c) : J Tryz.prog (.loop (loopOf Tryz.prog 12 4)) a h c := by
  obtain ⟨h1, h2, h3, b0, ⟨rfl, h0, hn⟩, h5⟩ := entry_facts p
  refine J.of_told (ho3_loop l x y z l.length e row k rfl hn a h ⟨fun q b hb => ?_, .inl ⟨rfl, ?_⟩⟩ h1 h2) ?_
  · match q, hb with
    | 0, hb => cases hb; exact blkY_get b0
  · simp only [List.map_cons, List.map_nil]
    rw [h3 (0, liP l.length k) (by simp), h3 (16, gi x) (by simp), h3 (25, gi y) (by simp), h3 (29, gi z) (by simp), h3 (30, nilS) (by simp), h3 (243, goN l.length) (by simp), h3 (244, goN 0) (by simp)]
    rfl
  · rintro ex vs h' g ⟨rfl, ⟨hn, _⟩ | ⟨rfl, rfl⟩⟩
    · omega
    · exact h5 (ov [(0, liP l.length k), (16, gi x), (25, gi y), (29, gi z), (243, goN l.length), (244, goN l.length)] g)
noncomputable def hoL (es : Nat → TypeId) (l : List Int) (n k e row t p q : Nat) (u w lv hv mv x y z : Int) : Loops Tryz.prog where
  body := fun i => loopOf Tryz.prog 12 i
  spec := fun i a h c => match i with
    | 0 => ho1P es l n k e row t p q u w lv hv a h c
    | 1 => False
    | 2 => ho2P l n k e row u w lv mv a h c
    | 3 => False
    | 4 => ho3P l n k e row x y z a h c
    | _ + 5 => False
  ok := fun i a h c x => by
    match i, x with
    | 0, x => exact ho1P_ok x
    | 1, x => exact x.elim
    | 2, x => exact ho2P_ok x
    | 3, x => exact x.elim
    | 4, x => exact ho3P_ok x
    | _ + 5, x => exact x.elim
end Go.Proofs.YtihnnmejkpddeaaGreatDoor
