/-
  OWN WORK. Stage 8: lists' errors, as known calls.
-/
import Derived.Test.YtkggjnjiggekeaaGreatDoorPuB
namespace Go.Proofs.YtkggjnjiggekeaaGreatDoor
open Go Go.Am

noncomputable def aE (x : Int) : Int := withinS x (-100000) 100000
noncomputable def cE (x : P2) : Int := itE x.1 x.2 0 10000
set_option maxRecDepth 100000 in
theorem eac_loop (l : List Int) (e row k : Nat) (hl : l.length ≤ 65536) : ∀ a : AAct, a.n = 21 → a.marks = [] → [1, 4, 8, 9, 10].map a.tmp = [cAc, gi 0, liP l.length k, goN l.length, goN 0] →
    J Tryz.prog (.loop (loopOf Tryz.prog 156 0)) a (liH (l.map gi) e row) (told 21 [1, 4, 8, 9, 10] fun ex vs h => h = liH (l.map gi) e row ∧ ((ex = .exit 0 ∧ firstE aE l = 0) ∨ (ex = .ret ∧ ∃ j, vs = [cAc, gi (firstE aE l), liP l.length k, goN l.length, goN j]))) := by
  refine scan_rule _ (fun j => [cAc, gi 0, liP l.length k, goN l.length, goN j]) (fun j => firstE aE l = firstE aE (l.drop j)) l.length rfl _ ?_ ?_
  · intro j hj hI g
    refine execC_ok mixed orcPb_ok askPb_ok (noLoops _) (Eq.mpr (eb_int _ e row _ k j g _) ⟨fun hlt => ?_, fun hge => absurd (blt_false hge) (by omega)⟩)
    obtain ⟨h1, h2⟩ := first_at hj
    refine ⟨hlt, h1, fun h3 => ⟨rfl, .inr ⟨rfl, j, ?_⟩⟩, fun h3 => ⟨?_, ?_, rfl⟩⟩
    · rw [h2] at h3 ⊢
      rw [hI, firstE_drop hj]
      show _ = [cAc, gi (bif ieq (withinS l[j] (-100000) 100000) 0 then _ else withinS l[j] (-100000) 100000), _, _, _]
      rw [not_ieqT h3]; rfl
    · rw [h2] at h3
      rw [hI, firstE_drop hj]
      show (bif ieq (withinS l[j] (-100000) 100000) 0 then _ else _) = _
      rw [not_ieqF h3]; rfl
    · rw [fwrap_nat (by omega)]
  · intro hI g
    exact execC_ok mixed orcPb_ok askPb_ok (noLoops _) (Eq.mpr (eb_int _ e row _ k _ g _) ⟨fun hlt => absurd (blt_true hlt) (by omega), fun _ => ⟨rfl, .inl ⟨rfl, by rw [hI, firstE_end (Nat.le_refl _)]⟩⟩⟩)
set_option maxRecDepth 100000 in
theorem val_loop (l : List Int) (e row k : Nat) (hl : l.length ≤ 65536) : ∀ a : AAct, a.n = 19 → a.marks = [] → [0, 2, 3].map a.tmp = [liP l.length k, gi 0, goN 0] →
    J Tryz.prog (.loop (loopOf Tryz.prog 91 0)) a (liH (l.map gi) e row) (told 19 [0, 2, 3] fun ex vs h => h = liH (l.map gi) e row ∧ ((ex = .exit 0 ∧ firstE aE l = 0) ∨ (ex = .ret ∧ ∃ j, vs = [liP l.length k, gi (firstE aE l), goN j]))) := by
  refine scan_rule _ (fun j => [liP l.length k, gi 0, goN j]) (fun j => firstE aE l = firstE aE (l.drop j)) l.length rfl _ ?_ ?_
  · intro j hj hI g
    refine execC_ok mixed orcPb_ok askPb_ok (noLoops _) (Eq.mpr (rb_val _ e row _ k j g _) ⟨fun hlt => ?_, fun hge => absurd (blt_false hge) (by omega)⟩)
    obtain ⟨h1, h2⟩ := first_at hj
    refine ⟨hlt, h1, fun h3 => ⟨rfl, .inr ⟨rfl, j, ?_⟩⟩, fun h3 => ⟨?_, ?_, rfl⟩⟩
    · rw [h2] at h3 ⊢
      rw [hI, firstE_drop hj]
      show _ = [_, gi (bif ieq (withinS l[j] (-100000) 100000) 0 then _ else withinS l[j] (-100000) 100000), _]
      rw [not_ieqT h3]; rfl
    · rw [h2] at h3
      rw [hI, firstE_drop hj]
      show (bif ieq (withinS l[j] (-100000) 100000) 0 then _ else _) = _
      rw [not_ieqF h3]; rfl
    · rw [fwrap_nat (by omega)]
  · intro hI g
    exact execC_ok mixed orcPb_ok askPb_ok (noLoops _) (Eq.mpr (rb_val _ e row _ k _ g _) ⟨fun hlt => absurd (blt_true hlt) (by omega), fun _ => ⟨rfl, .inl ⟨rfl, by rw [hI, firstE_end (Nat.le_refl _)]⟩⟩⟩)
noncomputable abbrev eivV (l : List P2) (k : Nat) (at_ : Nat → Nat) (j : Nat) : List Value := [cCo, gi 0, .slice (some ⟨at_ 0, 0, none⟩) l.length k, goN l.length, goN j]
set_option maxRecDepth 100000 in
theorem eiv_loop (l : List P2) (e row k : Nat) (hl : l.length ≤ 65536) : ∀ (a : AAct) (h : AHeap), Laid [(cellsP l, e, row, true)] (nG1 + ·) h → a.n = 21 → a.marks = [] → [1, 4, 8, 9, 10].map a.tmp = eivV l k (nG1 + ·) 0 →
    J Tryz.prog (.loop (loopOf Tryz.prog 92 0)) a h (told 21 [1, 4, 8, 9, 10] fun ex vs _ => (ex = .exit 0 ∧ firstE cE l = 0) ∨ (ex = .ret ∧ ∃ r, vs = cCo :: gi (firstE cE l) :: r)) := by
  intro a h hs ha hm hv
  refine fold_rule (L := 1) (C := fun _ => [(cellsP l, e, row, true)]) globs_pos (by decide) (by decide) (fun _ => rfl) (fun _ b hb => ?_) (V := eivV l k) (I := fun j => firstE cE l = firstE cE (l.drop j)) (m := l.length) rfl _ (nG1 + ·) (by decide) (fun q _ => by show Tryz.prog.globals.size ≤ nG1 + q; unfold nG1; omega) (fun j => by kernel_rfl) (fun j => by kernel_rfl)
    (fun at_ j q hq => ?_) ?_ ?_ a h hs ha hm hv
  · simp only [List.mem_cons, List.not_mem_nil, or_false] at hb
    rw [hb]; exact cellsP_flat l
  · obtain rfl : q = 0 := by omega
    exact ⟨(8, .slice (some ⟨at_ 0, 0, none⟩) l.length k), by simp, by simp [named]⟩
  · intro j hj hI g
    refine execC_ok mixed orcPb_ok askPb_ok (noLoops _) (Eq.mpr (eb_ivl _ e row _ k j g _) ⟨fun hlt => ?_, fun hge => absurd (blt_false hge) (by omega)⟩)
    obtain ⟨⟨h1, h1'⟩, h2, h2'⟩ := cellsP_at hj
    refine ⟨hlt, h1, h1', fun h3 => .inr ⟨rfl, [liP l.length k, goN l.length, goN j], ?_⟩, fun h3 => ⟨?_, ?_, ?_⟩⟩
    · rw [h2, h2'] at h3 ⊢
      rw [hI, firstE_drop hj]
      show _ = cCo :: gi (bif ieq (itE l[j].1 l[j].2 0 10000) 0 then _ else itE l[j].1 l[j].2 0 10000) :: _
      rw [not_ieqT h3]; rfl
    · rw [h2, h2'] at h3
      rw [hI, firstE_drop hj]
      show (bif ieq (itE l[j].1 l[j].2 0 10000) 0 then _ else _) = _
      rw [not_ieqF h3]; rfl
    · rw [fwrap_nat (by omega)]; try rfl
    · intro q b hb
      match q, hb with
      | 0, hb => cases hb; show _ = _; kernel_rfl
  · intro hI g
    exact execC_ok mixed orcPb_ok askPb_ok (noLoops _) (Eq.mpr (eb_ivl _ e row _ k _ g _) ⟨fun hlt => absurd (blt_true hlt) (by omega), fun _ => .inl ⟨rfl, by rw [hI, firstE_end (Nat.le_refl _)]⟩⟩)
noncomputable abbrev corV (l : List P2) (k : Nat) (at_ : Nat → Nat) (j : Nat) : List Value := [.slice (some ⟨at_ 0, 0, none⟩) l.length k, gi 0, goN j]
set_option maxRecDepth 100000 in
theorem cor_loop (l : List P2) (e row k : Nat) (hl : l.length ≤ 65536) : ∀ (a : AAct) (h : AHeap), Laid [(cellsP l, e, row, true)] (nG1 + ·) h → a.n = 33 → a.marks = [] → [0, 2, 4].map a.tmp = corV l k (nG1 + ·) 0 →
    J Tryz.prog (.loop (loopOf Tryz.prog 32 0)) a h (told 33 [0, 2, 4] fun ex vs _ => (ex = .exit 0 ∧ firstE cE l = 0) ∨ (ex = .ret ∧ ∃ v j, vs = [v, gi (firstE cE l), goN j])) := by
  intro a h hs ha hm hv
  refine fold_rule (L := 1) (C := fun _ => [(cellsP l, e, row, true)]) globs_pos (by decide) (by decide) (fun _ => rfl) (fun _ b hb => ?_) (V := corV l k) (I := fun j => firstE cE l = firstE cE (l.drop j)) (m := l.length) rfl _ (nG1 + ·) (by decide) (fun q _ => by show Tryz.prog.globals.size ≤ nG1 + q; unfold nG1; omega) (fun j => by kernel_rfl) (fun j => by kernel_rfl)
    (fun at_ j q hq => ?_) ?_ ?_ a h hs ha hm hv
  · simp only [List.mem_cons, List.not_mem_nil, or_false] at hb
    rw [hb]; exact cellsP_flat l
  · obtain rfl : q = 0 := by omega
    exact ⟨(0, .slice (some ⟨at_ 0, 0, none⟩) l.length k), by simp, by simp [named]⟩
  · intro j hj hI g
    refine execC_ok mixed orcPb_ok askPb_ok (noLoops _) (Eq.mpr (rb_cor _ e row _ k j g _) ⟨fun hlt => ?_, fun hge => absurd (blt_false hge) (by omega)⟩)
    obtain ⟨⟨h1, h1'⟩, h2, h2'⟩ := cellsP_at hj
    refine ⟨hlt, h1, h1', fun h3 => .inr ⟨rfl, liP l.length k, j, ?_⟩, fun h3 => ⟨?_, ?_, ?_⟩⟩
    · rw [h2, h2'] at h3 ⊢
      rw [hI, firstE_drop hj]
      show _ = [_, gi (bif ieq (itE l[j].1 l[j].2 0 10000) 0 then _ else itE l[j].1 l[j].2 0 10000), _]
      rw [not_ieqT h3]; rfl
    · rw [h2, h2'] at h3
      rw [hI, firstE_drop hj]
      show (bif ieq (itE l[j].1 l[j].2 0 10000) 0 then _ else _) = _
      rw [not_ieqF h3]; rfl
    · rw [fwrap_nat (by omega)]; try rfl
    · intro q b hb
      match q, hb with
      | 0, hb => cases hb; show _ = _; kernel_rfl
  · intro hI g
    exact execC_ok mixed orcPb_ok askPb_ok (noLoops _) (Eq.mpr (rb_cor _ e row _ k _ g _) ⟨fun hlt => absurd (blt_true hlt) (by omega), fun _ => .inl ⟨rfl, by rw [hI, firstE_end (Nat.le_refl _)]⟩⟩)
end Go.Proofs.YtkggjnjiggekeaaGreatDoor
