/-
  OWN WORK. Stage 6: bounds of what is held.
-/
import Derived.Test.YtihnnmejkpddeaaGreatDoorBnHL
/-! (OWN WORK. Stage 6: bounds of what is held: the reference's loop; what is held by the program, known; both, carried out.) -/
namespace Go.Proofs.YtihnnmejkpddeaaGreatDoor
open Go Go.Am
theorem mn_lb (f : Nat → Int) (b : Int) : ∀ n, (∀ j, j ≤ n → b ≤ f j) → b ≤ mnJ f n
 | 0, h => h 0 (Nat.le_refl _)
 | n + 1, h => by
  have ih := mn_lb f b n fun j hj => h j (by omega)
  have h1 := h (n + 1) (Nat.le_refl _)
  show b ≤ if f (n + 1) < mnJ f n then f (n + 1) else mnJ f n
  split <;> assumption
theorem loW_pl {l : List V4} (h : okW l) {p s : Nat} (h0 : 0 < s) (h1 : p + s ≤ l.length) (hl : l.length ≤ 100) : okPl (loWL l) (0 + p * 1) s := by
 have at_ : ∀ j, j < s → (loWL l)[0 + p * 1 + j * 1]? = some (gi (intAt (loWL l) (0 + p * 1 + j * 1))) ∧ -16384 ≤ intAt (loWL l) (0 + p * 1 + j * 1) := fun j hj => by
  have hj' : p + j < l.length := by omega
  have hm : p + j < (List.map loF l).length := by rw [List.length_map]; exact hj'
  obtain ⟨f1, f2⟩ := first_at hm
  rw [show 0 + (p + j) * 1 = 0 + p * 1 + j * 1 by omega] at f1 f2
  refine ⟨f1, ?_⟩
  rw [f2, List.getElem_map]
  exact (h _ (List.getElem_mem hj')).1.1
 refine ⟨⟨h0, by omega, fun j hj => (at_ j hj).1⟩, ?_⟩
 have := mn_lb (fnI (loWL l) (0 + p * 1)) (-16384) (s - 1) fun j hj => (at_ j (by omega)).2
 omega
noncomputable def hbF (l : List V4) (s : Nat) : Nat → Int
 | 0 => 0
 | p + 1 => bif unR l p s then hbF l s p else (if wnF (loWL l) p s > hbF l s p then wnF (loWL l) p s else hbF l s p)
noncomputable def hbV (l : List V4) (n k s : Nat) (H : Int) (at_ : Nat → Nat) (p : Nat) : List Value := [.slice (some ⟨at_ 0, 0, none⟩) n k, goN s, .pointer (some ⟨at_ 1, 0, none⟩), gi H, gi (hbF l s p), goN p]
set_option maxHeartbeats 4000000 in
set_option maxRecDepth 100000 in
theorem rhb_loop (l : List V4) (e row m k s : Nat) (H : Int) (h : okW l) (hl : l.length = m + 1) (h40 : m + 1 ≤ 40) (h0 : 0 < s) (hs : s ≤ m + 1) : ∀ (a : AAct) (hp : AHeap), Laid (rhC2 l e row) (nG1 + ·) hp → a.n = 57 → a.marks = [] → [0, 1, 4, 5, 7, 8].map a.tmp = hbV l (m + 1) k s H (nG1 + ·) 0 →
  J Tryz.prog (.loop (loopOf Tryz.prog 55 0)) a hp (told 57 [0, 1, 4, 5, 7, 8] fun ex vs hp => ex = .exit 0 ∧ vs = hbV l (m + 1) k s H (nG1 + ·) (m + 1 + 1 - s) ∧ hp = rhH2 l e row) := by
 have f1 : List.all (cellsV l) (flat 3) = true := cellsV_flat l
 have f2 : okT tvT (cellsV l) (m + 1) := okV hl (by omega)
 have f3 : List.all (loWL l) (flat 3) = true := flat_ints _
 refine fold_rule (P := Tryz.prog) 2 (fun _ => rhC2 l e row) globs_pos (by decide) (by decide) (fun _ => rfl) (fun _ b hb => by
   simp only [List.mem_cons, List.not_mem_nil, or_false] at hb
   rcases hb with rfl | rfl
   ·exact cellsV_flat l
   ·rfl) (hbV l (m + 1) k s H) (fun _ => True) (m + 1 + 1 - s) trivial _ (nG1 + ·) (plus_nodup nG1 2) (fun q _ => by show Tryz.prog.globals.size ≤ nG1 + q; unfold nG1; omega) (fun j => by kernel_rfl) (fun j => by kernel_rfl) (fun at_ j q hq => by
   match q, hq with
   | 0, _ => exact ⟨(0, .slice (some ⟨at_ 0, 0, none⟩) (m + 1) k), by simp [hbV], by simp [named]⟩
   | 1, _ => exact ⟨(4, .pointer (some ⟨at_ 1, 0, none⟩)), by simp [hbV], by simp [named]⟩) ?_ ?_
 ·intro p hp _ g
  have ew : fwrap IntKind.i64 (Int.ofNat (p + s)) = Int.ofNat (p + s) := fwrap_nat (by omega)
  have hps : p + s ≤ m + 1 := by omega
  refine execC_ok mixed orcNp_ok (askNp_ok true true 0 0) (noLoops _) (Eq.mpr (rhb_in l e row m k s p H (hbF l s p) g _) ⟨fun _ => ⟨⟨f1, trivial⟩, f2, ⟨rfl, by rw [decW, hl]; exact h40⟩, fun L hL => ?_⟩, fun hx => ?_⟩)
  ·obtain rfl : l = L := by rw [← hL, decW]
   refine ⟨by simp only [Int.ofNat_eq_natCast]; omega, by rw [ew]; simp only [Int.ofNat_eq_natCast]; omega, by rw [ew]; simp only [Int.ofNat_eq_natCast]; omega, by simp only [Int.ofNat_eq_natCast]; omega, rfl, s - 1, ?_, ⟨f3, trivial⟩, ⟨?_, ?_⟩, ⟨f1, trivial⟩, f2, ?_, fun L hL => ?_⟩
   ·rw [ew]; show p + s - p = s - 1 + 1; omega
   ·rw [show s - 1 + 1 = s by omega]
   ·rw [show s - 1 + 1 = s by omega]; exact loW_pl h h0 (by omega) (by omega)
   ·rw [ew, decW]; exact ⟨rfl, by show p ≤ p + s; omega, by show p + s ≤ l.length; omega⟩
   obtain rfl : l = L := by rw [← hL, decW]
   rw [ew, show (Int.ofNat (p + s)).toNat - p = s by show p + s - p = s; omega, show s - 1 + 1 - 1 = s - 1 by omega, fwrap_nat (m := p + 1) (by omega)]
   refine ⟨fun hu => ?_, fun hu => ?_⟩
   ·refine ⟨trivial, ?_, fun q b hb => ?_⟩
    ·show _ = hbV l (m + 1) k s H _ (p + 1)
     unfold hbV
     rw [show hbF l s (p + 1) = bif unR l p s then hbF l s p else (if wnF (loWL l) p s > hbF l s p then wnF (loWL l) p s else hbF l s p) from rfl, not_f hu]
     rfl
    ·match q, hb with
     | 0, hb => cases hb; show _ = _; kernel_rfl
     | 1, hb => cases hb; show _ = _; kernel_rfl
   ·refine ⟨trivial, ?_, fun q b hb => ?_⟩
    ·show _ = hbV l (m + 1) k s H _ (p + 1)
     unfold hbV
     rw [show hbF l s (p + 1) = bif unR l p s then hbF l s p else (if wnF (loWL l) p s > hbF l s p then wnF (loWL l) p s else hbF l s p) from rfl, not_t hu]
     rfl
    ·match q, hb with
     | 0, hb => cases hb; show _ = _; kernel_rfl
     | 1, hb => cases hb; show _ = _; kernel_rfl
  ·have hx := not_t hx
   rw [ew, ilt_say] at hx
   have := of_decide_eq_true hx
   simp only [Int.ofNat_eq_natCast] at this
   omega
 ·intro _ g
  refine execC_ok mixed orcNp_ok (askNp_ok true true 0 0) (noLoops _) (Eq.mpr (rhb_in l e row m k s (m + 1 + 1 - s) H (hbF l s (m + 1 + 1 - s)) g _) ⟨fun hx => ?_, fun _ => ⟨rfl, rfl, rfl⟩⟩)
  have hx := not_f hx
  rw [fwrap_nat (m := m + 1 + 1 - s + s) (by omega), ilt_say] at hx
  have := of_decide_eq_false hx
  simp only [Int.ofNat_eq_natCast] at this
  omega
def rhbOk (l : List V4) (m s : Nat) : Prop := okW l ∧ l.length = m + 1 ∧ m + 1 ≤ 40 ∧ 0 < s ∧ s ≤ m + 1
noncomputable def rhbL (l : List V4) (e row m k s : Nat) (H : Int) : Loops Tryz.prog where
 body := fun _ => loopOf Tryz.prog 55 0
 spec := fun _ a h c => entry a 57 [(0, liP (m + 1) k), (1, goN s), (4, ptN 1), (5, gi H), (7, gi 0), (8, goN 0)] ((bldWY h nG1 (cellsV l, e, row, true) ∧ bldWY h (nG1 + 1) ([gi 0, gi 0, gi 0, gi 0, .bool false], 98, 0, false)) ∧ rhbOk l m s ∧
  ∀ g, c (.exit 0) (stOf 57 [(0, liP (m + 1) k), (4, ptN 1), (5, gi H), (7, gi (hbF l s (m + 1 + 1 - s)))] g) (rhH2 l e row))
 ok := fun i a h c x => by
  obtain ⟨h1, h2, h3', ⟨b0, b1⟩, ⟨o1, o2, o3, o4, o5⟩, h5⟩ := entry_facts x
  refine J.of_told (rhb_loop l e row m k s H o1 o2 o3 o4 o5 a h (fun q b hb => ?_) h1 h2 ?_) ?_
  ·match q, hb with
   | 0, hb => cases hb; exact blW_get b0
   | 1, hb => cases hb; exact blW_get b1
  ·simp only [List.map_cons, List.map_nil]
   rw [h3' (0, liP (m + 1) k) (by simp), h3' (1, goN s) (by simp), h3' (4, ptN 1) (by simp), h3' (5, gi H) (by simp), h3' (7, gi 0) (by simp), h3' (8, goN 0) (by simp)]
   rfl
  ·rintro ex vs h' g ⟨rfl, rfl, rfl⟩
   exact h5 (ov [(1, goN s), (8, goN (m + 1 + 1 - s))] g)
noncomputable def lvlM (c : List Value) (s n : Nat) : Int := match wL c s (n + 1 - s) with
 | [] => 0
 | x :: r => mxI x r
noncomputable def lvlI (c : List Value) (s n : Nat) : Int := match wL c s (n + 1 - s) with
 | [] => 0
 | x :: r => ixJ (fnI (List.map gi (x :: r)) 0) (mxI x r) (r.length + 1) 0
set_option maxRecDepth 100000 in
theorem held_any {c : List Value} {m e row k s : Nat} (C : HvC c row (m + 1) k s) (hs : s ≤ m + 1) : CallJ Tryz.prog 101 #[liP (m + 1) k, goN s] (liH c e row) (fun v _ => v = .tuple #[gi (lvlM c s (m + 1)), gi (lvlI c s (m + 1))]) := by
 refine callM_ok (L := hrL c e row m k s) mixed orcLa_ok askLa_ok (Eq.mpr (hd_run c e row m k s _) ⟨rfl, rfl, rfl, by kernel_rfl, ⟨C, hs⟩, by kernel_rfl, rfl, rfl, rfl, rfl, fun x r g₂ hx => ?_⟩)
 have hn1 := C.n1
 have hx' : wL c s (m + 1 + 1 - s) = x :: r := by rw [← allL_all c s (m + 1) C.s1]; exact hx
 have hl : r.length + 1 ≤ 65536 := by
  have q := congrArg List.length hx'
  rw [wL_len, List.length_cons] at q
  have := C.s1
  omega
 have fl : List.all (gi x :: List.map gi r) (flat 3) = true := flat_ints (x :: r)
 refine ⟨⟨fl, trivial⟩, okP_map x r hl, rfl, ⟨fl, trivial⟩, okP_map x r hl, ⟨_, rfl⟩, _, rfl, ?_⟩
 show Value.tuple #[gi (mxJ (fnI (List.map gi (x :: r)) 0) r.length), gi (ixJ (fnI (List.map gi (x :: r)) 0) (mxJ (fnI (List.map gi (x :: r)) 0) r.length) (r.length + 1) 0)] = _
 unfold lvlM lvlI
 rw [hx']
 rw [mx_same]
end Go.Proofs.YtihnnmejkpddeaaGreatDoor
/-! (OWN WORK. Stage 6: bounds of what is held, carried out.) -/
namespace Go.Proofs.YtihnnmejkpddeaaGreatDoor
open Go Go.Am
def hd2C (cs : List Value) (n k row : Nat) (r : List Value) : Prop := r = [goN (xOf r).toNat] ∧ HvC cs row n k (xOf r).toNat ∧ (xOf r).toNat ≤ n
noncomputable abbrev hd2F (cs : List Value) (n s : Nat) : Value := .tuple #[gi (lvlM cs s n), gi (lvlI cs s n)]
open Classical in
noncomputable def hd2X (vs : List Value) (B : List Cells) : Option Out := hdY none (fun cs n k row r => if hd2C cs n k row r then some (.plain (hd2F cs n (xOf r).toNat)) else none) vs B
noncomputable def hd2AY (s : Nat) (vs : List Value) (B : List Cells) (K : Out → Prop) : Prop := hdY False (fun cs n k row r => (r = [goN s] ∧ HvC cs row n k s ∧ s ≤ n) ∧ K (.plain (hd2F cs n s))) vs B
theorem hd2A_ok (s : Nat) (vs : List Value) (B : List Cells) (K : Out → Prop) (h : hd2AY s vs B K) : ∃ o, hd2X vs B = some o ∧ K o := by
 unfold hd2AY at h
 rcases hdY_inv (z := False) (f := fun cs n k row r => (r = [goN s] ∧ HvC cs row n k s ∧ s ≤ n) ∧ K (.plain (hd2F cs n s))) (vs := vs) (B := B) with q | ⟨cs, n, k, e, row, r, rfl, rfl⟩
 ·rw [q] at h; exact h.elim
 ·rw [hdY_at] at h
  obtain ⟨⟨rfl, h1⟩, h2⟩ := h
  unfold hd2X
  rw [hdY_at, if_pos (show hd2C cs n k row [goN s] from ⟨rfl, h1⟩)]
  exact ⟨_, rfl, h2⟩
noncomputable def orcNh : Orc := orElse 34 (s1O tiT rhC rhO) (orElse 101 (anyO Tryz.prog.globals.size hd2X) orcN3)
set_option maxRecDepth 100000 in
theorem orcNh_ok : OrcOk Tryz.prog orcNh := by
 refine s1O_ok (anyO_ok globs_pos orcN3_ok fun vs B o h _ => ?_) (fun _ _ _ _ => rfl) ?_
 ·rcases hdY_inv (z := (none : Option Out)) (f := fun cs n k row r => open Classical in if hd2C cs n k row r then some (.plain (hd2F cs n (xOf r).toNat)) else none) (vs := vs) (B := B) with q | ⟨cs, n, k, e, row, r, rfl, rfl⟩
  ·unfold hd2X at h; rw [q] at h; cases h
  ·unfold hd2X at h
   rw [hdY_at] at h
   split at h
   ·rename_i hc
    cases h
    obtain ⟨hr, C, hs⟩ := hc
    refine ⟨rfl, ?_⟩
    rw [hr]
    generalize (xOf r).toNat = s at C hs ⊢
    obtain ⟨m, rfl⟩ : ∃ m, n = m + 1 := ⟨n - 1, by have := C.s1; omega⟩
    exact held_any C hs
   ·cases h
 ·rintro l m k e row r hl h1 ⟨hr, h2, h3⟩
  rw [hr] at h2 h3 ⊢
  generalize (xOf r).toNat = s at h2 h3 ⊢
  have h2 : 0 < s := h2
  have h3 : s ≤ l.length := h3
  exact callC_ok (L := rhoLp (l.map gi) (m + 1) e row k s) mixed orcLa_ok askLa_ok (Eq.mpr (rho_run (l.map gi) m e row k s _) ⟨rfl, rfl, rfl, rfl, rfl, rfl, rfl, by kernel_rfl, ⟨hv_of hl h1 h2 (by omega) (Nat.le_refl _) rfl, by omega⟩, fun _ => rfl⟩)
noncomputable def rhAY (s : Nat) (vs : List Value) (B : List Cells) (K : Out → Prop) : Prop := s1Y False (fun cs n r => okT tiT cs n ∧ (r = [goN s] ∧ 0 < s ∧ s ≤ (TellT.dec tiT cs).length) ∧ ∀ L : List Int, TellT.dec tiT cs = L → K (.plain (.tuple #[gi (rhS (L.map gi) s (n + 1 - s)).1, .agg #[goN (rhS (L.map gi) s (n + 1 - s)).2.1, goN (rhS (L.map gi) s (n + 1 - s)).2.2]]))) vs B
theorem rhA_ok (s : Nat) (vs : List Value) (B : List Cells) (K : Out → Prop) (h : rhAY s vs B K) : ∃ o, s1X tiT rhC rhO vs B = some o ∧ K o := by
 unfold rhAY at h
 rcases s1Y_inv (z := False) (f := fun cs n r => okT tiT cs n ∧ (r = [goN s] ∧ 0 < s ∧ s ≤ (TellT.dec tiT cs).length) ∧ ∀ L : List Int, TellT.dec tiT cs = L → K (.plain (.tuple #[gi (rhS (L.map gi) s (n + 1 - s)).1, .agg #[goN (rhS (L.map gi) s (n + 1 - s)).2.1, goN (rhS (L.map gi) s (n + 1 - s)).2.2]]))) (vs := vs) (B := B) with q | ⟨cs, n, k, e, row, r, rfl, rfl⟩
 ·rw [q] at h; exact h.elim
 ·rw [s1Y_at] at h
  obtain ⟨h1, ⟨rfl, h2⟩, h3⟩ := h
  unfold s1X
  rw [s1Y_at, if_pos ⟨h1, (show rhC _ [goN s] from ⟨rfl, h2⟩)⟩]
  exact ⟨_, rfl, h3 _ rfl⟩
noncomputable def askNh (w f : Bool) (lo hi s : Nat) : Asks := asksV Tryz.prog.globals.size 34 (rhAY s) (asksV Tryz.prog.globals.size 101 (hd2AY s) (askN3 w f 0 0 lo hi))
theorem askNh_ok (w f : Bool) (lo hi s : Nat) : AsksOk orcNh (askNh w f lo hi s) := asksV_ok (rhA_ok s) (asksV_ok (hd2A_ok s) (askN3_ok w f 0 0 lo hi))
theorem rhb_run (l : List V4) (m k e row s : Nat) (H : Int) (K : Value → Prop) : callC Tryz.prog (exec Tryz.prog orcNh 20) (syOf [(13, 7), (15, 7), (55, 7)]) (askNh true true 0 0 s) (rhbL l e row m k s H) 60 55 #[liP (m + 1) k, goN s] (liH (cellsV l) e row) (fun v _ => K v) = (((List.all (cellsV l) (flat 3) = true ∧ True) ∧ okT tvT (cellsV l) (m + 1) ∧ s40C (TellT.dec tvT (cellsV l)) [] ∧ (∀ y1 : List V4, (TellT.dec tvT (cellsV l) = y1 → ((List.all (List.map gi (List.map hiF y1)) (flat 3) = true ∧ True) ∧ okT tiT (List.map gi (List.map hiF y1)) (m + 1) ∧ ([goN s] = [goN s] ∧ (0 : Nat) < s ∧ (s : Nat) ≤ List.length (TellT.dec tiT (List.map gi (List.map hiF y1)))) ∧ (∀ y2 : List Int, (TellT.dec tiT (List.map gi (List.map hiF y1)) = y2 → (loopOf Tryz.prog 55 0 = loopOf Tryz.prog 55 0 ∧ liP (m + 1) k = liP (m + 1) k ∧ goN s = goN s ∧ Value.pointer (some ⟨nG1 + 1, 0, none⟩) = ptN 1 ∧ gi (((rhS (List.map gi y2) s (m + 1 + 1 - s)).1)) = gi H ∧ gi 0 = gi 0 ∧ gi 0 = goN 0 ∧ ((cellsV l = cellsV l ∧ e = e ∧ row = row ∧ true = true) ∧ [gi 0, gi 0, gi 0, gi 0, Value.bool false] = [gi 0, gi 0, gi 0, gi 0, Value.bool false] ∧ 98 = 98 ∧ 0 = 0 ∧ false = false) ∧ rhbOk l m s ∧ (∀ _ : Nat → Value, ((List.all (cellsV l) (flat 3) = true ∧ True) ∧ okT tvT (cellsV l) (m + 1) ∧ nonC (TellT.dec tvT (cellsV l)) [] ∧ (∀ y4 : List V4, (TellT.dec tvT (cellsV l) = y4 → K (Value.agg (Array.mk (List.take 5 (List.drop 0 ([] ++ ([gi (hbF l s (((m + 1) + 1) - s)), gi 1, gi (if (H : Int) > 0 then H else 0), gi 1, Value.bool (ovR y4 (List.length y4))] ++ [])))))))))))))))))) := by kernel_rfl
theorem phb_e (l : List V4) (m k e row : Nat) (a : Int) (K : Value → Prop) : callC Tryz.prog (exec Tryz.prog orcNh 40) (syOf [(12, 7), (22, 31)]) (askNh true true 0 0 0) (noLoops _) 60 52 #[liP (m + 1) k, gi a] (liH (cellsV l) e row) (fun v _ => K v) = (((List.all (cellsV l) (flat 3) = true ∧ True) ∧ okT tvT (cellsV l) (m + 1) ∧ nonC (TellT.dec tvT (cellsV l)) [] ∧ (!(ieq (firstS [traE (TellT.dec tvT (cellsV l)), withinS a 1 128, whenS (ilt (Int.ofNat (m + 1)) a) 16]) 0)) = true ∧ K (Value.tuple #[Value.agg (Array.mk (List.take 5 (List.drop 0 ([] ++ ([gi 0, gi 0, gi 0, gi 0, Value.bool false] ++ []))))), gi (firstS [traE (TellT.dec tvT (cellsV l)), withinS a 1 128, whenS (ilt (Int.ofNat (m + 1)) a) 16])]))) := by kernel_rfl
theorem phb_k (l : List V4) (m k e row s : Nat) (K : Value → Prop) : callC Tryz.prog (exec Tryz.prog orcNh 40) (syOf [(12, 7), (22, 32), (27, 7), (29, 7), (34, 7), (36, 7), (46, 7)]) (askNh true true 0 0 s) (noLoops _) 60 52 #[liP (m + 1) k, goN s] (liH (cellsV l) e row) (fun v _ => K v) = (((List.all (cellsV l) (flat 3) = true ∧ True) ∧ okT tvT (cellsV l) (m + 1) ∧ nonC (TellT.dec tvT (cellsV l)) [] ∧ (!(ieq (firstS [traE (TellT.dec tvT (cellsV l)), withinS (Int.ofNat s) 1 128, whenS (Nat.blt (m + 1) s) 16]) 0)) = false ∧ (List.all (cellsV l) (flat 3) = true ∧ True) ∧ okT tvT (cellsV l) (m + 1) ∧ (List.length (TellT.dec tvT (cellsV l)) : Nat) ≤ 40 ∧ (∀ y1 : List V4, (TellT.dec tvT (cellsV l) = y1 → ((List.all (List.map gi (List.map lsF y1)) (flat 3) = true ∧ True) ∧ ([goN s] = [goN s] ∧ HvC (List.map gi (List.map lsF y1)) 2 (m + 1) (m + 1) s ∧ (s : Nat) ≤ (m + 1)) ∧ (List.all (cellsV l) (flat 3) = true ∧ True) ∧ okT tvT (cellsV l) (m + 1) ∧ (List.length (TellT.dec tvT (cellsV l)) : Nat) ≤ 40 ∧ (∀ y2 : List V4, (TellT.dec tvT (cellsV l) = y2 → ((List.all (List.map gi (List.map hiF y2)) (flat 3) = true ∧ True) ∧ ([goN s] = [goN s] ∧ HvC (List.map gi (List.map hiF y2)) 2 (m + 1) (m + 1) s ∧ (s : Nat) ≤ (m + 1)) ∧ (List.all (cellsV l) (flat 3) = true ∧ True) ∧ okT tvT (cellsV l) (m + 1) ∧ oneC cOv (TellT.dec tvT (cellsV l)) [Value.func (.func 123) #[] #[]] ∧ (∀ y3 : List V4, (TellT.dec tvT (cellsV l) = y3 → K (Value.tuple #[Value.agg (Array.mk (List.take 5 (List.drop 0 ([] ++ ([gi (if (lvlM (List.map gi (List.map lsF y1)) s (m + 1) : Int) > 0 then lvlM (List.map gi (List.map lsF y1)) s (m + 1) else 0), gi 1, gi (if (lvlM (List.map gi (List.map hiF y2)) s (m + 1) : Int) > 0 then lvlM (List.map gi (List.map hiF y2)) s (m + 1) else 0), gi 1, Value.bool (ovR y3 (List.length y3))] ++ []))))), gi 0]))))))))))) := by kernel_rfl
end Go.Proofs.YtihnnmejkpddeaaGreatDoor
/-! (OWN WORK. Stage 6: bounds of what is held: both sides have the same; known calls.) -/
namespace Go.Proofs.YtihnnmejkpddeaaGreatDoor
open Go Go.Am
noncomputable def mx0 (x : Int) : Int := if (x : Int) > 0 then x else 0
theorem mxI_app : ∀ (r : List Int) (x w : Int), mxI x (r ++ [w]) = if w > mxI x r then w else mxI x r
 | [], _, _ => rfl
 | y :: r, x, w => mxI_app r (if y > x then y else x) w
theorem mx0_mx : ∀ (r : List Int) (x : Int), mx0 (mxI x r) = mxI (mx0 x) r
 | [], _ => rfl
 | y :: r, x => by
  show mx0 (mxI (if y > x then y else x) r) = mxI (if y > mx0 x then y else mx0 x) r
  rw [mx0_mx r]
  congr 1
  unfold mx0
  repeat' (first | omega | split)
theorem mxI_nn : ∀ (r : List Int) (x : Int), 0 ≤ x → 0 ≤ mxI x r
 | [], _, h => h
 | y :: r, x, h => mxI_nn r (if y > x then y else x) (by split <;> omega)
theorem mn_le (f : Nat → Int) : ∀ n j, j ≤ n → mnJ f n ≤ f j
 | 0, j, h => by
    obtain rfl : j = 0 := by omega
    exact Int.le_refl _
 | n + 1, j, h => by
  show (if f (n + 1) < mnJ f n then f (n + 1) else mnJ f n) ≤ f j
  by_cases e : j = n + 1
  ·subst e; split <;> omega
  ·have := mn_le f n j (by omega)
   split <;> omega
theorem mn_same {f g : Nat → Int} : ∀ n, (∀ j, j ≤ n → f j = g j) → mnJ f n = mnJ g n
 | 0, h => h 0 (Nat.le_refl _)
 | n + 1, h => by
  show (if f (n + 1) < mnJ f n then f (n + 1) else mnJ f n) = if g (n + 1) < mnJ g n then g (n + 1) else mnJ g n
  rw [mn_same n (fun j hj => h j (by omega)), h (n + 1) (Nat.le_refl _)]
theorem un_has {l : List V4} {p : Nat} : ∀ {s}, unR l p s = true → ∃ j, j < s ∧ unAt l (p + j) = true
 | s + 1, h => by
  have h : (unR l p s || unAt l (p + s)) = true := h
  cases hu : unR l p s with
  | true =>
   obtain ⟨j, h1, h2⟩ := un_has hu
   exact ⟨j, by omega, h2⟩
  | false =>
   rw [hu, Bool.false_or] at h
   exact ⟨s, by omega, h⟩
theorem un_no {l : List V4} {p : Nat} : ∀ {s}, unR l p s = false → ∀ j, j < s → unAt l (p + j) = false
 | s + 1, h, j, hj => by
  have h : (unR l p s || unAt l (p + s)) = false := h
  rw [Bool.or_eq_false_iff] at h
  by_cases e : j = s
  ·subst e; exact h.2
  ·exact un_no h.1 j (by omega)
theorem fn_W {f : V4 → Int} {l : List V4} {p j : Nat} (h : p + j < l.length) : fnI (List.map gi (List.map f l)) (0 + p * 1) j = f l[p + j] := by
 show intAt (List.map gi (List.map f l)) (0 + p * 1 + j * 1) = _
 rw [show 0 + p * 1 + j * 1 = p + j by omega, itW h]
theorem wn_un {l : List V4} {p s : Nat} (h1 : p + s ≤ l.length) (hu : unR l p s = true) : wnF (lsWL l) p s ≤ -2097152 := by
 obtain ⟨j, hj, hj2⟩ := un_has hu
 have hl : p + j < l.length := by omega
 have := mn_le (fnI (lsWL l) (0 + p * 1)) (s - 1) j (by omega)
 rw [fn_W hl] at this
 unfold unAt at hj2
 rw [List.getElem?_eq_getElem hl] at hj2
 have hj2 : l[p + j].2.2.1 = true := hj2
 have e : lsF l[p + j] = -2097152 := by unfold lsF; rw [hj2]; rfl
 rw [e] at this
 exact this
theorem wn_nu {l : List V4} {p s : Nat} (h0 : 0 < s) (h1 : p + s ≤ l.length) (hu : unR l p s = false) : wnF (lsWL l) p s = wnF (loWL l) p s := by
 refine mn_same (s - 1) fun j hj => ?_
 have hl : p + j < l.length := by omega
 rw [fn_W hl, fn_W hl]
 have hj2 := un_no hu j (by omega)
 unfold unAt at hj2
 rw [List.getElem?_eq_getElem hl] at hj2
 have hj2 : l[p + j].2.2.1 = false := hj2
 unfold lsF loF
 rw [hj2]; rfl
theorem hb_same {l : List V4} {s : Nat} (h0 : 0 < s) : ∀ p, p + s ≤ l.length + 1 → hbF l s p = mxI 0 (wL (lsWL l) s p)
 | 0, _ => rfl
 | p + 1, hp => by
  have ih := hb_same (l := l) h0 p (by omega)
  have nn := mxI_nn (wL (lsWL l) s p) 0 (Int.le_refl _)
  show (bif unR l p s then hbF l s p else (if wnF (loWL l) p s > hbF l s p then wnF (loWL l) p s else hbF l s p)) = mxI 0 (wL (lsWL l) s p ++ [wnF (lsWL l) p s])
  rw [mxI_app, ih]
  cases hu : unR l p s with
  | true =>
   have := wn_un (l := l) (p := p) (s := s) (by omega) hu
   rw [cond_true, if_neg (by omega)]
  | false =>
   rw [cond_false, wn_nu h0 (by omega) hu]
theorem wL_cons (c : List Value) (s : Nat) {t : Nat} (h : 0 < t) : ∃ x r, wL c s t = x :: r := by
 have q := wL_len c s t
 cases e : wL c s t with
 | nil => rw [e] at q; simp at q; omega
 | cons x r => exact ⟨x, r, rfl⟩
theorem lo_same {l : List V4} {s : Nat} (h0 : 0 < s) (hs : s ≤ l.length) : hbF l s (l.length + 1 - s) = mx0 (lvlM (lsWL l) s l.length) := by
 rw [hb_same h0 _ (by omega)]
 obtain ⟨x, r, e⟩ := wL_cons (lsWL l) s (t := l.length + 1 - s) (by omega)
 unfold lvlM
 rw [e]
 show mxI (if x > 0 then x else 0) r = mx0 (mxI x r)
 rw [mx0_mx]; rfl
theorem hi_same {l : List V4} {s : Nat} (h : okW l) (h0 : 0 < s) (hs : s ≤ l.length) : (rhS (hiWL l) s (l.length + 1 - s)).1 = lvlM (hiWL l) s l.length := by
 obtain ⟨x, r, e⟩ := wL_cons (hiWL l) s (t := l.length + 1 - s) (by omega)
 have hl : -16385 < wnF (hiWL l) 0 s := by
  have := mn_lb (fnI (hiWL l) (0 + 0 * 1)) (-16384) (s - 1) fun j hj => by
   rw [fn_W (by omega)]
   exact (h _ (List.getElem_mem _)).2.1
  exact Int.lt_of_lt_of_le (by omega) this
 have ha : allL (hiWL l) s l.length l.length = x :: r := by rw [allL_all _ _ _ h0]; exact e
 have hh := (held_same h0 hs hl ha).1
 rw [mx_same] at hh
 rw [← hh]
 unfold lvlM
 rw [e]
noncomputable def hbE (l : List V4) (n : Nat) (a : Int) : Int := firstS [traE l, withinS a 1 128, whenS (ilt (Int.ofNat n) a) 16]
noncomputable def hb5 (l : List V4) (n s : Nat) : Value := .agg #[gi (mx0 (lvlM (lsWL l) s n)), gi 1, gi (mx0 (lvlM (hiWL l) s n)), gi 1, .bool (ovR l l.length)]
noncomputable def phV (w : Bool) (l : List V4) (n : Nat) (a : Int) : Value := bif w then .tuple #[hb5 l n a.toNat, gi 0] else .tuple #[zB5, gi (hbE l n a)]
def phC (l : List V4) (r : List Value) : Prop := r = [gi (xOf r)] ∧ (ieq (hbE l l.length (xOf r)) 0 = true → l.length ≤ 40)
noncomputable abbrev phO (n : Nat) (l : List V4) (r : List Value) : Out := .plain (phV (ieq (hbE l n (xOf r)) 0) l n (xOf r))
def rhbC (l : List V4) (r : List Value) : Prop := r = [goN (xOf r).toNat] ∧ okW l ∧ l.length ≤ 40 ∧ 0 < (xOf r).toNat ∧ (xOf r).toNat ≤ l.length
noncomputable abbrev rhbO (n : Nat) (l : List V4) (r : List Value) : Out := .plain (hb5 l n (xOf r).toNat)
noncomputable def orcNz : Orc := orElse 52 (s1O tvT phC phO) (orElse 55 (s1O tvT rhbC rhbO) orcNh)
set_option maxRecDepth 100000 in
set_option maxHeartbeats 4000000 in
theorem orcNz_ok : OrcOk Tryz.prog orcNz := by
 refine s1O_ok (s1O_ok orcNh_ok (fun n l r _ => rfl) ?_) (fun n l r _ => ?_) ?_
 ·rintro l m k e row r hl h1 ⟨hr, h2, h40, g1, g2⟩
  rw [hr] at g1 g2 ⊢
  generalize (xOf r).toNat = s at g1 g2 ⊢
  have g1 : 0 < s := g1
  have g2 : s ≤ l.length := g2
  have f1 : List.all (cellsV l) (flat 3) = true := cellsV_flat l
  have f2 := okV hl h1
  have lh : (List.map hiF l).length = m + 1 := by rw [List.length_map]; exact hl
  have eH := hi_same h2 g1 g2
  have eL := lo_same (l := l) g1 g2
  rw [hl] at eH eL
  refine callC_ok mixed orcNh_ok (askNh_ok true true 0 0 s) (Eq.mpr (rhb_run l m k e row s (rhS (hiWL l) s (m + 1 + 1 - s)).1 _) ⟨⟨f1, trivial⟩, f2, ⟨rfl, by rw [decW]; exact h40⟩, fun L hL => ?_⟩)
  obtain rfl : l = L := by rw [← hL, decW]
  refine ⟨⟨flat_ints _, trivial⟩, okIv lh (by omega), ⟨rfl, g1, by rw [decTv, lh]; omega⟩, fun L hL => ?_⟩
  obtain rfl : List.map hiF l = L := by rw [← hL, decTv]
  refine ⟨rfl, rfl, rfl, rfl, rfl, rfl, rfl, ⟨⟨rfl, rfl, rfl, rfl⟩, rfl, rfl, rfl, rfl⟩, ⟨h2, hl, by omega, g1, by omega⟩, fun _ => ⟨⟨f1, trivial⟩, f2, rfl, fun L hL => ?_⟩⟩
  obtain rfl : l = L := by rw [← hL, decW]
  rw [eL, eH]; rfl
 ·show flat 3 (phV _ _ _ _) = true
  cases ieq (hbE l n (xOf r)) 0 <;> rfl
 ·rintro l m k e row r hl h1 ⟨hr, h40⟩
  rw [hr] at h40 ⊢
  generalize xOf r = a at h40 ⊢
  have f1 : List.all (cellsV l) (flat 3) = true := cellsV_flat l
  have f2 := okV hl h1
  have h40 : ieq (hbE l l.length a) 0 = true → l.length ≤ 40 := h40
  rw [hl] at h40
  show CallJ Tryz.prog 52 #[liP (m + 1) k, gi a] (liH (cellsV l) e row) (fun v _ => v = phV (ieq (hbE l (m + 1) a) 0) l (m + 1) a)
  cases hz : ieq (hbE l (m + 1) a) 0 with
  | false =>
   refine callC_ok mixed orcNh_ok (askNh_ok true true 0 0 0) (Eq.mpr (phb_e l m k e row a _) ⟨⟨f1, trivial⟩, f2, rfl, ?_, ?_⟩)
   ·rw [decW, show ieq (firstS [traE l, withinS a 1 128, whenS (ilt (Int.ofNat (m + 1)) a) 16]) 0 = false from hz]; rfl
   ·rw [decW]; rfl
  | true =>
   have z := ieq_zero hz
   have h2 := tra_okW (firstS_none z _ (.head _))
   have z2 := within_zero (firstS_none z (withinS a 1 128) (.tail _ (.head _)))
   have z5 := when_none (by decide) (firstS_none z (whenS (ilt (Int.ofNat (m + 1)) a) 16) (.tail _ (.tail _ (.head _))))
   rw [ilt_say] at z5
   have z5 := of_decide_eq_false z5
   obtain ⟨s, rfl⟩ := Int.eq_ofNat_of_zero_le (show 0 ≤ a by omega)
   simp only [Int.ofNat_eq_natCast] at z5
   have h40 := h40 hz
   have d40 : (TellT.dec tvT (cellsV l)).length ≤ 40 := by rw [decW, hl]; exact h40
   refine callC_ok mixed orcNh_ok (askNh_ok true true 0 0 s) (Eq.mpr (phb_k l m k e row s _) ⟨⟨f1, trivial⟩, f2, rfl, ?_, ⟨f1, trivial⟩, f2, d40, fun L hL => ?_⟩)
   ·rw [decW, show ieq (firstS [traE l, withinS (Int.ofNat s) 1 128, whenS (Nat.blt (m + 1) s) 16]) 0 = true from hz]; rfl
   obtain rfl : l = L := by rw [← hL, decW]
   refine ⟨⟨flat_ints _, trivial⟩, ⟨rfl, hv_of (by rw [List.length_map]; exact hl) (by omega) (by omega) (by omega) (Nat.le_refl _) rfl, by omega⟩, ⟨f1, trivial⟩, f2, d40, fun L hL => ?_⟩
   obtain rfl : l = L := by rw [← hL, decW]
   refine ⟨⟨flat_ints _, trivial⟩, ⟨rfl, hv_of (by rw [List.length_map]; exact hl) (by omega) (by omega) (by omega) (Nat.le_refl _) rfl, by omega⟩, ⟨f1, trivial⟩, f2, rfl, fun L hL => ?_⟩
   obtain rfl : l = L := by rw [← hL, decW]
   rfl
end Go.Proofs.YtihnnmejkpddeaaGreatDoor
