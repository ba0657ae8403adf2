/-
  OWN WORK. Both Converted, as known calls.
-/
import Derived.Test.YtojfhklkcelblaaGreatDoorCsY
namespace Go.Proofs.YtojfhklkcelblaaGreatDoor
open Go Go.Am

/-! The ends of the offset. -/
def okX (s : X4) : Prop := s.lo ≤ s.hi ∧ -16384 ≤ s.lo ∧ s.hi ≤ 16384
theorem exS_ok {j : Nat} {u : Int} {s : X4} (hs : okX s) (h1 : -16384 ≤ u) (h2 : u ≤ 16384) : okX (exS j u s) := by
  obtain ⟨a, b, c⟩ := hs
  unfold okX exS
  simp only
  cases q1 : ilt u s.lo <;> cases q2 : ilt s.hi u <;> rw [ilt_say] at q1 q2 <;> simp at q1 q2 <;> simp only [cond_true, cond_false] <;> omega
theorem exF_ok : ∀ {l : List Int} {j : Nat} {s : X4}, okX s → (∀ u ∈ l, -16384 ≤ u ∧ u ≤ 16384) → okX (exF l j s)
  | [], _, _, hs, _ => hs
  | u :: l, j, s, hs, h => exF_ok (l := l) (exS_ok hs (h u (.head _)).1 (h u (.head _)).2) fun v hv => h v (.tail _ hv)
theorem offN_ok {l : List Nat} {z : Int} (h : zeroE l z = 0) : okX (offN l z) := by
  obtain ⟨h1, h2, h3, h4⟩ := zeroE_zero h
  have hc := csE_take h1 z.toNat
  have hl : 0 < (l.take z.toNat).length := by rw [List.length_take]; omega
  rw [offN_good h, exA_good hl hc]
  obtain ⟨hv, _⟩ := cs_zero hc
  have hu : ∀ f ∈ l.take z.toNat, -16384 ≤ unitE f ∧ unitE f ≤ 16384 := fun f hf => (unit_ok (hv f hf)).2.2
  refine exF_ok ?_ fun u hu' => ?_
  · have : (l.take z.toNat).headD 0 ∈ l.take z.toNat := by
      rw [← head_at hl]; exact List.getElem_mem _
    have := hu _ this
    exact ⟨Int.le_refl _, this.1, this.2⟩
  · obtain ⟨f, hf, rfl⟩ := List.mem_map.1 hu'
    exact hu f hf
noncomputable def cvE (s : ByteArray) (sc x y : Int) (l : List Nat) (z : Int) : Int := firstS [sensE s sc x y, zeroE l z]
theorem cvE_bad {s : ByteArray} {sc x y z : Int} {l : List Nat} (h : sensE s sc x y ≠ 0) : cvE s sc x y l z = sensE s sc x y := by
  unfold cvE
  show (bif ieq (sensE s sc x y) 0 then _ else sensE s sc x y) = _
  rw [ieq_ne h]; rfl
theorem cvE_good {s : ByteArray} {sc x y z : Int} {l : List Nat} (h : sensE s sc x y = 0) : cvE s sc x y l z = zeroE l z := by
  unfold cvE
  show (bif ieq (sensE s sc x y) 0 then (bif ieq (zeroE l z) 0 then 0 else zeroE l z) else _) = _
  rw [h]
  show (bif ieq (zeroE l z) 0 then 0 else zeroE l z) = _
  cases q : ieq (zeroE l z) 0 with
  | false => rfl
  | true => rw [ieq_dec] at q; simpa using (of_decide_eq_true q).symm
theorem cvE_zero {s : ByteArray} {sc x y z : Int} {l : List Nat} (h : cvE s sc x y l z = 0) : sensE s sc x y = 0 ∧ zeroE l z = 0 := by
  have q := firstS_none h
  exact ⟨q _ (.head _), q _ (.tail _ (.head _))⟩
theorem cvE_nil (s : ByteArray) (sc x y z : Int) : cvE s sc x y [] z ≠ 0 := fun h => zeroE_nil_ne z (cvE_zero h).2
theorem good_of {s : ByteArray} {sc x y z : Int} {l : List Nat} (h1 : sensE s sc x y = 0) (h2 : zeroE l z = 0) : vGood sc x y (offN l z).lo (offN l z).hi l ∧ l.length ≤ 4096 ∧ cvC x y (offN l z).lo (offN l z).hi := by
  obtain ⟨a1, a2, a3, a4, a5, a6, a7⟩ := sensE_zero h1
  obtain ⟨b1, b2, b3⟩ := offN_ok h2
  obtain ⟨v1, v2⟩ := cs_zero (zeroE_zero h2).1
  refine ⟨fun f hf => ⟨v1 f hf, ?_⟩, v2, ⟨⟨a3, a7, a6⟩, ⟨b1, by omega, by omega⟩⟩⟩
  obtain ⟨_, _, u1, u2⟩ := unit_ok (v1 f hf)
  unfold valB
  rw [tiny_of (a := unitE f - (offN l z).hi) (by omega) (by omega), tiny_of (a := unitE f - (offN l z).lo) (by omega) (by omega), tiny_of (a := x) (by omega) (by omega), tiny_of (a := y) (by omega) (by omega), tiny_of (a := sc) (by omega) (by omega)]
  rfl
/-! The list that an argument names. -/
noncomputable def srcL (v : Value) (B : List Cells) : Option (List Nat) := match v, B with
  | .slice none 0 0, [] => some []
  | .slice (some ⟨0, 0, none⟩) 0 _, [] => some []
  | .slice (some ⟨i, 0, none⟩) n k, [(c, _, row)] => match Nat.beq i Tryz.prog.globals.size && ((Nat.beq row 0 || Nat.beq row 2) && (Nat.blt 0 n && (Nat.ble n 65536 && Nat.ble n k))), decs dF c with
    | true, some l => match Nat.ble n l.length with
      | true => some (l.take n)
      | false => none
    | _, _ => none
  | _, _ => none
noncomputable def srcY (v : Value) (B : List Cells) (K : Nat → List Nat → Prop) : Prop := match v, B with
  | .slice none n k, [] => n = 0 ∧ k = 0 ∧ K 0 []
  | .slice (some ⟨0, 0, none⟩) n _, [] => n = 0 ∧ K 0 []
  | .slice (some ⟨i, 0, none⟩) n k, [(c, _, row)] => (Nat.beq i Tryz.prog.globals.size && (Nat.beq row 0 || Nat.beq row 2)) = true ∧ ∃ l : List Nat, c = l.map gf ∧ (0 < n ∧ n ≤ l.length ∧ n ≤ 65536 ∧ n ≤ k) ∧ K n (l.take n)
  | _, _ => False
theorem srcL_some {v : Value} {B : List Cells} {l : List Nat} (h : srcL v B = some l) : (v = nilS ∧ B = [] ∧ l = []) ∨ (∃ k, v = .slice (some ⟨0, 0, none⟩) 0 k ∧ B = [] ∧ l = []) ∨ ∃ (l' : List Nat) (n e row k : Nat), v = liP n k ∧ B = [(l'.map gf, e, row)] ∧ l = l'.take n ∧ 0 < n ∧ n ≤ l'.length ∧ n ≤ 65536 ∧ n ≤ k ∧ (Nat.beq row 0 || Nat.beq row 2) = true := by
  unfold srcL at h
  split at h
  · cases h; exact .inl ⟨rfl, rfl, rfl⟩
  · cases h; exact .inr (.inl ⟨_, rfl, rfl, rfl⟩)
  · split at h
    · rename_i hb hd
      split at h
      · rename_i hq
        cases h
        rw [Bool.and_eq_true, Bool.and_eq_true, Bool.and_eq_true, Bool.and_eq_true, Nat.beq_eq, Nat.blt_eq, Nat.ble_eq, Nat.ble_eq] at hb
        obtain ⟨rfl, h1, h2, h3, h4⟩ := hb
        rw [Nat.ble_eq] at hq
        obtain rfl := decs_some (d := dF) (e := gf) dF_some hd
        exact .inr (.inr ⟨_, _, _, _, _, rfl, rfl, rfl, h2, hq, h3, h4, h1⟩)
      · cases h
    · cases h
  · cases h
theorem srcY_ok {v : Value} {B : List Cells} {K : Nat → List Nat → Prop} (h : srcY v B K) : ∃ l, srcL v B = some l ∧ K l.length l := by
  unfold srcY at h
  split at h
  · obtain ⟨rfl, rfl, hK⟩ := h
    exact ⟨[], rfl, hK⟩
  · obtain ⟨rfl, hK⟩ := h
    exact ⟨[], rfl, hK⟩
  · rename_i _ i n k c e row
    obtain ⟨hi, l, rfl, ⟨h1, h2, h3, h4⟩, hK⟩ := h
    rw [Bool.and_eq_true] at hi
    refine ⟨l.take n, ?_, by rw [show (l.take n).length = n by rw [List.length_take]; omega]; exact hK⟩
    obtain ⟨m, rfl⟩ : ∃ m, n = m + 1 := ⟨n - 1, by omega⟩
    have q : (Nat.beq i Tryz.prog.globals.size && ((Nat.beq row 0 || Nat.beq row 2) && (Nat.blt 0 (m + 1) && (Nat.ble (m + 1) 65536 && Nat.ble (m + 1) k)))) = true := by
      rw [hi.1, hi.2, Bool.true_and, Bool.true_and, Bool.and_eq_true, Bool.and_eq_true, Nat.blt_eq, Nat.ble_eq, Nat.ble_eq]
      exact ⟨h1, h3, h4⟩
    have q2 : Nat.ble (m + 1) l.length = true := by rw [Nat.ble_eq]; exact h2
    simp only [srcL, q, decs_map (d := dF) (e := gf) (fun _ => rfl), q2]
  · exact h.elim
noncomputable def cvO (s : ByteArray) (sc x y : Int) (l : List Nat) (z : Int) : Out := bif ieq (cvE s sc x y l z) 0 then .wide (tupM [] l.length [gi 0]) (valsL sc x y (offN l z).lo (offN l z).hi l) 82 5 else .plain (.tuple #[nilS, gi (cvE s sc x y l z)])
noncomputable def cvX (vs : List Value) (B : List Cells) : Option Out := match vs with
  | [.agg a, v, .int .i64 z] => match a.toList, srcL v B with
    | [.string s, .int .i64 sc, .int .i64 x, .int .i64 y], some l => some (cvO s sc x y l z)
    | _, _ => none
  | _ => none
noncomputable def CvX (vs : List Value) (B : List Cells) : Option Out := match vs with
  | [.agg a, v, .int .i64 z] => match a.toList, srcL v B with
    | [.string s, .int .i64 sc, .int .i64 x, .int .i64 y], some l => match ieq (cvE s sc x y l z) 0 with
      | true => some (.wide (slM l.length) (valsL sc x y (offN l z).lo (offN l z).hi l) 78 5)
      | false => none
    | _, _ => none
  | _ => none
noncomputable def cvY (b : Bool) (vs : List Value) (B : List Cells) (K : Out → Prop) : Prop := match vs with
  | [.agg a, v, .int .i64 z] => match a.toList with
    | [.string s, .int .i64 sc, .int .i64 x, .int .i64 y] => srcY v B fun n l => match b with
      | true => ieq (cvE s sc x y l z) 0 = true ∧ K (.wide (tupM [] n [gi 0]) (valsL sc x y (offN l z).lo (offN l z).hi l) 82 5)
      | false => ieq (cvE s sc x y l z) 0 = false ∧ K (.plain (.tuple #[nilS, gi (cvE s sc x y l z)]))
    | _ => False
  | _ => False
noncomputable def CvY (vs : List Value) (B : List Cells) (K : Out → Prop) : Prop := match vs with
  | [.agg a, v, .int .i64 z] => match a.toList with
    | [.string s, .int .i64 sc, .int .i64 x, .int .i64 y] => srcY v B fun n l => ieq (cvE s sc x y l z) 0 = true ∧ K (.wide (slM n) (valsL sc x y (offN l z).lo (offN l z).hi l) 78 5)
    | _ => False
  | _ => False
theorem agg_of {a : Array Value} {l : List Value} (h : a.toList = l) : a = ⟨l⟩ := by rw [← h]
theorem cvX_some {vs : List Value} {B : List Cells} {o : Out} (h : cvX vs B = some o) : ∃ s sc x y v z l, vs = [.agg #[.string s, gi sc, gi x, gi y], v, gi z] ∧ srcL v B = some l ∧ o = cvO s sc x y l z := by
  unfold cvX at h
  split at h
  · split at h
    · rename_i ha hl
      cases h
      have e := agg_of ha
      subst e
      exact ⟨_, _, _, _, _, _, _, rfl, hl, rfl⟩
    · cases h
  · cases h
theorem CvX_some {vs : List Value} {B : List Cells} {o : Out} (h : CvX vs B = some o) : ∃ s sc x y v z l, vs = [.agg #[.string s, gi sc, gi x, gi y], v, gi z] ∧ srcL v B = some l ∧ cvE s sc x y l z = 0 ∧ o = .wide (slM l.length) (valsL sc x y (offN l z).lo (offN l z).hi l) 78 5 := by
  unfold CvX at h
  split at h
  · split at h
    · rename_i ha hl
      split at h
      · rename_i hz
        cases h
        have e := agg_of ha
        subst e
        rw [ieq_dec] at hz
        exact ⟨_, _, _, _, _, _, _, rfl, hl, of_decide_eq_true hz, rfl⟩
      · cases h
    · cases h
  · cases h
theorem cvY_ok (b : Bool) (vs : List Value) (B : List Cells) (K : Out → Prop) (h : cvY b vs B K) : ∃ o, cvX vs B = some o ∧ K o := by
  unfold cvY at h
  split at h
  · split at h
    · rename_i ha
      obtain ⟨l, hl, h⟩ := srcY_ok h
      have e := agg_of ha
      subst e
      refine ⟨_, by simp only [cvX, hl]; rfl, ?_⟩
      unfold cvO
      cases b with
      | true => rw [h.1]; exact h.2
      | false => rw [h.1]; exact h.2
    · exact h.elim
  · exact h.elim
theorem CvY_ok (vs : List Value) (B : List Cells) (K : Out → Prop) (h : CvY vs B K) : ∃ o, CvX vs B = some o ∧ K o := by
  unfold CvY at h
  split at h
  · split at h
    · rename_i ha
      obtain ⟨l, hl, h⟩ := srcY_ok h
      have e := agg_of ha
      subst e
      exact ⟨_, by simp only [CvX, hl, h.1], h.2⟩
    · exact h.elim
  · exact h.elim
theorem cvO_bad {s : ByteArray} {sc x y z : Int} {l : List Nat} (h : cvE s sc x y l z ≠ 0) : cvO s sc x y l z = .plain (.tuple #[nilS, gi (cvE s sc x y l z)]) := by
  unfold cvO
  rw [ieq_ne h]; rfl
theorem cvO_good {s : ByteArray} {sc x y z : Int} {l : List Nat} (h : cvE s sc x y l z = 0) : cvO s sc x y l z = .wide (tupM [] l.length [gi 0]) (valsL sc x y (offN l z).lo (offN l z).hi l) 82 5 := by
  unfold cvO
  rw [h]; rfl
noncomputable def orcRo : Orc := orElse 22 (anyO Tryz.prog.globals.size CvX) (orElse 15 (anyO Tryz.prog.globals.size cvX) orcRn)
set_option maxRecDepth 100000 in
theorem orcRo_ok : OrcOk Tryz.prog orcRo := by
  refine anyO_ok globs_pos (anyO_ok globs_pos orcRn_ok fun vs B o h _ => ?_) fun vs B o h _ => ?_
  · obtain ⟨s, sc, x, y, v, z, l, rfl, hl, rfl⟩ := cvX_some h
    rcases srcL_some hl with ⟨rfl, rfl, rfl⟩ | ⟨k, rfl, rfl, rfl⟩ | ⟨l', n, e, row, k, rfl, rfl, rfl, h0, h1, h2, h3, hr⟩
    · rw [cvO_bad (cvE_nil s sc x y z)]
      refine ⟨rfl, callC_ok mixed orcRm_ok askRm_ok (Eq.mpr (cv_nil s sc x y z _) ⟨fun hc => ?_, fun hc => ⟨fun hd => ?_, fun hd => ?_⟩⟩)⟩
      · show _ = Value.tuple #[nilS, gi (cvE s sc x y [] z)]
        rw [cvE_bad (not_ieq hc)]
      · show _ = Value.tuple #[nilS, gi (cvE s sc x y [] z)]
        rw [cvE_good (not_ieq' hc)]
      · exact (zeroE_nil_ne z (not_ieq' hd)).elim
    · rw [cvO_bad (cvE_nil s sc x y z)]
      refine ⟨rfl, callC_ok mixed orcRm_ok askRm_ok (Eq.mpr (cv_emp k s sc x y z _) ⟨fun hc => ?_, fun hc => ⟨fun hd => ?_, fun hd => ?_⟩⟩)⟩
      · show _ = Value.tuple #[nilS, gi (cvE s sc x y [] z)]
        rw [cvE_bad (not_ieq hc)]
      · show _ = Value.tuple #[nilS, gi (cvE s sc x y [] z)]
        rw [cvE_good (not_ieq' hc)]
      · exact (zeroE_nil_ne z (not_ieq' hd)).elim
    · obtain ⟨m, rfl⟩ : ∃ m, n = m + 1 := ⟨n - 1, by omega⟩
      have hlen : (l'.take (m + 1)).length = m + 1 := by rw [List.length_take]; omega
      refine ⟨?_, callC_ok mixed orcRm_ok askRm_ok (Eq.mpr (cv_run l' m e row k s sc x y z _) ⟨fun hc => ?_, fun hc => ⟨l', rfl, hr, h0, h1, by omega, h3, fun a b ha hb => ⟨fun hd => ?_, fun hd => ?_⟩⟩⟩)⟩
      · unfold cvO
        cases ieq (cvE s sc x y (l'.take (m + 1)) z) 0 with
        | true => exact ⟨names_tup rfl rfl, valsL_flat _⟩
        | false => rfl
      · rw [cvO_bad (by rw [cvE_bad (not_ieq hc)]; exact not_ieq hc)]
        show _ = Value.tuple #[nilS, gi (cvE s sc x y (l'.take (m + 1)) z)]
        rw [cvE_bad (not_ieq hc)]
      · subst ha hb
        rw [cvO_bad (by rw [cvE_good (not_ieq' hc)]; exact not_ieq hd)]
        show _ = Value.tuple #[nilS, gi (cvE s sc x y (l'.take (m + 1)) z)]
        rw [cvE_good (not_ieq' hc)]
      · subst ha hb
        have z1 := not_ieq' hc
        have z2 := not_ieq' hd
        obtain ⟨g1, g2, g3⟩ := good_of z1 z2
        rw [cvO_good (by rw [cvE_good z1, z2]), hlen]
        refine ⟨⟨flat_floats l', rfl, rfl, trivial⟩, l', rfl, ⟨h0, h1, h2⟩, g1, ?_⟩
        exact ⟨_, rfl, AHeap.get_push_eq (by kernel_rfl)⟩
  · obtain ⟨s, sc, x, y, v, z, l, rfl, hl, hz, rfl⟩ := CvX_some h
    rcases srcL_some hl with ⟨rfl, rfl, rfl⟩ | ⟨k, rfl, rfl, rfl⟩ | ⟨l', n, e, row, k, rfl, rfl, rfl, h0, h1, h2, h3, hr⟩
    · exact (cvE_nil s sc x y z hz).elim
    · exact (cvE_nil s sc x y z hz).elim
    · obtain ⟨m, rfl⟩ : ∃ m, n = m + 1 := ⟨n - 1, by omega⟩
      have hlen : (l'.take (m + 1)).length = m + 1 := by rw [List.length_take]; omega
      obtain ⟨z1, z2⟩ := cvE_zero hz
      obtain ⟨g1, g2, g3⟩ := good_of z1 z2
      rw [hlen]
      refine ⟨⟨names_sl _, valsL_flat _⟩, callC_ok mixed orcRm_ok askRm_ok (Eq.mpr (cvr_run l' m e row k s sc x y z (offN (l'.take (m + 1)) z).lo (offN (l'.take (m + 1)) z).hi _) ⟨l', rfl, hr, h0, h1, by omega, h3, by rw [z2]; rfl, fun a ha => ?_⟩)⟩
      subst ha
      refine ⟨rfl, rfl, rfl, rfl, rfl, rfl, ?_, ?_, ?_, ⟨h0, h1, h2, g1, g3⟩, fun _ h' hg => ⟨_, rfl, hg⟩⟩
      · rw [AHeap.get_set_neB (by kernel_rfl), AHeap.get_push_ne (by kernel_rfl), AHeap.get_push_ne (by kernel_rfl), canon_get, if_pos (Nat.le_refl _), Nat.sub_self]; rfl
      · rw [AHeap.get_set_neB (by kernel_rfl), AHeap.get_push_ne (by kernel_rfl), AHeap.get_push_eq (by kernel_rfl)]
      · rw [AHeap.get_set_eqB (by kernel_rfl)]; rfl
noncomputable def askRo (b : Bool) : Asks := asksV Tryz.prog.globals.size 22 CvY (asksV Tryz.prog.globals.size 15 (cvY b) askRn)
theorem askRo_ok (b : Bool) : AsksOk orcRo (askRo b) := asksV_ok CvY_ok (asksV_ok (cvY_ok b) askRn_ok)
end Go.Proofs.YtojfhklkcelblaaGreatDoor
