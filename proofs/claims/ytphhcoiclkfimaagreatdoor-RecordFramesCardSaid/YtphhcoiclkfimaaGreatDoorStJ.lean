/-
  OWN WORK. The samples of a stream, by the program: Unpack.
-/
import Derived.Test.YtphhcoiclkfimaaGreatDoorStI
namespace Go.Proofs.YtphhcoiclkfimaaGreatDoor
open Go Go.Am

theorem un_run (l : List Int) (n e row k : Nat) (K : Value → AHeap → Prop) : callC Tryz.prog (exec Tryz.prog orcSi 10) (syOf [(8, 7), (10, 1), (14, 7), (15, 33), (16, 33), (17, 21), (18, 7), (20, 7), (22, 1)]) askSi (noLoops _) 40 31 #[liP n k] (liH (l.map gb) e row) K = ((∃ x1 : List Int, (List.map gb l = List.map gb x1 ∧ (Nat.beq row 0 || Nat.beq row 2) = true ∧ (0 : Nat) < n ∧ (n : Nat) ≤ List.length x1 ∧ (n : Nat) ≤ 1000000 ∧ (n : Nat) ≤ k ∧ (∀ y2 : Int, (List.Mem y2 (List.take n x1) → inB y2)) ∧ ((!(ieq (ckE (List.take n x1)) 0)) = true → K (Value.tuple #[nilS, gi (ckE (List.take n x1))]) (liH (List.map gb l) e row)) ∧ ((!(ieq (ckE (List.take n x1)) 0)) = false → (ahasIndex 4 n = true ∧ (List.map gb l)[4]? = Option.some (Value.int .u8 (intAt (List.map gb l) 4)) ∧ ahasIndex 5 n = true ∧ (List.map gb l)[5]? = Option.some (Value.int .u8 (intAt (List.map gb l) 5)) ∧ inI64 (2 * cntW (intAt (List.map gb l) 4) (intAt (List.map gb l) 5)) = true ∧ inI64 (6 + (2 * cntW (intAt (List.map gb l) 4) (intAt (List.map gb l) 5))) = true ∧ (0 : Int) ≤ 6 ∧ (6 : Int) ≤ (6 + (2 * cntW (intAt (List.map gb l) 4) (intAt (List.map gb l) 5))) ∧ ((6 + (2 * cntW (intAt (List.map gb l) 4) (intAt (List.map gb l) 5))) : Int) ≤ Int.ofNat k ∧ (6 : Int) < Int.ofNat k ∧ (Nat.beq row 0 || Nat.beq row 2) = true ∧ (∃ x2 : List Int, (List.map gb l = List.map gb x2 ∧ (Nat.beq row 0 || Nat.beq row 2) = true ∧ ((6 + (Int.toNat (6 + (2 * cntW (intAt (List.map gb l) 4) (intAt (List.map gb l) 5))) - 6)) : Nat) ≤ List.length x2 ∧ ((Int.toNat (6 + (2 * cntW (intAt (List.map gb l) 4) (intAt (List.map gb l) 5))) - 6) : Nat) ≤ 1000000 ∧ ((Int.toNat (6 + (2 * cntW (intAt (List.map gb l) 4) (intAt (List.map gb l) 5))) - 6) : Nat) ≤ (k - 6) ∧ (∀ y3 : Int, (List.Mem y3 (List.take (Int.toNat (6 + (2 * cntW (intAt (List.map gb l) 4) (intAt (List.map gb l) 5))) - 6) (List.drop 6 x2)) → inB y3)) ∧ (((Int.toNat (6 + (2 * cntW (intAt (List.map gb l) 4) (intAt (List.map gb l) 5))) - 6) : Nat) < 2 → ((false = true → K (Value.tuple #[nilS, csR [] []]) (liH (List.map gb l) e row)) ∧ (false = false → K (Value.tuple #[nilS, gi 0]) (liH (List.map gb l) e row)))) ∧ ((2 : Nat) ≤ (Int.toNat (6 + (2 * cntW (intAt (List.map gb l) 4) (intAt (List.map gb l) 5))) - 6) → (∃ x3 : List Nat, (rdF (List.take (Int.toNat (6 + (2 * cntW (intAt (List.map gb l) 4) (intAt (List.map gb l) 5))) - 6) (List.drop 6 x2)) ((Int.toNat (6 + (2 * cntW (intAt (List.map gb l) 4) (intAt (List.map gb l) 5))) - 6) / 2) = List.map gf x3 ∧ (0 : Nat) < ((Int.toNat (6 + (2 * cntW (intAt (List.map gb l) 4) (intAt (List.map gb l) 5))) - 6) / 2) ∧ (((Int.toNat (6 + (2 * cntW (intAt (List.map gb l) 4) (intAt (List.map gb l) 5))) - 6) / 2) : Nat) ≤ List.length x3 ∧ (((Int.toNat (6 + (2 * cntW (intAt (List.map gb l) 4) (intAt (List.map gb l) 5))) - 6) / 2) : Nat) ≤ 1000000 ∧ (((Int.toNat (6 + (2 * cntW (intAt (List.map gb l) 4) (intAt (List.map gb l) 5))) - 6) / 2) : Nat) ≤ ((Int.toNat (6 + (2 * cntW (intAt (List.map gb l) 4) (intAt (List.map gb l) 5))) - 6) / 2) ∧ ((!(ieq (csE (List.take ((Int.toNat (6 + (2 * cntW (intAt (List.map gb l) 4) (intAt (List.map gb l) 5))) - 6) / 2) x3)) 0)) = true → K (Value.tuple #[nilS, csR (List.take ((Int.toNat (6 + (2 * cntW (intAt (List.map gb l) 4) (intAt (List.map gb l) 5))) - 6) / 2) x3) []]) ((liH (List.map gb l) e row).push (.cells (rdF (List.take (Int.toNat (6 + (2 * cntW (intAt (List.map gb l) 4) (intAt (List.map gb l) 5))) - 6) (List.drop 6 x2)) ((Int.toNat (6 + (2 * cntW (intAt (List.map gb l) 4) (intAt (List.map gb l) 5))) - 6) / 2)) 48 2 false))) ∧ ((!(ieq (csE (List.take ((Int.toNat (6 + (2 * cntW (intAt (List.map gb l) 4) (intAt (List.map gb l) 5))) - 6) / 2) x3)) 0)) = false → K (Value.tuple #[slO ((Int.toNat (6 + (2 * cntW (intAt (List.map gb l) 4) (intAt (List.map gb l) 5))) - 6) / 2) ((Int.toNat (6 + (2 * cntW (intAt (List.map gb l) 4) (intAt (List.map gb l) 5))) - 6) / 2), gi 0]) ((liH (List.map gb l) e row).push (.cells (rdF (List.take (Int.toNat (6 + (2 * cntW (intAt (List.map gb l) 4) (intAt (List.map gb l) 5))) - 6) (List.drop 6 x2)) ((Int.toNat (6 + (2 * cntW (intAt (List.map gb l) 4) (intAt (List.map gb l) 5))) - 6) / 2)) 48 2 false))))))))))))) := by kernel_rfl
theorem bif_t {α : Type} {x y : α} : (bif true then x else y) = x := rfl
theorem bif_f {α : Type} {x y : α} : (bif false then x else y) = y := rfl
theorem ckE_zero {s : List Int} (h : ckE s = 0) : 14 ≤ s.length ∧ s.length ≤ 400000 ∧ mgB s = true ∧ (s.length : Int) = 14 + 2 * cntE s ∧ slB s = true := by
  unfold ckE at h
  cases c1 : ilt 400000 (Int.ofNat s.length) with
  | true => rw [c1] at h; cases h
  | false =>
    rw [c1, bif_f] at h
    cases c2 : ilt (Int.ofNat s.length) 14 with
    | true => rw [c2] at h; cases h
    | false =>
      rw [c2, bif_f] at h
      cases c3 : mgB s with
      | false => rw [c3] at h; cases h
      | true =>
        rw [c3, Bool.not_true, bif_f] at h
        cases c4 : ieq (Int.ofNat s.length) (14 + 2 * cntE s) with
        | false => rw [c4] at h; cases h
        | true =>
          rw [c4, Bool.not_true, bif_f] at h
          cases c5 : slB s with
          | false => rw [c5] at h; cases h
          | true =>
            rw [ilt_dec] at c1 c2
            rw [ieq_dec] at c4
            have c1 := of_decide_eq_false c1
            have c2 := of_decide_eq_false c2
            have c4 := of_decide_eq_true c4
            simp only [Int.ofNat_eq_natCast] at c1 c2 c4
            exact ⟨by omega, by omega, rfl, c4, rfl⟩
noncomputable def cntN (s : List Int) : Nat := (cntE s).toNat
noncomputable def unL (s : List Int) : List Nat := (rdU (s.drop 6) (cntN s)).map sampleE
noncomputable def unE (s : List Int) : Int := bif ieq (ckE s) 0 then csE (unL s) else ckE s
noncomputable def unB (s : List Int) : Bool := Nat.beq (cntN s) 0
noncomputable def unOut (s : List Int) : Out := bif ieq (unE s) 0 then (bif unB s then .plain (.tuple #[nilS, gi 0]) else .fresh (tupM [] (unL s).length [gi 0]) ((unL s).map gf) 48) else .plain (.tuple #[nilS, gi (unE s)])
theorem unL_length (s : List Int) : (unL s).length = cntN s := by unfold unL; rw [List.length_map, rdU_length]
theorem rdU_congr {L L' : List Int} {j : Nat} (h : ∀ i, i < 2 * j → L.getD i 0 = L'.getD i 0) : rdU L j = rdU L' j := by
  unfold rdU
  refine List.map_congr_left fun q hq => ?_
  have hq : q < j := by simpa using hq
  rw [h (2 * q) (by omega), h (2 * q + 1) (by omega)]
theorem unOut_bad {s : List Int} (h : unE s ≠ 0) : unOut s = .plain (.tuple #[nilS, gi (unE s)]) := by
  unfold unOut; rw [ieq_ne' h]; rfl
theorem unOut_nil {s : List Int} (h : unE s = 0) (hn : cntN s = 0) : unOut s = .plain (.tuple #[nilS, gi 0]) := by
  unfold unOut unB; rw [h, hn]; rfl
theorem unOut_good {s : List Int} (h : unE s = 0) (hn : 0 < cntN s) : unOut s = .fresh (tupM [] (unL s).length [gi 0]) ((unL s).map gf) 48 := by
  unfold unOut unB
  have : Nat.beq (cntN s) 0 = false := by
    cases hb : Nat.beq (cntN s) 0 with
    | false => rfl
    | true => have := Nat.eq_of_beq_eq_true hb; omega
  rw [h, this]; rfl
theorem unE_ck {s : List Int} (h : ckE s ≠ 0) : unE s = ckE s := by
  unfold unE; rw [ieq_ne' h]; rfl
theorem unE_cs {s : List Int} (h : ckE s = 0) : unE s = csE (unL s) := by
  unfold unE; rw [h]; rfl
theorem cntN_eq {s : List Int} (h : ckE s = 0) : s.length = 14 + 2 * cntN s ∧ cntE s = (cntN s : Int) := by
  obtain ⟨h1, h2, _, h3, _⟩ := ckE_zero h
  unfold cntN
  omega
set_option maxRecDepth 100000 in
theorem un_call (l : List Int) (n k e row : Nat) (h0 : 0 < n) (h1 : n ≤ l.length) (h2 : n ≤ 1000000) (hk : n ≤ k) (hw : row = 0 ∨ row = 2) (hb : ∀ x ∈ l.take n, inB x) : CallJ Tryz.prog 31 #[liP n k] (liH (l.map gb) e row) (unOut (l.take n)).Got := by
  have hs : (l.take n).length = n := by rw [List.length_take]; omega
  have hrow : (Nat.beq row 0 || Nat.beq row 2) = true := by rcases hw with rfl | rfl <;> rfl
  refine callC_ok mixed orcSi_ok askSi_ok (Eq.mpr (un_run l n e row k _) ⟨l, rfl, hrow, h0, h1, h2, hk, hb, fun c => ?_, fun c => ?_⟩)
  · have c := not_ieq c
    rw [unOut_bad (by rw [unE_ck c]; exact c), unE_ck c]
    rfl
  · have c := not_ieq' c
    obtain ⟨e1, e2⟩ := cntN_eq c
    obtain ⟨q1, q2, _⟩ := ckE_zero c
    rw [hs] at e1 q1 q2
    generalize hm : cntN (l.take n) = m at e1 e2
    obtain ⟨a1, a2⟩ := byte_i (i := 4) h1 (by omega)
    obtain ⟨b1, b2⟩ := byte_i (i := 5) h1 (by omega)
    have hX : cntW (intAt (l.map gb) 4) (intAt (l.map gb) 5) = (m : Int) := by
      rw [a2, b2, cntW_eq (getD_in hb 4) (getD_in hb 5), ← e2]; rfl
    have hT : (6 + 2 * (m : Int)).toNat - 6 = 2 * m := by omega
    have hH : 2 * m / 2 = m := by omega
    have hL : (l.drop 6).take (2 * m) = ((l.take n).drop 6).take (2 * m) := by
      rw [List.drop_take, List.take_take, Nat.min_eq_left (by omega)]
    have hU : rdU ((l.drop 6).take (2 * m)) m = rdU ((l.take n).drop 6) m := rdU_congr fun i hi => by rw [hL, getD_take hi]
    have hF : rdF ((l.drop 6).take (2 * m)) m = (unL (l.take n)).map gf := by unfold rdF unL; rw [hU, hm]
    have hlen : (unL (l.take n)).length = m := by rw [unL_length, hm]
    rw [hX, hT, hH]
    refine ⟨by show Nat.blt 4 n = true; rw [Nat.blt_eq]; omega, a1, by show Nat.blt 5 n = true; rw [Nat.blt_eq]; omega, b1, inI64_small (by omega) (by omega), inI64_small (by omega) (by omega), by omega, by omega, by simp only [Int.ofNat_eq_natCast]; omega, by simp only [Int.ofNat_eq_natCast]; omega, hrow, l, rfl, hrow, by omega, by omega, by omega, fun y hy => ?_, fun hlt => ⟨fun h => (by cases h), fun _ => ?_⟩, fun hge => ⟨unL (l.take n), hF, by omega, by omega, by omega, Nat.le_refl _, fun c2 => ?_, fun c2 => ?_⟩⟩
    · have hy : y ∈ (l.drop 6).take (2 * m) := hy
      rw [hL] at hy
      exact hb _ (List.mem_of_mem_drop (List.mem_of_mem_take hy))
    · have hu : unL (l.take n) = [] := List.eq_nil_of_length_eq_zero (by omega)
      rw [unOut_nil (by rw [unE_cs c, hu]; rfl) (by omega)]
      rfl
    · rw [List.take_of_length_le (l := unL (l.take n)) (by omega)] at c2 ⊢
      have c2 := not_ieq c2
      rw [unOut_bad (by rw [unE_cs c]; exact c2), unE_cs c]
      rfl
    · rw [List.take_of_length_le (l := unL (l.take n)) (by omega)] at c2
      have c2 := not_ieq' c2
      rw [unOut_good (by rw [unE_cs c]; exact c2) (by omega), hF]
      exact ⟨N1 + 1, by rw [hlen]; rfl, by rw [AHeap.get_push_eq (by kernel_rfl)]⟩
theorem un_nil : (call Tryz.prog orcSi 60 31 #[nilS] (emp Tryz.prog)).map (·.1) = some (.tuple #[nilS, gi 28]) := by kernel_rfl
theorem un_emp (k : Nat) : (call Tryz.prog orcSi 60 31 #[.slice (some ⟨0, 0, none⟩) 0 k] (emp Tryz.prog)).map (·.1) = some (.tuple #[nilS, gi 28]) := by kernel_rfl
theorem ckE_nil : ckE [] = 28 := rfl
theorem unOut_none : unOut [] = .plain (.tuple #[nilS, gi 28]) := by
  have h : unE [] = 28 := by rw [unE_ck (by rw [ckE_nil]; decide), ckE_nil]
  rw [unOut_bad (by rw [h]; decide), h]
open Classical in
noncomputable def uqX : List Int → List Value → Option Out := fun L r => match r with
  | [] => if ∀ x ∈ L, inB x then some (unOut L) else none
  | _ => none
theorem uqX_ok {L : List Int} (h : ∀ x ∈ L, inB x) : uqX L [] = some (unOut L) := if_pos h
theorem uqX_some {L : List Int} {r : List Value} {o : Out} (h : uqX L r = some o) : r = [] ∧ (∀ x ∈ L, inB x) ∧ o = unOut L := by
  unfold uqX at h
  split at h
  · split at h
    · rename_i hb; cases h; exact ⟨rfl, hb, rfl⟩
    · cases h
  · cases h
/-- What is asked of Unpack: an error (b1 false), nothing (b2 true), or samples. -/
noncomputable def uqY (b1 b2 : Bool) : List Int → List Value → (Out → Prop) → Prop := fun L r K => match r with
  | [] => (∀ x : Int, List.Mem x L → inB x) ∧ ieq (unE L) 0 = b1 ∧ Bool.rec (motive := fun _ => Prop) (K (.plain (.tuple #[nilS, gi (unE L)])))
      (unB L = b2 ∧ Bool.rec (motive := fun _ => Prop) (∀ xs : List Nat, xs = unL L → K (.fresh (tupM [] xs.length [gi 0]) (xs.map gf) 48)) (K (.plain (.tuple #[nilS, gi 0]))) b2) b1
  | _ => False
theorem uqY_ok (b1 b2 : Bool) (L : List Int) (r : List Value) (K : Out → Prop) (h : uqY b1 b2 L r K) : ∃ o, uqX L r = some o ∧ K o := by
  unfold uqY at h
  split at h
  · obtain ⟨h1, h2, h3⟩ := h
    refine ⟨_, uqX_ok h1, ?_⟩
    unfold unOut
    rw [h2]
    cases b1 with
    | false => exact h3
    | true =>
      obtain ⟨h3, h4⟩ := h3
      rw [h3]
      cases b2 with
      | true => exact h4
      | false => exact h4 _ rfl
  · exact h.elim
noncomputable def orcSk : Orc := orElse 31 (genO dB 1000000 false uqX) orcSi
set_option maxRecDepth 100000 in
theorem orcSk_ok : OrcOk Tryz.prog orcSk := by
  refine genO_ok dB_some (fun _ => rfl) globs_pos orcSi_ok ?_ ?_ ?_ ?_
  · intro L r o h
    obtain ⟨rfl, _, rfl⟩ := uqX_some h
    unfold unOut
    cases ieq (unE L) 0 with
    | false => rfl
    | true =>
      cases unB L with
      | true => rfl
      | false => exact ⟨names_tup rfl rfl, flat_floats _⟩
  · intro r o h
    obtain ⟨rfl, _, rfl⟩ := uqX_some h
    rw [unOut_none]
    exact CallJ.of_call mixed orcSi_ok un_nil fun _ => rfl
  · intro r k o h
    obtain ⟨rfl, _, rfl⟩ := uqX_some h
    rw [unOut_none]
    exact CallJ.of_call mixed orcSi_ok (un_emp k) fun _ => rfl
  · intro l off n r el row k o ho hw h0 h1 h2 h3 h
    obtain rfl := ho rfl
    rw [List.drop_zero] at h
    obtain ⟨rfl, hb, rfl⟩ := uqX_some h
    exact un_call l n k el row h0 (by omega) h2 h3 hw hb
noncomputable def askSk2 : Asks := skipA 31 askSi
theorem askSk2_ok : AsksOk orcSk askSk2 := skipA_ok askSi_ok
noncomputable def askUn (b1 b2 : Bool) : Asks := asksG 31 gb 1000000 (uqY b1 b2) askSi
theorem askUn_ok (b1 b2 : Bool) : AsksOk orcSk (askUn b1 b2) := asksG_ok (d := dB) (e := gb) (fun _ => rfl) (uqY_ok b1 b2) askSi_ok
end Go.Proofs.YtphhcoiclkfimaaGreatDoor
