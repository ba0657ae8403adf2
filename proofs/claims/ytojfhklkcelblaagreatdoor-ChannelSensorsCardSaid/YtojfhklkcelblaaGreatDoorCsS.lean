/-
  OWN WORK. Offsets, known for all samples; what a sensor measures: its parts.
-/
import Derived.Test.YtojfhklkcelblaaGreatDoorCsM
import Derived.Test.YtojfhklkcelblaaGreatDoorAm15
/-! Offsets, known for all samples; what a sensor measures: its parts. -/
namespace Go.Proofs.YtojfhklkcelblaaGreatDoor
open Go Go.Am

theorem firstS_all : ∀ {l : List Int}, (∀ x ∈ l, x = 0) → firstS l = 0
  | [], _ => rfl
  | x :: l, h => by
    unfold firstS
    rw [h x (.head _)]
    exact firstS_all fun y hy => h y (.tail _ hy)
theorem csE_take {l : List Nat} (h : csE l = 0) (m : Nat) : csE (l.take m) = 0 := by
  obtain ⟨hv, hl⟩ := cs_zero h
  have h1 : smpsE (l.take m) = 0 := firstS_all (l := (l.take m).map smpE) fun x hx => by
    obtain ⟨y, hy, rfl⟩ := List.mem_map.1 hx
    exact hv y (List.mem_of_mem_take hy)
  unfold csE
  rw [h1, show ilt 4096 (Int.ofNat (l.take m).length) = false by rw [ilt_say, List.length_take]; exact decide_eq_false (by simp only [Int.ofNat_eq_natCast]; omega)]
  rfl
theorem when_none {b : Bool} {e : Int} (he : e ≠ 0) (h : whenS b e = 0) : b = false := by
  cases b with
  | false => rfl
  | true => exact absurd h he
theorem within_zero {x lo hi : Int} (h : withinS x lo hi = 0) : lo ≤ x ∧ x ≤ hi := by
  have := when_none (by decide) h
  rw [ilt_say, ilt_say, Bool.or_eq_false_iff] at this
  simp at this
  omega
theorem zeroE_zero {l : List Nat} {z : Int} (h : zeroE l z = 0) : csE l = 0 ∧ 1 ≤ z ∧ z ≤ 64 ∧ z ≤ (l.length : Int) := by
  have q := firstS_none h
  have h1 := q _ (.head _)
  have h2 := within_zero (q _ (.tail _ (.head _)))
  have h3 := when_none (by decide) (q _ (.tail _ (.tail _ (.head _))))
  rw [ilt_say] at h3
  simp only [Int.ofNat_eq_natCast, decide_eq_false_iff_not] at h3
  exact ⟨h1, h2.1, h2.2, by omega⟩
theorem zeroE_nil_ne (z : Int) : zeroE [] z ≠ 0 := fun h => by
  obtain ⟨_, h1, _, h2⟩ := zeroE_zero h
  simp at h2; omega
noncomputable def offO (l : List Nat) (z : Int) : Out := .plain (.tuple #[.agg #[gi (offN l z).lo, gi (offN l z).hi], gi (zeroE l z)])
noncomputable def offP (l : List Nat) (z : Int) : Out := .plain (.agg #[gi (offN l z).lo, gi (offN l z).hi])
noncomputable def offX : List Nat → List Value → Option Out := fun l r => match r with
  | [.int .i64 z] => some (offO l z)
  | _ => none
noncomputable def OffX : List Nat → List Value → Option Out := fun l r => match r with
  | [.int .i64 z] => bif ieq (zeroE l z) 0 then some (offP l z) else none
  | _ => none
noncomputable def offY : List Nat → List Value → (Out → Prop) → Prop := fun l r K => match r with
  | [.int .i64 z] => ∀ s e, s = offN l z → e = zeroE l z → K (.plain (.tuple #[.agg #[gi s.lo, gi s.hi], gi e]))
  | _ => False
noncomputable def OffY : List Nat → List Value → (Out → Prop) → Prop := fun l r K => match r with
  | [.int .i64 z] => ieq (zeroE l z) 0 = true ∧ ∀ s, s = offN l z → K (.plain (.agg #[gi s.lo, gi s.hi]))
  | _ => False
theorem offX_some {l : List Nat} {r : List Value} {o : Out} (h : offX l r = some o) : ∃ z, r = [gi z] ∧ o = offO l z := by
  unfold offX at h
  split at h
  · cases h; exact ⟨_, rfl, rfl⟩
  · cases h
theorem OffX_some {l : List Nat} {r : List Value} {o : Out} (h : OffX l r = some o) : ∃ z, r = [gi z] ∧ o = offP l z ∧ zeroE l z = 0 := by
  unfold OffX at h
  split at h
  · rename_i z
    cases hc : ieq (zeroE l z) 0 with
    | false => rw [hc] at h; cases h
    | true =>
      rw [hc] at h; cases h
      rw [ieq_dec] at hc
      exact ⟨z, rfl, rfl, by simpa using hc⟩
  · cases h
theorem offY_ok (l : List Nat) (r : List Value) (K : Out → Prop) (h : offY l r K) : ∃ o, offX l r = some o ∧ K o := by
  unfold offY at h
  split at h
  · exact ⟨_, rfl, h _ _ rfl rfl⟩
  · exact h.elim
theorem OffY_ok (l : List Nat) (r : List Value) (K : Out → Prop) (h : OffY l r K) : ∃ o, OffX l r = some o ∧ K o := by
  unfold OffY at h
  split at h
  · rename_i z
    refine ⟨offP l z, ?_, h.2 _ rfl⟩
    show (bif ieq (zeroE l z) 0 then some (offP l z) else none) = _
    rw [h.1]; rfl
  · exact h.elim
theorem offN_bad {l : List Nat} {z : Int} (h : zeroE l z ≠ 0) : offN l z = ⟨0, 0, 0, 0⟩ := by
  unfold offN
  rw [ieq_ne h]; rfl
theorem offN_good {l : List Nat} {z : Int} (h : zeroE l z = 0) : offN l z = exA (l.take z.toNat) := by
  unfold offN
  rw [h]; rfl
theorem exE_take {l : List Nat} {z : Int} (h : zeroE l z = 0) : exE (l.take z.toNat) = 0 := by
  obtain ⟨h1, h2, h3, h4⟩ := zeroE_zero h
  exact exE_zero (by rw [List.length_take]; omega) (csE_take h1 _)
theorem offO_bad {l : List Nat} {z : Int} (h : zeroE l z ≠ 0) : offO l z = .plain (.tuple #[.agg #[gi 0, gi 0], gi (zeroE l z)]) := by
  unfold offO
  rw [offN_bad h]
theorem take_take_z {l : List Nat} {n : Nat} {z : Int} (hn : n ≤ l.length) (h : zeroE (l.take n) z = 0) : (l.take n).take z.toNat = l.take z.toNat ∧ 0 < z.toNat ∧ z.toNat ≤ n ∧ z.toNat ≤ 64 := by
  obtain ⟨h1, h2, h3, h4⟩ := zeroE_zero h
  rw [List.length_take] at h4
  exact ⟨by rw [List.take_take, Nat.min_eq_left (by omega)], by omega, by omega, by omega⟩
noncomputable def orcRi : Orc := orElse 21 (genO dF 1000000 false OffX) (orElse 13 (genO dF 1000000 false offX) orcRh)
set_option maxRecDepth 100000 in
theorem orcRi_ok : OrcOk Tryz.prog orcRi := by
  refine genO_ok dF_some (fun _ => rfl) globs_pos (genO_ok dF_some (fun _ => rfl) globs_pos orcRh_ok ?_ ?_ ?_ ?_) ?_ ?_ ?_ ?_
  · intro l r o h; obtain ⟨z, rfl, rfl⟩ := offX_some h; rfl
  · intro r o h; obtain ⟨z, rfl, rfl⟩ := offX_some h
    rw [offO_bad (zeroE_nil_ne z)]
    exact callC_ok mixed orcRh_ok askRh_ok (Eq.mpr (of_nil z _) ⟨fun _ => rfl, fun hc => not_ieq0 (zeroE_nil_ne z) hc⟩)
  · intro r k o h; obtain ⟨z, rfl, rfl⟩ := offX_some h
    rw [offO_bad (zeroE_nil_ne z)]
    exact callC_ok mixed orcRh_ok askRh_ok (Eq.mpr (of_emp z k _) ⟨fun _ => rfl, fun hc => (not_ieq0 (zeroE_nil_ne z) hc).elim⟩)
  · intro l off n r el row k o ho hw h0 h1 h2 h3 h
    obtain rfl := ho rfl
    rw [List.drop_zero] at h
    obtain ⟨z, rfl, rfl⟩ := offX_some h
    refine callC_ok mixed orcRh_ok askRh_ok (Eq.mpr (of_run l n el row k z _) ⟨l, rfl, h0, by omega, h2, h3, fun hc => ?_, fun hc => ?_⟩)
    · show _ = Value.tuple #[.agg #[gi (offN (l.take n) z).lo, gi (offN (l.take n) z).hi], gi (zeroE (l.take n) z)]
      rw [offN_bad (not_ieq hc)]; rfl
    · have hz := not_ieq' hc
      obtain ⟨t1, t2, t3, t4⟩ := take_take_z (by omega) hz
      refine ⟨by omega, by simp only [Int.ofNat_eq_natCast]; omega, by omega, h3, l, rfl, by rcases hw with rfl | rfl <;> rfl, t2, by omega, by omega, by omega, ?_⟩
      intro s e hs he
      have g1 := offN_good hz
      have g2 := exE_take hz
      rw [t1] at g1 g2
      subst hs he
      show _ = Value.tuple #[.agg #[gi (offN (l.take n) z).lo, gi (offN (l.take n) z).hi], gi (zeroE (l.take n) z)]
      rw [g1, g2, hz]
      rfl
  · intro l r o h; obtain ⟨z, rfl, rfl, _⟩ := OffX_some h; rfl
  · intro r o h; obtain ⟨z, rfl, rfl, hz⟩ := OffX_some h; exact (zeroE_nil_ne z hz).elim
  · intro r k o h; obtain ⟨z, rfl, rfl, hz⟩ := OffX_some h; exact (zeroE_nil_ne z hz).elim
  · intro l off n r el row k o ho hw h0 h1 h2 h3 h
    obtain rfl := ho rfl
    rw [List.drop_zero] at h
    obtain ⟨z, rfl, rfl, hz⟩ := OffX_some h
    obtain ⟨t1, t2, t3, t4⟩ := take_take_z (by omega) hz
    have hc : csE (l.take z.toNat) = 0 := by
      rw [← t1]; exact csE_take (zeroE_zero hz).1 _
    refine callC_ok mixed orcRh_ok askRh_ok (Eq.mpr (Of_run l n el row k z _) ⟨by omega, by simp only [Int.ofNat_eq_natCast]; omega, by omega, h3, l, rfl, by rcases hw with rfl | rfl <;> rfl, t2, by omega, by omega, by omega, by rw [hc]; rfl, ?_⟩)
    intro s e hs he
    have g1 := offN_good hz
    rw [t1] at g1
    subst hs he
    show _ = Value.agg #[gi (offN (l.take n) z).lo, gi (offN (l.take n) z).hi]
    rw [g1]
    rfl
noncomputable def askRi : Asks := asksG 21 gf 1000000 OffY (asksG 13 gf 1000000 offY askRh)
theorem askRi_ok : AsksOk orcRi askRi := asksG_ok (d := dF) (e := gf) (fun _ => rfl) OffY_ok (asksG_ok (d := dF) (e := gf) (fun _ => rfl) offY_ok askRh_ok)
theorem only_run (x : Int) (K : Value → Prop) : callC Tryz.prog (exec Tryz.prog orcRi 10) (syOf []) askRi (noLoops _) 20 67 #[gi x] (emp Tryz.prog) (fun v _ => K v) = (K (Value.agg (Array.mk (List.take 2 (List.drop 0 ([] ++ ([gi x, gi x] ++ []))))))) := by kernel_rfl
theorem outw_run (K : Value → Prop) : callC Tryz.prog (exec Tryz.prog orcRi 10) (syOf []) askRi (noLoops _) 20 64 #[] (emp Tryz.prog) (fun v _ => K v) = (K (Value.agg (Array.mk (List.take 2 (List.drop 0 ([] ++ ([Value.func (.func 107) #[] #[], Value.func (.func 108) #[] #[]] ++ []))))))) := by kernel_rfl
theorem prods_run (a b c d : Int) (K : Value → Prop) : callC Tryz.prog (exec Tryz.prog orcRi 10) (syOf [(8, 7)]) askRi (noLoops _) 20 66 #[.agg #[gi a, gi b], .agg #[gi c, gi d]] (emp Tryz.prog) (fun v _ => K v) = ((((tiny a && tiny b) && (tiny c && tiny d)) = true ∧ K (Value.agg (Array.mk (List.take 2 (List.drop 0 ([] ++ ([gi (mn4 (a * c) (a * d) (b * c) (b * d)), gi (mx4 (a * c) (a * d) (b * c) (b * d))] ++ [])))))))) := by kernel_rfl
theorem div_run (a b d : Int) (K : Value → Prop) : callC Tryz.prog (exec Tryz.prog orcRi 10) (syOf [(12, 7), (18, 7)]) askRi (noLoops _) 20 65 #[.agg #[.func (.func 107) #[] #[], .func (.func 108) #[] #[]], .agg #[gi a, gi b], gi d] (emp Tryz.prog) (fun v _ => K v) = (((ilt 0 d && small a) = true ∧ [gi a, gi b][1]? = Option.some (gi b) ∧ [Value.func (.func 107) #[] #[], Value.func (.func 108) #[] #[]][1]? = Option.some (Value.func (.func 108) #[] #[]) ∧ (ilt 0 d && small b) = true ∧ K (Value.agg (Array.mk (List.take 2 (List.drop 0 ([] ++ ([gi (floorE a d), gi (ceilE b d)] ++ [])))))))) := by kernel_rfl
theorem cunit_run (x : Nat) (K : Value → Prop) : callC Tryz.prog (exec Tryz.prog orcRi 10) (syOf [(4, 12), (5, 13)]) askRi (noLoops _) 20 63 #[gf x] (emp Tryz.prog) (fun v _ => K v) = ((Option.isSome (floatBits BinOp.mul FloatKind.f32 1098907648 x) = true ∧ Option.isSome (floatToIntVal FloatKind.f32 (Option.getD (floatBits BinOp.mul FloatKind.f32 1098907648 x) 0) IntKind.i64) = true ∧ K (gi (Option.getD (floatToIntVal FloatKind.f32 (Option.getD (floatBits BinOp.mul FloatKind.f32 1098907648 x) 0) IntKind.i64) 0)))) := by kernel_rfl
end Go.Proofs.YtojfhklkcelblaaGreatDoor
/-! What a sensor measures: the value of a sample; shunt checks. -/
namespace Go.Proofs.YtojfhklkcelblaaGreatDoor
open Go Go.Am

noncomputable def outV : Value := .agg #[.func (.func 107) #[] #[], .func (.func 108) #[] #[]]
noncomputable def outL : List Value → Option Value
  | [] => some outV
  | _ => none
noncomputable def onlyL : List Value → Option Value
  | [.int .i64 x] => some (.agg #[gi x, gi x])
  | _ => none
noncomputable def isOut (l : List Value) : Bool := match l with
  | [.func (.func f) ⟨[]⟩ ⟨[]⟩, .func (.func g) ⟨[]⟩ ⟨[]⟩] => Nat.beq f 107 && Nat.beq g 108
  | _ => false
theorem isOut_eq {l : List Value} (h : isOut l = true) : l = [.func (.func 107) #[] #[], .func (.func 108) #[] #[]] := by
  unfold isOut at h
  split at h
  · rename_i f g
    simp only [Bool.and_eq_true, Nat.beq_eq] at h
    rw [h.1, h.2]
  · cases h
noncomputable def divL : List Value → Option (Bool × Value)
  | [.agg x, .agg y, .int .i64 d] => match y.toList with
    | [.int .i64 a, .int .i64 b] => some (isOut x.toList && (ilt 0 d && (small a && small b)), .agg #[gi (floorE a d), gi (ceilE b d)])
    | _ => none
  | _ => none
theorem divL_some {l : List Value} {v : Value} (h : divL l = some (true, v)) : ∃ a b d, l = [outV, .agg #[gi a, gi b], gi d] ∧ v = .agg #[gi (floorE a d), gi (ceilE b d)] ∧ ilt 0 d = true ∧ small a = true ∧ small b = true := by
  unfold divL at h
  split at h
  · rename_i x y d
    split at h
    · rename_i a b hy
      injection h with h
      injection h with h1 h2
      rw [Bool.and_eq_true, Bool.and_eq_true, Bool.and_eq_true] at h1
      obtain rfl : y = #[gi a, gi b] := by rw [← hy]
      obtain rfl : x = #[.func (.func 107) #[] #[], .func (.func 108) #[] #[]] := by rw [← isOut_eq h1.1]
      exact ⟨a, b, d, rfl, h2.symm, h1.2.1, h1.2.2.1, h1.2.2.2⟩
    · cases h
  · cases h
noncomputable def orcRj : Orc := orElse 65 (condO divL) (orElse 66 (condO prodL) (orElse 64 (flatSpec outL) (orElse 67 (flatSpec onlyL) (orElse 63 (condO unitS) orcRi))))
set_option maxRecDepth 100000 in
theorem orcRj_ok : OrcOk Tryz.prog orcRj := by
  refine condO_ok (fun l v h => ?_) (condO_ok (fun l v h => ?_) (flatSpec_ok (fun l v h => ?_) (flatSpec_ok (fun l v h => ?_) (condO_ok (fun l v h => ?_) orcRi_ok))))
  · obtain ⟨a, b, d, rfl, rfl, hd, ha, hb⟩ := divL_some h
    exact ⟨rfl, rfl, callC_ok mixed orcRi_ok askRi_ok (Eq.mpr (div_run a b d _) ⟨by rw [hd, ha]; rfl, rfl, rfl, by rw [hd, hb]; rfl, rfl⟩)⟩
  · obtain ⟨a, b, c, d, rfl, rfl, ha, hb, hc, hd⟩ := prodL_some h
    exact ⟨rfl, rfl, callC_ok mixed orcRi_ok askRi_ok (Eq.mpr (prods_run a b c d _) ⟨by rw [ha, hb, hc, hd]; rfl, rfl⟩)⟩
  · unfold outL at h
    split at h
    · cases h
      exact ⟨rfl, rfl, callC_ok mixed orcRi_ok askRi_ok (Eq.mpr (outw_run _) rfl)⟩
    · cases h
  · unfold onlyL at h
    split at h
    · cases h
      exact ⟨rfl, rfl, callC_ok mixed orcRi_ok askRi_ok (Eq.mpr (only_run _ _) rfl)⟩
    · cases h
  · unfold unitS at h
    split at h
    · rename_i x
      injection h with h
      injection h with h1 h2
      subst h2
      rw [ieq_dec] at h1
      obtain ⟨k1, k2, _⟩ := unit_ok (x := x) (by simpa using h1)
      exact ⟨rfl, rfl, callC_ok mixed orcRi_ok askRi_ok (Eq.mpr (cunit_run _ _) ⟨k1, k2, rfl⟩)⟩
    · cases h
noncomputable def askRj : Asks := asksF 65 divL (asksF 66 prodL (skipA 64 (skipA 67 (asksF 63 unitS askRi))))
theorem askRj_ok : AsksOk orcRj askRj := asksF_ok (asksF_ok (skipA_ok (skipA_ok (asksF_ok askRi_ok))))
theorem value_run (s : ByteArray) (sc x y u lo hi : Int) (K : Value → Prop) : callC Tryz.prog (exec Tryz.prog orcRj 10) (syOf [(12, 33), (16, 33), (22, 7), (23, 7)]) askRj (noLoops _) 20 62 #[.agg #[.string s, gi sc, gi x, gi y], gi u, .agg #[gi lo, gi hi]] (emp Tryz.prog) (fun v _ => K v) = ((inI64 (u - hi) = true ∧ inI64 (u - lo) = true ∧ Value.agg #[gi x, gi y] = Value.agg #[gi x, gi y] ∧ Value.agg (Array.mk (List.take 2 (List.drop 0 ([] ++ ([gi (u - hi), gi (u - lo)] ++ []))))) = Value.agg (Array.mk (List.take 2 (List.drop 0 ([] ++ ([gi (u - hi), gi (u - lo)] ++ []))))) ∧ [gi 0, gi 0] = [gi 0, gi 0] ∧ Value.agg #[gi x, gi y] = Value.agg #[gi x, gi y] ∧ Value.agg (Array.mk (List.take 2 (List.drop 0 ([] ++ ([gi (u - hi), gi (u - lo)] ++ []))))) = Value.agg (Array.mk (List.take 2 (List.drop 0 ([] ++ ([gi (u - hi), gi (u - lo)] ++ []))))) ∧ ((tiny (u - hi) && tiny (u - lo)) && (tiny x && tiny y)) = true ∧ [gi 0, gi 0] = [gi 0, gi 0] ∧ (true && (true && (small (mn4 ((u - hi) * x) ((u - hi) * y) ((u - lo) * x) ((u - lo) * y)) && small (mx4 ((u - hi) * x) ((u - hi) * y) ((u - lo) * x) ((u - lo) * y))))) = true ∧ [gi 0, gi 0] = [gi 0, gi 0] ∧ K (Value.agg (Array.mk (List.take 4 (List.drop 0 ([] ++ ([gi (floorE (mn4 ((u - hi) * x) ((u - hi) * y) ((u - lo) * x) ((u - lo) * y)) 1000), gi (ceilE (mx4 ((u - hi) * x) ((u - hi) * y) ((u - lo) * x) ((u - lo) * y)) 1000), Value.bool (!(ilt (IntKind.wrap .i64 (0 - sc)) u)), Value.bool (!(ilt u sc))] ++ [])))))))) := by kernel_rfl
theorem shunt_run (s : ByteArray) (sc x y ex me : Int) (K : Value → Prop) : callC Tryz.prog (exec Tryz.prog orcRj 10) (syOf [(20, 1), (27, 7), (28, 7), (44, 15)]) askRj (noLoops _) 20 16 #[.agg #[.string s, gi sc, gi x, gi y], gi ex, gi me] (emp Tryz.prog) (fun v _ => K v) = ((((!(ieq (firstS [sensE s sc x y, withinS ex 1 16384, withinS me 1 16384]) 0)) = true → K (Value.tuple #[Value.bool false, gi (firstS [sensE s sc x y, withinS ex 1 16384, withinS me 1 16384])])) ∧ ((!(ieq (firstS [sensE s sc x y, withinS ex 1 16384, withinS me 1 16384]) 0)) = false → (Value.agg #[gi x, gi y] = Value.agg #[gi x, gi y] ∧ [gi 0, gi 0] = [gi 0, gi 0] ∧ Value.agg #[gi x, gi y] = Value.agg #[gi x, gi y] ∧ [gi 0, gi 0] = [gi 0, gi 0] ∧ Value.agg #[gi x, gi y] = Value.agg #[gi x, gi y] ∧ ((tiny me && tiny me) && (tiny x && tiny y)) = true ∧ [gi 0, gi 0] = [gi 0, gi 0] ∧ (true && (true && (small (mn4 (me * x) (me * y) (me * x) (me * y)) && small (mx4 (me * x) (me * y) (me * x) (me * y))))) = true ∧ [gi 0, gi 0] = [gi 0, gi 0] ∧ K (Value.tuple #[Value.bool (ieq (floorE (mn4 (me * x) (me * y) (me * x) (me * y)) 1000) (if (ex : Int) < floorE (mn4 (me * x) (me * y) (me * x) (me * y)) 1000 then ex else floorE (mn4 (me * x) (me * y) (me * x) (me * y)) 1000) && (ieq (ceilE (mx4 (me * x) (me * y) (me * x) (me * y)) 1000) (if (ex : Int) > ceilE (mx4 (me * x) (me * y) (me * x) (me * y)) 1000 then ex else ceilE (mx4 (me * x) (me * y) (me * x) (me * y)) 1000) && true)), gi 0]))))) := by kernel_rfl
theorem Shunt_run (s : ByteArray) (sc x y ex me : Int) (K : Value → Prop) : callC Tryz.prog (exec Tryz.prog orcRj 10) (syOf [(12, 33), (13, 7), (15, 1), (21, 33), (22, 7)]) askRj (noLoops _) 20 23 #[.agg #[.string s, gi sc, gi x, gi y], gi ex, gi me] (emp Tryz.prog) (fun v _ => K v) = ((inI64 (me * x) = true ∧ (true && small (me * x)) = true ∧ ((!(ilt ex (floorE (me * x) 1000))) = true → (inI64 (me * y) = true ∧ (true && small (me * y)) = true ∧ K (Value.bool (!(ilt (ceilE (me * y) 1000) ex))))) ∧ ((!(ilt ex (floorE (me * x) 1000))) = false → K (Value.bool false)))) := by kernel_rfl
end Go.Proofs.YtojfhklkcelblaaGreatDoor
/-! Values and shunt checks, known for all sensors; the program's loop over samples. -/
namespace Go.Proofs.YtojfhklkcelblaaGreatDoor
open Go Go.Am

theorem intvE_zero {a b l h : Int} (q : intvE a b l h = 0) : l ≤ a ∧ a ≤ h ∧ l ≤ b ∧ b ≤ h ∧ a ≤ b := by
  have z := firstS_none q
  have h1 := within_zero (z _ (.head _))
  have h2 := within_zero (z _ (.tail _ (.head _)))
  have h3 := when_none (by decide) (z _ (.tail _ (.tail _ (.head _))))
  rw [ilt_say] at h3
  simp only [decide_eq_false_iff_not] at h3
  omega
theorem sensE_zero {s : ByteArray} {sc x y : Int} (q : sensE s sc x y = 0) : 1 ≤ sc ∧ sc ≤ 16384 ∧ 1 ≤ x ∧ x ≤ 4000 ∧ 1 ≤ y ∧ y ≤ 4000 ∧ x ≤ y := by
  have z := firstS_none q
  have h2 := within_zero (z _ (.tail _ (.head _)))
  have h3 := intvE_zero (z _ (.tail _ (.tail _ (.head _))))
  omega
theorem mn_small {a b : Int} (ha : small a = true) (hb : small b = true) : small (mnI a b) = true := by unfold mnI; split <;> assumption
theorem mx_small {a b : Int} (ha : small a = true) (hb : small b = true) : small (mxI a b) = true := by unfold mxI; split <;> assumption
theorem tiny_small {a b : Int} (ha : tiny a = true) (hb : tiny b = true) : small (a * b) = true := by
  obtain ⟨h1, h2⟩ := tiny_mul ha hb
  exact small_of h1 h2
theorem mn4_small {a b c d : Int} (ha : tiny a = true) (hb : tiny b = true) (hc : tiny c = true) (hd : tiny d = true) : small (mn4 (a * c) (a * d) (b * c) (b * d)) = true :=
  mn_small (mn_small (mn_small (tiny_small ha hc) (tiny_small ha hd)) (tiny_small hb hc)) (tiny_small hb hd)
theorem mx4_small {a b c d : Int} (ha : tiny a = true) (hb : tiny b = true) (hc : tiny c = true) (hd : tiny d = true) : small (mx4 (a * c) (a * d) (b * c) (b * d)) = true :=
  mx_small (mx_small (mx_small (tiny_small ha hc) (tiny_small ha hd)) (tiny_small hb hc)) (tiny_small hb hd)
noncomputable def mnV (x y lo hi u : Int) : Int := mn4 ((u - hi) * x) ((u - hi) * y) ((u - lo) * x) ((u - lo) * y)
noncomputable def mxV (x y lo hi u : Int) : Int := mx4 ((u - hi) * x) ((u - hi) * y) ((u - lo) * x) ((u - lo) * y)
noncomputable def valC (sc x y lo hi u : Int) : List Value := [gi (floorE (mnV x y lo hi u) 1000), gi (ceilE (mxV x y lo hi u) 1000), .bool (!(ilt (0 - sc) u)), .bool (!(ilt u sc))]
noncomputable def valB (sc x y lo hi u : Int) : Bool := tiny (u - hi) && (tiny (u - lo) && (tiny x && (tiny y && tiny sc)))
noncomputable def valL : List Value → Option (Bool × Value)
  | [.agg a, .int .i64 u, .agg b] => match a.toList, b.toList with
    | [.string _, .int .i64 sc, .int .i64 x, .int .i64 y], [.int .i64 lo, .int .i64 hi] => some (valB sc x y lo hi u, .agg ⟨valC sc x y lo hi u⟩)
    | _, _ => none
  | _ => none
theorem valL_some {l : List Value} {v : Value} (h : valL l = some (true, v)) : ∃ s sc x y lo hi u, l = [.agg #[.string s, gi sc, gi x, gi y], gi u, .agg #[gi lo, gi hi]] ∧ v = .agg ⟨valC sc x y lo hi u⟩ ∧ valB sc x y lo hi u = true := by
  unfold valL at h
  split at h
  · rename_i a u b
    split at h
    · rename_i s sc x y lo hi ha hb
      injection h with h
      injection h with h1 h2
      obtain rfl : a = #[.string s, gi sc, gi x, gi y] := by rw [← ha]
      obtain rfl : b = #[gi lo, gi hi] := by rw [← hb]
      exact ⟨s, sc, x, y, lo, hi, u, rfl, h2.symm, h1⟩
    · cases h
  · cases h
noncomputable def shE (s : ByteArray) (sc x y ex me : Int) : Int := firstS [sensE s sc x y, withinS ex 1 16384, withinS me 1 16384]
noncomputable def shB (x y ex me : Int) : Bool := !ilt ex (floorE (me * x) 1000) && !ilt (ceilE (me * y) 1000) ex
noncomputable def shP (s : ByteArray) (sc x y ex me : Int) : Bool := bif ieq (shE s sc x y ex me) 0 then shB x y ex me else false
theorem shE_zero {s : ByteArray} {sc x y ex me : Int} (q : shE s sc x y ex me = 0) : 1 ≤ x ∧ x ≤ 4000 ∧ 1 ≤ y ∧ y ≤ 4000 ∧ x ≤ y ∧ 1 ≤ ex ∧ ex ≤ 16384 ∧ 1 ≤ me ∧ me ≤ 16384 := by
  have z := firstS_none q
  have h1 := sensE_zero (z _ (.head _))
  have h2 := within_zero (z _ (.tail _ (.head _)))
  have h3 := within_zero (z _ (.tail _ (.tail _ (.head _))))
  omega
theorem mn4_me {me x y : Int} (hm : 0 ≤ me) (h : x ≤ y) : mn4 (me * x) (me * y) (me * x) (me * y) = me * x ∧ mx4 (me * x) (me * y) (me * x) (me * y) = me * y := by
  have q : me * x ≤ me * y := Int.mul_le_mul_of_nonneg_left h hm
  unfold mn4 mx4 mnI mxI
  constructor
  · rw [if_neg (by omega), if_neg (by omega), if_neg (by omega)]
  · by_cases e : me * x < me * y
    · rw [if_pos (show me * y > me * x from e), if_neg (by omega), if_neg (by omega)]
    · have : me * x = me * y := by omega
      rw [this, if_neg (by omega), if_neg (by omega), if_neg (by omega)]
theorem shB_eq (x y ex me F C : Int) (hF : F = floorE (me * x) 1000) (hC : C = ceilE (me * y) 1000) : (ieq F (if ex < F then ex else F) && (ieq C (if ex > C then ex else C) && true)) = shB x y ex me := by
  unfold shB
  rw [← hF, ← hC, Bool.and_true, ilt_say, ilt_say]
  congr 1
  · by_cases h : ex < F
    · rw [if_pos h, decide_eq_true h, ieq_ne (by omega)]; rfl
    · rw [if_neg h, decide_eq_false h, ieq_self]; rfl
  · by_cases h : C < ex
    · rw [if_pos h, decide_eq_true h, ieq_ne (by omega)]; rfl
    · rw [if_neg h, decide_eq_false h, ieq_self]; rfl
noncomputable def shL : List Value → Option Value
  | [.agg a, .int .i64 ex, .int .i64 me] => match a.toList with
    | [.string s, .int .i64 sc, .int .i64 x, .int .i64 y] => some (.tuple #[.bool (shP s sc x y ex me), gi (shE s sc x y ex me)])
    | _ => none
  | _ => none
noncomputable def ShL : List Value → Option (Bool × Value)
  | [.agg a, .int .i64 ex, .int .i64 me] => match a.toList with
    | [.string s, .int .i64 sc, .int .i64 x, .int .i64 y] => some (ieq (shE s sc x y ex me) 0, .bool (shB x y ex me))
    | _ => none
  | _ => none
theorem shL_some {l : List Value} {v : Value} (h : shL l = some v) : ∃ s sc x y ex me, l = [.agg #[.string s, gi sc, gi x, gi y], gi ex, gi me] ∧ v = .tuple #[.bool (shP s sc x y ex me), gi (shE s sc x y ex me)] := by
  unfold shL at h
  split at h
  · rename_i a ex me
    split at h
    · rename_i s sc x y ha
      cases h
      obtain rfl : a = #[.string s, gi sc, gi x, gi y] := by rw [← ha]
      exact ⟨s, sc, x, y, ex, me, rfl, rfl⟩
    · cases h
  · cases h
theorem ShL_some {l : List Value} {v : Value} (h : ShL l = some (true, v)) : ∃ s sc x y ex me, l = [.agg #[.string s, gi sc, gi x, gi y], gi ex, gi me] ∧ v = .bool (shB x y ex me) ∧ shE s sc x y ex me = 0 := by
  unfold ShL at h
  split at h
  · rename_i a ex me
    split at h
    · rename_i s sc x y ha
      injection h with h
      injection h with h1 h2
      obtain rfl : a = #[.string s, gi sc, gi x, gi y] := by rw [← ha]
      rw [ieq_dec] at h1
      exact ⟨s, sc, x, y, ex, me, rfl, h2.symm, by simpa using h1⟩
    · cases h
  · cases h
noncomputable def orcRk : Orc := orElse 23 (condO ShL) (orElse 16 (flatSpec shL) (orElse 62 (condO valL) orcRj))
set_option maxRecDepth 100000 in
theorem orcRk_ok : OrcOk Tryz.prog orcRk := by
  refine condO_ok (fun l v h => ?_) (flatSpec_ok (fun l v h => ?_) (condO_ok (fun l v h => ?_) orcRj_ok))
  · obtain ⟨s, sc, x, y, ex, me, rfl, rfl, hz⟩ := ShL_some h
    obtain ⟨x1, x2, y1, y2, xy, e1, e2, m1, m2⟩ := shE_zero hz
    have i1 := tiny_mul (a := me) (b := x) (tiny_of (by omega) (by omega)) (tiny_of (by omega) (by omega))
    have i2 := tiny_mul (a := me) (b := y) (tiny_of (by omega) (by omega)) (tiny_of (by omega) (by omega))
    refine ⟨rfl, rfl, callC_ok mixed orcRj_ok askRj_ok (Eq.mpr (Shunt_run s sc x y ex me _) ⟨inI64_small (by omega) (by omega), by rw [small_of i1.1 i1.2]; rfl, fun hc => ⟨inI64_small (by omega) (by omega), by rw [small_of i2.1 i2.2]; rfl, ?_⟩, fun hc => ?_⟩)⟩
    · unfold shB; rw [hc]; rfl
    · unfold shB; rw [hc]; rfl
  · obtain ⟨s, sc, x, y, ex, me, rfl, rfl⟩ := shL_some h
    refine ⟨rfl, rfl, callC_ok mixed orcRj_ok askRj_ok (Eq.mpr (shunt_run s sc x y ex me _) ⟨fun hc => ?_, fun hc => ?_⟩)⟩
    · have hc : shE s sc x y ex me ≠ 0 := not_ieq hc
      show _ = Value.tuple #[.bool (shP s sc x y ex me), gi (shE s sc x y ex me)]
      rw [show shP s sc x y ex me = false by unfold shP; rw [ieq_ne hc]; rfl]
      rfl
    · have hc : shE s sc x y ex me = 0 := not_ieq' hc
      obtain ⟨x1, x2, y1, y2, xy, e1, e2, m1, m2⟩ := shE_zero hc
      have tm : tiny me = true := tiny_of (by omega) (by omega)
      have tx : tiny x = true := tiny_of (by omega) (by omega)
      have ty : tiny y = true := tiny_of (by omega) (by omega)
      obtain ⟨q1, q2⟩ := mn4_me (me := me) (x := x) (y := y) (by omega) xy
      refine ⟨rfl, rfl, rfl, rfl, rfl, by rw [tm, tx, ty]; rfl, rfl, by rw [mn4_small tm tm tx ty, mx4_small tm tm tx ty]; rfl, rfl, ?_⟩
      rw [q1, q2, shB_eq x y ex me _ _ rfl rfl]
      show _ = Value.tuple #[.bool (shP s sc x y ex me), gi (shE s sc x y ex me)]
      rw [show shP s sc x y ex me = shB x y ex me by unfold shP; rw [hc]; rfl, hc]
  · obtain ⟨s, sc, x, y, lo, hi, u, rfl, rfl, hb⟩ := valL_some h
    unfold valB at hb
    rw [Bool.and_eq_true, Bool.and_eq_true, Bool.and_eq_true, Bool.and_eq_true] at hb
    obtain ⟨b1, b2, b3, b4, b5⟩ := hb
    have r1 := tiny_le b1
    have r2 := tiny_le b2
    have r5 := tiny_le b5
    refine ⟨rfl, rfl, callC_ok mixed orcRj_ok askRj_ok (Eq.mpr (value_run s sc x y u lo hi _) ⟨inI64_small (by omega) (by omega), inI64_small (by omega) (by omega), rfl, rfl, rfl, rfl, rfl, by rw [b1, b2, b3, b4]; rfl, rfl, by rw [mn4_small b1 b2 b3 b4, mx4_small b1 b2 b3 b4]; rfl, rfl, ?_⟩)⟩
    rw [wrap_small (by omega) (by omega)]
    rfl
noncomputable def askRk : Asks := asksF 23 ShL (skipA 16 (asksF 62 valL askRj))
theorem askRk_ok : AsksOk orcRk askRk := asksF_ok (skipA_ok (asksF_ok askRj_ok))
/-! The program's loop over samples. -/
noncomputable def orcRl : Orc := inlO Tryz.prog 61 60 orcRk
theorem orcRl_ok : OrcOk Tryz.prog orcRl := inlO_ok mixed orcRk_ok
noncomputable def askRl : Asks := asksI Tryz.prog 61 60 orcRk (syOf [(7, 7), (9, 7)]) askRk askRk
theorem askRl_ok : AsksOk orcRl askRl := asksI_ok askRk_ok askRk_ok
noncomputable abbrev snC (s : ByteArray) (sc x y : Int) : List Value := [.string s, gi sc, gi x, gi y]
noncomputable abbrev ofC (lo hi : Int) : List Value := [gi lo, gi hi]
noncomputable abbrev vF : Value := .func (.func 61) #[] #[.pointer (some ⟨Tryz.prog.globals.size + 1, 0, none⟩), .pointer (some ⟨Tryz.prog.globals.size + 2, 0, none⟩)]
noncomputable abbrev slQ (n k : Nat) : Value := .slice (some ⟨Tryz.prog.globals.size + 3, 0, none⟩) n k
noncomputable abbrev VH (c : List Value) (e row : Nat) (S : List Value) (eS rS : Nat) (O : List Value) (eO rO : Nat) (zs : List Value) : AHeap := canonT [] (fun _ => 0) Tryz.prog.globals.size [(c, e, row, true), (S, eS, rS, true), (O, eO, rO, true), (zs, 82, 5, false)]
theorem vm_body (c zs : List Value) (n k m j e row eS rS eO rO : Nat) (s : ByteArray) (sc x y lo hi : Int) (g : Nat → Value) (Q : Exit → List Value → AHeap → Prop) : execC Tryz.prog (exec Tryz.prog orcRl 10) (syOf [(14, 1), (15, 2), (16, 3), (20, 7), (22, 17)]) askRl (noLoops _) 40 (loopOf Tryz.prog 60 0) (stOf 25 [(1, vF), (5, slQ j m), (11, liP n k), (12, goN n), (13, goN j)] g) (VH c e row (snC s sc x y) eS rS (ofC lo hi) eO rO zs) (told 25 [1, 5, 11, 12, 13] Q) = (((Nat.blt j n = true → (Nat.blt j n = true ∧ c[(0 + (j * 1))]? = Option.some (gf (floatAt c (0 + (j * 1)))) ∧ ieq (smpE (floatAt c (0 + (j * 1)))) 0 = true ∧ Value.agg (Array.mk (List.take 2 (List.drop 0 (ofC lo hi)))) = Value.agg (Array.mk (List.take 2 (List.drop 0 (ofC lo hi)))) ∧ Value.agg (Array.mk (List.take 4 (List.drop 0 (snC s sc x y)))) = Value.agg (Array.mk (List.take 4 (List.drop 0 (snC s sc x y)))) ∧ valB sc x y lo hi (unitE (floatAt c (0 + (j * 1)))) = true ∧ Nat.ble (j + 1) m = true ∧ Nat.ble ((0 + (j * 4)) + List.length [gi (floorE (mnV x y lo hi (unitE (floatAt c (0 + (j * 1))))) 1000), gi (ceilE (mxV x y lo hi (unitE (floatAt c (0 + (j * 1))))) 1000), Value.bool (!(ilt (0 - sc) (unitE (floatAt c (0 + (j * 1)))))), Value.bool (!(ilt (unitE (floatAt c (0 + (j * 1)))) sc))]) (List.length zs) = true ∧ Q .normal [vF, Value.slice (some ⟨nG1 + 3, 0, none⟩) (j + 1) m, liP n k, goN n, gi (fwrap IntKind.i64 (Int.ofNat (j + 1)))] (((((VH c e row (snC s sc x y) eS rS (ofC lo hi) eO rO zs).push (.cells [gi 0, gi 0, Value.bool false, Value.bool false] 82 0 false)).set (nG1 + 4) (.cells ([] ++ (valC sc x y lo hi (unitE (floatAt c (0 + (j * 1)))) ++ [])) 82 0 false)).push (.cells [gi (floorE (mnV x y lo hi (unitE (floatAt c (0 + (j * 1))))) 1000), gi (ceilE (mxV x y lo hi (unitE (floatAt c (0 + (j * 1))))) 1000), Value.bool (!(ilt (0 - sc) (unitE (floatAt c (0 + (j * 1)))))), Value.bool (!(ilt (unitE (floatAt c (0 + (j * 1)))) sc))] 82 5 false)).set (nG1 + 3) (.cells (splice zs (0 + (j * 4)) [gi (floorE (mnV x y lo hi (unitE (floatAt c (0 + (j * 1))))) 1000), gi (ceilE (mxV x y lo hi (unitE (floatAt c (0 + (j * 1))))) 1000), Value.bool (!(ilt (0 - sc) (unitE (floatAt c (0 + (j * 1)))))), Value.bool (!(ilt (unitE (floatAt c (0 + (j * 1)))) sc))]) 82 5 false)))) ∧ (Nat.blt j n = false → Q (.exit 0) [vF, slQ j m, liP n k, goN n, goN j] (VH c e row (snC s sc x y) eS rS (ofC lo hi) eO rO zs)))) := by kernel_rfl
end Go.Proofs.YtojfhklkcelblaaGreatDoor
/-! Converted, by the program: its loop. -/
namespace Go.Proofs.YtojfhklkcelblaaGreatDoor
open Go Go.Am

theorem flat_up : ∀ (n : Nat) (v : Value), flat n v = true → flat (n + 1) v = true
  | 0, v, h => by
    have h : atomB v = true := h
    cases v <;> first | exact h | (simp [atomB] at h; done)
  | n + 1, v, h => by
    cases v with
    | agg cs => exact List.all_eq_true.2 fun x hx => flat_up n x (List.all_eq_true.1 h x hx)
    | tuple cs => exact List.all_eq_true.2 fun x hx => flat_up n x (List.all_eq_true.1 h x hx)
    | iface t x => exact flat_up n x h
    | _ => exact h
theorem flats_up {n : Nat} {l : List Value} (h : l.all (flat n) = true) : l.all (flat (n + 1)) = true :=
  List.all_eq_true.2 fun x hx => flat_up n x (List.all_eq_true.1 h x hx)
noncomputable def valsL (sc x y lo hi : Int) : List Nat → List Value
  | [] => []
  | f :: l => valC sc x y lo hi (unitE f) ++ valsL sc x y lo hi l
section
variable {sc x y lo hi : Int}
theorem valsL_len : ∀ l : List Nat, (valsL sc x y lo hi l).length = l.length * 4
  | [] => rfl
  | f :: l => by
    show (valC sc x y lo hi (unitE f) ++ valsL sc x y lo hi l).length = _
    rw [List.length_append, valsL_len l, List.length_cons, show (valC sc x y lo hi (unitE f)).length = 4 from rfl]
    omega
theorem valsL_app : ∀ l m : List Nat, valsL sc x y lo hi (l ++ m) = valsL sc x y lo hi l ++ valsL sc x y lo hi m
  | [], m => rfl
  | f :: l, m => by
    show valC sc x y lo hi (unitE f) ++ valsL sc x y lo hi (l ++ m) = (valC sc x y lo hi (unitE f) ++ valsL sc x y lo hi l) ++ _
    rw [valsL_app l m, List.append_assoc]
theorem valsL_flat : ∀ l : List Nat, (valsL sc x y lo hi l).all (flat 3) = true
  | [] => rfl
  | f :: l => by
    show (valC sc x y lo hi (unitE f) ++ valsL sc x y lo hi l).all (flat 3) = true
    rw [List.all_append, valsL_flat l]
    rfl
noncomputable def dstV (sc x y lo hi : Int) (l : List Nat) (j : Nat) (zs : List Value) : List Value := valsL sc x y lo hi (l.take j) ++ zs.drop (j * 4)
theorem dstV_len {l : List Nat} {n j : Nat} {zs : List Value} (hj : j ≤ n) (hn : n ≤ l.length) (hz : zs.length = n * 4) : (dstV sc x y lo hi l j zs).length = n * 4 := by
  unfold dstV
  rw [List.length_append, valsL_len, List.length_take, List.length_drop, hz, Nat.min_eq_left (by omega)]
  omega
theorem dstV_flat {l : List Nat} {j : Nat} {zs : List Value} (hz : zs.all (flat 3) = true) : (dstV sc x y lo hi l j zs).all (flat 3) = true := by
  unfold dstV
  rw [List.all_append, valsL_flat, Bool.true_and]
  exact List.all_eq_true.2 fun v hv => List.all_eq_true.1 hz v (List.mem_of_mem_drop hv)
theorem dstV_set {l : List Nat} {j : Nat} {zs : List Value} (hl : j < l.length) : splice (dstV sc x y lo hi l j zs) (0 + j * 4) (valC sc x y lo hi (unitE l[j])) = dstV sc x y lo hi l (j + 1) zs := by
  have h1 : (valsL sc x y lo hi (l.take j)).length = 0 + j * 4 := by rw [valsL_len, List.length_take, Nat.min_eq_left (by omega)]; omega
  have h2 : (valC sc x y lo hi (unitE l[j])).length = 4 := rfl
  unfold splice dstV
  rw [← h1, List.take_left, List.drop_append, h2, List.drop_eq_nil_of_le (by omega), List.nil_append, List.drop_drop, List.take_add_one, List.getElem?_eq_getElem hl, valsL_app, List.append_assoc]
  congr 1
  show valC sc x y lo hi (unitE l[j]) ++ _ = (valC sc x y lo hi (unitE l[j]) ++ []) ++ _
  rw [List.append_nil, h1]
  congr 2
  omega
theorem dstV_end {l : List Nat} {n : Nat} {zs : List Value} (hz : zs.length = n * 4) : dstV sc x y lo hi l n zs = valsL sc x y lo hi (l.take n) := by
  unfold dstV
  rw [List.drop_eq_nil_of_le (by omega), List.append_nil]
end
section
variable {c S O zs : List Value} {e row eS rS eO rO : Nat}
theorem VH_get (j : Nat) : (VH c e row S eS rS O eO rO zs).get (nG1 + j) = ([(c, e, row, true), (S, eS, rS, true), (O, eO, rO, true), (zs, 82, 5, false)][j]?).map (fun b => AObj.cells b.1 b.2.1 b.2.2.1 b.2.2.2) := by
  rw [canonT_get (T := []) rfl, if_pos (Nat.le_add_right _ _), Nat.add_sub_cancel_left]
theorem VH_n : (VH c e row S eS rS O eO rO zs).n = nG1 + 4 := canonT_n (T := []) rfl _
end
theorem keep2 {h : AHeap} {i a b d : Nat} {x y z w : AObj} (hn : h.n = a) (hi : i < a) (hb : i ≠ b) (hd : i ≠ d) : ((((h.push x).set b y).push z).set d w).get i = h.get i := by
  rw [AHeap.get_set, if_neg hd, AHeap.get_push, if_neg (by rw [AHeap.set_n]; show i ≠ h.n + 1; omega), AHeap.get_set, if_neg hb, AHeap.get_push, if_neg (by omega)]
noncomputable abbrev vGood (sc x y lo hi : Int) (l : List Nat) : Prop := ∀ f ∈ l, smpE f = 0 ∧ valB sc x y lo hi (unitE f) = true
set_option maxRecDepth 100000 in
theorem vm_loop (l : List Nat) (n e row k : Nat) (s : ByteArray) (sc x y lo hi : Int) (eS rS eO rO : Nat) (zs : List Value) (hn : n ≤ l.length) (hle : n ≤ 65536) (hz : zs.length = n * 4) (hzf : zs.all (flat 3) = true) (hv : vGood sc x y lo hi (l.take n)) :
    ∀ (a : AAct) (h : AHeap), h.get nG1 = some (.cells (l.map gf) e row true) → h.get (nG1 + 1) = some (.cells (snC s sc x y) eS rS true) → h.get (nG1 + 2) = some (.cells (ofC lo hi) eO rO true) → h.get (nG1 + 3) = some (.cells zs 82 5 false) →
    a.n = 25 → a.marks = [] → [1, 5, 11, 12, 13].map a.tmp = [vF, slQ 0 n, liP n k, goN n, goN 0] →
    J Tryz.prog (.loop (loopOf Tryz.prog 60 0)) a h (told 25 [1, 5, 11, 12, 13] fun ex vs h => ex = .exit 0 ∧ vs = [vF, slQ n n, liP n k, goN n, goN n] ∧ h.get (nG1 + 3) = some (.cells (valsL sc x y lo hi (l.take n)) 82 5 false)) := by
  intro a h g0 g1 g2 g3 ha hm ht
  refine loop_rule (fun m vs h => ∃ j, j ≤ n ∧ m = n - j ∧ vs = [vF, slQ j n, liP n k, goN n, goN j] ∧ h.get nG1 = some (.cells (l.map gf) e row true) ∧ h.get (nG1 + 1) = some (.cells (snC s sc x y) eS rS true) ∧ h.get (nG1 + 2) = some (.cells (ofC lo hi) eO rO true) ∧ h.get (nG1 + 3) = some (.cells (dstV sc x y lo hi l j zs) 82 5 false)) _ ?_ n _ _ a ⟨0, Nat.zero_le _, rfl, rfl, g0, g1, g2, by rw [g3]; rfl⟩ ha hm ht
  clear g0 g1 g2 g3 ha hm ht
  rintro m vs h g ⟨j, hj, rfl, rfl, g0, g1, g2, g3⟩
  refine J.reheap (es := fun _ => 0) (vs₂ := [vF, slQ j n, liP n k, goN n, goN j]) (B := [(l.map gf, e, row, true), (snC s sc x y, eS, rS, true), (ofC lo hi, eO, rO, true), (dstV sc x y lo hi l j zs, 82, 5, false)]) (ids := [nG1, nG1 + 1, nG1 + 2, nG1 + 3]) globs_pos (by decide) (by decide) rfl (by simp) (by simp) ?_ (by kernel_rfl) ?_ fun g' => ?_
  · intro q b i hb hi
    match q, hb, hi with
    | 0, hb, hi => cases hb; cases hi; exact ⟨g0, flat_floats l⟩
    | 1, hb, hi => cases hb; cases hi; exact ⟨g1, rfl⟩
    | 2, hb, hi => cases hb; cases hi; exact ⟨g2, rfl⟩
    | 3, hb, hi => cases hb; cases hi; exact ⟨g3, dstV_flat hzf⟩
  · intro i hi
    simp only [List.mem_cons, List.not_mem_nil, or_false] at hi
    rcases hi with rfl | rfl | rfl | rfl
    · exact ⟨(11, liP n k), by simp, by simp [named]⟩
    · exact ⟨(1, vF), by simp, by simp [named, namedP]⟩
    · exact ⟨(1, vF), by simp, by simp [named, namedP]⟩
    · exact ⟨(5, slQ j n), by simp, by simp [named]⟩
  · refine execC_ok mixed orcRl_ok askRl_ok (noLoops _) (Eq.mpr (vm_body _ _ n k n j e row eS rS eO rO s sc x y lo hi g' _) ?_)
    refine ⟨fun hlt => ?_, fun hge => ?_⟩
    · have hj' := blt_true hlt
      have hjl : j < l.length := by omega
      obtain ⟨h1, h2⟩ := float_at hjl
      obtain ⟨v1, v2⟩ := hv l[j] (List.mem_of_getElem? (i := j) (by rw [List.getElem?_take, if_pos hj', List.getElem?_eq_getElem hjl]))
      rw [h2]
      refine ⟨hlt, h2 ▸ h1, by rw [v1]; rfl, rfl, rfl, v2, by rw [Nat.ble_eq]; omega, by rw [Nat.ble_eq, dstV_len hj hn hz]; simp only [List.length_cons, List.length_nil]; omega, n - (j + 1), by omega, j + 1, hj', rfl, by rw [fwrap_nat (by omega)], ?_, ?_, ?_, ?_⟩
      · rw [keep2 VH_n (by omega) (by omega) (by omega)]; exact VH_get 0
      · rw [keep2 VH_n (by omega) (by omega) (by omega)]; exact VH_get 1
      · rw [keep2 VH_n (by omega) (by omega) (by omega)]; exact VH_get 2
      · rw [AHeap.get_set, if_pos rfl]
        exact congrArg (fun c => some (AObj.cells c 82 5 false)) (dstV_set hjl)
    · have hge := blt_false hge
      obtain rfl : j = n := by omega
      refine ⟨rfl, rfl, ?_⟩
      rw [← dstV_end hz]
      exact VH_get 3
noncomputable def vmLoops (l : List Nat) (n e row k : Nat) (s : ByteArray) (sc x y lo hi : Int) (eS rS eO rO : Nat) : Loops Tryz.prog where
  body := fun _ => loopOf Tryz.prog 60 0
  spec := fun _ a h c => entry a 25 [(1, vF), (5, slQ 0 n), (11, liP n k), (12, goN n), (13, goN 0)] (∃ zs : List Value, h.get Tryz.prog.globals.size = some (.cells (l.map gf) e row true) ∧ h.get (Tryz.prog.globals.size + 1) = some (.cells (snC s sc x y) eS rS true) ∧ h.get (Tryz.prog.globals.size + 2) = some (.cells (ofC lo hi) eO rO true) ∧ h.get (Tryz.prog.globals.size + 3) = some (.cells zs 82 5 false) ∧ (n ≤ l.length ∧ n ≤ 65536 ∧ zs.length = n * 4 ∧ zs.all (flat 3) = true ∧ vGood sc x y lo hi (l.take n)) ∧
    ∀ g h', h'.get (Tryz.prog.globals.size + 3) = some (.cells (valsL sc x y lo hi (l.take n)) 82 5 false) → c (.exit 0) (stOf 25 [(5, slQ n n)] g) h')
  ok := fun i a h c q => by
    obtain ⟨h1, h2, h3, zs, g0, g1, g2, g3, ⟨hs1, hs2, hs3, hs4, hs5⟩, h4⟩ := entry_facts q
    refine J.of_told (vm_loop l n e row k s sc x y lo hi eS rS eO rO zs hs1 hs2 hs3 hs4 hs5 a h g0 g1 g2 g3 h1 h2 ?_) ?_
    · simp only [List.map_cons, List.map_nil]
      rw [h3 (1, vF) (by simp), h3 (5, slQ 0 n) (by simp), h3 (11, liP n k) (by simp), h3 (12, goN n) (by simp), h3 (13, goN 0) (by simp)]
    · rintro ex vs h' g ⟨rfl, rfl, hg⟩
      exact h4 (ov [(1, vF), (11, liP n k), (12, goN n), (13, goN n)] g) h' hg
theorem vm_run (l : List Nat) (n e row k : Nat) (s : ByteArray) (sc x y lo hi : Int) (eS rS eO rO : Nat) (K : Value → AHeap → Prop) : callC Tryz.prog (exec Tryz.prog orcRl 10) (syOf [(10, 45)]) askRl (vmLoops l n e row k s sc x y lo hi eS rS eO rO) 20 60 #[liP n k, vF] (canon Tryz.prog [(l.map gf, e, row), (snC s sc x y, eS, rS), (ofC lo hi, eO, rO)]) K = (((0 : Nat) < n ∧ Nat.ble 0 n = true ∧ Nat.ble n 65536 = true ∧ (∀ y1 : List Value, (List.length y1 = (n * 4) → (List.all y1 (flat 2) = true → (loopOf Tryz.prog 60 0 = loopOf Tryz.prog 60 0 ∧ vF = vF ∧ Value.slice (some ⟨nG1 + 3, 0, none⟩) 0 n = slQ 0 n ∧ liP n k = liP n k ∧ goN n = goN n ∧ gi 0 = goN 0 ∧ (∃ x2 : List Value, (((canon Tryz.prog [Prod.mk (List.map gf l) (Prod.mk e row), Prod.mk (snC s sc x y) (Prod.mk eS rS), Prod.mk (ofC lo hi) (Prod.mk eO rO)]).push (.cells y1 82 5 false)).get (nG1) = Option.some (.cells (List.map gf l) e row true) ∧ ((canon Tryz.prog [Prod.mk (List.map gf l) (Prod.mk e row), Prod.mk (snC s sc x y) (Prod.mk eS rS), Prod.mk (ofC lo hi) (Prod.mk eO rO)]).push (.cells y1 82 5 false)).get (nG1 + 1) = Option.some (.cells (snC s sc x y) eS rS true) ∧ ((canon Tryz.prog [Prod.mk (List.map gf l) (Prod.mk e row), Prod.mk (snC s sc x y) (Prod.mk eS rS), Prod.mk (ofC lo hi) (Prod.mk eO rO)]).push (.cells y1 82 5 false)).get (nG1 + 2) = Option.some (.cells (ofC lo hi) eO rO true) ∧ ((canon Tryz.prog [Prod.mk (List.map gf l) (Prod.mk e row), Prod.mk (snC s sc x y) (Prod.mk eS rS), Prod.mk (ofC lo hi) (Prod.mk eO rO)]).push (.cells y1 82 5 false)).get (nG1 + 3) = Option.some (.cells x2 82 5 false) ∧ ((n : Nat) ≤ List.length l ∧ (n : Nat) ≤ 65536 ∧ List.length x2 = (n * 4) ∧ List.all x2 (flat 3) = true ∧ vGood sc x y lo hi (List.take n l)) ∧ (∀ _ : Nat → Value, (∀ y4 : AHeap, (y4.get (nG1 + 3) = Option.some (.cells (valsL sc x y lo hi (List.take n l)) 82 5 false) → K (slQ n n) y4))))))))))) := by kernel_rfl
end Go.Proofs.YtojfhklkcelblaaGreatDoor
/-! Converted, by the program. -/
namespace Go.Proofs.YtojfhklkcelblaaGreatDoor
open Go Go.Am

noncomputable def mvX (vs : List Value) (B : List Cells) : Option Out := match vs, B with
  | [.slice (some ⟨i, 0, none⟩) n _, .func (.func f) ⟨[]⟩ ⟨[.pointer (some ⟨i1, 0, none⟩), .pointer (some ⟨i2, 0, none⟩)]⟩], [(c, _, _), (S, _, _), (O, _, _)] => match Nat.beq i Tryz.prog.globals.size && (Nat.beq f 61 && (Nat.beq i1 (Tryz.prog.globals.size + 1) && Nat.beq i2 (Tryz.prog.globals.size + 2))), decs dF c, S, O with
    | true, some l, [.string _, .int .i64 sc, .int .i64 x, .int .i64 y], [.int .i64 lo, .int .i64 hi] => match Nat.blt 0 n && (Nat.ble n l.length && (Nat.ble n 65536 && (l.take n).all fun f => ieq (smpE f) 0 && valB sc x y lo hi (unitE f))) with
      | true => some (.wide (slM n) (valsL sc x y lo hi (l.take n)) 82 5)
      | false => none
    | _, _, _, _ => none
  | _, _ => none
noncomputable def mvY (vs : List Value) (B : List Cells) (K : Out → Prop) : Prop := match vs, B with
  | [.slice (some ⟨i, 0, none⟩) n _, .func (.func f) ⟨[]⟩ ⟨[.pointer (some ⟨i1, 0, none⟩), .pointer (some ⟨i2, 0, none⟩)]⟩], [(c, _, _), (S, _, _), (O, _, _)] => match Nat.beq i Tryz.prog.globals.size && (Nat.beq f 61 && (Nat.beq i1 (Tryz.prog.globals.size + 1) && Nat.beq i2 (Tryz.prog.globals.size + 2))), S, O with
    | true, [.string _, .int .i64 sc, .int .i64 x, .int .i64 y], [.int .i64 lo, .int .i64 hi] => ∃ l : List Nat, c = l.map gf ∧ (0 < n ∧ n ≤ l.length ∧ n ≤ 65536) ∧ vGood sc x y lo hi (l.take n) ∧ K (.wide (slM n) (valsL sc x y lo hi (l.take n)) 82 5)
    | _, _, _ => False
  | _, _ => False
theorem vGood_iff {sc x y lo hi : Int} {l : List Nat} : (l.all fun f => ieq (smpE f) 0 && valB sc x y lo hi (unitE f)) = true ↔ vGood sc x y lo hi l := by
  rw [List.all_eq_true]
  refine ⟨fun h f hf => ?_, fun h f hf => ?_⟩
  · have := h f hf
    rw [Bool.and_eq_true, ieq_dec] at this
    exact ⟨by simpa using this.1, this.2⟩
  · rw [(h f hf).1, (h f hf).2]; rfl
theorem mvY_ok (vs : List Value) (B : List Cells) (K : Out → Prop) (h : mvY vs B K) : ∃ o, mvX vs B = some o ∧ K o := by
  unfold mvY at h
  split at h
  · rename_i i n k f i1 i2 c e1 r1 S e2 r2 O e3 r3
    split at h
    · rename_i s sc x y lo hi hb
      obtain ⟨l, rfl, ⟨h1, h2, h3⟩, hv, hK⟩ := h
      refine ⟨_, ?_, hK⟩
      have q : (Nat.blt 0 n && (Nat.ble n l.length && (Nat.ble n 65536 && (l.take n).all fun f => ieq (smpE f) 0 && valB sc x y lo hi (unitE f)))) = true := by
        rw [vGood_iff.2 hv, Bool.and_true, Bool.and_eq_true, Bool.and_eq_true, Nat.blt_eq, Nat.ble_eq, Nat.ble_eq]
        exact ⟨h1, h2, h3⟩
      simp only [mvX, hb, decs_map (d := dF) (e := gf) (fun _ => rfl), q]
    · exact h.elim
  · exact h.elim
theorem mvX_some {vs : List Value} {B : List Cells} {o : Out} (h : mvX vs B = some o) : ∃ (l : List Nat) (n e row k : Nat) (s : ByteArray) (sc x y lo hi : Int) (eS rS eO rO : Nat), vs = [liP n k, vF] ∧ B = [(l.map gf, e, row), (snC s sc x y, eS, rS), (ofC lo hi, eO, rO)] ∧ o = .wide (slM n) (valsL sc x y lo hi (l.take n)) 82 5 ∧ 0 < n ∧ n ≤ l.length ∧ n ≤ 65536 ∧ vGood sc x y lo hi (l.take n) := by
  unfold mvX at h
  split at h
  · split at h
    · rename_i hb hd
      split at h
      · rename_i hq
        cases h
        simp only [Bool.and_eq_true, Nat.beq_eq] at hb
        obtain ⟨rfl, rfl, rfl, rfl⟩ := hb
        rw [Bool.and_eq_true, Bool.and_eq_true, Bool.and_eq_true, Nat.blt_eq, Nat.ble_eq, Nat.ble_eq, vGood_iff] at hq
        obtain rfl := decs_some (d := dF) (e := gf) dF_some hd
        exact ⟨_, _, _, _, _, _, _, _, _, _, _, _, _, _, _, rfl, rfl, rfl, hq⟩
      · cases h
    · cases h
  · cases h
noncomputable def orcRm : Orc := orElse 60 (anyO Tryz.prog.globals.size mvX) orcRl
set_option maxRecDepth 100000 in
theorem orcRm_ok : OrcOk Tryz.prog orcRm := by
  refine anyO_ok globs_pos orcRl_ok fun vs B o h _ => ?_
  obtain ⟨l, n, e, row, k, s, sc, x, y, lo, hi, eS, rS, eO, rO, rfl, rfl, rfl, h0, h1, h2, hv⟩ := mvX_some h
  refine ⟨⟨names_sl n, valsL_flat _⟩, callC_ok mixed orcRl_ok askRl_ok (Eq.mpr (vm_run l n e row k s sc x y lo hi eS rS eO rO _) ⟨h0, rfl, by rw [Nat.ble_eq]; exact h2, fun zs hz hzf => ⟨rfl, rfl, rfl, rfl, rfl, rfl, zs, ?_, ?_, ?_, ?_, ⟨h1, h2, hz, flats_up hzf, hv⟩, fun _ h' hg => ⟨_, rfl, hg⟩⟩⟩)⟩
  · rw [AHeap.get_push, if_neg (by rw [canon_n]; simp), canon_get, if_pos (Nat.le_refl _), Nat.sub_self]; rfl
  · rw [AHeap.get_push, if_neg (by rw [canon_n]; simp), canon_get, if_pos (Nat.le_add_right _ _), Nat.add_sub_cancel_left]; rfl
  · rw [AHeap.get_push, if_neg (by rw [canon_n]; simp), canon_get, if_pos (Nat.le_add_right _ _), Nat.add_sub_cancel_left]; rfl
  · rw [AHeap.get_push, if_pos (by rw [canon_n]; rfl)]
noncomputable def askRm : Asks := asksV Tryz.prog.globals.size 60 mvY askRl
theorem askRm_ok : AsksOk orcRm askRm := asksV_ok mvY_ok askRl_ok
theorem cv_run (l : List Nat) (m e row k : Nat) (s : ByteArray) (sc x y z : Int) (K : Value → AHeap → Prop) : callC Tryz.prog (exec Tryz.prog orcRm 10) (syOf [(14, 1), (19, 7), (23, 1), (27, 7)]) askRm (noLoops _) 20 15 #[.agg #[.string s, gi sc, gi x, gi y], liP (m + 1) k, gi z] (liH (l.map gf) e row) K = ((((!(ieq (sensE s sc x y) 0)) = true → K (Value.tuple #[nilS, gi (sensE s sc x y)]) ((liH (List.map gf l) e row).push (.cells [Value.string s, gi sc, gi x, gi y] 51 0 false))) ∧ ((!(ieq (sensE s sc x y) 0)) = false → (∃ x1 : List Nat, (List.map gf l = List.map gf x1 ∧ (Nat.beq row 0 || Nat.beq row 2) = true ∧ (0 : Nat) < (m + 1) ∧ ((m + 1) : Nat) ≤ List.length x1 ∧ ((m + 1) : Nat) ≤ 1000000 ∧ ((m + 1) : Nat) ≤ k ∧ (∀ y2 : X4, (∀ y3 : Int, (y2 = offN (List.take (m + 1) x1) z → (y3 = zeroE (List.take (m + 1) x1) z → (((!(ieq y3 0)) = true → K (Value.tuple #[nilS, gi y3]) ((((liH (List.map gf l) e row).push (.cells [Value.string s, gi sc, gi x, gi y] 51 0 false)).push (.cells [gi 0, gi 0] 38 0 false)).set (nG1 + 2) (.cells ([] ++ ([gi (X4.lo y2), gi (X4.hi y2)] ++ [])) 38 0 false))) ∧ ((!(ieq y3 0)) = false → ((List.all (List.map gf l) (flat 3) = true ∧ List.all [Value.string s, gi sc, gi x, gi y] (flat 3) = true ∧ List.all ([] ++ ([gi (X4.lo y2), gi (X4.hi y2)] ++ [])) (flat 3) = true ∧ True) ∧ (∃ x4 : List Nat, (List.map gf l = List.map gf x4 ∧ ((0 : Nat) < (m + 1) ∧ ((m + 1) : Nat) ≤ List.length x4 ∧ ((m + 1) : Nat) ≤ 65536) ∧ vGood sc x y (X4.lo y2) (X4.hi y2) (List.take (m + 1) x4) ∧ K (Value.tuple #[Value.slice (some ⟨nG1 + 3, 0, none⟩) (m + 1) (m + 1), gi 0]) (((((liH (List.map gf l) e row).push (.cells [Value.string s, gi sc, gi x, gi y] 51 0 false)).push (.cells [gi 0, gi 0] 38 0 false)).set (nG1 + 2) (.cells ([] ++ ([gi (X4.lo y2), gi (X4.hi y2)] ++ [])) 38 0 false)).push (.cells (valsL sc x y (X4.lo y2) (X4.hi y2) (List.take (m + 1) x4)) 82 5 false)))))))))))))))) := by kernel_rfl
theorem cv_nil (s : ByteArray) (sc x y z : Int) (K : Value → AHeap → Prop) : callC Tryz.prog (exec Tryz.prog orcRm 10) (syOf [(14, 1), (23, 1), (27, 7)]) askRm (noLoops _) 20 15 #[.agg #[.string s, gi sc, gi x, gi y], nilS, gi z] (emp Tryz.prog) K = ((((!(ieq (sensE s sc x y) 0)) = true → K (Value.tuple #[nilS, gi (sensE s sc x y)]) ((emp Tryz.prog).push (.cells [Value.string s, gi sc, gi x, gi y] 51 0 false))) ∧ ((!(ieq (sensE s sc x y) 0)) = false → (((!(ieq (zeroE [] z) 0)) = true → K (Value.tuple #[nilS, gi (zeroE [] z)]) ((((emp Tryz.prog).push (.cells [Value.string s, gi sc, gi x, gi y] 51 0 false)).push (.cells [gi 0, gi 0] 38 0 false)).set (nG1 + 1) (.cells ([] ++ ([gi (X4.lo (offN [] z)), gi (X4.hi (offN [] z))] ++ [])) 38 0 false))) ∧ ((!(ieq (zeroE [] z) 0)) = false → ((List.all [Value.string s, gi sc, gi x, gi y] (flat 3) = true ∧ List.all ([] ++ ([gi (X4.lo (offN [] z)), gi (X4.hi (offN [] z))] ++ [])) (flat 3) = true ∧ True) ∧ False)))))) := by kernel_rfl
theorem cv_emp (k : Nat) (s : ByteArray) (sc x y z : Int) (K : Value → AHeap → Prop) : callC Tryz.prog (exec Tryz.prog orcRm 10) (syOf [(14, 1), (23, 1), (27, 7)]) askRm (noLoops _) 20 15 #[.agg #[.string s, gi sc, gi x, gi y], .slice (some ⟨0, 0, none⟩) 0 k, gi z] (emp Tryz.prog) K = ((((!(ieq (sensE s sc x y) 0)) = true → K (Value.tuple #[nilS, gi (sensE s sc x y)]) ((emp Tryz.prog).push (.cells [Value.string s, gi sc, gi x, gi y] 51 0 false))) ∧ ((!(ieq (sensE s sc x y) 0)) = false → (((!(ieq (zeroE [] z) 0)) = true → K (Value.tuple #[nilS, gi (zeroE [] z)]) ((((emp Tryz.prog).push (.cells [Value.string s, gi sc, gi x, gi y] 51 0 false)).push (.cells [gi 0, gi 0] 38 0 false)).set (nG1 + 1) (.cells ([] ++ ([gi (X4.lo (offN [] z)), gi (X4.hi (offN [] z))] ++ [])) 38 0 false))) ∧ ((!(ieq (zeroE [] z) 0)) = false → ((List.all [Value.string s, gi sc, gi x, gi y] (flat 3) = true ∧ List.all ([] ++ ([gi (X4.lo (offN [] z)), gi (X4.hi (offN [] z))] ++ [])) (flat 3) = true ∧ True) ∧ False)))))) := by kernel_rfl
end Go.Proofs.YtojfhklkcelblaaGreatDoor
