/-
  OWN WORK. Sensors: the law on the abstract machine: true for all sensors, samples and requests.
-/
import Derived.Test.YtojfhklkcelblaaGreatDoorCt1
namespace Go.Proofs.YtojfhklkcelblaaGreatDoor
open Go Go.Am

theorem shP_bad {s : ByteArray} {sc x y ex me : Int} (h : shE s sc x y ex me ≠ 0) : shP s sc x y ex me = false := by unfold shP; rw [ieq_ne h]; rfl
theorem shP_good {s : ByteArray} {sc x y ex me : Int} (h : shE s sc x y ex me = 0) : shP s sc x y ex me = shB x y ex me := by unfold shP; rw [h]; rfl
theorem ieq_of {a : Int} (h : a = 0) : ieq a 0 = true := by rw [h]; rfl
theorem ieq_to {a : Int} (h : a = 0) : ieq 0 a = true := by rw [h]; rfl
theorem off_bad {l : List Nat} {z : Int} (h : zeroE l z ≠ 0) : Value.bool (ieq (offN l z).lo 0 && (ieq (offN l z).hi 0 && true)) = .bool true := by rw [offN_bad h]; rfl
theorem off_same (s : X4) : Value.bool (ieq s.lo s.lo && (ieq s.hi s.hi && true)) = .bool true := by rw [ieq_self, ieq_self]; rfl
section
variable (es : Nat → TypeId) (s : ByteArray) (sc x y z ex me : Int)
set_option maxRecDepth 100000 in
theorem sensors_nil : CallJ Tryz.prog 4 #[.agg #[.string s, gi sc, gi x, gi y], nilS, .agg #[gi z, gi ex, gi me]] (base tabs2 es Tryz.prog.globals.size) (fun v _ => v = .bool true) := by
  have hz := zeroE_nil_ne z
  have hc := cvE_nil s sc x y z
  by_cases hh : shE s sc x y ex me = 0
  · exact callC_ok mixed orcRz_ok (askRz_ok false) (Eq.mpr (sen_nil1 es s sc x y z ex me _) ⟨fun _ => rfl, fun _ => ⟨rfl, rfl, rfl, rfl, rfl, rfl, trivial, rfl, ieq_ne hc, rfl, rfl, ieq_ne hz, ieq_ne hc, ieq_of hh, ieq_of hh, ieq_self _, off_bad hz, ieq_self _, trivial, rfl, rfl, trivial, rfl, rfl, rfl, rfl, ieq_self _, by rw [shP_good hh]; exact beq_self_eq_true _, ieq_self _, rfl⟩⟩)
  · exact callC_ok mixed orcRz_ok (askRz_ok false) (Eq.mpr (sen_nil0 es s sc x y z ex me _) ⟨fun _ => rfl, fun _ => ⟨rfl, rfl, rfl, rfl, rfl, rfl, trivial, rfl, ieq_ne hc, rfl, rfl, ieq_ne hz, ieq_ne hc, ieq_ne hh, ieq_self _, off_bad hz, ieq_self _, trivial, rfl, rfl, trivial, rfl, rfl, rfl, rfl, ieq_self _, by rw [shP_bad hh]; rfl, ieq_self _, rfl⟩⟩)
set_option maxRecDepth 100000 in
theorem sensors_emp (k : Nat) : CallJ Tryz.prog 4 #[.agg #[.string s, gi sc, gi x, gi y], .slice (some ⟨Tryz.prog.globals.size, 0, none⟩) 0 k, .agg #[gi z, gi ex, gi me]] ((base tabs2 es Tryz.prog.globals.size).push .dead) (fun v _ => v = .bool true) := by
  have hz := zeroE_nil_ne z
  have hc := cvE_nil s sc x y z
  by_cases hh : shE s sc x y ex me = 0
  · exact callC_ok mixed orcRz_ok (askRz_ok false) (Eq.mpr (sen_emp1 es k s sc x y z ex me _) ⟨fun _ => rfl, fun _ => ⟨rfl, rfl, rfl, rfl, rfl, rfl, trivial, rfl, ieq_ne hc, rfl, rfl, ieq_ne hz, ieq_ne hc, ieq_of hh, ieq_of hh, ieq_self _, off_bad hz, ieq_self _, trivial, rfl, rfl, trivial, rfl, rfl, rfl, rfl, ieq_self _, by rw [shP_good hh]; exact beq_self_eq_true _, ieq_self _, rfl⟩⟩)
  · exact callC_ok mixed orcRz_ok (askRz_ok false) (Eq.mpr (sen_emp0 es k s sc x y z ex me _) ⟨fun _ => rfl, fun _ => ⟨rfl, rfl, rfl, rfl, rfl, rfl, trivial, rfl, ieq_ne hc, rfl, rfl, ieq_ne hz, ieq_ne hc, ieq_ne hh, ieq_self _, off_bad hz, ieq_self _, trivial, rfl, rfl, trivial, rfl, rfl, rfl, rfl, ieq_self _, by rw [shP_bad hh]; rfl, ieq_self _, rfl⟩⟩)
set_option maxRecDepth 100000 in
theorem sensors_full (l : List Nat) (k e : Nat) (h0 : 0 < l.length) (h1 : l.length ≤ 9223372036854775807) (hk : l.length ≤ k) : CallJ Tryz.prog 4 #[.agg #[.string s, gi sc, gi x, gi y], liP l.length k, .agg #[gi z, gi ex, gi me]] (argH es (l.map gf) e) (fun v _ => v = .bool true) := by
  obtain ⟨m, hm⟩ : ∃ m, l.length = m + 1 := ⟨l.length - 1, by omega⟩
  have ht : l.take (m + 1) = l := List.take_of_length_le (by omega)
  rw [hm] at h1 hk ⊢
  have hp : 0 < m + 1 := Nat.succ_pos _
  have hl : m + 1 ≤ l.length := by omega
  have hmap : List.map gf (List.take (m + 1) l) = List.map gf l := by rw [ht]
  have hf : (List.map gf (List.take (m + 1) l)).all (flat 3) = true := flat_floats _
  have hf' : (List.map gf l).all (flat 3) = true := flat_floats _
  have sl : (!(shortB (List.length (List.take (m + 1) l)))) = false → m + 1 ≤ 4097 := fun q => by
    have := short_le q
    rw [ht] at this
    omega
  have hq : ((List.take (m + 1) l).map fun f => valQ sc x y (offN (List.take (m + 1) l) z).lo (offN (List.take (m + 1) l) z).hi (unitE f)).length = m + 1 := by
    rw [List.length_map, ht, hm]
  by_cases hz : zeroE (List.take (m + 1) l) z = 0
  · by_cases hs : sensE s sc x y = 0
    · have hc : cvE s sc x y (List.take (m + 1) l) z = 0 := by rw [cvE_good hs, hz]
      by_cases hh : shE s sc x y ex me = 0
      · refine callC_ok mixed orcRz_ok (askRz_ok true) (Eq.mpr (sen_111 es l m k e s sc x y z ex me _) ⟨fun _ => rfl, fun _ => ⟨l, rfl, hp, hl, h1, hk, fun _ => rfl, fun hs => ?_⟩⟩)
        have hb := sl hs
        refine ⟨rfl, l, rfl, hp, hl, by omega, rfl, rfl, l, hmap, rfl, hp, hl, by omega, Nat.le_refl _, fun a b ha hb' => ?_⟩
        subst ha hb'
        refine ⟨rfl, l, rfl, hp, hl, by omega, rfl, rfl, ⟨hf, trivial⟩, rfl, l, hmap, ⟨hp, hl, by omega, Nat.le_refl _⟩, ieq_of hc, rfl, l, rfl, hp, hl, by omega, hk, rfl, ieq_of hz, l, rfl, rfl, hp, hl, by omega, hk, ieq_of hz, fun d hd => ?_⟩
        subst hd
        exact ⟨ieq_of hc, ⟨hf', trivial⟩, rfl, l, rfl, ⟨hp, hl, by omega, hk⟩, ieq_of hc, ieq_of hh, ieq_of hh, ieq_self _, off_same _, ieq_self _, ⟨valsL_flat _, trivial⟩, rfl, _, valsL_cells _ _ _ _ _ _, ⟨hp, hq, by omega⟩, ⟨valsL_flat _, valsL_flat _, trivial⟩, by simp, _, valsL_cells _ _ _ _ _ _, valsL_cells _ _ _ _ _ _, ⟨hq, by omega⟩, ieq_to hc, by rw [shP_good hh]; exact beq_self_eq_true _, ieq_self _, rfl⟩
      · refine callC_ok mixed orcRz_ok (askRz_ok true) (Eq.mpr (sen_110 es l m k e s sc x y z ex me _) ⟨fun _ => rfl, fun _ => ⟨l, rfl, hp, hl, h1, hk, fun _ => rfl, fun hs => ?_⟩⟩)
        have hb := sl hs
        refine ⟨rfl, l, rfl, hp, hl, by omega, rfl, rfl, l, hmap, rfl, hp, hl, by omega, Nat.le_refl _, fun a b ha hb' => ?_⟩
        subst ha hb'
        refine ⟨rfl, l, rfl, hp, hl, by omega, rfl, rfl, ⟨hf, trivial⟩, rfl, l, hmap, ⟨hp, hl, by omega, Nat.le_refl _⟩, ieq_of hc, rfl, l, rfl, hp, hl, by omega, hk, rfl, ieq_of hz, l, rfl, rfl, hp, hl, by omega, hk, ieq_of hz, fun d hd => ?_⟩
        subst hd
        exact ⟨ieq_of hc, ⟨hf', trivial⟩, rfl, l, rfl, ⟨hp, hl, by omega, hk⟩, ieq_of hc, ieq_ne hh, ieq_self _, off_same _, ieq_self _, ⟨valsL_flat _, trivial⟩, rfl, _, valsL_cells _ _ _ _ _ _, ⟨hp, hq, by omega⟩, ⟨valsL_flat _, valsL_flat _, trivial⟩, by simp, _, valsL_cells _ _ _ _ _ _, valsL_cells _ _ _ _ _ _, ⟨hq, by omega⟩, ieq_to hc, by rw [shP_bad hh]; rfl, ieq_self _, rfl⟩
    · have hc : cvE s sc x y (List.take (m + 1) l) z ≠ 0 := fun q => hs (cvE_zero q).1
      by_cases hh : shE s sc x y ex me = 0
      · refine callC_ok mixed orcRz_ok (askRz_ok false) (Eq.mpr (sen_101 es l m k e s sc x y z ex me _) ⟨fun _ => rfl, fun _ => ⟨l, rfl, hp, hl, h1, hk, fun _ => rfl, fun hs => ?_⟩⟩)
        have hb := sl hs
        refine ⟨rfl, l, rfl, hp, hl, by omega, rfl, rfl, l, hmap, rfl, hp, hl, by omega, Nat.le_refl _, fun a b ha hb' => ?_⟩
        subst ha hb'
        refine ⟨rfl, l, rfl, hp, hl, by omega, rfl, rfl, ⟨hf, trivial⟩, rfl, l, hmap, ⟨hp, hl, by omega, Nat.le_refl _⟩, ieq_ne hc, rfl, l, rfl, hp, hl, by omega, hk, rfl, ieq_of hz, l, rfl, rfl, hp, hl, by omega, hk, ieq_of hz, fun d hd => ?_⟩
        subst hd
        exact ⟨ieq_ne hc, ieq_of hh, ieq_of hh, ieq_self _, off_same _, ieq_self _, trivial, rfl, rfl, trivial, rfl, rfl, rfl, rfl, ieq_self _, by rw [shP_good hh]; exact beq_self_eq_true _, ieq_self _, rfl⟩
      · refine callC_ok mixed orcRz_ok (askRz_ok false) (Eq.mpr (sen_100 es l m k e s sc x y z ex me _) ⟨fun _ => rfl, fun _ => ⟨l, rfl, hp, hl, h1, hk, fun _ => rfl, fun hs => ?_⟩⟩)
        have hb := sl hs
        refine ⟨rfl, l, rfl, hp, hl, by omega, rfl, rfl, l, hmap, rfl, hp, hl, by omega, Nat.le_refl _, fun a b ha hb' => ?_⟩
        subst ha hb'
        refine ⟨rfl, l, rfl, hp, hl, by omega, rfl, rfl, ⟨hf, trivial⟩, rfl, l, hmap, ⟨hp, hl, by omega, Nat.le_refl _⟩, ieq_ne hc, rfl, l, rfl, hp, hl, by omega, hk, rfl, ieq_of hz, l, rfl, rfl, hp, hl, by omega, hk, ieq_of hz, fun d hd => ?_⟩
        subst hd
        exact ⟨ieq_ne hc, ieq_ne hh, ieq_self _, off_same _, ieq_self _, trivial, rfl, rfl, trivial, rfl, rfl, rfl, rfl, ieq_self _, by rw [shP_bad hh]; rfl, ieq_self _, rfl⟩
  · have hc : cvE s sc x y (List.take (m + 1) l) z ≠ 0 := fun q => hz (cvE_zero q).2
    by_cases hh : shE s sc x y ex me = 0
    · refine callC_ok mixed orcRz_ok (askRz_ok false) (Eq.mpr (sen_001 es l m k e s sc x y z ex me _) ⟨fun _ => rfl, fun _ => ⟨l, rfl, hp, hl, h1, hk, fun _ => rfl, fun hs => ?_⟩⟩)
      have hb := sl hs
      refine ⟨rfl, l, rfl, hp, hl, by omega, rfl, rfl, l, hmap, rfl, hp, hl, by omega, Nat.le_refl _, fun a b ha hb' => ?_⟩
      subst ha hb'
      exact ⟨rfl, l, rfl, hp, hl, by omega, rfl, rfl, ⟨hf, trivial⟩, rfl, l, hmap, ⟨hp, hl, by omega, Nat.le_refl _⟩, ieq_ne hc, rfl, l, rfl, hp, hl, by omega, hk, rfl, ieq_ne hz, ieq_ne hc, ieq_of hh, ieq_of hh, ieq_self _, off_bad hz, ieq_self _, trivial, rfl, rfl, trivial, rfl, rfl, rfl, rfl, ieq_self _, by rw [shP_good hh]; exact beq_self_eq_true _, ieq_self _, rfl⟩
    · refine callC_ok mixed orcRz_ok (askRz_ok false) (Eq.mpr (sen_000 es l m k e s sc x y z ex me _) ⟨fun _ => rfl, fun _ => ⟨l, rfl, hp, hl, h1, hk, fun _ => rfl, fun hs => ?_⟩⟩)
      have hb := sl hs
      refine ⟨rfl, l, rfl, hp, hl, by omega, rfl, rfl, l, hmap, rfl, hp, hl, by omega, Nat.le_refl _, fun a b ha hb' => ?_⟩
      subst ha hb'
      exact ⟨rfl, l, rfl, hp, hl, by omega, rfl, rfl, ⟨hf, trivial⟩, rfl, l, hmap, ⟨hp, hl, by omega, Nat.le_refl _⟩, ieq_ne hc, rfl, l, rfl, hp, hl, by omega, hk, rfl, ieq_ne hz, ieq_ne hc, ieq_ne hh, ieq_self _, off_bad hz, ieq_self _, trivial, rfl, rfl, trivial, rfl, rfl, rfl, rfl, ieq_self _, by rw [shP_bad hh]; rfl, ieq_self _, rfl⟩
end
end Go.Proofs.YtojfhklkcelblaaGreatDoor
