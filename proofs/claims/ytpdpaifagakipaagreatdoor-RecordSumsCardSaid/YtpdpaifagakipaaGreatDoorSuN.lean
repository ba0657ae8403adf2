/-
  OWN WORK. RecordSums on the abstract machine, in all cases.
-/
import Derived.Test.YtpdpaifagakipaaGreatDoorSuM
namespace Go.Proofs.YtpdpaifagakipaaGreatDoor
open Go Go.Am

theorem sums_nilE (es : Nat → TypeId) (f t : Int) (K : Value → Prop) : callC Tryz.prog (exec Tryz.prog orcPg 40) (syOf [(44, 32), (50, 7), (54, 31), (59, 31), (64, 31)]) (askPg true) (noLoops _) 40 6 #[.slice none 0 0, spV f t] (base tabs es Tryz.prog.globals.size) (fun v _ => K v) =
  (spV f t = spV f t ∧ ieq (sErr [] f t 0) 0 = false ∧ false = false ∧ ∃ l₉ : List Int, [gi 0] = l₉.map gi ∧ [gi 0] = l₉.map gi ∧ 1 = l₉.length ∧ 1 = l₉.length ∧ l₉.length ≤ 65536 ∧ true = true ∧ ieq (sumE [] f t) 0 = true ∧ ieq (sErr [] f t 0) (sErr [] f t 0) = true ∧ K (.bool true)) := by kernel_rfl
theorem sums_nilZ (es : Nat → TypeId) (K : Value → Prop) : callC Tryz.prog (exec Tryz.prog orcPg 40) (syOf [(44, 31), (50, 7), (54, 31), (59, 31), (64, 31)]) (askPg true) (noLoops _) 40 6 #[.slice none 0 0, spV 0 0] (base tabs es Tryz.prog.globals.size) (fun v _ => K v) =
  (spV 0 0 = spV 0 0 ∧ true = true ∧ false = false ∧ ∃ l₉ : List Int, [gi 0] = l₉.map gi ∧ [gi 0] = l₉.map gi ∧ 1 = l₉.length ∧ 1 = l₉.length ∧ l₉.length ≤ 65536 ∧ true = true ∧ true = true ∧ true = true ∧ K (.bool true)) := by kernel_rfl
theorem sums_empE (k : Nat) (es : Nat → TypeId) (f t : Int) (K : Value → Prop) : callC Tryz.prog (exec Tryz.prog orcPg 40) (syOf [(44, 32), (50, 7), (54, 31), (59, 31), (64, 31)]) (askPg true) (noLoops _) 40 6 #[.slice (some ⟨Tryz.prog.globals.size, 0, none⟩) 0 k, spV f t] ((base tabs es Tryz.prog.globals.size).push .dead) (fun v _ => K v) =
  (spV f t = spV f t ∧ ieq (sErr [] f t 0) 0 = false ∧ false = false ∧ ∃ l₉ : List Int, [gi 0] = l₉.map gi ∧ [gi 0] = l₉.map gi ∧ 1 = l₉.length ∧ 1 = l₉.length ∧ l₉.length ≤ 65536 ∧ true = true ∧ ieq (sumE [] f t) 0 = true ∧ ieq (sErr [] f t 0) (sErr [] f t 0) = true ∧ K (.bool true)) := by kernel_rfl
theorem sums_empZ (k : Nat) (es : Nat → TypeId) (K : Value → Prop) : callC Tryz.prog (exec Tryz.prog orcPg 40) (syOf [(44, 31), (50, 7), (54, 31), (59, 31), (64, 31)]) (askPg true) (noLoops _) 40 6 #[.slice (some ⟨Tryz.prog.globals.size, 0, none⟩) 0 k, spV 0 0] ((base tabs es Tryz.prog.globals.size).push .dead) (fun v _ => K v) =
  (spV 0 0 = spV 0 0 ∧ true = true ∧ false = false ∧ ∃ l₉ : List Int, [gi 0] = l₉.map gi ∧ [gi 0] = l₉.map gi ∧ 1 = l₉.length ∧ 1 = l₉.length ∧ l₉.length ≤ 65536 ∧ true = true ∧ true = true ∧ true = true ∧ K (.bool true)) := by kernel_rfl
theorem err_ieq {f t : Int} (h : sErr [] f t 0 ≠ 0) : ieq (sErr [] f t 0) 0 = false ∧ ieq (sumE [] f t) 0 = true := by
  refine ⟨by rw [ieq_dec]; exact decide_eq_false h, ?_⟩
  rw [sumE_err h]; rfl
theorem zero_span {f t : Int} (h : sErr [] f t 0 = 0) : f = 0 ∧ t = 0 := by
  obtain ⟨a, b, rfl, rfl, h1, h2⟩ := spanE_zero (sErr_zero h).2
  obtain rfl : b = 0 := by omega
  obtain rfl : a = 0 := by omega
  exact ⟨rfl, rfl⟩
set_option maxRecDepth 100000 in
theorem sums_nil (es : Nat → TypeId) (f t : Int) : CallJ Tryz.prog 6 #[.slice none 0 0, spV f t] (base tabs es Tryz.prog.globals.size) (fun v _ => v = .bool true) := by
  by_cases h : sErr [] f t 0 = 0
  · obtain ⟨rfl, rfl⟩ := zero_span h
    exact callC_ok mixed orcPg_ok (askPg_ok true) (Eq.mpr (sums_nilZ es _) ⟨rfl, rfl, rfl, [0], rfl, rfl, rfl, rfl, by decide, rfl, rfl, rfl, rfl⟩)
  · exact callC_ok mixed orcPg_ok (askPg_ok true) (Eq.mpr (sums_nilE es f t _) ⟨rfl, (err_ieq h).1, rfl, [0], rfl, rfl, rfl, rfl, by decide, rfl, (err_ieq h).2, ieq_self _, rfl⟩)
set_option maxRecDepth 100000 in
theorem sums_emp (k : Nat) (es : Nat → TypeId) (f t : Int) : CallJ Tryz.prog 6 #[.slice (some ⟨Tryz.prog.globals.size, 0, none⟩) 0 k, spV f t] ((base tabs es Tryz.prog.globals.size).push .dead) (fun v _ => v = .bool true) := by
  by_cases h : sErr [] f t 0 = 0
  · obtain ⟨rfl, rfl⟩ := zero_span h
    exact callC_ok mixed orcPg_ok (askPg_ok true) (Eq.mpr (sums_empZ k es _) ⟨rfl, rfl, rfl, [0], rfl, rfl, rfl, rfl, by decide, rfl, rfl, rfl, rfl⟩)
  · exact callC_ok mixed orcPg_ok (askPg_ok true) (Eq.mpr (sums_empE k es f t _) ⟨rfl, (err_ieq h).1, rfl, [0], rfl, rfl, rfl, rfl, by decide, rfl, (err_ieq h).2, ieq_self _, rfl⟩)
theorem spC_zero {l : List Nat} {f t : Int} (h : sErr l f t l.length = 0) : spC l [spV f t] = true := by
  obtain ⟨h1, h2⟩ := sErr_zero h
  have hb : spanB f t (Int.ofNat l.length) = false := by
    unfold spanE whenS at h2
    cases hb : spanB f t (Int.ofNat l.length) with
    | false => rfl
    | true => rw [hb] at h2; cases h2
  show (!spanB f t (Int.ofNat l.length) && allB l) = true
  rw [hb, allB_iff.2 (cs_zero h1).1]
  rfl
set_option maxRecDepth 100000 in
theorem sums_full (l : List Nat) (k e : Nat) (es : Nat → TypeId) (f t : Int) (h0 : 0 < l.length) (h1 : l.length ≤ 9223372036854775807) (hk : l.length ≤ k) : CallJ Tryz.prog 6 #[liP l.length k, spV f t] (argH es (l.map gf) e) (fun v _ => v = .bool true) := by
  have ht : l.take l.length = l := List.take_length
  have hle := Nat.le_refl l.length
  by_cases hc : csE l = 0
  · obtain ⟨hva, hlen⟩ := cs_zero hc
    have c0 : ieq (csE (l.take l.length)) 0 = true := by rw [ht, hc]; rfl
    have c1 : ieq 0 (csE (l.take l.length)) = true := by rw [ht, hc]; rfl
    have hm : l.length ≤ 1000000 := by omega
    have hp : l.length + 1 = (preL (l.map unitE)).length := by simp [preL]
    have hp' : (preL (l.map unitE)).length ≤ 65536 := by rw [← hp]; omega
    have he : ieq (sErr (l.take l.length) f t (l.take l.length).length) (sErr (l.take l.length) f t l.length) = true := by rw [ht]; exact ieq_self _
    refine callC_ok mixed orcPg_ok (askPg_ok true) (Eq.mpr (sums_runV l l.length k e es f t _) ⟨l, rfl, h0, hle, h1, hk, fun _ => rfl, fun _ => ?_⟩)
    refine ⟨l, rfl, h0, hle, hm, l, by rw [ht], h0, hle, hm, hle, c0, l, rfl, h0, hle, hm, rfl, l, by rw [ht], h0, hle, hm, hle, l, rfl, h0, hle, hm, hk, c0, l, rfl, h0, hle, by omega, by rw [ht]; exact hva, fun hs => ?_, fun hs => ?_⟩
    · rw [ieq_dec, ht] at hs
      have hs : sErr l f t l.length = 0 := by simpa using hs
      refine ⟨l, rfl, h0, hle, hm, by rw [ht]; exact spC_zero hs, rfl, preL (l.map unitE), by rw [ht]; rfl, by rw [ht]; rfl, hp, hp, hp', c1, ?_, he, rfl⟩
      rw [ht, sumE_zero hs]
      exact ieq_self _
    · rw [ieq_dec, ht] at hs
      have hs : sErr l f t l.length ≠ 0 := by simpa using hs
      refine ⟨rfl, preL (l.map unitE), by rw [ht]; rfl, by rw [ht]; rfl, hp, hp, hp', c1, ?_, he, rfl⟩
      rw [ht, sumE_err hs]
      rfl
  · have c0 : ieq (csE (l.take l.length)) 0 = false := by rw [ht, ieq_dec]; exact decide_eq_false hc
    have hs : sErr l f t l.length ≠ 0 := fun h => hc (sErr_zero h).1
    have s0 : ieq (sErr (l.take l.length) f t l.length) 0 = false := by rw [ht, ieq_dec]; exact decide_eq_false hs
    have he : ieq (sErr (l.take l.length) f t (l.take l.length).length) (sErr (l.take l.length) f t l.length) = true := by rw [ht]; exact ieq_self _
    refine callC_ok mixed orcPg_ok (askPg_ok false) (Eq.mpr (sums_runI l l.length k e es f t _) ⟨l, rfl, h0, hle, h1, hk, fun _ => rfl, fun hsh => ?_⟩)
    rw [ht] at hsh
    have hm : l.length ≤ 1000000 := by have := short_le hsh; omega
    refine ⟨l, rfl, h0, hle, hm, l, by rw [ht], h0, hle, hm, hle, c0, l, rfl, h0, hle, hm, rfl, l, by rw [ht], h0, hle, hm, hle, l, rfl, h0, hle, hm, hk, c0, s0, ieq_self _, ?_, he, rfl⟩
    rw [ht, sumE_err hs]
    rfl
end Go.Proofs.YtpdpaifagakipaaGreatDoor
