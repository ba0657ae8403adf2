/-
  OWN WORK. What the law does besides.
-/
import Derived.Test.YthgojmebbhpbbaaGreatDoorKcM
import Derived.Test.YthgojmebbhpbbaaGreatDoorKbH0
import Derived.Test.YthgojmebbhpbbaaGreatDoorKcJ
import Derived.Test.YthgojmebbhpbbaaGreatDoorKcO
/-! (OWN WORK. Stays: the law for kernels that are not valid, or more than ten integers.) -/
namespace Go.Proofs.YthgojmebbhpbbaaGreatDoor
open Go Go.Am
set_option maxRecDepth 1000000 in
theorem stays_bad (es : Nat → TypeId) (kl l : List Int) (q kk e n lk e' : Nat) (a b : Int) (hkl : kl.length = q + 1) (hb : keE kl ≠ 0 ∨ 10 < n + 1) :
  CallJ Tryz.prog 4 #[slX nG1 (q + 1) kk, slX (nG1 + 1) (n + 1) lk, .agg #[.int .u8 a, .int .u8 b]] (((base tabs2 es Tryz.prog.globals.size).push (.cells (kl.map gi) e 0 true)).push (.cells (l.map g8) e' 0 true)) (fun v _ => v = .bool true) := by
 refine callC_ok mixed orcSb_ok askSu_ok (Eq.mpr (st_run es kl l [] [] [] [] q kk e n lk e' a b 0 _) ⟨⟨flat_ints kl, trivial⟩, rfl, ⟨kl, rfl⟩, fun _ => rfl, fun hs => ⟨⟨flat_ints kl, trivial⟩, rfl, kl, rfl, ⟨by omega, hkl, by have := sk_le hs; omega⟩, rfl, fun _ => rfl, fun hk => ⟨fun _ => rfl, fun _ => ⟨fun _ => rfl, fun hn => ?_⟩⟩⟩⟩)
 exfalso
 rcases hb with hb | hb
 ·rw [ieq_dec, decide_eq_false hb] at hk
  cases hk
 ·rw [ilt_say] at hn
  simp at hn
  omega
end Go.Proofs.YthgojmebbhpbbaaGreatDoor
/-! (OWN WORK. Stays: the law where the kernel or the list is nil or empty.) -/
namespace Go.Proofs.YthgojmebbhpbbaaGreatDoor
open Go Go.Am
theorem sq_nn (es : Nat → TypeId) (a b : Int) (K : Value → Prop) : callC Tryz.prog (exec Tryz.prog orcSb 10) (syOf [(46, 7), (50, 7)]) askSu (noLoops _) 60 4 #[nilS, nilS, .agg #[.int .u8 a, .int .u8 b]] (base tabs2 es Tryz.prog.globals.size) (fun v _ => K v) = ((True ∧ True ∧ noC ([] : List Int) [] ∧ K (Value.bool true))) := by kernel_rfl
theorem sq_ne (es : Nat → TypeId) (j : Nat) (a b : Int) (K : Value → Prop) : callC Tryz.prog (exec Tryz.prog orcSb 10) (syOf [(46, 7), (50, 7)]) askSu (noLoops _) 60 4 #[nilS, .slice (some ⟨Tryz.prog.globals.size, 0, none⟩) 0 j, .agg #[.int .u8 a, .int .u8 b]] ((base tabs2 es Tryz.prog.globals.size).push .dead) (fun v _ => K v) = ((True ∧ True ∧ noC ([] : List Int) [] ∧ K (Value.bool true))) := by kernel_rfl
theorem sq_nf (es : Nat → TypeId) (l : List Int) (n lk e' : Nat) (a b : Int) (K : Value → Prop) : callC Tryz.prog (exec Tryz.prog orcSb 10) (syOf [(46, 7), (50, 7)]) askSu (noLoops _) 60 4 #[nilS, slX Tryz.prog.globals.size (n + 1) lk, .agg #[.int .u8 a, .int .u8 b]] ((base tabs2 es Tryz.prog.globals.size).push (.cells (l.map g8) e' 0 true)) (fun v _ => K v) = ((True ∧ True ∧ noC ([] : List Int) [] ∧ K (Value.bool true))) := by kernel_rfl
theorem sq_en (es : Nat → TypeId) (i : Nat) (a b : Int) (K : Value → Prop) : callC Tryz.prog (exec Tryz.prog orcSb 10) (syOf [(46, 7), (50, 7)]) askSu (noLoops _) 60 4 #[.slice (some ⟨Tryz.prog.globals.size, 0, none⟩) 0 i, nilS, .agg #[.int .u8 a, .int .u8 b]] ((base tabs2 es Tryz.prog.globals.size).push .dead) (fun v _ => K v) = ((True ∧ True ∧ noC ([] : List Int) [] ∧ K (Value.bool true))) := by kernel_rfl
theorem sq_ee (es : Nat → TypeId) (i : Nat) (j : Nat) (a b : Int) (K : Value → Prop) : callC Tryz.prog (exec Tryz.prog orcSb 10) (syOf [(46, 7), (50, 7)]) askSu (noLoops _) 60 4 #[.slice (some ⟨Tryz.prog.globals.size, 0, none⟩) 0 i, .slice (some ⟨(Tryz.prog.globals.size + 1), 0, none⟩) 0 j, .agg #[.int .u8 a, .int .u8 b]] (((base tabs2 es Tryz.prog.globals.size).push .dead).push .dead) (fun v _ => K v) = ((True ∧ True ∧ noC ([] : List Int) [] ∧ K (Value.bool true))) := by kernel_rfl
theorem sq_ef (es : Nat → TypeId) (i : Nat) (l : List Int) (n lk e' : Nat) (a b : Int) (K : Value → Prop) : callC Tryz.prog (exec Tryz.prog orcSb 10) (syOf [(46, 7), (50, 7)]) askSu (noLoops _) 60 4 #[.slice (some ⟨Tryz.prog.globals.size, 0, none⟩) 0 i, slX (Tryz.prog.globals.size + 1) (n + 1) lk, .agg #[.int .u8 a, .int .u8 b]] (((base tabs2 es Tryz.prog.globals.size).push .dead).push (.cells (l.map g8) e' 0 true)) (fun v _ => K v) = ((True ∧ True ∧ noC ([] : List Int) [] ∧ K (Value.bool true))) := by kernel_rfl
theorem sq_fn (es : Nat → TypeId) (kl : List Int) (q kk e : Nat) (a b : Int) (K : Value → Prop) : callC Tryz.prog (exec Tryz.prog orcSb 10) (syOf [(46, 7), (50, 7), (47, 1), (51, 1)]) askSu (noLoops _) 60 4 #[slX Tryz.prog.globals.size (q + 1) kk, nilS, .agg #[.int .u8 a, .int .u8 b]] ((base tabs2 es Tryz.prog.globals.size).push (.cells (kl.map gi) e 0 true)) (fun v _ => K v) = (((List.all (List.map gi kl) (flat 3) = true ∧ True) ∧ true = true ∧ (∃ x1 : List Int, List.map gi kl = List.map gi x1) ∧ ((!(!(ilt 8 (Int.ofNat (q + 1))))) = true → K (Value.bool true)) ∧ ((!(!(ilt 8 (Int.ofNat (q + 1))))) = false → ((List.all (List.map gi kl) (flat 3) = true ∧ True) ∧ true = true ∧ (∃ x1 : List Int, (List.map gi kl = List.map gi x1 ∧ ((0 : Nat) < (q + 1) ∧ List.length x1 = (q + 1) ∧ ((q + 1) : Nat) ≤ 65536) ∧ noC x1 [] ∧ ((!(ieq (keE x1) 0)) = true → K (Value.bool true)) ∧ ((!(ieq (keE x1) 0)) = false → K (Value.bool true)))))))) := by kernel_rfl
theorem sq_fe (es : Nat → TypeId) (kl : List Int) (q kk e : Nat) (j : Nat) (a b : Int) (K : Value → Prop) : callC Tryz.prog (exec Tryz.prog orcSb 10) (syOf [(46, 7), (50, 7), (47, 1), (51, 1)]) askSu (noLoops _) 60 4 #[slX Tryz.prog.globals.size (q + 1) kk, .slice (some ⟨(Tryz.prog.globals.size + 1), 0, none⟩) 0 j, .agg #[.int .u8 a, .int .u8 b]] (((base tabs2 es Tryz.prog.globals.size).push (.cells (kl.map gi) e 0 true)).push .dead) (fun v _ => K v) = (((List.all (List.map gi kl) (flat 3) = true ∧ True) ∧ true = true ∧ (∃ x1 : List Int, List.map gi kl = List.map gi x1) ∧ ((!(!(ilt 8 (Int.ofNat (q + 1))))) = true → K (Value.bool true)) ∧ ((!(!(ilt 8 (Int.ofNat (q + 1))))) = false → ((List.all (List.map gi kl) (flat 3) = true ∧ True) ∧ true = true ∧ (∃ x1 : List Int, (List.map gi kl = List.map gi x1 ∧ ((0 : Nat) < (q + 1) ∧ List.length x1 = (q + 1) ∧ ((q + 1) : Nat) ≤ 65536) ∧ noC x1 [] ∧ ((!(ieq (keE x1) 0)) = true → K (Value.bool true)) ∧ ((!(ieq (keE x1) 0)) = false → K (Value.bool true)))))))) := by kernel_rfl
set_option maxRecDepth 100000 in
theorem stays_nn (es : Nat → TypeId) (a b : Int) : CallJ Tryz.prog 4 #[nilS, nilS, .agg #[.int .u8 a, .int .u8 b]] (base tabs2 es Tryz.prog.globals.size) (fun v _ => v = .bool true) :=
 callC_ok mixed orcSb_ok askSu_ok (Eq.mpr (sq_nn es a b _) ⟨trivial, trivial, rfl, rfl⟩)
set_option maxRecDepth 100000 in
theorem stays_ne (es : Nat → TypeId) (j : Nat) (a b : Int) : CallJ Tryz.prog 4 #[nilS, .slice (some ⟨Tryz.prog.globals.size, 0, none⟩) 0 j, .agg #[.int .u8 a, .int .u8 b]] ((base tabs2 es Tryz.prog.globals.size).push .dead) (fun v _ => v = .bool true) :=
 callC_ok mixed orcSb_ok askSu_ok (Eq.mpr (sq_ne es j a b _) ⟨trivial, trivial, rfl, rfl⟩)
set_option maxRecDepth 100000 in
theorem stays_nf (es : Nat → TypeId) (l : List Int) (n lk e' : Nat) (a b : Int) : CallJ Tryz.prog 4 #[nilS, slX Tryz.prog.globals.size (n + 1) lk, .agg #[.int .u8 a, .int .u8 b]] ((base tabs2 es Tryz.prog.globals.size).push (.cells (l.map g8) e' 0 true)) (fun v _ => v = .bool true) :=
 callC_ok mixed orcSb_ok askSu_ok (Eq.mpr (sq_nf es l n lk e' a b _) ⟨trivial, trivial, rfl, rfl⟩)
set_option maxRecDepth 100000 in
theorem stays_en (es : Nat → TypeId) (i : Nat) (a b : Int) : CallJ Tryz.prog 4 #[.slice (some ⟨Tryz.prog.globals.size, 0, none⟩) 0 i, nilS, .agg #[.int .u8 a, .int .u8 b]] ((base tabs2 es Tryz.prog.globals.size).push .dead) (fun v _ => v = .bool true) :=
 callC_ok mixed orcSb_ok askSu_ok (Eq.mpr (sq_en es i a b _) ⟨trivial, trivial, rfl, rfl⟩)
set_option maxRecDepth 100000 in
theorem stays_ee (es : Nat → TypeId) (i : Nat) (j : Nat) (a b : Int) : CallJ Tryz.prog 4 #[.slice (some ⟨Tryz.prog.globals.size, 0, none⟩) 0 i, .slice (some ⟨(Tryz.prog.globals.size + 1), 0, none⟩) 0 j, .agg #[.int .u8 a, .int .u8 b]] (((base tabs2 es Tryz.prog.globals.size).push .dead).push .dead) (fun v _ => v = .bool true) :=
 callC_ok mixed orcSb_ok askSu_ok (Eq.mpr (sq_ee es i j a b _) ⟨trivial, trivial, rfl, rfl⟩)
set_option maxRecDepth 100000 in
theorem stays_ef (es : Nat → TypeId) (i : Nat) (l : List Int) (n lk e' : Nat) (a b : Int) : CallJ Tryz.prog 4 #[.slice (some ⟨Tryz.prog.globals.size, 0, none⟩) 0 i, slX (Tryz.prog.globals.size + 1) (n + 1) lk, .agg #[.int .u8 a, .int .u8 b]] (((base tabs2 es Tryz.prog.globals.size).push .dead).push (.cells (l.map g8) e' 0 true)) (fun v _ => v = .bool true) :=
 callC_ok mixed orcSb_ok askSu_ok (Eq.mpr (sq_ef es i l n lk e' a b _) ⟨trivial, trivial, rfl, rfl⟩)
set_option maxRecDepth 100000 in
theorem stays_fn (es : Nat → TypeId) (kl : List Int) (q kk e : Nat) (a b : Int) (hkl : kl.length = q + 1) : CallJ Tryz.prog 4 #[slX Tryz.prog.globals.size (q + 1) kk, nilS, .agg #[.int .u8 a, .int .u8 b]] ((base tabs2 es Tryz.prog.globals.size).push (.cells (kl.map gi) e 0 true)) (fun v _ => v = .bool true) :=
 callC_ok mixed orcSb_ok askSu_ok (Eq.mpr (sq_fn es kl q kk e a b _) ⟨⟨flat_ints kl, trivial⟩, rfl, ⟨kl, rfl⟩, fun _ => rfl, fun hs => ⟨⟨flat_ints kl, trivial⟩, rfl, kl, rfl, ⟨by omega, hkl, by have := sk_le hs; omega⟩, rfl, fun _ => rfl, fun _ => rfl⟩⟩)
set_option maxRecDepth 100000 in
theorem stays_fe (es : Nat → TypeId) (kl : List Int) (q kk e : Nat) (j : Nat) (a b : Int) (hkl : kl.length = q + 1) : CallJ Tryz.prog 4 #[slX Tryz.prog.globals.size (q + 1) kk, .slice (some ⟨(Tryz.prog.globals.size + 1), 0, none⟩) 0 j, .agg #[.int .u8 a, .int .u8 b]] (((base tabs2 es Tryz.prog.globals.size).push (.cells (kl.map gi) e 0 true)).push .dead) (fun v _ => v = .bool true) :=
 callC_ok mixed orcSb_ok askSu_ok (Eq.mpr (sq_fe es kl q kk e j a b _) ⟨⟨flat_ints kl, trivial⟩, rfl, ⟨kl, rfl⟩, fun _ => rfl, fun hs => ⟨⟨flat_ints kl, trivial⟩, rfl, kl, rfl, ⟨by omega, hkl, by have := sk_le hs; omega⟩, rfl, fun _ => rfl, fun _ => rfl⟩⟩)
end Go.Proofs.YthgojmebbhpbbaaGreatDoor
/-! (OWN WORK. Stays: the law on the abstract machine, put together.) -/
namespace Go.Proofs.YthgojmebbhpbbaaGreatDoor
open Go Go.Am
theorem stays_ff (es : Nat → TypeId) (kl l : List Int) (kk e lk e' : Nat) (a b : Int) (g0 : 0 < kl.length) (gk : kl.length ≤ kk) (l0 : 0 < l.length) (ha : 0 ≤ a ∧ a ≤ 255) (hb : 0 ≤ b ∧ b ≤ 255) :
  CallJ Tryz.prog 4 #[slX nG1 kl.length kk, slX (nG1 + 1) l.length lk, .agg #[.int .u8 a, .int .u8 b]] (((base tabs2 es Tryz.prog.globals.size).push (.cells (kl.map gi) e 0 true)).push (.cells (l.map g8) e' 0 true)) (fun v _ => v = .bool true) := by
 obtain ⟨q, hq⟩ : ∃ q, kl.length = q + 1 := ⟨kl.length - 1, by omega⟩
 obtain ⟨n, hn⟩ : ∃ n, l.length = n + 1 := ⟨l.length - 1, by omega⟩
 rw [hq] at gk ⊢
 rw [hn]
 by_cases hke : keE kl = 0
 ·by_cases h10 : n + 1 ≤ 10
  ·exact stays_valid es kl l q kk e n lk e' a b hq gk hn ha hb hke h10
  ·exact stays_bad es kl l q kk e n lk e' a b hq (.inr (by omega))
 ·exact stays_bad es kl l q kk e n lk e' a b hq (.inl hke)
end Go.Proofs.YthgojmebbhpbbaaGreatDoor
