/-
  OWN WORK. Rings: unwound by the reference: runs, and known.
-/
import Derived.Test.YtgomacijdadjpaaGreatDoorRgK
/-! (OWN WORK. Rings: unwound by the reference, for each size, index and state.) -/
namespace Go.Proofs.YtgomacijdadjpaaGreatDoor
open Go Go.Am

def uL (l : List Nat) (x : Nat) (fu : Bool) : List Nat := (bif fu then l.drop x else []) ++ l.take x
noncomputable abbrev uwP (n x k : Nat) (fu : Bool) (g : List Value) (e row : Nat) (K : Value → AHeap → Prop) : Prop := callE Tryz.prog orcRgH (syOf []) noAsks 120 16 #[rgV N1 n k (Int.ofNat x) fu] (rdH Tryz.prog g e row) K
noncomputable abbrev uwH (l : List Nat) (x k : Nat) (fu : Bool) (e row : Nat) : AHeap := (rdH Tryz.prog (l.map gf) e row).push (.cells [liP l.length k, gi (Int.ofNat x), .bool fu] 24 0 false)
noncomputable def uwD (h : AHeap) : List Value → AHeap
  | [] => h
  | y :: r => uwD ((h.push (.cells [y] 49 2 false)).push .dead) r
noncomputable abbrev uwE (h : AHeap) (c : List Value) : AHeap := ((uwD h c.dropLast).push (.cells [c.getLastD nilS] 49 2 false)).push (.cells c 49 2 false)
noncomputable def uwR (l : List Nat) (x k : Nat) (fu : Bool) (e row : Nat) (K : Value → AHeap → Prop) : Prop := match uL l x fu with
  | [] => K nilS (uwH l x k fu e row)
  | y :: r => K (.slice (some ⟨Tryz.prog.globals.size + (2 * r.length + 3), 0, none⟩) (r.length + 1) (r.length + 1)) (uwE (uwH l x k fu e row) ((y :: r).map gf))
theorem uw_1 (x0 e row k x : Nat) (fu : Bool) (hx : x < 1) (K : Value → AHeap → Prop) : uwP 1 x k fu ([x0].map gf) e row K = uwR [x0] x k fu e row K := by
  obtain rfl : x = 0 := by omega
  all_goals cases fu
  all_goals kernel_rfl
theorem uw_2 (x0 x1 e row k x : Nat) (fu : Bool) (hx : x < 2) (K : Value → AHeap → Prop) : uwP 2 x k fu ([x0, x1].map gf) e row K = uwR [x0, x1] x k fu e row K := by
  obtain rfl | rfl : x = 0 ∨ x = 1 := by omega
  all_goals cases fu
  all_goals kernel_rfl
theorem uw_3 (x0 x1 x2 e row k x : Nat) (fu : Bool) (hx : x < 3) (K : Value → AHeap → Prop) : uwP 3 x k fu ([x0, x1, x2].map gf) e row K = uwR [x0, x1, x2] x k fu e row K := by
  obtain rfl | rfl | rfl : x = 0 ∨ x = 1 ∨ x = 2 := by omega
  all_goals cases fu
  all_goals kernel_rfl
theorem uw_4 (x0 x1 x2 x3 e row k x : Nat) (fu : Bool) (hx : x < 4) (K : Value → AHeap → Prop) : uwP 4 x k fu ([x0, x1, x2, x3].map gf) e row K = uwR [x0, x1, x2, x3] x k fu e row K := by
  obtain rfl | rfl | rfl | rfl : x = 0 ∨ x = 1 ∨ x = 2 ∨ x = 3 := by omega
  all_goals cases fu
  all_goals kernel_rfl
theorem uw_5 (x0 x1 x2 x3 x4 e row k x : Nat) (fu : Bool) (hx : x < 5) (K : Value → AHeap → Prop) : uwP 5 x k fu ([x0, x1, x2, x3, x4].map gf) e row K = uwR [x0, x1, x2, x3, x4] x k fu e row K := by
  obtain rfl | rfl | rfl | rfl | rfl : x = 0 ∨ x = 1 ∨ x = 2 ∨ x = 3 ∨ x = 4 := by omega
  all_goals cases fu
  all_goals kernel_rfl
theorem uw_6 (x0 x1 x2 x3 x4 x5 e row k x : Nat) (fu : Bool) (hx : x < 6) (K : Value → AHeap → Prop) : uwP 6 x k fu ([x0, x1, x2, x3, x4, x5].map gf) e row K = uwR [x0, x1, x2, x3, x4, x5] x k fu e row K := by
  obtain rfl | rfl | rfl | rfl | rfl | rfl : x = 0 ∨ x = 1 ∨ x = 2 ∨ x = 3 ∨ x = 4 ∨ x = 5 := by omega
  all_goals cases fu
  all_goals kernel_rfl
theorem uw_7 (x0 x1 x2 x3 x4 x5 x6 e row k x : Nat) (fu : Bool) (hx : x < 7) (K : Value → AHeap → Prop) : uwP 7 x k fu ([x0, x1, x2, x3, x4, x5, x6].map gf) e row K = uwR [x0, x1, x2, x3, x4, x5, x6] x k fu e row K := by
  obtain rfl | rfl | rfl | rfl | rfl | rfl | rfl : x = 0 ∨ x = 1 ∨ x = 2 ∨ x = 3 ∨ x = 4 ∨ x = 5 ∨ x = 6 := by omega
  all_goals cases fu
  all_goals kernel_rfl
theorem uw_8 (x0 x1 x2 x3 x4 x5 x6 x7 e row k x : Nat) (fu : Bool) (hx : x < 8) (K : Value → AHeap → Prop) : uwP 8 x k fu ([x0, x1, x2, x3, x4, x5, x6, x7].map gf) e row K = uwR [x0, x1, x2, x3, x4, x5, x6, x7] x k fu e row K := by
  obtain rfl | rfl | rfl | rfl | rfl | rfl | rfl | rfl : x = 0 ∨ x = 1 ∨ x = 2 ∨ x = 3 ∨ x = 4 ∨ x = 5 ∨ x = 6 ∨ x = 7 := by omega
  all_goals cases fu
  all_goals kernel_rfl
theorem uw_9 (x0 x1 x2 x3 x4 x5 x6 x7 x8 e row k x : Nat) (fu : Bool) (hx : x < 9) (K : Value → AHeap → Prop) : uwP 9 x k fu ([x0, x1, x2, x3, x4, x5, x6, x7, x8].map gf) e row K = uwR [x0, x1, x2, x3, x4, x5, x6, x7, x8] x k fu e row K := by
  obtain rfl | rfl | rfl | rfl | rfl | rfl | rfl | rfl | rfl : x = 0 ∨ x = 1 ∨ x = 2 ∨ x = 3 ∨ x = 4 ∨ x = 5 ∨ x = 6 ∨ x = 7 ∨ x = 8 := by omega
  all_goals cases fu
  all_goals kernel_rfl
theorem uw_10 (x0 x1 x2 x3 x4 x5 x6 x7 x8 x9 e row k x : Nat) (fu : Bool) (hx : x < 10) (K : Value → AHeap → Prop) : uwP 10 x k fu ([x0, x1, x2, x3, x4, x5, x6, x7, x8, x9].map gf) e row K = uwR [x0, x1, x2, x3, x4, x5, x6, x7, x8, x9] x k fu e row K := by
  obtain rfl | rfl | rfl | rfl | rfl | rfl | rfl | rfl | rfl | rfl : x = 0 ∨ x = 1 ∨ x = 2 ∨ x = 3 ∨ x = 4 ∨ x = 5 ∨ x = 6 ∨ x = 7 ∨ x = 8 ∨ x = 9 := by omega
  all_goals cases fu
  all_goals kernel_rfl
end Go.Proofs.YtgomacijdadjpaaGreatDoor
/-! (OWN WORK. Rings: unwound by the reference, for the greatest sizes.) -/
namespace Go.Proofs.YtgomacijdadjpaaGreatDoor
open Go Go.Am

theorem uw_11 (x0 x1 x2 x3 x4 x5 x6 x7 x8 x9 x10 e row k x : Nat) (fu : Bool) (hx : x < 11) (K : Value → AHeap → Prop) : uwP 11 x k fu ([x0, x1, x2, x3, x4, x5, x6, x7, x8, x9, x10].map gf) e row K = uwR [x0, x1, x2, x3, x4, x5, x6, x7, x8, x9, x10] x k fu e row K := by
  obtain rfl | rfl | rfl | rfl | rfl | rfl | rfl | rfl | rfl | rfl | rfl : x = 0 ∨ x = 1 ∨ x = 2 ∨ x = 3 ∨ x = 4 ∨ x = 5 ∨ x = 6 ∨ x = 7 ∨ x = 8 ∨ x = 9 ∨ x = 10 := by omega
  all_goals cases fu
  all_goals kernel_rfl
theorem uw_12 (x0 x1 x2 x3 x4 x5 x6 x7 x8 x9 x10 x11 e row k x : Nat) (fu : Bool) (hx : x < 12) (K : Value → AHeap → Prop) : uwP 12 x k fu ([x0, x1, x2, x3, x4, x5, x6, x7, x8, x9, x10, x11].map gf) e row K = uwR [x0, x1, x2, x3, x4, x5, x6, x7, x8, x9, x10, x11] x k fu e row K := by
  obtain rfl | rfl | rfl | rfl | rfl | rfl | rfl | rfl | rfl | rfl | rfl | rfl : x = 0 ∨ x = 1 ∨ x = 2 ∨ x = 3 ∨ x = 4 ∨ x = 5 ∨ x = 6 ∨ x = 7 ∨ x = 8 ∨ x = 9 ∨ x = 10 ∨ x = 11 := by omega
  all_goals cases fu
  all_goals kernel_rfl
end Go.Proofs.YtgomacijdadjpaaGreatDoor
/-! (OWN WORK. Rings: unwound by the reference: known.) -/
namespace Go.Proofs.YtgomacijdadjpaaGreatDoor
open Go Go.Am

noncomputable def uOut (l : List Nat) (x : Nat) (fu : Bool) : Out := match uL l x fu with
  | [] => .plain nilS
  | y :: r => .fresh (slM (y :: r).length) ((y :: r).map gf) 49
theorem uwD_n (c : List Value) : ∀ h : AHeap, (uwD h c).n = h.n + 2 * c.length := by
  induction c with
  | nil => intro h; rfl
  | cons y r ih =>
    intro h
    show (uwD _ r).n = _
    rw [ih, AHeap.push_n, AHeap.push_n, List.length_cons]
    omega
theorem uwH_n (l : List Nat) (x k : Nat) (fu : Bool) (e row : Nat) : (uwH l x k fu e row).n = Tryz.prog.globals.size + 2 := by kernel_rfl
set_option maxRecDepth 100000 in
theorem uw_ok {l : List Nat} {e row k x : Nat} {fu : Bool} (h : ∀ K, uwP l.length x k fu (l.map gf) e row K = uwR l x k fu e row K) : CallJ Tryz.prog 16 #[rgV N1 l.length k (Int.ofNat x) fu] (rdH Tryz.prog (l.map gf) e row) (uOut l x fu).Got := by
  refine CallJ.ofE mixed orcRgH_ok (noAsks_ok _) (Eq.mpr (h _) ?_)
  unfold uwR uOut
  cases uL l x fu with
  | nil => rfl
  | cons y r =>
    refine ⟨Tryz.prog.globals.size + (2 * r.length + 3), rfl, (AHeap.get_push_eq ?_).trans rfl⟩
    rw [AHeap.push_n, uwD_n, uwH_n, List.length_dropLast, List.length_map, List.length_cons, Nat.beq_eq]
    omega
set_option maxRecDepth 100000 in
theorem uwn_call (l : List Nat) (k e row x : Nat) (fu : Bool) (h1 : l.length ≤ 12) (hx : x < l.length) : CallJ Tryz.prog 16 #[rgV N1 l.length k (Int.ofNat x) fu] (rdH Tryz.prog (l.map gf) e row) (uOut l x fu).Got := by
  refine uw_ok ?_
  match l with
  | [] => exact absurd hx (by simp)
  | [x0] => exact uw_1 x0 e row k x fu hx
  | [x0, x1] => exact uw_2 x0 x1 e row k x fu hx
  | [x0, x1, x2] => exact uw_3 x0 x1 x2 e row k x fu hx
  | [x0, x1, x2, x3] => exact uw_4 x0 x1 x2 x3 e row k x fu hx
  | [x0, x1, x2, x3, x4] => exact uw_5 x0 x1 x2 x3 x4 e row k x fu hx
  | [x0, x1, x2, x3, x4, x5] => exact uw_6 x0 x1 x2 x3 x4 x5 e row k x fu hx
  | [x0, x1, x2, x3, x4, x5, x6] => exact uw_7 x0 x1 x2 x3 x4 x5 x6 e row k x fu hx
  | [x0, x1, x2, x3, x4, x5, x6, x7] => exact uw_8 x0 x1 x2 x3 x4 x5 x6 x7 e row k x fu hx
  | [x0, x1, x2, x3, x4, x5, x6, x7, x8] => exact uw_9 x0 x1 x2 x3 x4 x5 x6 x7 x8 e row k x fu hx
  | [x0, x1, x2, x3, x4, x5, x6, x7, x8, x9] => exact uw_10 x0 x1 x2 x3 x4 x5 x6 x7 x8 x9 e row k x fu hx
  | [x0, x1, x2, x3, x4, x5, x6, x7, x8, x9, x10] => exact uw_11 x0 x1 x2 x3 x4 x5 x6 x7 x8 x9 x10 e row k x fu hx
  | [x0, x1, x2, x3, x4, x5, x6, x7, x8, x9, x10, x11] => exact uw_12 x0 x1 x2 x3 x4 x5 x6 x7 x8 x9 x10 x11 e row k x fu hx
  | _ :: _ :: _ :: _ :: _ :: _ :: _ :: _ :: _ :: _ :: _ :: _ :: _ :: r => exact absurd h1 (by simp only [List.length_cons]; omega)
open Classical in
noncomputable def uFn : List Nat → Int → Bool → Option Out := fun l nx fu => if l.length ≤ 12 ∧ nx = Int.ofNat nx.toNat ∧ nx.toNat < l.length then some (uOut l nx.toNat fu) else none
theorem uOut_ok (l : List Nat) (x : Nat) (fu : Bool) : (uOut l x fu).Ok := by
  unfold uOut
  split
  · rfl
  · exact ⟨names_sl _, flat_floats _⟩
noncomputable def orcRgP : Orc := orElse 16 (anyO Tryz.prog.globals.size (ringX uFn)) orcRgH
set_option maxRecDepth 100000 in
theorem orcRgP_ok : OrcOk Tryz.prog orcRgP := by
  refine anyO_ok globs_pos orcRgH_ok fun vs B o h _ => ?_
  obtain ⟨l, n, k, e, row, nx, fu, rfl, rfl, h0, h1, h2, h3, hw, h⟩ := ringX_some h
  subst h1
  rw [List.take_length] at h
  unfold uFn at h
  split at h
  · rename_i hc
    cases h
    refine ⟨uOut_ok _ _ _, ?_⟩
    rw [hc.2.1]
    exact uwn_call l k e row nx.toNat fu hc.1 hc.2.2
  · cases h
noncomputable def uY (b : Bool) : List Nat → Int → Bool → (Out → Prop) → Prop := fun l nx fu K => l.length ≤ 12 ∧ nx = Int.ofNat nx.toNat ∧ nx.toNat < l.length ∧ (uL l nx.toNat fu).isEmpty = b ∧ Bool.rec (motive := fun _ => Prop) (∀ c : List Nat, c = uL l nx.toNat fu → K (.fresh (slM c.length) (c.map gf) 49)) (K (.plain nilS)) b
theorem uY_ok (b : Bool) (l : List Nat) (nx : Int) (fu : Bool) (K : Out → Prop) (h : uY b l nx fu K) : ∃ o, uFn l nx fu = some o ∧ K o := by
  obtain ⟨h1, h2, h3, h4, h5⟩ := h
  refine ⟨_, if_pos ⟨h1, h2, h3⟩, ?_⟩
  unfold uOut
  cases hu : uL l nx.toNat fu with
  | nil =>
    rw [hu] at h4
    subst h4
    exact h5
  | cons y r =>
    rw [hu] at h4 h5
    subst h4
    exact h5 _ rfl
end Go.Proofs.YtgomacijdadjpaaGreatDoor
