/-
  OWN WORK. Rings: samples are written, by the program: known.
-/
import Derived.Test.YtgomacijdadjpaaGreatDoorRgD
namespace Go.Proofs.YtgomacijdadjpaaGreatDoor
open Go Go.Am

noncomputable def ring2X (F : List Nat → Int → Bool → List Nat → Option Out) : List Value → List Cells → Option Out := fun vs B => match vs, B with
  | [.agg a, .slice none 0 0], [b] => ringX (fun l nx fu => F l nx fu []) [.agg a] [b]
  | [.agg a, .slice (some ⟨0, 0, none⟩) 0 _], [b] => ringX (fun l nx fu => F l nx fu []) [.agg a] [b]
  | [.agg a, .slice (some ⟨i, 0, none⟩) p q], [b, (c, _, rl)] => match decs dF c with
    | some m => match Nat.beq i (Tryz.prog.globals.size + 1) && Nat.blt 0 p && Nat.ble p m.length && Nat.ble p 1000000 && Nat.ble p q && (Nat.beq rl 0 || Nat.beq rl 2) with
      | true => ringX (fun l nx fu => F l nx fu (m.take p)) [.agg a] [b]
      | false => none
    | none => none
  | _, _ => none
/-- The second list: nil, empty, or of some samples. -/
inductive Second : List Value → List Cells → List Nat → Prop
  | nil : Second [nilS] [] []
  | emp (q : Nat) : Second [.slice (some ⟨0, 0, none⟩) 0 q] [] []
  | full (m : List Nat) (p q el rl : Nat) (h0 : 0 < p) (h1 : p ≤ m.length) (h2 : p ≤ 1000000) (h3 : p ≤ q) : Second [slA' p q] [(m.map gf, el, rl)] (m.take p)
theorem ring2X_some {F : List Nat → Int → Bool → List Nat → Option Out} {vs : List Value} {B : List Cells} {o : Out} (h : ring2X F vs B = some o) : ∃ (l : List Nat) (n k e row : Nat) (nx : Int) (fu : Bool) (v2 : List Value) (B2 : List Cells) (L : List Nat), vs = rgV Tryz.prog.globals.size n k nx fu :: v2 ∧ B = (l.map gf, e, row) :: B2 ∧ Second v2 B2 L ∧ 0 < n ∧ n = l.length ∧ n ≤ 1000000 ∧ n ≤ k ∧ (row = 0 ∨ row = 2) ∧ F (l.take n) nx fu L = some o := by
  unfold ring2X at h
  split at h
  · rename_i a b
    obtain ⟨l, n, k, e, row, nx, fu, e1, e2, h0, h1, h2, h3, hw, h⟩ := ringX_some h
    injection e1 with e1 _
    injection e2 with e2 _
    rw [e1, e2]
    exact ⟨l, n, k, e, row, nx, fu, _, _, _, rfl, rfl, .nil, h0, h1, h2, h3, hw, h⟩
  · rename_i a q b
    obtain ⟨l, n, k, e, row, nx, fu, e1, e2, h0, h1, h2, h3, hw, h⟩ := ringX_some h
    injection e1 with e1 _
    injection e2 with e2 _
    rw [e1, e2]
    exact ⟨l, n, k, e, row, nx, fu, _, _, _, rfl, rfl, .emp q, h0, h1, h2, h3, hw, h⟩
  · rename_i a i p q b c el rl
    split at h
    · rename_i m hm
      split at h
      · rename_i hc
        simp only [Bool.and_eq_true, Nat.ble_eq, Nat.blt_eq, Bool.or_eq_true, Nat.beq_eq] at hc
        obtain ⟨⟨⟨⟨⟨rfl, g0⟩, g1⟩, g2⟩, g3⟩, gw⟩ := hc
        obtain rfl := decs_some dF_some hm
        obtain ⟨l, n, k, e, row, nx, fu, e1, e2, h0, h1, h2, h3, hw, h⟩ := ringX_some h
        injection e1 with e1 _
        injection e2 with e2 _
        rw [e1, e2]
        exact ⟨l, n, k, e, row, nx, fu, _, _, _, rfl, rfl, .full m p q el rl g0 g1 g2 g3, h0, h1, h2, h3, hw, h⟩
      · cases h
    · cases h
  · cases h
noncomputable def ring2Y (Y : List Nat → Int → Bool → List Nat → (Out → Prop) → Prop) : List Value → List Cells → (Out → Prop) → Prop := fun vs B K => match vs, B with
  | [.agg a, .slice none 0 0], [b] => ringY (fun l nx fu => Y l nx fu []) [.agg a] [b] K
  | [.agg a, .slice (some ⟨0, 0, none⟩) 0 _], [b] => ringY (fun l nx fu => Y l nx fu []) [.agg a] [b] K
  | [.agg a, .slice (some ⟨i, 0, none⟩) p q], [b, (c, _, rl)] => ∃ m : List Nat, c = m.map gf ∧ Nat.beq i (Tryz.prog.globals.size + 1) = true ∧ 0 < p ∧ p ≤ m.length ∧ p ≤ 1000000 ∧ p ≤ q ∧ (Nat.beq rl 0 || Nat.beq rl 2) = true ∧ ringY (fun l nx fu => Y l nx fu (m.take p)) [.agg a] [b] K
  | _, _ => False
theorem ring2Y_ok {F : List Nat → Int → Bool → List Nat → Option Out} {Y : List Nat → Int → Bool → List Nat → (Out → Prop) → Prop} (hY : ∀ l nx fu L K, Y l nx fu L K → ∃ o, F l nx fu L = some o ∧ K o) (vs : List Value) (B : List Cells) (K : Out → Prop) (h : ring2Y Y vs B K) : ∃ o, ring2X F vs B = some o ∧ K o := by
  unfold ring2Y at h
  split at h
  · exact ringY_ok (F := fun l nx fu => F l nx fu []) (fun l nx fu K hk => hY l nx fu [] K hk) _ _ _ h
  · exact ringY_ok (F := fun l nx fu => F l nx fu []) (fun l nx fu K hk => hY l nx fu [] K hk) _ _ _ h
  · rename_i a i p q b c el rl
    obtain ⟨m, rfl, hi, h0, h1, h2, h3, hw, hk⟩ := h
    obtain ⟨o, ho, hK⟩ := ringY_ok (F := fun l nx fu => F l nx fu (m.take p)) (fun l nx fu K hk => hY l nx fu (m.take p) K hk) _ _ _ hk
    refine ⟨o, ?_, hK⟩
    have e0 : Nat.blt 0 p = true := by rw [Nat.blt_eq]; exact h0
    have e1 : Nat.ble p m.length = true := by rw [Nat.ble_eq]; exact h1
    have e2 : Nat.ble p 1000000 = true := by rw [Nat.ble_eq]; exact h2
    have e3 : Nat.ble p q = true := by rw [Nat.ble_eq]; exact h3
    obtain ⟨p', rfl⟩ : ∃ p', p = p' + 1 := ⟨p - 1, by omega⟩
    unfold ring2X
    simp only [decs_map (d := dF) (e := gf) (fun _ => rfl), hi, e0, e1, e2, e3, hw, Bool.and_self]
    exact ho
  · exact h.elim
/-- A ring that names one new block, and an error. -/
def mkG (n : Nat) (x : Int) (f : Bool) : Nat → Value := fun b => .agg #[.slice (some ⟨b, 0, none⟩) n n, .int .i64 x, .bool f]
def mkT (n : Nat) (x : Int) (f : Bool) : Nat → Value := fun b => .tuple #[mkG n x f b, .int .i64 0]
theorem ren_G (n : Nat) (x : Int) (f : Bool) (r m : Nat) : Ren (fun j => if j = m then some r else none) (mkG n x f r) (mkG n x f m) := by
  refine .agg (l := [.slice (some ⟨r, 0, none⟩) n n, .int .i64 x, .bool f]) (l₂ := [.slice (some ⟨m, 0, none⟩) n n, .int .i64 x, .bool f]) rfl fun i a b ha hb => ?_
  match i, ha, hb with
  | 0, ha, hb => cases ha; cases hb; exact .slice (by simp)
  | 1, ha, hb => cases ha; cases hb; exact .flat rfl
  | 2, ha, hb => cases ha; cases hb; exact .flat rfl
theorem born_G {n : Nat} {x : Int} {f : Bool} {r : Nat} {ρ : Rho} {c : Value} (hv : VRel ρ (mkG n x f r) c) : ρ r ≠ .unborn :=
  Mentions.born (.inr (.inr ⟨#[.slice (some ⟨r, 0, none⟩) n n, .int .i64 x, .bool f], 0, n, n, rfl, .head _⟩)) hv
theorem names_G (n : Nat) (x : Int) (f : Bool) : Names (mkG n x f) where
  ren := fun r m => ren_G n x f r m
  born := fun _ _ _ hv => born_G hv
theorem names_T (n : Nat) (x : Int) (f : Bool) : Names (mkT n x f) where
  ren := fun r m => by
    refine .tuple (l := [mkG n x f r, .int .i64 0]) (l₂ := [mkG n x f m, .int .i64 0]) rfl fun i a b ha hb => ?_
    match i, ha, hb with
    | 0, ha, hb => cases ha; cases hb; exact ren_G n x f r m
    | 1, ha, hb => cases ha; cases hb; exact .flat rfl
  born := fun r ρ c hv => by
    obtain ⟨vs, rfl, e1, e2⟩ := hv.unfold
    have hlt : 0 < vs.size := by rw [← e1]; simp
    exact born_G (e2 0 (mkG n x f r) vs[0] rfl (Array.getElem?_eq_getElem hlt))
noncomputable abbrev zRg : Value := .agg #[nilS, gi 0, .bool false]
noncomputable def wrE (l : List Nat) (nx : Int) (fu : Bool) (L : List Nat) : Int := firstS [ckR l nx fu, csE L]
noncomputable def wrZ (l : List Nat) (nx : Int) (fu : Bool) (L : List Nat) : WSt := wrF l.length (l, nx.toNat, fu) L
noncomputable def wrOut (l : List Nat) (nx : Int) (fu : Bool) (L : List Nat) : Out := bif ieq (wrE l nx fu L) 0 then .fresh (mkT l.length (Int.ofNat (wX (wrZ l nx fu L))) (wB (wrZ l nx fu L))) ((wC (wrZ l nx fu L)).map gf) 49 else .plain (.tuple #[zRg, gi (wrE l nx fu L)])
end Go.Proofs.YtgomacijdadjpaaGreatDoor
