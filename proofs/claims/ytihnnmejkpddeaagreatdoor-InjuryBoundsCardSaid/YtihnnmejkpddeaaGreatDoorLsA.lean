/-
  OWN WORK. Arguments that are slices, told by functions of their cells: one, two, or none with elements.
-/
import Derived.Test.YtihnnmejkpddeaaGreatDoorSgCX
import Derived.Test.YtihnnmejkpddeaaGreatDoorAmV
import Derived.Test.YtihnnmejkpddeaaGreatDoorAm30
namespace Go.Proofs.YtihnnmejkpddeaaGreatDoor
open Go Go.Am
noncomputable def intOf : Value → Int
 | .int .i64 x => x
 | _ => 0
noncomputable def decI : List Value → List Int
 | [] => []
 | v :: r => intOf v :: decI r
theorem decI_map : ∀ l : List Int, decI (l.map gi) = l
 | [] => rfl
 | x :: l => by
  show x :: decI (l.map gi) = x :: l
  rw [decI_map l]
noncomputable def decQ : List Value → List P2
 | a :: b :: r => (intOf a, intOf b) :: decQ r
 | _ => []
theorem decQ_cells : ∀ l : List P2, decQ (cellsP l) = l
 | [] => rfl
 | q :: l => by
  show (q.1, q.2) :: decQ (cellsP l) = q :: l
  rw [decQ_cells l]
structure TellT (α : Type) where
 cells : List α → List Value
 dec : List Value → List α
 dec_cells : ∀ l, dec (cells l) = l
 flat : ∀ l, (cells l).all (flat 3) = true
noncomputable def tiT : TellT Int := ⟨List.map gi, decI, decI_map, flat_ints⟩
noncomputable def tpT : TellT P2 := ⟨cellsP, decQ, decQ_cells, cellsP_flat⟩
section
variable {α β : Type}
def okT (T : TellT α) (cs : List Value) (n : Nat) : Prop := cs = T.cells (T.dec cs) ∧ 0 < n ∧ (T.dec cs).length = n ∧ n ≤ 65536
theorem okT_of {T : TellT α} {l : List α} {n : Nat} (h : l.length = n) (h0 : 0 < n) (h1 : n ≤ 65536) : okT T (T.cells l) n := by
 unfold okT
 rw [T.dec_cells]
 exact ⟨rfl, h0, h, h1⟩
noncomputable abbrev emS (k : Nat) : Value := .slice (some ⟨0, 0, none⟩) 0 k
noncomputable abbrev slQ (n k : Nat) : Value := .slice (some ⟨Tryz.prog.globals.size + 1, 0, none⟩) n k
noncomputable def isEm (v : Value) : Bool := match v with
 | .slice none 0 0 => true
 | .slice (some ⟨0, 0, none⟩) 0 _ => true
 | _ => false
def Emp (v : Value) : Prop := v = nilS ∨ ∃ k, v = emS k
noncomputable def s1Y {γ : Type} (z : γ) (f : List Value → Nat → List Value → γ) (vs : List Value) (B : List Cells) : γ := match vs with
 | .slice (some ⟨i, 0, none⟩) n _ :: r => match B with
  | [(cs, _, _)] => match Nat.beq i Tryz.prog.globals.size with
   | true => f cs n r
   | false => z
  | _ => z
 | _ => z
theorem s1Y_at {γ : Type} {z : γ} {f : List Value → Nat → List Value → γ} {cs : List Value} {n k e row : Nat} {r : List Value} : s1Y z f (liP n k :: r) [(cs, e, row)] = f cs n r := by
 show (match Nat.beq Tryz.prog.globals.size Tryz.prog.globals.size with
  | true => f cs n r
  | false => z) = _
 rw [Nat.beq_refl]
theorem s1Y_inv {γ : Type} {z : γ} {f : List Value → Nat → List Value → γ} {vs : List Value} {B : List Cells} : s1Y z f vs B = z ∨ ∃ (cs : List Value) (n k e row : Nat) (r : List Value), vs = liP n k :: r ∧ B = [(cs, e, row)] := by
 unfold s1Y
 split
 ·rename_i i n k r
  split
  ·rename_i cs e row
   split
   ·rename_i hi
    rw [Nat.beq_eq] at hi
    obtain rfl := hi
    exact .inr ⟨cs, n, k, e, row, r, rfl, rfl⟩
   ·exact .inl rfl
  ·exact .inl rfl
 ·exact .inl rfl
open Classical in
noncomputable def s1X (T : TellT α) (C : List α → List Value → Prop) (out : Nat → List α → List Value → Out) (vs : List Value) (B : List Cells) : Option Out :=
 s1Y none (fun cs n r => if okT T cs n ∧ C (T.dec cs) r then some (out n (T.dec cs) r) else none) vs B
noncomputable def s1AY (T : TellT α) (C : List α → List Value → Prop) (out : Nat → List α → List Value → Out) (vs : List Value) (B : List Cells) (K : Out → Prop) : Prop :=
 s1Y False (fun cs n r => okT T cs n ∧ C (T.dec cs) r ∧ K (out n (T.dec cs) r)) vs B
theorem s1A_ok {T : TellT α} {C C' : List α → List Value → Prop} {out out' : Nat → List α → List Value → Out} (hC : ∀ n l r, C' l r → C l r ∧ out' n l r = out n l r) (vs : List Value) (B : List Cells) (K : Out → Prop) (h : s1AY T C' out' vs B K) : ∃ o, s1X T C out vs B = some o ∧ K o := by
 rcases s1Y_inv (z := False) (f := fun cs n r => okT T cs n ∧ C' (T.dec cs) r ∧ K (out' n (T.dec cs) r)) (vs := vs) (B := B) with q | ⟨cs, n, k, e, row, r, rfl, rfl⟩
 ·unfold s1AY at h; rw [q] at h; exact h.elim
 ·unfold s1AY at h
  rw [s1Y_at] at h
  obtain ⟨h1, h2, h3⟩ := h
  obtain ⟨k1, k2⟩ := hC n _ _ h2
  refine ⟨out n (T.dec cs) r, ?_, by rw [← k2]; exact h3⟩
  unfold s1X
  rw [s1Y_at, if_pos ⟨h1, k1⟩]
noncomputable abbrev s1O (T : TellT α) (C : List α → List Value → Prop) (out : Nat → List α → List Value → Out) : Array Value → AHeap → Option (Value × AHeap) := anyO Tryz.prog.globals.size (s1X T C out)
theorem s1O_ok {T : TellT α} {f : FuncId} {C : List α → List Value → Prop} {out : Nat → List α → List Value → Out} {orc : Orc} (ho : OrcOk Tryz.prog orc) (hout : ∀ n l r, C l r → (out n l r).Ok)
  (hk : ∀ (l : List α) (m k e row : Nat) (r : List Value), l.length = m + 1 → m + 1 ≤ 65536 → C l r → CallJ Tryz.prog f (liP (m + 1) k :: r).toArray (canon Tryz.prog [(T.cells l, e, row)]) (out (m + 1) l r).Got) : OrcOk Tryz.prog (orElse f (s1O T C out) orc) := by
 refine anyO_ok globs_pos ho fun vs B o h _ => ?_
 rcases s1Y_inv (z := (none : Option Out)) (f := fun cs n r => open Classical in if okT T cs n ∧ C (T.dec cs) r then some (out n (T.dec cs) r) else none) (vs := vs) (B := B) with q | ⟨cs, n, k, e, row, r, rfl, rfl⟩
 ·unfold s1X at h; rw [q] at h; cases h
 ·unfold s1X at h
  rw [s1Y_at] at h
  split at h
  ·rename_i hc
   cases h
   obtain ⟨⟨h1, h2, h3, h4⟩, h5⟩ := hc
   obtain ⟨m, rfl⟩ : ∃ m, n = m + 1 := ⟨n - 1, by omega⟩
   refine ⟨hout _ _ _ h5, ?_⟩
   have q := hk (T.dec cs) m k e row r h3 h4 h5
   rw [← h1] at q
   exact q
  ·cases h
noncomputable def s2Y {γ : Type} (z : γ) (f : List Value → Nat → List Value → Nat → List Value → γ) (vs : List Value) (B : List Cells) : γ := match vs with
 | .slice (some ⟨i, 0, none⟩) n _ :: .slice (some ⟨j, 0, none⟩) n' _ :: r => match B with
  | [(cs, _, _), (cs', _, _)] => match Nat.beq i Tryz.prog.globals.size && Nat.beq j (Tryz.prog.globals.size + 1) with
   | true => f cs n cs' n' r
   | false => z
  | _ => z
 | _ => z
theorem s2Y_at {γ : Type} {z : γ} {f : List Value → Nat → List Value → Nat → List Value → γ} {cs cs' : List Value} {n k e row n' k' e' row' : Nat} {r : List Value} : s2Y z f (liP n k :: slQ n' k' :: r) [(cs, e, row), (cs', e', row')] = f cs n cs' n' r := by
 show (match Nat.beq Tryz.prog.globals.size Tryz.prog.globals.size && Nat.beq (Tryz.prog.globals.size + 1) (Tryz.prog.globals.size + 1) with
  | true => f cs n cs' n' r
  | false => z) = _
 rw [Nat.beq_refl, Nat.beq_refl]; rfl
theorem s2Y_inv {γ : Type} {z : γ} {f : List Value → Nat → List Value → Nat → List Value → γ} {vs : List Value} {B : List Cells} : s2Y z f vs B = z ∨ ∃ (cs : List Value) (n k e row : Nat) (cs' : List Value) (n' k' e' row' : Nat) (r : List Value), vs = liP n k :: slQ n' k' :: r ∧ B = [(cs, e, row), (cs', e', row')] := by
 unfold s2Y
 split
 ·rename_i i n k j n' k' r
  split
  ·rename_i cs e row cs' e' row'
   split
   ·rename_i hi
    rw [Bool.and_eq_true, Nat.beq_eq, Nat.beq_eq] at hi
    obtain ⟨rfl, rfl⟩ := hi
    exact .inr ⟨cs, n, k, e, row, cs', n', k', e', row', r, rfl, rfl⟩
   ·exact .inl rfl
  ·exact .inl rfl
 ·exact .inl rfl
abbrev S2C (α β : Type) := List α → List β → List Value → Prop
abbrev S2O (α β : Type) := List α → List β → List Value → Out
open Classical in
noncomputable def s2X (T : TellT α) (U : TellT β) (C : S2C α β) (out : S2O α β) (vs : List Value) (B : List Cells) : Option Out :=
 s2Y none (fun cs n cs' n' r => if okT T cs n ∧ okT U cs' n' ∧ C (T.dec cs) (U.dec cs') r then some (out (T.dec cs) (U.dec cs') r) else none) vs B
noncomputable def s2AY (T : TellT α) (U : TellT β) (C : S2C α β) (out : S2O α β) (vs : List Value) (B : List Cells) (K : Out → Prop) : Prop :=
 s2Y False (fun cs n cs' n' r => okT T cs n ∧ okT U cs' n' ∧ C (T.dec cs) (U.dec cs') r ∧ K (out (T.dec cs) (U.dec cs') r)) vs B
theorem s2A_ok {T : TellT α} {U : TellT β} {C C' : S2C α β} {out out' : S2O α β} (hC : ∀ l l' r, C' l l' r → C l l' r ∧ out' l l' r = out l l' r) (vs : List Value) (B : List Cells) (K : Out → Prop) (h : s2AY T U C' out' vs B K) : ∃ o, s2X T U C out vs B = some o ∧ K o := by
 rcases s2Y_inv (z := False) (f := fun cs n cs' n' r => okT T cs n ∧ okT U cs' n' ∧ C' (T.dec cs) (U.dec cs') r ∧ K (out' (T.dec cs) (U.dec cs') r)) (vs := vs) (B := B) with q | ⟨cs, n, k, e, row, cs', n', k', e', row', r, rfl, rfl⟩
 ·unfold s2AY at h; rw [q] at h; exact h.elim
 ·unfold s2AY at h
  rw [s2Y_at] at h
  obtain ⟨h1, h2, h3, h4⟩ := h
  obtain ⟨k1, k2⟩ := hC _ _ _ h3
  refine ⟨out (T.dec cs) (U.dec cs') r, ?_, by rw [← k2]; exact h4⟩
  unfold s2X
  rw [s2Y_at, if_pos ⟨h1, h2, k1⟩]
noncomputable abbrev s2Oo (T : TellT α) (U : TellT β) (C : S2C α β) (out : S2O α β) : Array Value → AHeap → Option (Value × AHeap) := anyO Tryz.prog.globals.size (s2X T U C out)
theorem s2O_ok {T : TellT α} {U : TellT β} {f : FuncId} {C : S2C α β} {out : S2O α β} {orc : Orc} (ho : OrcOk Tryz.prog orc) (hout : ∀ l l' r, C l l' r → (out l l' r).Ok)
  (hk : ∀ (l : List α) (l' : List β) (m k e row m' k' e' row' : Nat) (r : List Value), l.length = m + 1 → m + 1 ≤ 65536 → l'.length = m' + 1 → m' + 1 ≤ 65536 → C l l' r →
   CallJ Tryz.prog f (liP (m + 1) k :: slQ (m' + 1) k' :: r).toArray (canon Tryz.prog [(T.cells l, e, row), (U.cells l', e', row')]) (out l l' r).Got) : OrcOk Tryz.prog (orElse f (s2Oo T U C out) orc) := by
 refine anyO_ok globs_pos ho fun vs B o h _ => ?_
 rcases s2Y_inv (z := (none : Option Out)) (f := fun cs n cs' n' r => open Classical in if okT T cs n ∧ okT U cs' n' ∧ C (T.dec cs) (U.dec cs') r then some (out (T.dec cs) (U.dec cs') r) else none) (vs := vs) (B := B) with q | ⟨cs, n, k, e, row, cs', n', k', e', row', r, rfl, rfl⟩
 ·unfold s2X at h; rw [q] at h; cases h
 ·unfold s2X at h
  rw [s2Y_at] at h
  split at h
  ·rename_i hc
   cases h
   obtain ⟨⟨h1, h2, h3, h4⟩, ⟨g1, g2, g3, g4⟩, h5⟩ := hc
   obtain ⟨m, rfl⟩ : ∃ m, n = m + 1 := ⟨n - 1, by omega⟩
   obtain ⟨m', rfl⟩ : ∃ m', n' = m' + 1 := ⟨n' - 1, by omega⟩
   refine ⟨hout _ _ _ h5, ?_⟩
   have q := hk (T.dec cs) (U.dec cs') m k e row m' k' e' row' r h3 h4 g3 g4 h5
   rw [← h1, ← g1] at q
   exact q
  ·cases h
noncomputable def efY {γ : Type} (z : γ) (f : List Value → Nat → List Value → γ) (vs : List Value) (B : List Cells) : γ := match vs with
 | v :: .slice (some ⟨j, 0, none⟩) n' _ :: r => match isEm v with
  | true => match B with
   | [(cs', _, _)] => match Nat.beq j Tryz.prog.globals.size with
    | true => f cs' n' r
    | false => z
   | _ => z
  | false => z
 | _ => z
noncomputable def feY {γ : Type} (z : γ) (f : List Value → Nat → List Value → γ) (vs : List Value) (B : List Cells) : γ := match vs with
 | .slice (some ⟨i, 0, none⟩) n _ :: v :: r => match isEm v with
  | true => match B with
   | [(cs, _, _)] => match Nat.beq i Tryz.prog.globals.size with
    | true => f cs n r
    | false => z
   | _ => z
  | false => z
 | _ => z
abbrev E1C (α : Type) := List α → List Value → Prop
abbrev E1O (α : Type) := List α → List Value → Out
open Classical in
noncomputable def efX (T : TellT α) (C : E1C α) (out : E1O α) (vs : List Value) (B : List Cells) : Option Out := efY none (fun cs n r => if okT T cs n ∧ C (T.dec cs) r then some (out (T.dec cs) r) else none) vs B
open Classical in
noncomputable def feX (T : TellT α) (C : E1C α) (out : E1O α) (vs : List Value) (B : List Cells) : Option Out := feY none (fun cs n r => if okT T cs n ∧ C (T.dec cs) r then some (out (T.dec cs) r) else none) vs B
noncomputable def efAY (T : TellT α) (C : E1C α) (out : E1O α) (vs : List Value) (B : List Cells) (K : Out → Prop) : Prop := efY False (fun cs n r => okT T cs n ∧ C (T.dec cs) r ∧ K (out (T.dec cs) r)) vs B
noncomputable def feAY (T : TellT α) (C : E1C α) (out : E1O α) (vs : List Value) (B : List Cells) (K : Out → Prop) : Prop := feY False (fun cs n r => okT T cs n ∧ C (T.dec cs) r ∧ K (out (T.dec cs) r)) vs B
end
end Go.Proofs.YtihnnmejkpddeaaGreatDoor
