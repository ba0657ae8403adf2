/-
  OWN WORK. Stage 6: the longest span, how many are from a level on, what is held: known calls.
-/
import Derived.Test.YtihnnmejkpddeaaGreatDoorLvJO
namespace Go.Proofs.YtihnnmejkpddeaaGreatDoor
open Go Go.Am
theorem okIv {l : List Int} {m : Nat} (hl : l.length = m + 1) (h1 : m + 1 ≤ 65536) : okT tiT (l.map gi) (m + 1) := okT_of (T := tiT) hl (Nat.succ_pos m) h1
theorem decTv (l : List Int) : TellT.dec tiT (l.map gi) = l := decI_map l
def clCv (_ : List Int) (r : List Value) : Prop := r = []
noncomputable abbrev cloOv (n : Nat) (l : List Int) (_ : List Value) : Out := .wide (slM n) (l.map gi) 3 2
def lvC (_ : List Int) (r : List Value) : Prop := r = [gi (xOf r)]
noncomputable abbrev lgO (_ : Nat) (l : List Int) (r : List Value) : Out := .plain (.agg #[goN (lgE (xOf r) l).1, goN (lgE (xOf r) l).2])
noncomputable abbrev raO (_ : Nat) (l : List Int) (r : List Value) : Out := .plain (goN (kpL (xOf r) l).length)
def rhC (l : List Int) (r : List Value) : Prop := r = [goN (xOf r).toNat] ∧ 0 < (xOf r).toNat ∧ (xOf r).toNat ≤ l.length
noncomputable abbrev rhO (n : Nat) (l : List Int) (r : List Value) : Out := .plain (.tuple #[gi (rhS (l.map gi) (xOf r).toNat (n + 1 - (xOf r).toNat)).1, .agg #[goN (rhS (l.map gi) (xOf r).toNat (n + 1 - (xOf r).toNat)).2.1, goN (rhS (l.map gi) (xOf r).toNat (n + 1 - (xOf r).toNat)).2.2]])
theorem hv_of {l : List Int} {n s k row : Nat} (hl : l.length = n) (h1 : n ≤ 65536) (h0 : 0 < s) (hs : s ≤ n) (hk : n ≤ k) (hr : (Nat.beq row 0 || Nat.beq row 2) = true) : HvC (l.map gi) row n k s where
 cf := flat_ints l
 rw := hr
 nk := hk
 n1 := h1
 s1 := h0
 s2 := by omega
 at_ := fun j hj => by
  have hj : j < l.length := by omega
  have := List.getElem?_eq_getElem (l := l.map gi) (i := j) (by rw [List.length_map]; exact hj)
  rw [this, List.getElem_map]
  have q := (cell_at (l := l) (List.getElem?_eq_getElem hj)).2
  rw [show 0 + j * 1 = j by omega] at q
  exact congrArg some (congrArg gi q.symm)
noncomputable def keY {γ : Type} (z : γ) (f : List Value → Nat → List Value → Value → γ) (vs : List Value) (B : List Cells) : γ := match vs with
 | .slice (some ⟨i, 0, none⟩) n _ :: r => match B with
  | [(cs, _, _), ([x], _, _)] => match Nat.beq i Tryz.prog.globals.size with
   | true => f cs n r x
   | false => z
  | _ => z
 | _ => z
def keC (cs : List Value) (n : Nat) (r : List Value) (x : Value) : Prop := okT tiT cs n ∧ r = [cAb] ∧ x = gi (intOf x)
noncomputable def keU (l : List Int) : Out := match l with
 | [] => .plain nilS
 | l => .wide (slM l.length) (l.map gi) 3 2
open Classical in
noncomputable def keX (vs : List Value) (B : List Cells) : Option Out := keY none (fun cs n r x => if keC cs n r x then some (keU (kpL (intOf x) (TellT.dec tiT cs))) else none) vs B
noncomputable def keAY (b : Bool) (vs : List Value) (B : List Cells) (K : Out → Prop) : Prop := keY False (fun cs n r x => keC cs n r x ∧ (bif b then kpL (intOf x) (TellT.dec tiT cs) = [] ∧ K (.plain nilS) else kpL (intOf x) (TellT.dec tiT cs) ≠ [] ∧ K (.wide (slM ((kpL (intOf x) (TellT.dec tiT cs)).length - 1 + 1)) ((kpL (intOf x) (TellT.dec tiT cs)).map gi) 3 2))) vs B
noncomputable def hdY {γ : Type} (z : γ) (f : List Value → Nat → Nat → Nat → List Value → γ) (vs : List Value) (B : List Cells) : γ := match vs with
 | .slice (some ⟨i, 0, none⟩) n k :: r => match B with
  | [(cs, _, row)] => match Nat.beq i Tryz.prog.globals.size with
   | true => f cs n k row r
   | false => z
  | _ => z
 | _ => z
theorem hdY_at {γ : Type} {z : γ} {f : List Value → Nat → Nat → Nat → List Value → γ} {cs : List Value} {n k e row : Nat} {r : List Value} : hdY z f (liP n k :: r) [(cs, e, row)] = f cs n k row r := by
 show (match Nat.beq Tryz.prog.globals.size Tryz.prog.globals.size with
  | true => f cs n k row r
  | false => z) = _
 rw [Nat.beq_refl]
theorem hdY_inv {γ : Type} {z : γ} {f : List Value → Nat → Nat → Nat → List Value → γ} {vs : List Value} {B : List Cells} : hdY z f vs B = z ∨ ∃ (cs : List Value) (n k e row : Nat) (r : List Value), vs = liP n k :: r ∧ B = [(cs, e, row)] := by
 unfold hdY
 split
 ·rename_i i n k r
  split
  ·rename_i cs e row
   split
   ·rename_i hi
    rw [Nat.beq_eq] at hi
    obtain rfl := hi
    exact .inr ⟨cs, n, k, e, row, r, rfl, rfl⟩
   ·exact .inl rfl
  ·exact .inl rfl
 ·exact .inl rfl
def hdC (cs : List Value) (n k row : Nat) (r : List Value) : Prop := r = [goN (xOf r).toNat] ∧ HvC cs row n k (xOf r).toNat ∧ (xOf r).toNat ≤ n ∧ -16385 < wnF cs 0 (xOf r).toNat
noncomputable abbrev hdF (cs : List Value) (n : Nat) (r : List Value) : Value := .tuple #[gi (rhS cs (xOf r).toNat (n + 1 - (xOf r).toNat)).1, goN (rhS cs (xOf r).toNat (n + 1 - (xOf r).toNat)).2.1]
open Classical in
noncomputable def hdX (vs : List Value) (B : List Cells) : Option Out := hdY none (fun cs n k row r => if hdC cs n k row r then some (.plain (hdF cs n r)) else none) vs B
noncomputable def hdAY (vs : List Value) (B : List Cells) (K : Out → Prop) : Prop := hdY False (fun cs n k row r => hdC cs n k row r ∧ K (.plain (hdF cs n r))) vs B
theorem inv_run (l : List Int) (m e row k : Nat) (K : Value → AHeap → Prop) : callC Tryz.prog (exec Tryz.prog orcLa 20) (syOf [(5, 16)]) askLa (noLoops _) 40 16 #[liP (m + 1) k] (canon Tryz.prog [(l.map gi, e, row)]) K = ((Nat.ble (0 + (m + 1)) (List.length (List.map gi l)) = true ∧ Nat.ble (((2 * (m + 1)) + 256) * 8) 281474976710656 = true ∧ List.all (List.take (m + 1) (List.drop 0 (List.map gi l))) Value.oneCell' = true ∧ K (Value.slice (some ⟨nG1 + 2, 0, none⟩) (m + 1) (m + 1)) ((((canon Tryz.prog [Prod.mk (List.map gi l) (Prod.mk e row)]).push (.cells [] 3 2 false)).set (nG1 + 1) (.dead)).push (.cells (List.take (m + 1) (List.drop 0 (List.map gi l))) 3 2 false)))) := by kernel_rfl
theorem shv_1 (c : List Value) (n k e row : Nat) (K : Value → Prop) : callC Tryz.prog (exec Tryz.prog orcLa 20) (syOf [(5, 31)]) askLa (noLoops _) 40 14 #[liP n k] (canon Tryz.prog [(c, e, row)]) (fun v _ => K v) = (((!(ilt 40 (Int.ofNat n))) = true ∧ K (Value.bool true))) := by kernel_rfl
theorem shv_0 (c : List Value) (n k e row : Nat) (K : Value → Prop) : callC Tryz.prog (exec Tryz.prog orcLa 20) (syOf [(5, 32)]) askLa (noLoops _) 40 14 #[liP n k] (canon Tryz.prog [(c, e, row)]) (fun v _ => K v) = (((!(ilt 40 (Int.ofNat n))) = false ∧ K (Value.bool (ieq (Int.ofNat n) 129)))) := by kernel_rfl
noncomputable def shBv (n : Nat) : Bool := bif !ilt 40 (Int.ofNat n) then true else ieq (Int.ofNat n) 129
noncomputable def shXv (vs : List Value) (B : List Cells) : Option Out := s1Y none (fun _ n r => match r with
 | [] => some (.plain (.bool (shBv n)))
 | _ => none) vs B
noncomputable def vshY (vs : List Value) (B : List Cells) (K : Out → Prop) : Prop := s1Y False (fun _ n r => match r with
 | [] => K (.plain (.bool (shBv n)))
 | _ => False) vs B
theorem vshY_ok (vs : List Value) (B : List Cells) (K : Out → Prop) (h : vshY vs B K) : ∃ o, shXv vs B = some o ∧ K o := by
 rcases s1Y_inv (z := False) (f := fun _ n r => match r with
 | [] => K (.plain (.bool (shBv n)))
 | _ => False) (vs := vs) (B := B) with q | ⟨cs, n, k, e, row, r, rfl, rfl⟩
 ·unfold vshY at h; rw [q] at h; exact h.elim
 ·unfold vshY at h
  rw [s1Y_at] at h
  unfold shXv
  rw [s1Y_at]
  match r, h with
  | [], h => exact ⟨_, rfl, h⟩
noncomputable def orcLb0 : Orc := orElse 35 (s1O tiT nonC serO) (orElse 16 (s1O tiT clCv cloOv) (orElse 14 (anyO Tryz.prog.globals.size shXv) orcLa))
noncomputable def orcLb : Orc := orElse 97 (s1O tiT lvC lgO) (orElse 32 (s1O tiT lvC lgO) (orElse 33 (s1O tiT lvC raO) (orElse 34 (s1O tiT rhC rhO) (orElse 98 (anyO Tryz.prog.globals.size keX) (orElse 101 (anyO Tryz.prog.globals.size hdX) orcLb0)))))
set_option maxRecDepth 100000 in
theorem orcLb0_ok : OrcOk Tryz.prog orcLb0 := by
 refine s1O_ok (s1O_ok (anyO_ok globs_pos orcLa_ok fun vs B o h _ => ?_) (fun _ _ _ _ => ⟨names_sl _, flat_ints _⟩) ?_) (fun _ _ _ _ => rfl) ?_
 ·rcases s1Y_inv (z := (none : Option Out)) (f := fun _ n r => match r with
   | [] => some (.plain (.bool (shBv n)))
   | _ => none) (vs := vs) (B := B) with q | ⟨c, n, k, e, row, r, rfl, rfl⟩
  ·unfold shXv at h; rw [q] at h; cases h
  unfold shXv at h
  rw [s1Y_at] at h
  match r, h with
  | [], h =>
  cases h
  refine ⟨rfl, ?_⟩
  cases hs : (!(ilt 40 (Int.ofNat n))) with
  | true =>
   refine callC_ok mixed orcLa_ok askLa_ok (Eq.mpr (shv_1 c n k e row _) ⟨hs, ?_⟩)
   show Value.bool true = .bool (shBv n)
   unfold shBv; rw [hs]; rfl
  | false =>
   refine callC_ok mixed orcLa_ok askLa_ok (Eq.mpr (shv_0 c n k e row _) ⟨hs, ?_⟩)
   show Value.bool _ = .bool (shBv n)
   unfold shBv; rw [hs]; rfl
 ·rintro l m k e row r hl h1 rfl
  refine callC_ok mixed orcLa_ok askLa_ok (Eq.mpr (inv_run l m e row k _) ⟨by rw [Nat.ble_eq, List.length_map]; omega, by rw [Nat.ble_eq]; omega, ?_, nG1 + 2, rfl, ?_⟩)
  ·rw [List.drop_zero, List.take_of_length_le (by rw [List.length_map]; omega), List.all_eq_true]
   intro x hx
   obtain ⟨y, _, rfl⟩ := List.mem_map.1 hx
   rfl
  ·rw [AHeap.get_push_eq (by kernel_rfl), List.drop_zero, List.take_of_length_le (by rw [List.length_map]; omega)]
 ·rintro l m k e row r hl h1 rfl
  refine callC_ok mixed orcJc_ok askJc_ok (Eq.mpr (pse_run l m e row k _) ⟨⟨flat_ints l, trivial⟩, okIv hl h1, rfl, ?_⟩)
  rw [decTv]
  show gi (firstS [cnE (Int.ofNat (m + 1)) 128, firstE uE l]) = gi (serE l)
  unfold serE; rw [hl]
theorem okP_map (x : Int) (r : List Int) (h : r.length + 1 ≤ 65536) : okPs (gi x :: List.map gi r) 0 (r.length + 1) := by
 refine ⟨Nat.succ_pos _, h, fun j hj => ?_⟩
 have hj : j < (x :: r).length := hj
 have g : ((x :: r).map gi)[j]? = some (gi (x :: r)[j]) := by
  rw [List.getElem?_eq_getElem (l := (x :: r).map gi) (i := j) (by rw [List.length_map]; exact hj), List.getElem_map]
 have q := (cell_at (l := x :: r) (List.getElem?_eq_getElem hj)).2
 rw [show 0 + j * 1 = j by omega] at q ⊢
 have g : (gi x :: List.map gi r)[j]? = some (gi (x :: r)[j]) := g
 rw [g]
 exact congrArg some (congrArg gi q.symm)
end Go.Proofs.YtihnnmejkpddeaaGreatDoor
