/-
  OWN WORK. Stage 6: levels known.
-/
import Derived.Test.YtihnnmejkpddeaaGreatDoorLvO
/-! (OWN WORK. Stage 6: the longest span, how many are from a level on, what is held: known calls.) -/
namespace Go.Proofs.YtihnnmejkpddeaaGreatDoor
open Go Go.Am
theorem okIv {l : List Int} {m : Nat} (hl : l.length = m + 1) (h1 : m + 1 ≤ 65536) : okT tiT (l.map gi) (m + 1) := okT_of (T := tiT) hl (Nat.succ_pos m) h1
theorem decTv (l : List Int) : TellT.dec tiT (l.map gi) = l := decI_map l
def clCv (_ : List Int) (r : List Value) : Prop := r = []
noncomputable abbrev cloOv (n : Nat) (l : List Int) (_ : List Value) : Out := .wide (slM n) (l.map gi) 3 2
def lvC (_ : List Int) (r : List Value) : Prop := r = [gi (xOf r)]
noncomputable abbrev lgO (_ : Nat) (l : List Int) (r : List Value) : Out := .plain (.agg #[goN (lgE (xOf r) l).1, goN (lgE (xOf r) l).2])
noncomputable abbrev raO (_ : Nat) (l : List Int) (r : List Value) : Out := .plain (goN (kpL (xOf r) l).length)
def rhC (l : List Int) (r : List Value) : Prop := r = [goN (xOf r).toNat] ∧ 0 < (xOf r).toNat ∧ (xOf r).toNat ≤ l.length
noncomputable abbrev rhO (n : Nat) (l : List Int) (r : List Value) : Out := .plain (.tuple #[gi (rhS (l.map gi) (xOf r).toNat (n + 1 - (xOf r).toNat)).1, .agg #[goN (rhS (l.map gi) (xOf r).toNat (n + 1 - (xOf r).toNat)).2.1, goN (rhS (l.map gi) (xOf r).toNat (n + 1 - (xOf r).toNat)).2.2]])
theorem hv_of {l : List Int} {n s k row : Nat} (hl : l.length = n) (h1 : n ≤ 65536) (h0 : 0 < s) (hs : s ≤ n) (hk : n ≤ k) (hr : (Nat.beq row 0 || Nat.beq row 2) = true) : HvC (l.map gi) row n k s where
  cf := flat_ints l
  rw := hr
  nk := hk
  n1 := h1
  s1 := h0
  s2 := by omega
  at_ := fun j hj => by
    have hj : j < l.length := by omega
    have := List.getElem?_eq_getElem (l := l.map gi) (i := j) (by rw [List.length_map]; exact hj)
    rw [this, List.getElem_map]
    have q := (cell_at (l := l) (List.getElem?_eq_getElem hj)).2
    rw [show 0 + j * 1 = j by omega] at q
    exact congrArg some (congrArg gi q.symm)
noncomputable def keY {γ : Type} (z : γ) (f : List Value → Nat → List Value → Value → γ) (vs : List Value) (B : List Cells) : γ := match vs with
  | .slice (some ⟨i, 0, none⟩) n _ :: r => match B with
    | [(cs, _, _), ([x], _, _)] => match Nat.beq i Tryz.prog.globals.size with
      | true => f cs n r x
      | false => z
    | _ => z
  | _ => z
theorem keY_at {γ : Type} {z : γ} {f : List Value → Nat → List Value → Value → γ} {cs : List Value} {n k e row e' row' : Nat} {x : Value} {r : List Value} : keY z f (liP n k :: r) [(cs, e, row), ([x], e', row')] = f cs n r x := by
  show (match Nat.beq Tryz.prog.globals.size Tryz.prog.globals.size with
    | true => f cs n r x
    | false => z) = _
  rw [Nat.beq_refl]
theorem keY_inv {γ : Type} {z : γ} {f : List Value → Nat → List Value → Value → γ} {vs : List Value} {B : List Cells} : keY z f vs B = z ∨ ∃ (cs : List Value) (n k e row e' row' : Nat) (x : Value) (r : List Value), vs = liP n k :: r ∧ B = [(cs, e, row), ([x], e', row')] := by
  unfold keY
  split
  · rename_i i n k r
    split
    · rename_i cs e row x e' row'
      split
      · rename_i hi
        rw [Nat.beq_eq] at hi
        obtain rfl := hi
        exact .inr ⟨cs, n, k, e, row, e', row', x, r, rfl, rfl⟩
      · exact .inl rfl
    · exact .inl rfl
  · exact .inl rfl
def keC (cs : List Value) (n : Nat) (r : List Value) (x : Value) : Prop := okT tiT cs n ∧ r = [cAb] ∧ x = gi (intOf x)
noncomputable def keU (l : List Int) : Out := match l with
  | [] => .plain nilS
  | l => .wide (slM l.length) (l.map gi) 3 2
open Classical in
noncomputable def keX (vs : List Value) (B : List Cells) : Option Out := keY none (fun cs n r x => if keC cs n r x then some (keU (kpL (intOf x) (TellT.dec tiT cs))) else none) vs B
noncomputable def keAY (b : Bool) (vs : List Value) (B : List Cells) (K : Out → Prop) : Prop := keY False (fun cs n r x => keC cs n r x ∧ (bif b then kpL (intOf x) (TellT.dec tiT cs) = [] ∧ K (.plain nilS) else kpL (intOf x) (TellT.dec tiT cs) ≠ [] ∧ K (.wide (slM ((kpL (intOf x) (TellT.dec tiT cs)).length - 1 + 1)) ((kpL (intOf x) (TellT.dec tiT cs)).map gi) 3 2))) vs B
theorem keA_ok (b : Bool) (vs : List Value) (B : List Cells) (K : Out → Prop) (h : keAY b vs B K) : ∃ o, keX vs B = some o ∧ K o := by
  rcases keY_inv (z := False) (f := fun cs n r x => keC cs n r x ∧ (bif b then kpL (intOf x) (TellT.dec tiT cs) = [] ∧ K (.plain nilS) else kpL (intOf x) (TellT.dec tiT cs) ≠ [] ∧ K (.wide (slM ((kpL (intOf x) (TellT.dec tiT cs)).length - 1 + 1)) ((kpL (intOf x) (TellT.dec tiT cs)).map gi) 3 2))) (vs := vs) (B := B) with q | ⟨cs, n, k, e, row, e', row', x, r, rfl, rfl⟩
  · unfold keAY at h; rw [q] at h; exact h.elim
  · unfold keAY at h
    rw [keY_at] at h
    obtain ⟨h1, h2⟩ := h
    refine ⟨keU (kpL (intOf x) (TellT.dec tiT cs)), by unfold keX; rw [keY_at, if_pos h1], ?_⟩
    cases b with
    | true =>
      obtain ⟨h3, h4⟩ := h2
      rw [h3]; exact h4
    | false =>
      obtain ⟨h3, h4⟩ := h2
      generalize kpL (intOf x) (TellT.dec tiT cs) = p at h3 h4 ⊢
      match p, h3, h4 with
      | [], h3, _ => exact absurd rfl h3
      | y :: p, _, h4 => exact h4
noncomputable def hdY {γ : Type} (z : γ) (f : List Value → Nat → Nat → Nat → List Value → γ) (vs : List Value) (B : List Cells) : γ := match vs with
  | .slice (some ⟨i, 0, none⟩) n k :: r => match B with
    | [(cs, _, row)] => match Nat.beq i Tryz.prog.globals.size with
      | true => f cs n k row r
      | false => z
    | _ => z
  | _ => z
theorem hdY_at {γ : Type} {z : γ} {f : List Value → Nat → Nat → Nat → List Value → γ} {cs : List Value} {n k e row : Nat} {r : List Value} : hdY z f (liP n k :: r) [(cs, e, row)] = f cs n k row r := by
  show (match Nat.beq Tryz.prog.globals.size Tryz.prog.globals.size with
    | true => f cs n k row r
    | false => z) = _
  rw [Nat.beq_refl]
theorem hdY_inv {γ : Type} {z : γ} {f : List Value → Nat → Nat → Nat → List Value → γ} {vs : List Value} {B : List Cells} : hdY z f vs B = z ∨ ∃ (cs : List Value) (n k e row : Nat) (r : List Value), vs = liP n k :: r ∧ B = [(cs, e, row)] := by
  unfold hdY
  split
  · rename_i i n k r
    split
    · rename_i cs e row
      split
      · rename_i hi
        rw [Nat.beq_eq] at hi
        obtain rfl := hi
        exact .inr ⟨cs, n, k, e, row, r, rfl, rfl⟩
      · exact .inl rfl
    · exact .inl rfl
  · exact .inl rfl
def hdC (cs : List Value) (n k row : Nat) (r : List Value) : Prop := r = [goN (xOf r).toNat] ∧ HvC cs row n k (xOf r).toNat ∧ (xOf r).toNat ≤ n ∧ -16385 < wnF cs 0 (xOf r).toNat
noncomputable abbrev hdF (cs : List Value) (n : Nat) (r : List Value) : Value := .tuple #[gi (rhS cs (xOf r).toNat (n + 1 - (xOf r).toNat)).1, goN (rhS cs (xOf r).toNat (n + 1 - (xOf r).toNat)).2.1]
open Classical in
noncomputable def hdX (vs : List Value) (B : List Cells) : Option Out := hdY none (fun cs n k row r => if hdC cs n k row r then some (.plain (hdF cs n r)) else none) vs B
noncomputable def hdAY (vs : List Value) (B : List Cells) (K : Out → Prop) : Prop := hdY False (fun cs n k row r => hdC cs n k row r ∧ K (.plain (hdF cs n r))) vs B
theorem hdA_ok (vs : List Value) (B : List Cells) (K : Out → Prop) (h : hdAY vs B K) : ∃ o, hdX vs B = some o ∧ K o := by
  rcases hdY_inv (z := False) (f := fun cs n k row r => hdC cs n k row r ∧ K (.plain (hdF cs n r))) (vs := vs) (B := B) with q | ⟨cs, n, k, e, row, r, rfl, rfl⟩
  · unfold hdAY at h; rw [q] at h; exact h.elim
  · unfold hdAY at h
    rw [hdY_at] at h
    exact ⟨_, by unfold hdX; rw [hdY_at, if_pos h.1], h.2⟩
theorem inv_run (l : List Int) (m e row k : Nat) (K : Value → AHeap → Prop) : callC Tryz.prog (exec Tryz.prog orcLa 20) (syOf [(5, 16)]) askLa (noLoops _) 40 16 #[liP (m + 1) k] (canon Tryz.prog [(l.map gi, e, row)]) K = ((Nat.ble (0 + (m + 1)) (List.length (List.map gi l)) = true ∧ Nat.ble (((2 * (m + 1)) + 256) * 8) 281474976710656 = true ∧ List.all (List.take (m + 1) (List.drop 0 (List.map gi l))) Value.oneCell' = true ∧ K (Value.slice (some ⟨nG1 + 2, 0, none⟩) (m + 1) (m + 1)) ((((canon Tryz.prog [Prod.mk (List.map gi l) (Prod.mk e row)]).push (.cells [] 3 2 false)).set (nG1 + 1) (.dead)).push (.cells (List.take (m + 1) (List.drop 0 (List.map gi l))) 3 2 false)))) := by kernel_rfl
theorem shv_1 (c : List Value) (n k e row : Nat) (K : Value → Prop) : callC Tryz.prog (exec Tryz.prog orcLa 20) (syOf [(5, 31)]) askLa (noLoops _) 40 14 #[liP n k] (canon Tryz.prog [(c, e, row)]) (fun v _ => K v) = (((!(ilt 40 (Int.ofNat n))) = true ∧ K (Value.bool true))) := by kernel_rfl
theorem shv_0 (c : List Value) (n k e row : Nat) (K : Value → Prop) : callC Tryz.prog (exec Tryz.prog orcLa 20) (syOf [(5, 32)]) askLa (noLoops _) 40 14 #[liP n k] (canon Tryz.prog [(c, e, row)]) (fun v _ => K v) = (((!(ilt 40 (Int.ofNat n))) = false ∧ K (Value.bool (ieq (Int.ofNat n) 129)))) := by kernel_rfl
noncomputable def shBv (n : Nat) : Bool := bif !ilt 40 (Int.ofNat n) then true else ieq (Int.ofNat n) 129
noncomputable def shXv (vs : List Value) (B : List Cells) : Option Out := s1Y none (fun _ n r => match r with
  | [] => some (.plain (.bool (shBv n)))
  | _ => none) vs B
noncomputable def vshY (vs : List Value) (B : List Cells) (K : Out → Prop) : Prop := s1Y False (fun _ n r => match r with
  | [] => K (.plain (.bool (shBv n)))
  | _ => False) vs B
theorem vshY_ok (vs : List Value) (B : List Cells) (K : Out → Prop) (h : vshY vs B K) : ∃ o, shXv vs B = some o ∧ K o := by
  rcases s1Y_inv (z := False) (f := fun _ n r => match r with
  | [] => K (.plain (.bool (shBv n)))
  | _ => False) (vs := vs) (B := B) with q | ⟨cs, n, k, e, row, r, rfl, rfl⟩
  · unfold vshY at h; rw [q] at h; exact h.elim
  · unfold vshY at h
    rw [s1Y_at] at h
    unfold shXv
    rw [s1Y_at]
    match r, h with
    | [], h => exact ⟨_, rfl, h⟩
theorem getK (l : List Int) (v : Int) (e row e' row' : Nat) : (gD Tryz.prog (keB (l.map gi) e row v e' row') ((kpL v l).map gi) 3).get (nG1 + 2) = some (.cells ((kpL v l).map gi) 3 2 false) := gD_dst (P := Tryz.prog) (C := keB (l.map gi) e row v e' row')
noncomputable def orcLb0 : Orc := orElse 35 (s1O tiT nonC serO) (orElse 16 (s1O tiT clCv cloOv) (orElse 14 (anyO Tryz.prog.globals.size shXv) orcLa))
noncomputable def orcLb : Orc := orElse 97 (s1O tiT lvC lgO) (orElse 32 (s1O tiT lvC lgO) (orElse 33 (s1O tiT lvC raO) (orElse 34 (s1O tiT rhC rhO) (orElse 98 (anyO Tryz.prog.globals.size keX) (orElse 101 (anyO Tryz.prog.globals.size hdX) orcLb0)))))
set_option maxRecDepth 100000 in
theorem orcLb0_ok : OrcOk Tryz.prog orcLb0 := by
  refine s1O_ok (s1O_ok (anyO_ok globs_pos orcLa_ok fun vs B o h _ => ?_) (fun _ _ _ _ => ⟨names_sl _, flat_ints _⟩) ?_) (fun _ _ _ _ => rfl) ?_
  · rcases s1Y_inv (z := (none : Option Out)) (f := fun _ n r => match r with
      | [] => some (.plain (.bool (shBv n)))
      | _ => none) (vs := vs) (B := B) with q | ⟨c, n, k, e, row, r, rfl, rfl⟩
    · unfold shXv at h; rw [q] at h; cases h
    unfold shXv at h
    rw [s1Y_at] at h
    match r, h with
    | [], h =>
    cases h
    refine ⟨rfl, ?_⟩
    cases hs : (!(ilt 40 (Int.ofNat n))) with
    | true =>
      refine callC_ok mixed orcLa_ok askLa_ok (Eq.mpr (shv_1 c n k e row _) ⟨hs, ?_⟩)
      show Value.bool true = .bool (shBv n)
      unfold shBv; rw [hs]; rfl
    | false =>
      refine callC_ok mixed orcLa_ok askLa_ok (Eq.mpr (shv_0 c n k e row _) ⟨hs, ?_⟩)
      show Value.bool _ = .bool (shBv n)
      unfold shBv; rw [hs]; rfl
  · rintro l m k e row r hl h1 rfl
    refine callC_ok mixed orcLa_ok askLa_ok (Eq.mpr (inv_run l m e row k _) ⟨by rw [Nat.ble_eq, List.length_map]; omega, by rw [Nat.ble_eq]; omega, ?_, nG1 + 2, rfl, ?_⟩)
    · rw [List.drop_zero, List.take_of_length_le (by rw [List.length_map]; omega), List.all_eq_true]
      intro x hx
      obtain ⟨y, _, rfl⟩ := List.mem_map.1 hx
      rfl
    · rw [AHeap.get_push_eq (by kernel_rfl), List.drop_zero, List.take_of_length_le (by rw [List.length_map]; omega)]
  · rintro l m k e row r hl h1 rfl
    refine callC_ok mixed orcJc_ok askJc_ok (Eq.mpr (pse_run l m e row k _) ⟨⟨flat_ints l, trivial⟩, okIv hl h1, rfl, ?_⟩)
    rw [decTv]
    show gi (firstS [cnE (Int.ofNat (m + 1)) 128, firstE uE l]) = gi (serE l)
    unfold serE; rw [hl]
theorem okP_map (x : Int) (r : List Int) (h : r.length + 1 ≤ 65536) : okPs (gi x :: List.map gi r) 0 (r.length + 1) := by
  refine ⟨Nat.succ_pos _, h, fun j hj => ?_⟩
  have hj : j < (x :: r).length := hj
  have g : ((x :: r).map gi)[j]? = some (gi (x :: r)[j]) := by
    rw [List.getElem?_eq_getElem (l := (x :: r).map gi) (i := j) (by rw [List.length_map]; exact hj), List.getElem_map]
  have q := (cell_at (l := x :: r) (List.getElem?_eq_getElem hj)).2
  rw [show 0 + j * 1 = j by omega] at q ⊢
  have g : (gi x :: List.map gi r)[j]? = some (gi (x :: r)[j]) := g
  rw [g]
  exact congrArg some (congrArg gi q.symm)
set_option maxRecDepth 100000 in
theorem held_ok {c : List Value} {m e row k s : Nat} (C : HvC c row (m + 1) k s) (hs : s ≤ m + 1) (h0 : -16385 < wnF c 0 s) : CallJ Tryz.prog 101 #[liP (m + 1) k, goN s] (liH c e row) (fun v _ => v = .tuple #[gi (rhS c s (m + 1 + 1 - s)).1, goN (rhS c s (m + 1 + 1 - s)).2.1]) := by
  refine callM_ok (L := hrL c e row m k s) mixed orcLa_ok askLa_ok (Eq.mpr (hd_run c e row m k s _) ⟨rfl, rfl, rfl, by kernel_rfl, ⟨C, hs⟩, by kernel_rfl, rfl, rfl, rfl, rfl, fun x r g₂ hx => ?_⟩)
  have hn1 := C.n1
  have hl : r.length + 1 ≤ 65536 := by
    have q := congrArg List.length hx
    rw [allL_all c s (m + 1) C.s1, wL_len, List.length_cons] at q
    have := C.s1
    omega
  obtain ⟨e1, e2, e3, e4⟩ := held_same C.s1 hs h0 hx
  have fl : List.all (gi x :: List.map gi r) (flat 3) = true := flat_ints (x :: r)
  refine ⟨⟨fl, trivial⟩, okP_map x r hl, rfl, ⟨fl, trivial⟩, okP_map x r hl, ⟨_, rfl⟩, _, rfl, ?_⟩
  show Value.tuple #[gi (mxJ (fnI (List.map gi (x :: r)) 0) r.length), gi (ixJ (fnI (List.map gi (x :: r)) 0) (mxJ (fnI (List.map gi (x :: r)) 0) r.length) (r.length + 1) 0)] = _
  rw [e2, e1]
end Go.Proofs.YtihnnmejkpddeaaGreatDoor
/-! (OWN WORK. Stage 6: Longest, Above and Held of the program, carried out.) -/
namespace Go.Proofs.YtihnnmejkpddeaaGreatDoor
open Go Go.Am
set_option maxRecDepth 100000 in
theorem orcLb_ok : OrcOk Tryz.prog orcLb := by
  refine s1O_ok (s1O_ok (s1O_ok (s1O_ok (anyO_ok globs_pos (anyO_ok globs_pos orcLb0_ok ?_) ?_) (fun _ _ _ _ => rfl) ?_) (fun _ _ _ _ => rfl) ?_) (fun _ _ _ _ => rfl) ?_) (fun _ _ _ _ => rfl) ?_
  · intro vs B o h _
    rcases hdY_inv (z := (none : Option Out)) (f := fun cs n k row r => open Classical in if hdC cs n k row r then some (.plain (hdF cs n r)) else none) (vs := vs) (B := B) with q | ⟨cs, n, k, e, row, r, rfl, rfl⟩
    · unfold hdX at h; rw [q] at h; cases h
    · unfold hdX at h
      rw [hdY_at] at h
      split at h
      · rename_i hc
        cases h
        refine ⟨rfl, ?_⟩
        obtain ⟨hr, C, hs, h0⟩ := hc
        generalize hx : (xOf r).toNat = s at *
        subst hr
        obtain ⟨m, rfl⟩ : ∃ m, n = m + 1 := ⟨n - 1, by have := C.s1; omega⟩
        refine (held_ok (e := e) (k := k) C hs h0).mono fun v h q => ?_
        exact q
      · cases h
  · intro vs B o h _
    rcases keY_inv (z := (none : Option Out)) (f := fun cs n r x => open Classical in if keC cs n r x then some (keU (kpL (intOf x) (TellT.dec tiT cs))) else none) (vs := vs) (B := B) with q | ⟨cs, n, k, e, row, e', row', x, r, rfl, rfl⟩
    · unfold keX at h; rw [q] at h; cases h
    · unfold keX at h
      rw [keY_at] at h
      split at h
      · rename_i hc
        cases h
        obtain ⟨⟨h1, h2, h3, h4⟩, h5, h6⟩ := hc
        obtain ⟨m, rfl⟩ : ∃ m, n = m + 1 := ⟨n - 1, by omega⟩
        subst h5
        rw [h6]
        have h1 : cs = (TellT.dec tiT cs).map gi := h1
        generalize TellT.dec tiT cs = l at *
        subst h1
        have C : CallJ Tryz.prog 98 #[liP (m + 1) k, cAb] (canon Tryz.prog [(l.map gi, e, row), ([gi (intOf x)], e', row')]) (keU (kpL (intOf x) l)).Got := by
          refine callC_ok (L := keLp l (intOf x) (m + 1) e row k e' row') mixed orcLa_ok askLa_ok (Eq.mpr (ke_run l m e row k e' row' (intOf x) _) ⟨rfl, rfl, rfl, rfl, rfl, rfl, ⟨by kernel_rfl, by kernel_rfl⟩, ⟨h3, h4⟩, fun hk _ h' => ?_, fun hk _ => ?_⟩)
          · rw [hk]; exact rfl
          · have g := getK l (intOf x) e row e' row'
            generalize gD Tryz.prog (keB (l.map gi) e row (intOf x) e' row') ((kpL (intOf x) l).map gi) 3 = H at g ⊢
            generalize kpL (intOf x) l = p at hk g ⊢
            match p, hk with
            | [], hk => exact absurd rfl hk
            | y :: p, _ => exact ⟨nG1 + 2, rfl, g⟩
        refine ⟨?_, C⟩
        show (keU (kpL (intOf x) l)).Ok
        generalize kpL (intOf x) l = p
        match p with
        | [] => exact rfl
        | y :: p => exact ⟨names_sl _, flat_ints (y :: p)⟩
      · cases h
  · rintro l m k e row r hl h1 ⟨hr, h2, h3⟩
    show CallJ _ _ _ _ fun v _ => v = Value.tuple #[gi (rhS (l.map gi) (xOf r).toNat (m + 1 + 1 - (xOf r).toNat)).1, .agg #[goN (rhS (l.map gi) (xOf r).toNat (m + 1 + 1 - (xOf r).toNat)).2.1, goN (rhS (l.map gi) (xOf r).toNat (m + 1 + 1 - (xOf r).toNat)).2.2]]
    generalize (xOf r).toNat = s at *
    subst hr
    exact callC_ok (L := rhoLp (l.map gi) (m + 1) e row k s) mixed orcLa_ok askLa_ok (Eq.mpr (rho_run (l.map gi) m e row k s _) ⟨rfl, rfl, rfl, rfl, rfl, rfl, rfl, by kernel_rfl, ⟨hv_of hl h1 h2 (by omega) (Nat.le_refl _) rfl, by omega⟩, fun _ => rfl⟩)
  · rintro l m k e row r hl h1 hr
    have hr : r = [gi (xOf r)] := hr
    show CallJ _ _ _ _ fun v _ => v = goN (kpL (xOf r) l).length
    generalize xOf r = x at *
    subst hr
    exact callC_ok (L := rabLp l x (m + 1) e row k) mixed orcLa_ok askLa_ok (Eq.mpr (rab_run l m e row k x _) ⟨rfl, rfl, rfl, rfl, rfl, rfl, ⟨hl, h1⟩, fun _ => rfl⟩)
  · rintro l m k e row r hl h1 hr
    have hr : r = [gi (xOf r)] := hr
    show CallJ _ _ _ _ fun v _ => v = Value.agg #[goN (lgE (xOf r) l).1, goN (lgE (xOf r) l).2]
    generalize xOf r = x at *
    subst hr
    exact callC_ok (L := rloLp l x (m + 1) e row k) mixed orcLa_ok askLa_ok (Eq.mpr (rlo_run l m e row k x _) ⟨rfl, rfl, rfl, rfl, rfl, rfl, by kernel_rfl, ⟨hl, h1⟩, fun _ => rfl⟩)
  · rintro l m k e row r hl h1 hr
    have hr : r = [gi (xOf r)] := hr
    show CallJ _ _ _ _ fun v _ => v = Value.agg #[goN (lgE (xOf r) l).1, goN (lgE (xOf r) l).2]
    generalize xOf r = x at *
    subst hr
    exact callC_ok (L := loLp l x (m + 1) e row k) mixed orcLa_ok askLa_ok (Eq.mpr (lgo_run l m e row k x _) ⟨rfl, rfl, rfl, rfl, rfl, rfl, rfl, by kernel_rfl, ⟨hl, h1⟩, fun _ => rfl⟩)
def lvD (L : List Int) (x : Int) (l : List Int) (r : List Value) : Prop := l = L ∧ r = [gi x]
noncomputable abbrev lgQq (L : List Int) (x : Int) (_ : Nat) (_ : List Int) (_ : List Value) : Out := .plain (.agg #[goN (lgE x L).1, goN (lgE x L).2])
noncomputable abbrev raQq (L : List Int) (x : Int) (_ : Nat) (_ : List Int) (_ : List Value) : Out := .plain (goN (kpL x L).length)
def rhD (L : List Int) (s : Nat) (l : List Int) (r : List Value) : Prop := l = L ∧ r = [goN s] ∧ 0 < s ∧ s ≤ L.length
noncomputable abbrev rhQq (L : List Int) (s : Nat) (n : Nat) (_ : List Int) (_ : List Value) : Out := .plain (.tuple #[gi (rhS (L.map gi) s (n + 1 - s)).1, .agg #[goN (rhS (L.map gi) s (n + 1 - s)).2.1, goN (rhS (L.map gi) s (n + 1 - s)).2.2]])
theorem lvA_ok {L : List Int} {x : Int} : ∀ (n : Nat) l r, lvD L x l r → lvC l r ∧ lgQq L x n l r = lgO n l r := by
  rintro n l r ⟨rfl, rfl⟩; exact ⟨rfl, rfl⟩
theorem raA_ok {L : List Int} {x : Int} : ∀ (n : Nat) l r, lvD L x l r → lvC l r ∧ raQq L x n l r = raO n l r := by
  rintro n l r ⟨rfl, rfl⟩; exact ⟨rfl, rfl⟩
theorem rhA_ok {L : List Int} {s : Nat} : ∀ (n : Nat) l r, rhD L s l r → rhC l r ∧ rhQq L s n l r = rhO n l r := by
  rintro n l r ⟨rfl, rfl, h1, h2⟩; exact ⟨⟨rfl, h1, h2⟩, rfl⟩
noncomputable def kdAY (b : Bool) (L : List Int) (y : Int) (vs : List Value) (B : List Cells) (K : Out → Prop) : Prop := keY False (fun cs n r x => (keC cs n r x ∧ cs = L.map gi ∧ x = gi y) ∧ (bif b then kpL y L = [] ∧ K (.plain nilS) else kpL y L ≠ [] ∧ K (.wide (slM ((kpL y L).length - 1 + 1)) ((kpL y L).map gi) 3 2))) vs B
theorem kdA_ok (b : Bool) (L : List Int) (y : Int) (vs : List Value) (B : List Cells) (K : Out → Prop) (h : kdAY b L y vs B K) : ∃ o, keX vs B = some o ∧ K o := by
  refine keA_ok b vs B K ?_
  rcases keY_inv (z := False) (f := fun cs n r x => (keC cs n r x ∧ cs = L.map gi ∧ x = gi y) ∧ (bif b then kpL y L = [] ∧ K (.plain nilS) else kpL y L ≠ [] ∧ K (.wide (slM ((kpL y L).length - 1 + 1)) ((kpL y L).map gi) 3 2))) (vs := vs) (B := B) with q | ⟨cs, n, k, e, row, e', row', x, r, rfl, rfl⟩
  · unfold kdAY at h; rw [q] at h; exact h.elim
  · unfold kdAY at h
    rw [keY_at] at h
    obtain ⟨⟨h1, rfl, rfl⟩, h2⟩ := h
    unfold keAY
    rw [keY_at, decTv]
    exact ⟨h1, h2⟩
noncomputable def hdBY (L : List Int) (N s : Nat) (vs : List Value) (B : List Cells) (K : Out → Prop) : Prop := hdY False (fun cs n k row r => (hdC cs n k row r ∧ cs = L.map gi ∧ n = N ∧ r = [goN s]) ∧ K (.plain (.tuple #[gi (rhS (L.map gi) s (N + 1 - s)).1, goN (rhS (L.map gi) s (N + 1 - s)).2.1]))) vs B
theorem hdZ_ok (L : List Int) (N s : Nat) (vs : List Value) (B : List Cells) (K : Out → Prop) (h : hdBY L N s vs B K) : ∃ o, hdX vs B = some o ∧ K o := by
  refine hdA_ok vs B K ?_
  rcases hdY_inv (z := False) (f := fun cs n k row r => (hdC cs n k row r ∧ cs = L.map gi ∧ n = N ∧ r = [goN s]) ∧ K (.plain (.tuple #[gi (rhS (L.map gi) s (N + 1 - s)).1, goN (rhS (L.map gi) s (N + 1 - s)).2.1]))) (vs := vs) (B := B) with q | ⟨cs, n, k, e, row, r, rfl, rfl⟩
  · unfold hdBY at h; rw [q] at h; exact h.elim
  · unfold hdBY at h
    rw [hdY_at] at h
    obtain ⟨⟨h1, rfl, rfl, rfl⟩, h2⟩ := h
    unfold hdAY
    rw [hdY_at]
    exact ⟨h1, h2⟩
noncomputable def askLb (b : Bool) (L : List Int) (N : Nat) (x : Int) (s : Nat) : Asks := asksV Tryz.prog.globals.size 97 (s1AY tiT (lvD L x) (lgQq L x)) (asksV Tryz.prog.globals.size 32 (s1AY tiT (lvD L x) (lgQq L x)) (asksV Tryz.prog.globals.size 33 (s1AY tiT (lvD L x) (raQq L x)) (asksV Tryz.prog.globals.size 34 (s1AY tiT (rhD L s) (rhQq L s)) (asksV Tryz.prog.globals.size 98 (kdAY b L x) (asksV Tryz.prog.globals.size 101 (hdBY L N s) (asksV Tryz.prog.globals.size 35 (s1AY tiT nonC serO) (asksV Tryz.prog.globals.size 16 (s1AY tiT clCv cloOv) (asksV Tryz.prog.globals.size 14 vshY askLa))))))))
theorem askLb_ok (b : Bool) (L : List Int) (N : Nat) (x : Int) (s : Nat) : AsksOk orcLb (askLb b L N x s) := asksV_ok (s1A_ok lvA_ok) (asksV_ok (s1A_ok lvA_ok) (asksV_ok (s1A_ok raA_ok) (asksV_ok (s1A_ok rhA_ok) (asksV_ok (kdA_ok b L x) (asksV_ok (hdZ_ok L N s) (asksV_ok (s1A_ok fun _ _ _ h => ⟨h, rfl⟩) (asksV_ok (s1A_ok fun _ _ _ h => ⟨h, rfl⟩) (asksV_ok vshY_ok askLa_ok))))))))
end Go.Proofs.YtihnnmejkpddeaaGreatDoor
/-! (OWN WORK. Stage 6: Longest, Above and Held of the program, carried out.) -/
namespace Go.Proofs.YtihnnmejkpddeaaGreatDoor
open Go Go.Am
theorem lg_no (l : List Int) (m e row k : Nat) (v : Int) (K : Value → Prop) : callC Tryz.prog (exec Tryz.prog orcLb 40) (syOf [(8, 7), (14, 31)]) (askLb false l (m + 1) v 0) (noLoops _) 40 27 #[liP (m + 1) k, gi v] (liH (l.map gi) e row) (fun v _ => K v) = (((List.all (List.map gi l) (flat 3) = true ∧ True) ∧ okT tiT (List.map gi l) (m + 1) ∧ nonC (TellT.dec tiT (List.map gi l)) [] ∧ (!(ieq (firstS [serE (TellT.dec tiT (List.map gi l)), uE v]) 0)) = true ∧ K (Value.tuple #[Value.agg (Array.mk (List.take 2 (List.drop 0 ([] ++ ([gi 0, gi 0] ++ []))))), gi (firstS [serE (TellT.dec tiT (List.map gi l)), uE v])]))) := by kernel_rfl
theorem lg_go (l : List Int) (m e row k : Nat) (v : Int) (K : Value → Prop) : callC Tryz.prog (exec Tryz.prog orcLb 40) (syOf [(8, 7), (14, 32), (19, 7)]) (askLb false l (m + 1) v 0) (noLoops _) 40 27 #[liP (m + 1) k, gi v] (liH (l.map gi) e row) (fun v _ => K v) = (((List.all (List.map gi l) (flat 3) = true ∧ True) ∧ okT tiT (List.map gi l) (m + 1) ∧ nonC (TellT.dec tiT (List.map gi l)) [] ∧ (!(ieq (firstS [serE (TellT.dec tiT (List.map gi l)), uE v]) 0)) = false ∧ (List.all (List.map gi l) (flat 3) = true ∧ True) ∧ okT tiT (List.map gi l) (m + 1) ∧ lvD l v (TellT.dec tiT (List.map gi l)) [gi v] ∧ K (Value.tuple #[Value.agg (Array.mk (List.take 2 (List.drop 0 ([] ++ ([goN (((lgE v l).1)), goN (((lgE v l).2))] ++ []))))), gi 0]))) := by kernel_rfl
theorem ab_no (l : List Int) (m e row k : Nat) (v : Int) (K : Value → Prop) : callC Tryz.prog (exec Tryz.prog orcLb 40) (syOf [(8, 7), (14, 31)]) (askLb false l (m + 1) v 0) (noLoops _) 40 28 #[liP (m + 1) k, gi v] (liH (l.map gi) e row) (fun v _ => K v) = (((List.all (List.map gi l) (flat 3) = true ∧ True) ∧ okT tiT (List.map gi l) (m + 1) ∧ nonC (TellT.dec tiT (List.map gi l)) [] ∧ [gi v][0]? = Option.some (gi v) ∧ (!(ieq (firstS [serE (TellT.dec tiT (List.map gi l)), uE v]) 0)) = true ∧ K (Value.tuple #[gi 0, gi (firstS [serE (TellT.dec tiT (List.map gi l)), uE v])]))) := by kernel_rfl
theorem ab_0 (l : List Int) (m e row k : Nat) (v : Int) (K : Value → Prop) : callC Tryz.prog (exec Tryz.prog orcLb 40) (syOf [(8, 7), (14, 32), (18, 7)]) (askLb true l (m + 1) v 0) (noLoops _) 40 28 #[liP (m + 1) k, gi v] (liH (l.map gi) e row) (fun v _ => K v) = (((List.all (List.map gi l) (flat 3) = true ∧ True) ∧ okT tiT (List.map gi l) (m + 1) ∧ nonC (TellT.dec tiT (List.map gi l)) [] ∧ [gi v][0]? = Option.some (gi v) ∧ (!(ieq (firstS [serE (TellT.dec tiT (List.map gi l)), uE v]) 0)) = false ∧ (List.all (List.map gi l) (flat 3) = true ∧ List.all [gi v] (flat 3) = true ∧ True) ∧ (keC (List.map gi l) (m + 1) [Value.func (.func 99) #[] #[Value.pointer (some ⟨nG1 + 1, 0, none⟩)]] (gi v) ∧ List.map gi l = List.map gi l ∧ gi v = gi v) ∧ kpL v l = [] ∧ K (Value.tuple #[gi 0, gi 0]))) := by kernel_rfl
theorem ab_1 (l : List Int) (m e row k : Nat) (v : Int) (K : Value → Prop) : callC Tryz.prog (exec Tryz.prog orcLb 40) (syOf [(8, 7), (14, 32), (18, 7)]) (askLb false l (m + 1) v 0) (noLoops _) 40 28 #[liP (m + 1) k, gi v] (liH (l.map gi) e row) (fun v _ => K v) = (((List.all (List.map gi l) (flat 3) = true ∧ True) ∧ okT tiT (List.map gi l) (m + 1) ∧ nonC (TellT.dec tiT (List.map gi l)) [] ∧ [gi v][0]? = Option.some (gi v) ∧ (!(ieq (firstS [serE (TellT.dec tiT (List.map gi l)), uE v]) 0)) = false ∧ (List.all (List.map gi l) (flat 3) = true ∧ List.all [gi v] (flat 3) = true ∧ True) ∧ (keC (List.map gi l) (m + 1) [Value.func (.func 99) #[] #[Value.pointer (some ⟨nG1 + 1, 0, none⟩)]] (gi v) ∧ List.map gi l = List.map gi l ∧ gi v = gi v) ∧ (kpL v l = [] → False) ∧ K (Value.tuple #[goN ((List.length (kpL v l) - 1) + 1), gi 0]))) := by kernel_rfl
theorem he_no (l : List Int) (m e row k : Nat) (v : Int) (K : Value → Prop) : callC Tryz.prog (exec Tryz.prog orcLb 40) (syOf [(11, 7), (21, 31)]) (askLb false l (m + 1) v 0) (noLoops _) 40 29 #[liP (m + 1) k, gi v] (liH (l.map gi) e row) (fun v _ => K v) = (((List.all (List.map gi l) (flat 3) = true ∧ True) ∧ okT tiT (List.map gi l) (m + 1) ∧ nonC (TellT.dec tiT (List.map gi l)) [] ∧ (!(ieq (firstS [serE (TellT.dec tiT (List.map gi l)), withinS v 1 128, whenS (ilt (Int.ofNat (m + 1)) v) 16]) 0)) = true ∧ K (Value.tuple #[gi 0, Value.agg (Array.mk (List.take 2 (List.drop 0 ([] ++ ([gi 0, gi 0] ++ []))))), gi (firstS [serE (TellT.dec tiT (List.map gi l)), withinS v 1 128, whenS (ilt (Int.ofNat (m + 1)) v) 16])]))) := by kernel_rfl
theorem he_go (l : List Int) (m e row k s : Nat) (K : Value → Prop) : callC Tryz.prog (exec Tryz.prog orcLb 40) (syOf [(11, 7), (21, 32), (27, 7)]) (askLb false l (m + 1) 0 s) (noLoops _) 40 29 #[liP (m + 1) k, goN s] (liH (l.map gi) e row) (fun v _ => K v) = (((List.all (List.map gi l) (flat 3) = true ∧ True) ∧ okT tiT (List.map gi l) (m + 1) ∧ nonC (TellT.dec tiT (List.map gi l)) [] ∧ (!(ieq (firstS [serE (TellT.dec tiT (List.map gi l)), withinS (Int.ofNat s) 1 128, whenS (Nat.blt (m + 1) s) 16]) 0)) = false ∧ (List.all (List.map gi l) (flat 3) = true ∧ True) ∧ (hdC (List.map gi l) (m + 1) k row [goN s] ∧ List.map gi l = List.map gi l ∧ (m + 1) = (m + 1) ∧ [goN s] = [goN s]) ∧ K (Value.tuple #[gi (((rhS (List.map gi l) s (m + 1 + 1 - s)).1)), Value.agg (Array.mk (List.take 2 (List.drop 0 ([] ++ ([goN (((rhS (List.map gi l) s (m + 1 + 1 - s)).snd.1)), gi (fwrap IntKind.i64 (Int.ofNat ((((rhS (List.map gi l) s (m + 1 + 1 - s)).snd.1)) + s)))] ++ []))))), gi 0]))) := by kernel_rfl
end Go.Proofs.YtihnnmejkpddeaaGreatDoor
/-! (OWN WORK. Stage 6: Longest, Above and Held of the program: known calls.) -/
namespace Go.Proofs.YtihnnmejkpddeaaGreatDoor
open Go Go.Am
theorem lg_n (v : Int) (K : Value → Prop) : callC Tryz.prog (exec Tryz.prog orcLb 60) (syOf []) (askLb false [] 0 v 0) (noLoops _) 60 27 #[nilS, gi v] (canon Tryz.prog []) (fun v _ => K v) = (K (Value.tuple #[Value.agg (Array.mk (List.take 2 (List.drop 0 ([] ++ ([gi 0, gi 0] ++ []))))), gi (firstS [12, uE v])])) := by kernel_rfl
theorem lg_e (v : Int) (q : Nat) (K : Value → Prop) : callC Tryz.prog (exec Tryz.prog orcLb 60) (syOf []) (askLb false [] 0 v 0) (noLoops _) 60 27 #[emS q, gi v] (canon Tryz.prog []) (fun v _ => K v) = (K (Value.tuple #[Value.agg (Array.mk (List.take 2 (List.drop 0 ([] ++ ([gi 0, gi 0] ++ []))))), gi (firstS [12, uE v])])) := by kernel_rfl
theorem ab_n (v : Int) (K : Value → Prop) : callC Tryz.prog (exec Tryz.prog orcLb 60) (syOf []) (askLb false [] 0 v 0) (noLoops _) 60 28 #[nilS, gi v] (canon Tryz.prog []) (fun v _ => K v) = (([gi v][0]? = Option.some (gi v) ∧ K (Value.tuple #[gi 0, gi (firstS [12, uE v])]))) := by kernel_rfl
theorem ab_e (v : Int) (q : Nat) (K : Value → Prop) : callC Tryz.prog (exec Tryz.prog orcLb 60) (syOf []) (askLb false [] 0 v 0) (noLoops _) 60 28 #[emS q, gi v] (canon Tryz.prog []) (fun v _ => K v) = (([gi v][0]? = Option.some (gi v) ∧ K (Value.tuple #[gi 0, gi (firstS [12, uE v])]))) := by kernel_rfl
theorem he_n (v : Int) (K : Value → Prop) : callC Tryz.prog (exec Tryz.prog orcLb 60) (syOf []) (askLb false [] 0 v 0) (noLoops _) 60 29 #[nilS, gi v] (canon Tryz.prog []) (fun v _ => K v) = (K (Value.tuple #[gi 0, Value.agg (Array.mk (List.take 2 (List.drop 0 ([] ++ ([gi 0, gi 0] ++ []))))), gi (firstS [12, withinS v 1 128, whenS (ilt 0 v) 16])])) := by kernel_rfl
theorem he_e (v : Int) (q : Nat) (K : Value → Prop) : callC Tryz.prog (exec Tryz.prog orcLb 60) (syOf []) (askLb false [] 0 v 0) (noLoops _) 60 29 #[emS q, gi v] (canon Tryz.prog []) (fun v _ => K v) = (K (Value.tuple #[gi 0, Value.agg (Array.mk (List.take 2 (List.drop 0 ([] ++ ([gi 0, gi 0] ++ []))))), gi (firstS [12, withinS v 1 128, whenS (ilt 0 v) 16])])) := by kernel_rfl
noncomputable def lvE (l : List Int) (v : Int) : Int := firstS [serE l, uE v]
noncomputable def heE (l : List Int) (x : Int) : Int := firstS [serE l, withinS x 1 128, whenS (ilt (Int.ofNat l.length) x) 16]
noncomputable def loV (b : Bool) (l : List Int) (x : Int) : Value := bif b then .tuple #[.agg #[goN (lgE x l).1, goN (lgE x l).2], gi 0] else .tuple #[.agg #[gi 0, gi 0], gi (lvE l x)]
noncomputable def abV (b : Bool) (l : List Int) (x : Int) : Value := bif b then .tuple #[goN (kpL x l).length, gi 0] else .tuple #[gi 0, gi (lvE l x)]
noncomputable def heV (b : Bool) (l : List Int) (n s : Nat) (x : Int) : Value := bif b then .tuple #[gi (rhS (l.map gi) s (n + 1 - s)).1, .agg #[goN (rhS (l.map gi) s (n + 1 - s)).2.1, goN (rhS (l.map gi) s (n + 1 - s)).2.2], gi 0] else .tuple #[gi 0, .agg #[gi 0, gi 0], gi (heE l x)]
noncomputable abbrev loO (_ : Nat) (l : List Int) (r : List Value) : Out := .plain (loV (ieq (lvE l (xOf r)) 0) l (xOf r))
noncomputable abbrev abO (_ : Nat) (l : List Int) (r : List Value) : Out := .plain (abV (ieq (lvE l (xOf r)) 0) l (xOf r))
def lvB (b : Bool) (L : List Int) (x : Int) (l : List Int) (r : List Value) : Prop := l = L ∧ r = [gi x] ∧ ieq (lvE L x) 0 = b
def hvC (cs : List Value) (n k row : Nat) (r : List Value) : Prop := okT tiT cs n ∧ r = [gi (xOf r)] ∧ n ≤ k ∧ (Nat.beq row 0 || Nat.beq row 2) = true
open Classical in
noncomputable def hxX (vs : List Value) (B : List Cells) : Option Out := hdY none (fun cs n k row r => if hvC cs n k row r then some (.plain (heV (ieq (heE (TellT.dec tiT cs) (xOf r)) 0) (TellT.dec tiT cs) n (xOf r).toNat (xOf r))) else none) vs B
noncomputable def hxAY (b : Bool) (L : List Int) (N s : Nat) (x : Int) (vs : List Value) (B : List Cells) (K : Out → Prop) : Prop := hdY False (fun cs n k row r => (hvC cs n k row r ∧ cs = L.map gi ∧ n = N ∧ r = [gi x] ∧ ieq (heE L x) 0 = b ∧ x.toNat = s) ∧ K (.plain (heV b L N s x))) vs B
noncomputable def e1X (V : Value) (vs : List Value) (B : List Cells) : Option Out := match vs, B with
  | [v, .int .i64 _], [] => match isEm v with
    | true => some (.plain V)
    | false => none
  | _, _ => none
noncomputable def e1AY (V : Value) (vs : List Value) (B : List Cells) (K : Out → Prop) : Prop := match vs, B with
  | [v, .int .i64 _], [] => match isEm v with
    | true => K (.plain V)
    | false => False
  | _, _ => False
theorem e1A_ok (V : Value) (vs : List Value) (B : List Cells) (K : Out → Prop) (h : e1AY V vs B K) : ∃ o, e1X V vs B = some o ∧ K o := by
  unfold e1AY at h
  unfold e1X
  split at h
  · split at h
    · rename_i hv
      exact ⟨_, rfl, h⟩
    · exact h.elim
  · exact h.elim
theorem e1O_ok {f : FuncId} {V : Value} {orc : Orc} (ho : OrcOk Tryz.prog orc) (hV : flat 3 V = true) (hn : ∀ x, CallJ Tryz.prog f #[nilS, gi x] (canon Tryz.prog []) (fun v _ => v = V)) (he : ∀ q x, CallJ Tryz.prog f #[emS q, gi x] (canon Tryz.prog []) (fun v _ => v = V)) : OrcOk Tryz.prog (orElse f (anyO Tryz.prog.globals.size (e1X V)) orc) := by
  refine anyO_ok globs_pos ho fun vs B o h _ => ?_
  unfold e1X at h
  split at h
  · split at h
    · rename_i hv
      cases h
      rcases isEm_some hv with rfl | ⟨q, rfl⟩
      · exact ⟨hV, hn _⟩
      · exact ⟨hV, he q _⟩
    · cases h
  · cases h
end Go.Proofs.YtihnnmejkpddeaaGreatDoor
