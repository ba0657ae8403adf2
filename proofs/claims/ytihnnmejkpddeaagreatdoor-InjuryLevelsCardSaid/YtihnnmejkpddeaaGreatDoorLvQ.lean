/-
  OWN WORK. Stage 6: Longest, Above and Held of the program, carried out.
-/
import Derived.Test.YtihnnmejkpddeaaGreatDoorLvP
namespace Go.Proofs.YtihnnmejkpddeaaGreatDoor
open Go Go.Am

set_option maxRecDepth 100000 in
theorem orcLb_ok : OrcOk Tryz.prog orcLb := by
  refine s1O_ok (s1O_ok (s1O_ok (s1O_ok (anyO_ok globs_pos (anyO_ok globs_pos orcLb0_ok ?_) ?_) (fun _ _ _ _ => rfl) ?_) (fun _ _ _ _ => rfl) ?_) (fun _ _ _ _ => rfl) ?_) (fun _ _ _ _ => rfl) ?_
  · intro vs B o h _
    rcases hdY_inv (z := (none : Option Out)) (f := fun cs n k row r => open Classical in if hdC cs n k row r then some (.plain (hdF cs n r)) else none) (vs := vs) (B := B) with q | ⟨cs, n, k, e, row, r, rfl, rfl⟩
    · unfold hdX at h; rw [q] at h; cases h
    · unfold hdX at h
      rw [hdY_at] at h
      split at h
      · rename_i hc
        cases h
        refine ⟨rfl, ?_⟩
        obtain ⟨hr, C, hs, h0⟩ := hc
        generalize hx : (xOf r).toNat = s at *
        subst hr
        obtain ⟨m, rfl⟩ : ∃ m, n = m + 1 := ⟨n - 1, by have := C.s1; omega⟩
        refine (held_ok (e := e) (k := k) C hs h0).mono fun v h q => ?_
        exact q
      · cases h
  · intro vs B o h _
    rcases keY_inv (z := (none : Option Out)) (f := fun cs n r x => open Classical in if keC cs n r x then some (keU (kpL (intOf x) (TellT.dec tiT cs))) else none) (vs := vs) (B := B) with q | ⟨cs, n, k, e, row, e', row', x, r, rfl, rfl⟩
    · unfold keX at h; rw [q] at h; cases h
    · unfold keX at h
      rw [keY_at] at h
      split at h
      · rename_i hc
        cases h
        obtain ⟨⟨h1, h2, h3, h4⟩, h5, h6⟩ := hc
        obtain ⟨m, rfl⟩ : ∃ m, n = m + 1 := ⟨n - 1, by omega⟩
        subst h5
        rw [h6]
        have h1 : cs = (TellT.dec tiT cs).map gi := h1
        generalize TellT.dec tiT cs = l at *
        subst h1
        have C : CallJ Tryz.prog 98 #[liP (m + 1) k, cAb] (canon Tryz.prog [(l.map gi, e, row), ([gi (intOf x)], e', row')]) (keU (kpL (intOf x) l)).Got := by
          refine callC_ok (L := keLp l (intOf x) (m + 1) e row k e' row') mixed orcLa_ok askLa_ok (Eq.mpr (ke_run l m e row k e' row' (intOf x) _) ⟨rfl, rfl, rfl, rfl, rfl, rfl, ⟨by kernel_rfl, by kernel_rfl⟩, ⟨h3, h4⟩, fun hk _ h' => ?_, fun hk _ => ?_⟩)
          · rw [hk]; exact rfl
          · have g := getK l (intOf x) e row e' row'
            generalize gD Tryz.prog (keB (l.map gi) e row (intOf x) e' row') ((kpL (intOf x) l).map gi) 3 = H at g ⊢
            generalize kpL (intOf x) l = p at hk g ⊢
            match p, hk with
            | [], hk => exact absurd rfl hk
            | y :: p, _ => exact ⟨nG1 + 2, rfl, g⟩
        refine ⟨?_, C⟩
        show (keU (kpL (intOf x) l)).Ok
        generalize kpL (intOf x) l = p
        match p with
        | [] => exact rfl
        | y :: p => exact ⟨names_sl _, flat_ints (y :: p)⟩
      · cases h
  · rintro l m k e row r hl h1 ⟨hr, h2, h3⟩
    show CallJ _ _ _ _ fun v _ => v = Value.tuple #[gi (rhS (l.map gi) (xOf r).toNat (m + 1 + 1 - (xOf r).toNat)).1, .agg #[goN (rhS (l.map gi) (xOf r).toNat (m + 1 + 1 - (xOf r).toNat)).2.1, goN (rhS (l.map gi) (xOf r).toNat (m + 1 + 1 - (xOf r).toNat)).2.2]]
    generalize (xOf r).toNat = s at *
    subst hr
    exact callC_ok (L := rhoLp (l.map gi) (m + 1) e row k s) mixed orcLa_ok askLa_ok (Eq.mpr (rho_run (l.map gi) m e row k s _) ⟨rfl, rfl, rfl, rfl, rfl, rfl, rfl, by kernel_rfl, ⟨hv_of hl h1 h2 (by omega) (Nat.le_refl _) rfl, by omega⟩, fun _ => rfl⟩)
  · rintro l m k e row r hl h1 hr
    have hr : r = [gi (xOf r)] := hr
    show CallJ _ _ _ _ fun v _ => v = goN (kpL (xOf r) l).length
    generalize xOf r = x at *
    subst hr
    exact callC_ok (L := rabLp l x (m + 1) e row k) mixed orcLa_ok askLa_ok (Eq.mpr (rab_run l m e row k x _) ⟨rfl, rfl, rfl, rfl, rfl, rfl, ⟨hl, h1⟩, fun _ => rfl⟩)
  · rintro l m k e row r hl h1 hr
    have hr : r = [gi (xOf r)] := hr
    show CallJ _ _ _ _ fun v _ => v = Value.agg #[goN (lgE (xOf r) l).1, goN (lgE (xOf r) l).2]
    generalize xOf r = x at *
    subst hr
    exact callC_ok (L := rloLp l x (m + 1) e row k) mixed orcLa_ok askLa_ok (Eq.mpr (rlo_run l m e row k x _) ⟨rfl, rfl, rfl, rfl, rfl, rfl, by kernel_rfl, ⟨hl, h1⟩, fun _ => rfl⟩)
  · rintro l m k e row r hl h1 hr
    have hr : r = [gi (xOf r)] := hr
    show CallJ _ _ _ _ fun v _ => v = Value.agg #[goN (lgE (xOf r) l).1, goN (lgE (xOf r) l).2]
    generalize xOf r = x at *
    subst hr
    exact callC_ok (L := loLp l x (m + 1) e row k) mixed orcLa_ok askLa_ok (Eq.mpr (lgo_run l m e row k x _) ⟨rfl, rfl, rfl, rfl, rfl, rfl, rfl, by kernel_rfl, ⟨hl, h1⟩, fun _ => rfl⟩)
/-! The same, asked of lists and numbers that are named. -/
def lvD (L : List Int) (x : Int) (l : List Int) (r : List Value) : Prop := l = L ∧ r = [gi x]
noncomputable abbrev lgQq (L : List Int) (x : Int) (_ : Nat) (_ : List Int) (_ : List Value) : Out := .plain (.agg #[goN (lgE x L).1, goN (lgE x L).2])
noncomputable abbrev raQq (L : List Int) (x : Int) (_ : Nat) (_ : List Int) (_ : List Value) : Out := .plain (goN (kpL x L).length)
def rhD (L : List Int) (s : Nat) (l : List Int) (r : List Value) : Prop := l = L ∧ r = [goN s] ∧ 0 < s ∧ s ≤ L.length
noncomputable abbrev rhQq (L : List Int) (s : Nat) (n : Nat) (_ : List Int) (_ : List Value) : Out := .plain (.tuple #[gi (rhS (L.map gi) s (n + 1 - s)).1, .agg #[goN (rhS (L.map gi) s (n + 1 - s)).2.1, goN (rhS (L.map gi) s (n + 1 - s)).2.2]])
theorem lvA_ok {L : List Int} {x : Int} : ∀ (n : Nat) l r, lvD L x l r → lvC l r ∧ lgQq L x n l r = lgO n l r := by
  rintro n l r ⟨rfl, rfl⟩; exact ⟨rfl, rfl⟩
theorem raA_ok {L : List Int} {x : Int} : ∀ (n : Nat) l r, lvD L x l r → lvC l r ∧ raQq L x n l r = raO n l r := by
  rintro n l r ⟨rfl, rfl⟩; exact ⟨rfl, rfl⟩
theorem rhA_ok {L : List Int} {s : Nat} : ∀ (n : Nat) l r, rhD L s l r → rhC l r ∧ rhQq L s n l r = rhO n l r := by
  rintro n l r ⟨rfl, rfl, h1, h2⟩; exact ⟨⟨rfl, h1, h2⟩, rfl⟩
noncomputable def kdAY (b : Bool) (L : List Int) (y : Int) (vs : List Value) (B : List Cells) (K : Out → Prop) : Prop := keY False (fun cs n r x => (keC cs n r x ∧ cs = L.map gi ∧ x = gi y) ∧ (bif b then kpL y L = [] ∧ K (.plain nilS) else kpL y L ≠ [] ∧ K (.wide (slM ((kpL y L).length - 1 + 1)) ((kpL y L).map gi) 3 2))) vs B
theorem kdA_ok (b : Bool) (L : List Int) (y : Int) (vs : List Value) (B : List Cells) (K : Out → Prop) (h : kdAY b L y vs B K) : ∃ o, keX vs B = some o ∧ K o := by
  refine keA_ok b vs B K ?_
  rcases keY_inv (z := False) (f := fun cs n r x => (keC cs n r x ∧ cs = L.map gi ∧ x = gi y) ∧ (bif b then kpL y L = [] ∧ K (.plain nilS) else kpL y L ≠ [] ∧ K (.wide (slM ((kpL y L).length - 1 + 1)) ((kpL y L).map gi) 3 2))) (vs := vs) (B := B) with q | ⟨cs, n, k, e, row, e', row', x, r, rfl, rfl⟩
  · unfold kdAY at h; rw [q] at h; exact h.elim
  · unfold kdAY at h
    rw [keY_at] at h
    obtain ⟨⟨h1, rfl, rfl⟩, h2⟩ := h
    unfold keAY
    rw [keY_at, decT]
    exact ⟨h1, h2⟩
noncomputable def hdBY (L : List Int) (N s : Nat) (vs : List Value) (B : List Cells) (K : Out → Prop) : Prop := hdY False (fun cs n k row r => (hdC cs n k row r ∧ cs = L.map gi ∧ n = N ∧ r = [goN s]) ∧ K (.plain (.tuple #[gi (rhS (L.map gi) s (N + 1 - s)).1, goN (rhS (L.map gi) s (N + 1 - s)).2.1]))) vs B
theorem hdZ_ok (L : List Int) (N s : Nat) (vs : List Value) (B : List Cells) (K : Out → Prop) (h : hdBY L N s vs B K) : ∃ o, hdX vs B = some o ∧ K o := by
  refine hdA_ok vs B K ?_
  rcases hdY_inv (z := False) (f := fun cs n k row r => (hdC cs n k row r ∧ cs = L.map gi ∧ n = N ∧ r = [goN s]) ∧ K (.plain (.tuple #[gi (rhS (L.map gi) s (N + 1 - s)).1, goN (rhS (L.map gi) s (N + 1 - s)).2.1]))) (vs := vs) (B := B) with q | ⟨cs, n, k, e, row, r, rfl, rfl⟩
  · unfold hdBY at h; rw [q] at h; exact h.elim
  · unfold hdBY at h
    rw [hdY_at] at h
    obtain ⟨⟨h1, rfl, rfl, rfl⟩, h2⟩ := h
    unfold hdAY
    rw [hdY_at]
    exact ⟨h1, h2⟩
noncomputable def askLb (b : Bool) (L : List Int) (N : Nat) (x : Int) (s : Nat) : Asks := asksV Tryz.prog.globals.size 97 (s1AY tiT (lvD L x) (lgQq L x)) (asksV Tryz.prog.globals.size 32 (s1AY tiT (lvD L x) (lgQq L x)) (asksV Tryz.prog.globals.size 33 (s1AY tiT (lvD L x) (raQq L x)) (asksV Tryz.prog.globals.size 34 (s1AY tiT (rhD L s) (rhQq L s)) (asksV Tryz.prog.globals.size 98 (kdAY b L x) (asksV Tryz.prog.globals.size 101 (hdBY L N s) (asksV Tryz.prog.globals.size 35 (s1AY tiT nonC serO) (asksV Tryz.prog.globals.size 16 (s1AY tiT clC cloO) (asksV Tryz.prog.globals.size 14 shY askLa))))))))
theorem askLb_ok (b : Bool) (L : List Int) (N : Nat) (x : Int) (s : Nat) : AsksOk orcLb (askLb b L N x s) := asksV_ok (s1A_ok lvA_ok) (asksV_ok (s1A_ok lvA_ok) (asksV_ok (s1A_ok raA_ok) (asksV_ok (s1A_ok rhA_ok) (asksV_ok (kdA_ok b L x) (asksV_ok (hdZ_ok L N s) (asksV_ok (s1A_ok fun _ _ _ h => ⟨h, rfl⟩) (asksV_ok (s1A_ok fun _ _ _ h => ⟨h, rfl⟩) (asksV_ok shY_ok askLa_ok))))))))
end Go.Proofs.YtihnnmejkpddeaaGreatDoor
