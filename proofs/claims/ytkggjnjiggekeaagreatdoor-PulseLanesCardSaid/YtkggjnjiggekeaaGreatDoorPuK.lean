/-
  OWN WORK. Stage 8: sums, what is beyond, and the greater of both, as known calls.
-/
import Derived.Test.YtkggjnjiggekeaaGreatDoorPuI
import Derived.Test.YtkggjnjiggekeaaGreatDoorPuJ
namespace Go.Proofs.YtkggjnjiggekeaaGreatDoor
open Go Go.Am

def bdI (B : Int) (l : List Int) : Prop := ∀ x ∈ l, -B ≤ x ∧ x ≤ B
theorem suY_ok {K : Prop} {B : Int} (hB : 0 ≤ B) (hB' : B ≤ 1000000000) (hK : K) : ∀ (l : List Int) (s : Int), bdI B l → -1000000000000 + B * l.length ≤ s → s ≤ 1000000000000 - B * l.length → suY s l K
  | [], _, _, _, _ => hK
  | x :: r, s, h, h1, h2 => by
    have hx := h x (.head _)
    have e : ((x :: r).length : Int) = (r.length : Int) + 1 := by simp
    rw [e, Int.mul_add, Int.mul_one] at h1 h2
    have h0 : 0 ≤ B * (r.length : Int) := Int.mul_nonneg hB (by omega)
    exact ⟨inI64_small (by omega) (by omega), suY_ok hB hB' hK r (s + x) (fun y hy => h y (.tail _ hy)) (by omega) (by omega)⟩
theorem sumL_len : ∀ (l : List Int) (s : Int), (sumL s l).length = l.length
  | [], _ => rfl
  | x :: r, s => by
    show (sumL (s + x) r).length + 1 = _
    rw [sumL_len r]; rfl
theorem sumL_bd {B : Int} : ∀ (l : List Int) (s : Int) (C : Int), bdI B l → (-C ≤ s ∧ s ≤ C) → 0 ≤ B → bdI (C + B * l.length) (sumL s l)
  | [], _, _, _, _, _ => fun y hy => by cases hy
  | x :: r, s, C, h, hs, hB => by
    have hx := h x (.head _)
    have e : ((x :: r).length : Int) = (r.length : Int) + 1 := by simp
    have h0 : 0 ≤ B * (r.length : Int) := Int.mul_nonneg hB (by omega)
    rw [e, Int.mul_add, Int.mul_one]
    intro y hy
    rcases List.mem_cons.1 (show y ∈ (s + x) :: sumL (s + x) r from hy) with rfl | hy
    · omega
    · have := sumL_bd r (s + x) (C + B) (fun z hz => h z (.tail _ hz)) (by omega) hB y hy
      omega
noncomputable def mkT : List P2 → List Int → List T3
  | c :: cs, p :: ps => (c.1, c.2, p) :: mkT cs ps
  | _, _ => []
theorem mkT_len : ∀ (c : List P2) (p : List Int), c.length = p.length → (mkT c p).length = c.length
  | [], _, _ => by cases ‹List Int› <;> rfl
  | _ :: _, [], h => absurd h (by simp)
  | _ :: c, _ :: p, h => by
    show (mkT c p).length + 1 = _
    rw [mkT_len c p (by simpa using h)]; rfl
theorem zc_mkT : ∀ (c : List P2) (p : List Int), c.length = p.length → zc (mkT c p) = c
  | [], [], _ => rfl
  | [], _ :: _, h => absurd h (by simp)
  | _ :: _, [], h => absurd h (by simp)
  | x :: c, y :: p, h => by
    show (x.1, x.2) :: zc (mkT c p) = _
    rw [zc_mkT c p (by simpa using h)]
theorem zp_mkT : ∀ (c : List P2) (p : List Int), c.length = p.length → zp (mkT c p) = p
  | [], [], _ => rfl
  | [], _ :: _, h => absurd h (by simp)
  | _ :: _, [], h => absurd h (by simp)
  | x :: c, y :: p, h => by
    show y :: zp (mkT c p) = _
    rw [zp_mkT c p (by simpa using h)]
def bdT (x : T3) : Prop := (0 ≤ x.1 ∧ x.1 ≤ 10000) ∧ (0 ≤ x.2.1 ∧ x.2.1 ≤ 10000) ∧ -100000 ≤ x.2.2 ∧ x.2.2 ≤ 100000
theorem byY_ok {K : Prop} (hK : K) : ∀ {T : List T3}, (∀ x ∈ T, bdT x) → byY T K
  | [], _ => hK
  | x :: r, h => by
    obtain ⟨h1, h2, h3⟩ := h x (.head _)
    exact ⟨inI64_small (by omega) (by omega), inI64_small (by omega) (by omega), rfl, rfl, rfl, rfl, rfl, rfl, byY_ok hK fun y hy => h y (.tail _ hy)⟩
theorem mkT_bd : ∀ {c : List P2} {p : List Int}, (∀ x ∈ c, (0 ≤ x.1 ∧ x.1 ≤ 10000) ∧ 0 ≤ x.2 ∧ x.2 ≤ 10000) → bdI 100000 p → ∀ x ∈ mkT c p, bdT x
  | [], _, _, _, x, h => by cases ‹List Int› <;> cases h
  | _ :: _, [], _, _, x, h => by cases h
  | c :: cs, p :: ps, h1, h2, x, h => by
    rcases List.mem_cons.1 (show x ∈ (c.1, c.2, p) :: mkT cs ps from h) with rfl | h
    · exact ⟨(h1 c (.head _)).1, (h1 c (.head _)).2, h2 p (.head _)⟩
    · exact mkT_bd (fun y hy => h1 y (.tail _ hy)) (fun y hy => h2 y (.tail _ hy)) x h
def suC (l : List Int) (r : List Value) : Prop := r = [] ∧ l.length ≤ 20 ∧ bdI 4000000 l
noncomputable abbrev suO (n : Nat) (l : List Int) (_ : List Value) : Out := .wide (slM n) ((sumL 0 l).map gi) 3 2
def byC (c : List P2) (p : List Int) (r : List Value) : Prop := r = [] ∧ c.length = p.length ∧ c.length ≤ 20 ∧ (∀ x ∈ c, (0 ≤ x.1 ∧ x.1 ≤ 10000) ∧ 0 ≤ x.2 ∧ x.2 ≤ 10000) ∧ bdI 100000 p
noncomputable abbrev byO (c : List P2) (p : List Int) (_ : List Value) : Out := .wide (slM c.length) (cellsP ((mkT c p).map beyP)) 27 3
def maC (l : List P2) (r : List Value) : Prop := r = [clF 86] ∧ l.length ≤ 20
noncomputable abbrev maO (n : Nat) (l : List P2) (_ : List Value) : Out := .wide (slM n) ((l.map mxP).map gi) 3 2
noncomputable def orcPf : Orc := orElse 90 (s1O tiT suC suO) (orElse 37 (s1O tiT suC suO) (orElse 83 (s2Oo tpT tiT byC byO) (orElse 85 (s1O tpT maC maO) orcPe)))
set_option maxRecDepth 100000 in
theorem orcPf_ok : OrcOk Tryz.prog orcPf := by
  refine s1O_ok (s1O_ok (s2O_ok (s1O_ok orcPe_ok (fun _ _ _ _ => ⟨names_sl _, flat_ints _⟩) ?_) (fun _ _ _ _ => ⟨names_sl _, cellsP_flat _⟩) ?_) (fun _ _ _ _ => ⟨names_sl _, flat_ints _⟩) ?_) (fun _ _ _ _ => ⟨names_sl _, flat_ints _⟩) ?_
  · rintro l m k e row r hl h1 ⟨rfl, h2⟩
    have p := ma_e l (by omega) h2 e row k (fun v o => v = .slice (some ⟨nG1 + 1, 0, none⟩) (m + 1) (m + 1) ∧ o = some (.cells ((l.map mxP).map gi) 3 2 false))
    rw [hl] at p
    refine (CallJ.ofR mixed orcPe_ok askPe_ok (Eq.mpr p ⟨rfl, rfl⟩)).mono fun v h q => ⟨nG1 + 1, ?_, ?_⟩
    · exact q.1
    · exact q.2
  · rintro c p m k e row m' k' e' row' r hl h1 hl' h1' ⟨rfl, h2, h3, h4, h5⟩
    have hT := mkT_len c p h2
    have q := by_e (mkT c p) (by omega) (by omega) e row k e' row' k' (fun v o => v = .slice (some ⟨nG1 + (3 * (m + 1) + 1), 0, none⟩) (m + 1) (m + 1) ∧ o = some (.cells (cellsP ((mkT c p).map beyP)) 27 3 false))
    rw [hT, zc_mkT c p h2, zp_mkT c p h2, hl] at q
    have hm : m' = m := by omega
    subst hm
    refine (CallJ.ofR mixed orcPe_ok askPe_ok (Eq.mpr q (byY_ok ⟨rfl, rfl⟩ (mkT_bd h4 h5)))).mono fun v h w => ⟨nG1 + (3 * (m' + 1) + 1), ?_, ?_⟩
    · rw [hl]; exact w.1
    · exact w.2
  · rintro l m k e row r hl h1 ⟨rfl, h2, h3⟩
    have p := rs_e l (by omega) h2 e row k (fun v o => v = .slice (some ⟨nG1 + 2 * (m + 1), 0, none⟩) (m + 1) (m + 1) ∧ o = some (.cells ((sumL 0 l).map gi) 3 2 false))
    rw [hl] at p
    refine (CallJ.ofR mixed orcPe_ok askPe_ok (Eq.mpr p (suY_ok (B := 4000000) (by omega) (by omega) ⟨rfl, rfl⟩ l 0 h3 (by omega) (by omega)))).mono fun v h q => ⟨nG1 + 2 * (m + 1), ?_, ?_⟩
    · exact q.1
    · exact q.2
  · rintro l m k e row r hl h1 ⟨rfl, h2, h3⟩
    have p := su_e l (by omega) h2 e row k (fun v o => v = .slice (some ⟨nG1 + 2, 0, none⟩) (m + 1) (m + 1) ∧ o = some (.cells ((sumL 0 l).map gi) 3 2 false))
    rw [hl] at p
    refine (CallJ.ofR mixed orcPe_ok askPe_ok (Eq.mpr p (suY_ok (B := 4000000) (by omega) (by omega) ⟨rfl, rfl⟩ l 0 h3 (by omega) (by omega)))).mono fun v h q => ⟨nG1 + 2, ?_, ?_⟩
    · exact q.1
    · exact q.2
noncomputable def askPf : Asks := asksV Tryz.prog.globals.size 90 (s1AY tiT suC suO) (asksV Tryz.prog.globals.size 37 (s1AY tiT suC suO) (asksV Tryz.prog.globals.size 83 (s2AY tpT tiT byC byO) (asksV Tryz.prog.globals.size 85 (s1AY tpT maC maO) askPe)))
theorem askPf_ok : AsksOk orcPf askPf := asksV_ok (s1A_ok fun _ _ _ h => ⟨h, rfl⟩) (asksV_ok (s1A_ok fun _ _ _ h => ⟨h, rfl⟩) (asksV_ok (s2A_ok fun _ _ _ h => ⟨h, rfl⟩) (asksV_ok (s1A_ok fun _ _ _ h => ⟨h, rfl⟩) askPe_ok)))
end Go.Proofs.YtkggjnjiggekeaaGreatDoor
