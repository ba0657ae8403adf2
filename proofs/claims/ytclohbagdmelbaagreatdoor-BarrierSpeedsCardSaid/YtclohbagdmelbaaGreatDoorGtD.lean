/-
  OWN WORK. Gates: the speeds between gates, carried out for all lengths.
-/
import Derived.Test.YtclohbagdmelbaaGreatDoorGtC
namespace Go.Proofs.YtclohbagdmelbaaGreatDoor
open Go Go.Am

noncomputable def spF : P3 → List P3 → List P2
  | _, [] => []
  | a, b :: r => stP a b :: spF b r
noncomputable def stY : P3 → List P3 → Prop → Prop
  | _, [], K => K
  | a, b :: r, K => stB a b = true ∧ stY b r K
noncomputable def srY : P3 → List P3 → Prop → Prop
  | _, [], K => K
  | a, b :: r, K => ag3 b = ag3 b ∧ ag3 a = ag3 a ∧ [gi 0, gi 0, gi 0] = [gi 0, gi 0, gi 0] ∧ ag3 b = ag3 b ∧ ag3 a = ag3 a ∧ ag3 b = ag3 b ∧
      inI64 (b.1 - a.1) = true ∧ inI64 ((b.1 - a.1) * 1000000) = true ∧ inI64 (b.2.2 - a.2.1) = true ∧ inI64 (b.2.1 - a.2.2) = true ∧ (ilt 0 (b.2.2 - a.2.1) && small ((b.1 - a.1) * 1000000)) = true ∧
      [gi a.1, gi a.2.1, gi a.2.2][2]? = some (gi a.2.2) ∧ [gi b.1, gi b.2.1, gi b.2.2][1]? = some (gi b.2.1) ∧ (ilt 0 (b.2.1 - a.2.2) && small ((b.1 - a.1) * 1000000)) = true ∧ srY b r K
noncomputable abbrev sgY (l : List P3) (n : Nat) (b : Bool) (K : List P3 → Prop) : Prop := ((cells3 l).all (flat 3) = true ∧ True) ∧ true = true ∧ ∃ x1, cells3 l = cells3 x1 ∧ (0 < n ∧ x1.length = n ∧ n ≤ 65536) ∧ ckC x1 [] ∧ (!(ieq (chkE x1) 0)) = b ∧ K x1
section
variable (p : P3) (l : List P3) (e row k : Nat)
theorem sp_e (h1 : 1 ≤ l.length) (h2 : l.length ≤ 7) (K : Value → Option AObj → Prop) : callR Tryz.prog orcTc (fun _ => syOf [(9, 7), (11, 32), (14, 23), (27, 7)]) askTc 200 5 #[liP (l.length + 1) k] (canon Tryz.prog [(cells3 (p :: l), e, row)]) (fun v h => K v (h.get (nG1 + 3 * l.length))) = sgY (p :: l) (l.length + 1) false fun _ => (0 : Int) ≤ 1 ∧ (1 : Int) ≤ Int.ofNat (l.length + 1) ∧ (1 : Int) < Int.ofNat k ∧ (Nat.beq row 0 || Nat.beq row 4) = true ∧ stY p l (K (.tuple #[.slice (some ⟨nG1 + 3 * l.length, 0, none⟩) l.length l.length, gi 0]) (some (.cells (cellsP (spF p l)) 34 3 false))) := by
  match l, h1, h2 with
  | [_], _, _ => show _ = _; kernel_rfl
  | [_, _], _, _ => show _ = _; kernel_rfl
  | [_, _, _], _, _ => show _ = _; kernel_rfl
  | [_, _, _, _], _, _ => show _ = _; kernel_rfl
  | [_, _, _, _, _], _, _ => show _ = _; kernel_rfl
  | [_, _, _, _, _, _], _, _ => show _ = _; kernel_rfl
  | [_, _, _, _, _, _, _], _, _ => show _ = _; kernel_rfl
theorem sp_i (h2 : l.length ≤ 8) (K : Value → Prop) : callR Tryz.prog orcTc (fun _ => syOf [(9, 7), (11, 31)]) askTc 200 5 #[liP (l.length + 1) k] (canon Tryz.prog [(cells3 (p :: l), e, row)]) (fun v _ => K v) = sgY (p :: l) (l.length + 1) true fun x => K (.tuple #[nilS, gi (chkE x)]) := by
  match l, h2 with
  | [], _ => show _ = _; kernel_rfl
  | [_], _ => show _ = _; kernel_rfl
  | [_, _], _ => show _ = _; kernel_rfl
  | [_, _, _], _ => show _ = _; kernel_rfl
  | [_, _, _, _], _ => show _ = _; kernel_rfl
  | [_, _, _, _, _], _ => show _ = _; kernel_rfl
  | [_, _, _, _, _, _], _ => show _ = _; kernel_rfl
  | [_, _, _, _, _, _, _], _ => show _ = _; kernel_rfl
  | [_, _, _, _, _, _, _, _], _ => show _ = _; kernel_rfl
theorem sr_e (h1 : 1 ≤ l.length) (h2 : l.length ≤ 7) (K : Value → Option AObj → Prop) : callR Tryz.prog orcTc (fun _ => syOf [(27, 33), (28, 33), (37, 33), (38, 7), (46, 33), (47, 7)]) askTc 200 12 #[liP (l.length + 1) k] (canon Tryz.prog [(cells3 (p :: l), e, row)]) (fun v h => K v (h.get (nG1 + 4 * l.length))) = srY p l (K (.slice (some ⟨nG1 + 4 * l.length, 0, none⟩) l.length l.length) (some (.cells (cellsP (spF p l)) 34 3 false))) := by
  match l, h1, h2 with
  | [_], _, _ => show _ = _; kernel_rfl
  | [_, _], _, _ => show _ = _; kernel_rfl
  | [_, _, _], _, _ => show _ = _; kernel_rfl
  | [_, _, _, _], _, _ => show _ = _; kernel_rfl
  | [_, _, _, _, _], _, _ => show _ = _; kernel_rfl
  | [_, _, _, _, _, _], _, _ => show _ = _; kernel_rfl
  | [_, _, _, _, _, _, _], _, _ => show _ = _; kernel_rfl
end
/-! What valid gates keep. -/
def okP3 (p : P3) : Prop := 0 ≤ p.1 ∧ p.1 ≤ 1000000 ∧ 0 ≤ p.2.1 ∧ p.2.1 ≤ p.2.2 ∧ p.2.2 ≤ 100000000
def okF : P3 → List P3 → Prop
  | _, [] => True
  | a, b :: r => okP3 b ∧ a.1 < b.1 ∧ a.2.2 < b.2.1 ∧ okF b r
theorem gpE_ok : ∀ {l : List P3} {b : P3}, -1 ≤ b.1 → b.1 ≤ 1000000 → -1 ≤ b.2.2 → b.2.2 ≤ 100000000 → gpE b l = 0 → okF b l
  | [], _, _, _, _, _, _ => trivial
  | p :: r, b, h1, h2, h3, h4, h => by
    have h : (bif ieq (gE p b) 0 then gpE p r else gE p b) = 0 := h
    by_cases hz : gE p b = 0
    · rw [hz, ieq_self, cond_true] at h
      have g := gE_zero hz
      have g8 := g.2.2.2.2.2.2.2
      rw [fwB_say h1 h2 h3 h4, Bool.and_eq_true, decide_eq_true_eq, decide_eq_true_eq] at g8
      exact ⟨⟨g.1, g.2.1, g.2.2.1, g.2.2.2.2.2.2.1, g.2.2.2.2.2.1⟩, by omega, by omega, gpE_ok (by omega) g.2.1 (by omega) g.2.2.2.2.2.1 h⟩
    · rw [ieq_ne hz, cond_false] at h; exact absurd h hz
theorem chk_ok {l : List P3} (h : chkE l = 0) : ∃ p q r, l = p :: q :: r ∧ r.length ≤ 6 ∧ okP3 p ∧ okF p (q :: r) := by
  have z := firstS_none h
  have n1 := when_none (by decide) (z _ (.head _))
  have n2 := when_none (by decide) (z _ (.tail _ (.head _)))
  have n3 := z _ (.tail _ (.tail _ (.head _)))
  rw [ilt_say, decide_eq_false_iff_not] at n1 n2
  simp only [Int.ofNat_eq_natCast] at n1 n2
  match l, n1, n2, n3 with
  | p :: q :: r, n1, n2, n3 =>
    have g := gpE_ok (by decide) (by decide) (by decide) (by decide) n3
    exact ⟨p, q, r, rfl, by simp only [List.length_cons] at n2; omega, g.1, g.2.2.2⟩
theorem stB_of {a b : P3} (ha : okP3 a) (hb : okP3 b) (h1 : a.1 < b.1) (h2 : a.2.2 < b.2.1) : stB a b = true := by
  obtain ⟨a1, a2, a3, a4, a5⟩ := ha
  obtain ⟨b1, b2, b3, b4, b5⟩ := hb
  unfold stB
  rw [inI64_small (by omega) (by omega), inI64_small (by omega) (by omega), inI64_small (by omega) (by omega), inI64_small (by omega) (by omega), ilt_say, ilt_say, decide_eq_true (by omega), decide_eq_true (by omega), small_of (by omega) (by omega)]
  rfl
theorem stY_ok {K : Prop} : ∀ {l : List P3} {a : P3}, okP3 a → okF a l → K → stY a l K
  | [], _, _, _, h => h
  | _ :: _, _, ha, ho, h => ⟨stB_of ha ho.1 ho.2.1 ho.2.2.1, stY_ok ho.1 ho.2.2.2 h⟩
theorem srY_ok {K : Prop} : ∀ {l : List P3} {a : P3}, okP3 a → okF a l → K → srY a l K
  | [], _, _, _, h => h
  | _ :: _, _, ha, ho, h => by
    have s := stB_of ha ho.1 ho.2.1 ho.2.2.1
    unfold stB at s
    simp only [Bool.and_eq_true] at s
    obtain ⟨k1, k2, k3, k4, ⟨k5, k6⟩, k7, k8⟩ := s
    exact ⟨rfl, rfl, rfl, rfl, rfl, rfl, k1, k2, k3, k4, by rw [k5, k6]; rfl, rfl, rfl, by rw [k7, k8]; rfl, srY_ok ho.1 ho.2.2.2 h⟩
theorem spF_len : ∀ (l : List P3) (a : P3), (spF a l).length = l.length
  | [], _ => rfl
  | _ :: l, _ => congrArg (· + 1) (spF_len l _)
end Go.Proofs.YtclohbagdmelbaaGreatDoor
