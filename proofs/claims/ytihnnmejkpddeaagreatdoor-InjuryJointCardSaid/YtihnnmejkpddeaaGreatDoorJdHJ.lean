/-
  OWN WORK. Stage 6: bounds of two traces: what they are made of, as known calls.
-/
import Derived.Test.YtihnnmejkpddeaaGreatDoorJdFG
import Derived.Test.YtihnnmejkpddeaaGreatDoorJdQ
import Derived.Test.YtihnnmejkpddeaaGreatDoorAm32
import Derived.Test.YtihnnmejkpddeaaGreatDoorJdRU
/-! (OWN WORK. Stage 6: pairs of traces and their absolute values as known calls.) -/
namespace Go.Proofs.YtihnnmejkpddeaaGreatDoor
open Go Go.Am

noncomputable def pavE (a b : List V4) : Int := firstS [traE a, traE b, whenS (!(ieq (Int.ofNat a.length) (Int.ofNat b.length))) 2]
noncomputable abbrev pavO (a b : List V4) (_ : List Value) : Out := .plain (gi (pavE a b))
def mvC (l : List V4) (r : List Value) : Prop := (r = [cLa] ∨ r = [cMa]) ∧ l.length ≤ 40
noncomputable def mvF (r : List Value) : V4 → Int := match r with
  | [.func (.func f) _ _] => match Nat.beq f 134 with
    | true => laF
    | false => maF
  | _ => maF
noncomputable abbrev mvO (n : Nat) (l : List V4) (r : List Value) : Out := .wide (slM n) ((l.map (mvF r)).map gi) 3 2
noncomputable def orcKe : Orc := orElse 119 (s1O tvT mvC mvO) orcKd
set_option maxRecDepth 100000 in
theorem orcKe_ok : OrcOk Tryz.prog orcKe := by
  refine s1O_ok orcKd_ok (fun _ _ _ _ => ⟨names_sl _, flat_ints _⟩) ?_
  rintro l m k e row r hl h1 ⟨rfl | rfl, h2⟩
  · have p := mv_la l (by omega) h2 e row k (fun v o => v = .slice (some ⟨nG1 + 1, 0, none⟩) (m + 1) (m + 1) ∧ o = some (.cells ((l.map laF).map gi) 3 2 false))
    rw [hl] at p
    exact (CallJ.ofR mixed orcKb_ok (askKb_ok 0) (Eq.mpr p ⟨rfl, rfl⟩)).mono fun v h q => ⟨nG1 + 1, q.1, q.2⟩
  · have p := mv_ma l (by omega) h2 e row k (fun v o => v = .slice (some ⟨nG1 + 1, 0, none⟩) (m + 1) (m + 1) ∧ o = some (.cells ((l.map maF).map gi) 3 2 false))
    rw [hl] at p
    exact (CallJ.ofR mixed orcKb_ok (askKb_ok 0) (Eq.mpr p ⟨rfl, rfl⟩)).mono fun v h q => ⟨nG1 + 1, q.1, q.2⟩
noncomputable def askKe (n : Nat) : Asks := asksV Tryz.prog.globals.size 119 (s1AY tvT mvC mvO) (askKd n)
theorem askKe_ok (n : Nat) : AsksOk orcKe (askKe n) := asksV_ok (s1A_ok fun _ _ _ h => ⟨h, rfl⟩) (askKd_ok n)
noncomputable def orcKf : Orc := orElse 132 (s2Oo tvT tvT (one2 cCt) pavO) orcKe
set_option maxRecDepth 100000 in
theorem orcKf_ok : OrcOk Tryz.prog orcKf := by
  refine s2O_ok orcKe_ok (fun _ _ _ _ => rfl) ?_
  rintro a b m k e row m' k' e' row' r hl h1 hl' h1' rfl
  refine callC_ok mixed orcKd_ok (askKd_ok 0) (Eq.mpr (pv_ff a b m e row k m' e' row' k' _) ⟨⟨cellsV_flat a, trivial⟩, okV hl h1, rfl, ⟨cellsV_flat b, trivial⟩, okV hl' h1', rfl, ?_⟩)
  rw [decW, decW]
  show _ = gi (pavE a b)
  unfold pavE; rw [hl, hl']
noncomputable def askKf (n : Nat) : Asks := asksV Tryz.prog.globals.size 132 (s2AY tvT tvT (one2 cCt) pavO) (askKe n)
theorem askKf_ok (n : Nat) : AsksOk orcKf (askKf n) := asksV_ok (s2A_ok fun _ _ _ h => ⟨h, rfl⟩) (askKe_ok n)
end Go.Proofs.YtihnnmejkpddeaaGreatDoor
/-! (OWN WORK. Stage 6: a bound of two traces (a closure), and two traces one behind the other, as known calls.) -/
namespace Go.Proofs.YtihnnmejkpddeaaGreatDoor
open Go Go.Am

noncomputable abbrev bkS (i n k : Nat) : Value := .slice (some ⟨Tryz.prog.globals.size + i, 0, none⟩) n k
noncomputable def ccY {γ : Type} (z : γ) (f : List Value → Nat → List Value → Nat → γ) (vs : List Value) (B B₂ : List Cells) : γ := match vs with
  | [.slice (some ⟨i, 0, none⟩) 2 _] => match B with
    | [([.slice (some ⟨i1, 0, none⟩) n _, .slice (some ⟨i2, 0, none⟩) n' _], _, _)] => match B₂ with
      | [(c, _, _), (c', _, _)] => match Nat.beq i Tryz.prog.globals.size && (Nat.beq i1 (Tryz.prog.globals.size + 1) && Nat.beq i2 (Tryz.prog.globals.size + 2)) with
        | true => f c n c' n'
        | false => z
      | _ => z
    | _ => z
  | _ => z
theorem ccY_inv {γ : Type} {z : γ} {f : List Value → Nat → List Value → Nat → γ} {vs : List Value} {B B₂ : List Cells} : ccY z f vs B B₂ = z ∨ ∃ (k0 n k n' k' E row : Nat) (c : List Value) (e r : Nat) (c' : List Value) (e' r' : Nat), vs = [liP 2 k0] ∧ B = [([bkS 1 n k, bkS 2 n' k'], E, row)] ∧ B₂ = [(c, e, r), (c', e', r')] := by
  unfold ccY
  split
  · split
    · split
      · split
        · rename_i h
          rw [Bool.and_eq_true, Bool.and_eq_true, Nat.beq_eq, Nat.beq_eq, Nat.beq_eq] at h
          obtain ⟨rfl, rfl, rfl⟩ := h
          exact .inr ⟨_, _, _, _, _, _, _, _, _, _, _, _, _, rfl, rfl, rfl⟩
        · exact .inl rfl
      · exact .inl rfl
    · exact .inl rfl
  · exact .inl rfl
theorem ccY_at {γ : Type} {z : γ} {f : List Value → Nat → List Value → Nat → γ} {k0 n k n' k' E row : Nat} {c : List Value} {e r : Nat} {c' : List Value} {e' r' : Nat} : ccY z f [liP 2 k0] [([bkS 1 n k, bkS 2 n' k'], E, row)] [(c, e, r), (c', e', r')] = f c n c' n' := by
  show (match Nat.beq Tryz.prog.globals.size Tryz.prog.globals.size && (Nat.beq (Tryz.prog.globals.size + 1) (Tryz.prog.globals.size + 1) && Nat.beq (Tryz.prog.globals.size + 2) (Tryz.prog.globals.size + 2)) with
    | true => f c n c' n'
    | false => z) = _
  rw [Nat.beq_refl, Nat.beq_refl, Nat.beq_refl]; rfl
def ccC (c : List Value) (n : Nat) (c' : List Value) (n' : Nat) : Prop := okT tvT c n ∧ okT tvT c' n' ∧ n = n' ∧ n ≤ 40
noncomputable abbrev ccO (c : List Value) (n : Nat) (c' : List Value) (_ : Nat) : Out := .wide (slM (n + n)) (cellsV (TellT.dec tvT c ++ TellT.dec tvT c')) 174 5
open Classical in
noncomputable def ccX (vs : List Value) (B B₂ : List Cells) : Option Out := ccY none (fun c n c' n' => if ccC c n c' n' then some (ccO c n c' n') else none) vs B B₂
noncomputable def ccAY (vs : List Value) (B B₂ : List Cells) (K : Out → Prop) : Prop := ccY False (fun c n c' n' => ccC c n c' n' ∧ K (ccO c n c' n')) vs B B₂
theorem ccA_ok (vs : List Value) (B B₂ : List Cells) (K : Out → Prop) (h : ccAY vs B B₂ K) : ∃ o, ccX vs B B₂ = some o ∧ K o := by
  rcases ccY_inv (z := False) (f := fun c n c' n' => ccC c n c' n' ∧ K (ccO c n c' n')) (vs := vs) (B := B) (B₂ := B₂) with q | ⟨k0, n, k, n', k', E, row, c, e, r, c', e', r', rfl, rfl, rfl⟩
  · unfold ccAY at h; rw [q] at h; exact h.elim
  · unfold ccAY at h
    rw [ccY_at] at h
    refine ⟨_, ?_, h.2⟩
    unfold ccX
    rw [ccY_at, if_pos h.1]
theorem zip_fst {α β : Type} : ∀ {a : List α} {b : List β}, a.length = b.length → (a.zip b).map (·.1) = a ∧ (a.zip b).map (·.2) = b
  | [], [], _ => ⟨rfl, rfl⟩
  | x :: a, y :: b, h => by
    obtain ⟨h1, h2⟩ := zip_fst (a := a) (b := b) (by simpa using h)
    exact ⟨by rw [List.zip_cons_cons, List.map_cons, h1], by rw [List.zip_cons_cons, List.map_cons, h2]⟩
/-! The closure. -/
noncomputable abbrev bkP (i : Nat) : Value := .pointer (some ⟨Tryz.prog.globals.size + i, 0, none⟩)
noncomputable abbrev bkP0 : Value := .pointer (some ⟨Tryz.prog.globals.size, 0, none⟩)
noncomputable def ofY {γ : Type} (z : γ) (f : Value → List Value → Nat → List Value → Nat → Int → Int → γ) (vs : List Value) (B B₂ : List Cells) : γ := match vs with
  | [w, .pointer (some ⟨i, 0, none⟩), .pointer (some ⟨j, 0, none⟩), .pointer (some ⟨q, 0, none⟩)] => match B with
    | [([.slice (some ⟨i1, 0, none⟩) n _], _, _), ([.slice (some ⟨i2, 0, none⟩) n' _], _, _), ([.int .i64 u, .int .i64 v], _, _)] => match B₂ with
      | [(c, _, _), (c', _, _)] => match Nat.beq i Tryz.prog.globals.size && (Nat.beq j (Tryz.prog.globals.size + 1) && (Nat.beq q (Tryz.prog.globals.size + 2) && (Nat.beq i1 (Tryz.prog.globals.size + 3) && Nat.beq i2 (Tryz.prog.globals.size + 4)))) with
        | true => f w c n c' n' u v
        | false => z
      | _ => z
    | _ => z
  | _ => z
theorem ofY_inv {γ : Type} {z : γ} {f : Value → List Value → Nat → List Value → Nat → Int → Int → γ} {vs : List Value} {B B₂ : List Cells} : ofY z f vs B B₂ = z ∨ ∃ (w : Value) (n k E1 r1 n' k' E2 r2 : Nat) (u v : Int) (E3 r3 : Nat) (c : List Value) (e r : Nat) (c' : List Value) (e' r' : Nat), vs = [w, bkP0, bkP 1, bkP 2] ∧ B = [([bkS 3 n k], E1, r1), ([bkS 4 n' k'], E2, r2), ([gi u, gi v], E3, r3)] ∧ B₂ = [(c, e, r), (c', e', r')] := by
  unfold ofY
  split
  · split
    · split
      · split
        · rename_i h
          rw [Bool.and_eq_true, Bool.and_eq_true, Bool.and_eq_true, Bool.and_eq_true, Nat.beq_eq, Nat.beq_eq, Nat.beq_eq, Nat.beq_eq, Nat.beq_eq] at h
          obtain ⟨rfl, rfl, rfl, rfl, rfl⟩ := h
          exact .inr ⟨_, _, _, _, _, _, _, _, _, _, _, _, _, _, _, _, _, _, _, rfl, rfl, rfl⟩
        · exact .inl rfl
      · exact .inl rfl
    · exact .inl rfl
  · exact .inl rfl
theorem ofY_at {γ : Type} {z : γ} {f : Value → List Value → Nat → List Value → Nat → Int → Int → γ} {w : Value} {n k E1 r1 n' k' E2 r2 : Nat} {u v : Int} {E3 r3 : Nat} {c : List Value} {e r : Nat} {c' : List Value} {e' r' : Nat} : ofY z f [w, bkP0, bkP 1, bkP 2] [([bkS 3 n k], E1, r1), ([bkS 4 n' k'], E2, r2), ([gi u, gi v], E3, r3)] [(c, e, r), (c', e', r')] = f w c n c' n' u v := by
  show (match Nat.beq Tryz.prog.globals.size Tryz.prog.globals.size && (Nat.beq (Tryz.prog.globals.size + 1) (Tryz.prog.globals.size + 1) && (Nat.beq (Tryz.prog.globals.size + 2) (Tryz.prog.globals.size + 2) && (Nat.beq (Tryz.prog.globals.size + 3) (Tryz.prog.globals.size + 3) && Nat.beq (Tryz.prog.globals.size + 4) (Tryz.prog.globals.size + 4)))) with
    | true => f w c n c' n' u v
    | false => z) = _
  rw [Nat.beq_refl, Nat.beq_refl, Nat.beq_refl, Nat.beq_refl, Nat.beq_refl]; rfl
def ofC (w : Value) (c : List Value) (n : Nat) (c' : List Value) (n' : Nat) (u v : Int) : Prop := (w = cLa ∨ w = cMa) ∧ okT tvT c n ∧ okT tvT c' n' ∧ (n = n' ∧ n ≤ 40) ∧ bd0 ((TellT.dec tvT c).map (mvF [w])) ∧ bd0 ((TellT.dec tvT c').map (mvF [w])) ∧ lim1 u ∧ lim1 v
noncomputable abbrev ofO (w : Value) (c : List Value) (_ : Nat) (c' : List Value) (_ : Nat) (u v : Int) : Out := .plain (rtV (mxG (coL u v ((TellT.dec tvT c).map (mvF [w])) ((TellT.dec tvT c').map (mvF [w])))))
open Classical in
noncomputable def ofX (vs : List Value) (B B₂ : List Cells) : Option Out := ofY none (fun w c n c' n' u v => if ofC w c n c' n' u v then some (ofO w c n c' n' u v) else none) vs B B₂
noncomputable def ofAY (vs : List Value) (B B₂ : List Cells) (K : Out → Prop) : Prop := ofY False (fun w c n c' n' u v => ofC w c n c' n' u v ∧ K (ofO w c n c' n' u v)) vs B B₂
theorem ofA_ok (vs : List Value) (B B₂ : List Cells) (K : Out → Prop) (h : ofAY vs B B₂ K) : ∃ o, ofX vs B B₂ = some o ∧ K o := by
  rcases ofY_inv (z := False) (f := fun w c n c' n' u v => ofC w c n c' n' u v ∧ K (ofO w c n c' n' u v)) (vs := vs) (B := B) (B₂ := B₂) with q | ⟨w, n, k, E1, r1, n', k', E2, r2, u, v, E3, r3, c, e, r, c', e', r', rfl, rfl, rfl⟩
  · unfold ofAY at h; rw [q] at h; exact h.elim
  · unfold ofAY at h
    rw [ofY_at] at h
    refine ⟨_, ?_, h.2⟩
    unfold ofX
    rw [ofY_at, if_pos h.1]
noncomputable abbrev ofH (a b : List V4) (m k k' E1 r1 E2 r2 E3 r3 e r e' r' : Nat) (u v : Int) : AHeap := canon Tryz.prog [([bkS 3 (m + 1) k], E1, r1), ([bkS 4 (m + 1) k'], E2, r2), ([gi u, gi v], E3, r3), (cellsV a, e, r), (cellsV b, e', r')]

theorem of_la (a b : List V4) (m k k' E1 r1 E2 r2 E3 r3 e r e' r' : Nat) (u v : Int) (K : Value → Prop) : callC Tryz.prog (exec Tryz.prog orcKf 40) (syOf [(11, 7), (14, 7), (16, 7), (17, 7)]) (askKf (m + 1)) (noLoops _) 60 133 #[cLa, bkP0, bkP 1, bkP 2] (ofH a b m k k' E1 r1 E2 r2 E3 r3 e r e' r' u v) (fun v _ => K v) = (Value.agg #[gi u, gi v] = Value.agg #[gi u, gi v] ∧ [bkS 4 (m + 1) k'][0]? = Option.some (bkS 4 (m + 1) k') ∧ [bkS 3 (m + 1) k][0]? = Option.some (bkS 3 (m + 1) k) ∧ (List.all (cellsV a) (flat 3) = true ∧ True) ∧ okT tvT (cellsV a) (m + 1) ∧ mvC (TellT.dec tvT (cellsV a)) [cLa] ∧ [gi 0, gi 0] = [gi 0, gi 0] ∧ Value.agg #[gi u, gi v] = Value.agg #[gi u, gi v] ∧ [bkS 4 (m + 1) k'][0]? = Option.some (bkS 4 (m + 1) k') ∧ (List.all (cellsV b) (flat 3) = true ∧ True) ∧ okT tvT (cellsV b) (m + 1) ∧ mvC (TellT.dec tvT (cellsV b)) [cLa] ∧ [gi 0, gi 0] = [gi 0, gi 0] ∧ Value.agg #[gi u, gi v] = Value.agg #[gi u, gi v] ∧ (List.all (List.map gi (List.map (mvF [cLa]) (TellT.dec tvT (cellsV a)))) (flat 3) = true ∧ List.all (List.map gi (List.map (mvF [cLa]) (TellT.dec tvT (cellsV b)))) (flat 3) = true ∧ True) ∧ okT tiT (List.map gi (List.map (mvF [cLa]) (TellT.dec tvT (cellsV a)))) (m + 1) ∧ okT tiT (List.map gi (List.map (mvF [cLa]) (TellT.dec tvT (cellsV b)))) (m + 1) ∧ nC2 (m + 1) coCn (TellT.dec tiT (List.map gi (List.map (mvF [cLa]) (TellT.dec tvT (cellsV a))))) (TellT.dec tiT (List.map gi (List.map (mvF [cLa]) (TellT.dec tvT (cellsV b))))) [Value.agg #[gi u, gi v]] ∧ [gi 0, gi 0] = [gi 0, gi 0] ∧ (List.all (cellsP (coL u v (TellT.dec tiT (List.map gi (List.map (mvF [cLa]) (TellT.dec tvT (cellsV a))))) (TellT.dec tiT (List.map gi (List.map (mvF [cLa]) (TellT.dec tvT (cellsV b))))))) (flat 3) = true ∧ True) ∧ okT tpT (cellsP (coL u v (TellT.dec tiT (List.map gi (List.map (mvF [cLa]) (TellT.dec tvT (cellsV a))))) (TellT.dec tiT (List.map gi (List.map (mvF [cLa]) (TellT.dec tvT (cellsV b))))))) (m + 1) ∧ nonC (TellT.dec tpT (cellsP (coL u v (TellT.dec tiT (List.map gi (List.map (mvF [cLa]) (TellT.dec tvT (cellsV a))))) (TellT.dec tiT (List.map gi (List.map (mvF [cLa]) (TellT.dec tvT (cellsV b)))))))) [] ∧ [gi 0, gi 0] = [gi 0, gi 0] ∧ K (rtV (mxG (TellT.dec tpT (cellsP (coL u v (TellT.dec tiT (List.map gi (List.map (mvF [cLa]) (TellT.dec tvT (cellsV a))))) (TellT.dec tiT (List.map gi (List.map (mvF [cLa]) (TellT.dec tvT (cellsV b))))))))))) := by kernel_rfl
theorem of_ma (a b : List V4) (m k k' E1 r1 E2 r2 E3 r3 e r e' r' : Nat) (u v : Int) (K : Value → Prop) : callC Tryz.prog (exec Tryz.prog orcKf 40) (syOf [(11, 7), (14, 7), (16, 7), (17, 7)]) (askKf (m + 1)) (noLoops _) 60 133 #[cMa, bkP0, bkP 1, bkP 2] (ofH a b m k k' E1 r1 E2 r2 E3 r3 e r e' r' u v) (fun v _ => K v) = (Value.agg #[gi u, gi v] = Value.agg #[gi u, gi v] ∧ [bkS 4 (m + 1) k'][0]? = Option.some (bkS 4 (m + 1) k') ∧ [bkS 3 (m + 1) k][0]? = Option.some (bkS 3 (m + 1) k) ∧ (List.all (cellsV a) (flat 3) = true ∧ True) ∧ okT tvT (cellsV a) (m + 1) ∧ mvC (TellT.dec tvT (cellsV a)) [cMa] ∧ [gi 0, gi 0] = [gi 0, gi 0] ∧ Value.agg #[gi u, gi v] = Value.agg #[gi u, gi v] ∧ [bkS 4 (m + 1) k'][0]? = Option.some (bkS 4 (m + 1) k') ∧ (List.all (cellsV b) (flat 3) = true ∧ True) ∧ okT tvT (cellsV b) (m + 1) ∧ mvC (TellT.dec tvT (cellsV b)) [cMa] ∧ [gi 0, gi 0] = [gi 0, gi 0] ∧ Value.agg #[gi u, gi v] = Value.agg #[gi u, gi v] ∧ (List.all (List.map gi (List.map (mvF [cMa]) (TellT.dec tvT (cellsV a)))) (flat 3) = true ∧ List.all (List.map gi (List.map (mvF [cMa]) (TellT.dec tvT (cellsV b)))) (flat 3) = true ∧ True) ∧ okT tiT (List.map gi (List.map (mvF [cMa]) (TellT.dec tvT (cellsV a)))) (m + 1) ∧ okT tiT (List.map gi (List.map (mvF [cMa]) (TellT.dec tvT (cellsV b)))) (m + 1) ∧ nC2 (m + 1) coCn (TellT.dec tiT (List.map gi (List.map (mvF [cMa]) (TellT.dec tvT (cellsV a))))) (TellT.dec tiT (List.map gi (List.map (mvF [cMa]) (TellT.dec tvT (cellsV b))))) [Value.agg #[gi u, gi v]] ∧ [gi 0, gi 0] = [gi 0, gi 0] ∧ (List.all (cellsP (coL u v (TellT.dec tiT (List.map gi (List.map (mvF [cMa]) (TellT.dec tvT (cellsV a))))) (TellT.dec tiT (List.map gi (List.map (mvF [cMa]) (TellT.dec tvT (cellsV b))))))) (flat 3) = true ∧ True) ∧ okT tpT (cellsP (coL u v (TellT.dec tiT (List.map gi (List.map (mvF [cMa]) (TellT.dec tvT (cellsV a))))) (TellT.dec tiT (List.map gi (List.map (mvF [cMa]) (TellT.dec tvT (cellsV b))))))) (m + 1) ∧ nonC (TellT.dec tpT (cellsP (coL u v (TellT.dec tiT (List.map gi (List.map (mvF [cMa]) (TellT.dec tvT (cellsV a))))) (TellT.dec tiT (List.map gi (List.map (mvF [cMa]) (TellT.dec tvT (cellsV b)))))))) [] ∧ [gi 0, gi 0] = [gi 0, gi 0] ∧ K (rtV (mxG (TellT.dec tpT (cellsP (coL u v (TellT.dec tiT (List.map gi (List.map (mvF [cMa]) (TellT.dec tvT (cellsV a))))) (TellT.dec tiT (List.map gi (List.map (mvF [cMa]) (TellT.dec tvT (cellsV b))))))))))) := by kernel_rfl
end Go.Proofs.YtihnnmejkpddeaaGreatDoor
/-! (OWN WORK. Stage 6: bounds of two traces: what they are made of, as known calls; the function, carried out.) -/
namespace Go.Proofs.YtihnnmejkpddeaaGreatDoor
open Go Go.Am

noncomputable abbrev bdsV (l h : P2) (o : Bool) : Value := .agg #[gi l.1, gi l.2, gi h.1, gi h.2, .bool o]
noncomputable def orcKg : Orc := orElse 136 (anyD Tryz.prog.globals.size ccX) (orElse 133 (anyD Tryz.prog.globals.size ofX) orcKf)
theorem bkS_at (i : Nat) : Tryz.prog.globals.size + i = nG1 + i := rfl
set_option maxRecDepth 100000 in
theorem orcKg_ok : OrcOk Tryz.prog orcKg := by
  refine anyD_ok globs_pos (anyD_ok globs_pos orcKf_ok fun vs B B₂ o h hB => ?_) fun vs B B₂ o h hB => ?_
  · rcases ofY_inv (z := (none : Option Out)) (f := fun w c n c' n' u v => open Classical in if ofC w c n c' n' u v then some (ofO w c n c' n' u v) else none) (vs := vs) (B := B) (B₂ := B₂) with q | ⟨w, n, k, E1, r1, n', k', E2, r2, u, v, E3, r3, c, e, r, c', e', r', rfl, rfl, rfl⟩
    · unfold ofX at h; rw [q] at h; cases h
    · unfold ofX at h
      rw [ofY_at] at h
      split at h
      · rename_i hc
        cases h
        refine ⟨rfl, ?_⟩
        obtain ⟨hw, ⟨a1, a2, a3, a4⟩, ⟨g1, g2, g3, g4⟩, ⟨rfl, hn⟩, ba, bb, hu, hv⟩ := hc
        obtain ⟨m, rfl⟩ : ∃ m, n = m + 1 := ⟨n - 1, by omega⟩
        generalize TellT.dec tvT c = a at a1 a3 ba ⊢
        generalize TellT.dec tvT c' = b at g1 g3 bb ⊢
        subst a1
        subst g1
        have la : ∀ f : V4 → Int, (a.map f).length = m + 1 := fun f => by rw [List.length_map, a3]
        have lb : ∀ f : V4 → Int, (b.map f).length = m + 1 := fun f => by rw [List.length_map, g3]
        have lc : ∀ f : V4 → Int, (coL u v (a.map f) (b.map f)).length = m + 1 := fun f => coL_len (la f) (lb f)
        rcases hw with rfl | rfl
        · refine callC_ok mixed orcKf_ok (askKf_ok (m + 1)) (Eq.mpr (of_la a b m k k' E1 r1 E2 r2 E3 r3 e r e' r' u v _) ?_)
          repeat rw [decT]
          rw [decW, decW, decU]
          exact ⟨rfl, rfl, rfl, ⟨cellsV_flat a, trivial⟩, okV a3 a4, ⟨.inl rfl, by omega⟩, rfl, rfl, rfl, ⟨cellsV_flat b, trivial⟩, okV g3 a4, ⟨.inl rfl, by omega⟩, rfl, rfl, ⟨flat_ints _, flat_ints _, trivial⟩, okI (la _) a4, okI (lb _) a4, ⟨la _, rfl, by rw [la, lb], ba, bb, hu, hv⟩, rfl, ⟨cellsP_flat _, trivial⟩, okP (lc _) a4, rfl, rfl, by rw [tvT.dec_cells, tvT.dec_cells]⟩
        · refine callC_ok mixed orcKf_ok (askKf_ok (m + 1)) (Eq.mpr (of_ma a b m k k' E1 r1 E2 r2 E3 r3 e r e' r' u v _) ?_)
          repeat rw [decT]
          rw [decW, decW, decU]
          exact ⟨rfl, rfl, rfl, ⟨cellsV_flat a, trivial⟩, okV a3 a4, ⟨.inr rfl, by omega⟩, rfl, rfl, rfl, ⟨cellsV_flat b, trivial⟩, okV g3 a4, ⟨.inr rfl, by omega⟩, rfl, rfl, ⟨flat_ints _, flat_ints _, trivial⟩, okI (la _) a4, okI (lb _) a4, ⟨la _, rfl, by rw [la, lb], ba, bb, hu, hv⟩, rfl, ⟨cellsP_flat _, trivial⟩, okP (lc _) a4, rfl, rfl, by rw [tvT.dec_cells, tvT.dec_cells]⟩
      · cases h
  · rcases ccY_inv (z := (none : Option Out)) (f := fun c n c' n' => open Classical in if ccC c n c' n' then some (ccO c n c' n') else none) (vs := vs) (B := B) (B₂ := B₂) with q | ⟨k0, n, k, n', k', E, row, c, e, r, c', e', r', rfl, rfl, rfl⟩
    · unfold ccX at h; rw [q] at h; cases h
    · unfold ccX at h
      rw [ccY_at] at h
      split at h
      · rename_i hc
        cases h
        refine ⟨⟨names_sl _, cellsV_flat _⟩, ?_⟩
        obtain ⟨⟨a1, a2, a3, a4⟩, ⟨g1, g2, g3, g4⟩, rfl, hn⟩ := hc
        generalize TellT.dec tvT c = a at a1 a3 ⊢
        generalize TellT.dec tvT c' = b at g1 g3 ⊢
        subst a1
        subst g1
        obtain ⟨z1, z2⟩ := zip_fst (a := a) (b := b) (by rw [a3, g3])
        have zl : (a.zip b).length = n := by rw [List.length_zip, a3, g3, Nat.min_self]
        have p := cc_all (a.zip b) (by omega) (by omega) E row e r e' r' k k' k0 (fun v o => v = .slice (some ⟨nG1 + 3, 0, none⟩) (n + n) (n + n) ∧ o = some (.cells (cellsV (a ++ b)) 174 5 false))
        rw [z1, z2, zl] at p
        exact (CallJ.ofR mixed orcJf_ok askJf_ok (Eq.mpr p ⟨rfl, rfl⟩)).mono fun v h q => ⟨nG1 + 3, q.1, by rw [tvT.dec_cells, tvT.dec_cells]; exact q.2⟩
      · cases h
noncomputable def askKg (n : Nat) : Asks := asksD Tryz.prog.globals.size 136 ccAY (asksD Tryz.prog.globals.size 133 ofAY (askKf n))
theorem askKg_ok (n : Nat) : AsksOk orcKg (askKg n) := asksD_ok ccA_ok (asksD_ok ofA_ok (askKf_ok n))
theorem cb_no (a b : List V4) (m k e row m' k' e' row' : Nat) (u v : Int) (K : Value → Prop) : callC Tryz.prog (exec Tryz.prog orcKg 40) (syOf [(12, 7), (18, 31)]) (askKg (m + 1)) (noLoops _) 60 57 #[liP (m + 1) k, slQ (m' + 1) k', .agg #[gi u, gi v]] (v2H a e row b e' row') (fun v _ => K v) = (((List.all (cellsV a) (flat 3) = true ∧ List.all (cellsV b) (flat 3) = true ∧ True) ∧ okT tvT (cellsV a) (m + 1) ∧ okT tvT (cellsV b) (m' + 1) ∧ one2 cCt (TellT.dec tvT (cellsV a)) (TellT.dec tvT (cellsV b)) [Value.func (.func 56) #[] #[]] ∧ Value.agg #[gi u, gi v] = Value.agg #[gi u, gi v] ∧ (!(ieq (firstS [pavE (TellT.dec tvT (cellsV a)) (TellT.dec tvT (cellsV b)), limE u v]) 0)) = true ∧ K (Value.tuple #[Value.agg (Array.mk (List.take 5 (List.drop 0 ([] ++ ([gi 0, gi 0, gi 0, gi 0, Value.bool false] ++ []))))), gi (firstS [pavE (TellT.dec tvT (cellsV a)) (TellT.dec tvT (cellsV b)), limE u v])]))) := by kernel_rfl
theorem cb_go (a b : List V4) (m k e row k' e' row' : Nat) (u v : Int) (K : Value → Prop) : callC Tryz.prog (exec Tryz.prog orcKg 40) (syOf [(12, 7), (18, 32), (23, 7), (25, 7), (29, 7), (30, 7)]) (askKg (m + 1)) (noLoops _) 60 57 #[liP (m + 1) k, slQ (m + 1) k', .agg #[gi u, gi v]] (v2H a e row b e' row') (fun v _ => K v) = (((List.all (cellsV a) (flat 3) = true ∧ List.all (cellsV b) (flat 3) = true ∧ True) ∧ okT tvT (cellsV a) (m + 1) ∧ okT tvT (cellsV b) (m + 1) ∧ one2 cCt (TellT.dec tvT (cellsV a)) (TellT.dec tvT (cellsV b)) [Value.func (.func 56) #[] #[]] ∧ Value.agg #[gi u, gi v] = Value.agg #[gi u, gi v] ∧ (!(ieq (firstS [pavE (TellT.dec tvT (cellsV a)) (TellT.dec tvT (cellsV b)), limE u v]) 0)) = false ∧ [slQ (m + 1) k'][0]? = Option.some (slQ (m + 1) k') ∧ [liP (m + 1) k][0]? = Option.some (liP (m + 1) k) ∧ (List.all (cellsV a) (flat 3) = true ∧ List.all (cellsV b) (flat 3) = true ∧ True) ∧ ofC (Value.func (.func 134) #[] #[]) (cellsV a) (m + 1) (cellsV b) (m + 1) u v ∧ [liP (m + 1) k, slQ (m + 1) k'] = [liP (m + 1) k, slQ (m + 1) k'] ∧ [slQ (m + 1) k'][0]? = Option.some (slQ (m + 1) k') ∧ [liP (m + 1) k][0]? = Option.some (liP (m + 1) k) ∧ (List.all (cellsV a) (flat 3) = true ∧ List.all (cellsV b) (flat 3) = true ∧ True) ∧ ofC (Value.func (.func 135) #[] #[]) (cellsV a) (m + 1) (cellsV b) (m + 1) u v ∧ [liP (m + 1) k, slQ (m + 1) k'] = [liP (m + 1) k, slQ (m + 1) k'] ∧ [slQ (m + 1) k'][0]? = Option.some (slQ (m + 1) k') ∧ [liP (m + 1) k][0]? = Option.some (liP (m + 1) k) ∧ (List.all (cellsV a) (flat 3) = true ∧ List.all (cellsV b) (flat 3) = true ∧ True) ∧ ccC (cellsV a) (m + 1) (cellsV b) (m + 1) ∧ (List.all (cellsV (TellT.dec tvT (cellsV a) ++ TellT.dec tvT (cellsV b))) (flat 3) = true ∧ True) ∧ okT tvT (cellsV (TellT.dec tvT (cellsV a) ++ TellT.dec tvT (cellsV b))) ((m + 1) + (m + 1)) ∧ oneC cIo (TellT.dec tvT (cellsV (TellT.dec tvT (cellsV a) ++ TellT.dec tvT (cellsV b)))) [Value.func (.func 137) #[] #[]] ∧ K (Value.tuple #[bdsV (mxG (coL u v (List.map (mvF [cLa]) (TellT.dec tvT (cellsV a))) (List.map (mvF [cLa]) (TellT.dec tvT (cellsV b))))) (mxG (coL u v (List.map (mvF [cMa]) (TellT.dec tvT (cellsV a))) (List.map (mvF [cMa]) (TellT.dec tvT (cellsV b))))) (conB (TellT.dec tvT (cellsV ((TellT.dec tvT (cellsV a)) ++ (TellT.dec tvT (cellsV b)))))), gi 0]))) := by kernel_rfl
end Go.Proofs.YtihnnmejkpddeaaGreatDoor
