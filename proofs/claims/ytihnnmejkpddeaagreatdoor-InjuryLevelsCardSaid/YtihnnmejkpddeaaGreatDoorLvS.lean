/-
  OWN WORK. Stage 6: Longest, Above and Held of the program: known calls.
-/
import Derived.Test.YtihnnmejkpddeaaGreatDoorLvR
namespace Go.Proofs.YtihnnmejkpddeaaGreatDoor
open Go Go.Am

theorem lg_n (v : Int) (K : Value → Prop) : callC Tryz.prog (exec Tryz.prog orcLb 60) (syOf []) (askLb false [] 0 v 0) (noLoops _) 60 27 #[nilS, gi v] (canon Tryz.prog []) (fun v _ => K v) = (K (Value.tuple #[Value.agg (Array.mk (List.take 2 (List.drop 0 ([] ++ ([gi 0, gi 0] ++ []))))), gi (firstS [12, uE v])])) := by kernel_rfl
theorem lg_e (v : Int) (q : Nat) (K : Value → Prop) : callC Tryz.prog (exec Tryz.prog orcLb 60) (syOf []) (askLb false [] 0 v 0) (noLoops _) 60 27 #[emS q, gi v] (canon Tryz.prog []) (fun v _ => K v) = (K (Value.tuple #[Value.agg (Array.mk (List.take 2 (List.drop 0 ([] ++ ([gi 0, gi 0] ++ []))))), gi (firstS [12, uE v])])) := by kernel_rfl
theorem ab_n (v : Int) (K : Value → Prop) : callC Tryz.prog (exec Tryz.prog orcLb 60) (syOf []) (askLb false [] 0 v 0) (noLoops _) 60 28 #[nilS, gi v] (canon Tryz.prog []) (fun v _ => K v) = (([gi v][0]? = Option.some (gi v) ∧ K (Value.tuple #[gi 0, gi (firstS [12, uE v])]))) := by kernel_rfl
theorem ab_e (v : Int) (q : Nat) (K : Value → Prop) : callC Tryz.prog (exec Tryz.prog orcLb 60) (syOf []) (askLb false [] 0 v 0) (noLoops _) 60 28 #[emS q, gi v] (canon Tryz.prog []) (fun v _ => K v) = (([gi v][0]? = Option.some (gi v) ∧ K (Value.tuple #[gi 0, gi (firstS [12, uE v])]))) := by kernel_rfl
theorem he_n (v : Int) (K : Value → Prop) : callC Tryz.prog (exec Tryz.prog orcLb 60) (syOf []) (askLb false [] 0 v 0) (noLoops _) 60 29 #[nilS, gi v] (canon Tryz.prog []) (fun v _ => K v) = (K (Value.tuple #[gi 0, Value.agg (Array.mk (List.take 2 (List.drop 0 ([] ++ ([gi 0, gi 0] ++ []))))), gi (firstS [12, withinS v 1 128, whenS (ilt 0 v) 16])])) := by kernel_rfl
theorem he_e (v : Int) (q : Nat) (K : Value → Prop) : callC Tryz.prog (exec Tryz.prog orcLb 60) (syOf []) (askLb false [] 0 v 0) (noLoops _) 60 29 #[emS q, gi v] (canon Tryz.prog []) (fun v _ => K v) = (K (Value.tuple #[gi 0, Value.agg (Array.mk (List.take 2 (List.drop 0 ([] ++ ([gi 0, gi 0] ++ []))))), gi (firstS [12, withinS v 1 128, whenS (ilt 0 v) 16])])) := by kernel_rfl
noncomputable def lvE (l : List Int) (v : Int) : Int := firstS [serE l, uE v]
noncomputable def heE (l : List Int) (x : Int) : Int := firstS [serE l, withinS x 1 128, whenS (ilt (Int.ofNat l.length) x) 16]
noncomputable def loV (b : Bool) (l : List Int) (x : Int) : Value := bif b then .tuple #[.agg #[goN (lgE x l).1, goN (lgE x l).2], gi 0] else .tuple #[.agg #[gi 0, gi 0], gi (lvE l x)]
noncomputable def abV (b : Bool) (l : List Int) (x : Int) : Value := bif b then .tuple #[goN (kpL x l).length, gi 0] else .tuple #[gi 0, gi (lvE l x)]
noncomputable def heV (b : Bool) (l : List Int) (n s : Nat) (x : Int) : Value := bif b then .tuple #[gi (rhS (l.map gi) s (n + 1 - s)).1, .agg #[goN (rhS (l.map gi) s (n + 1 - s)).2.1, goN (rhS (l.map gi) s (n + 1 - s)).2.2], gi 0] else .tuple #[gi 0, .agg #[gi 0, gi 0], gi (heE l x)]
noncomputable abbrev loO (_ : Nat) (l : List Int) (r : List Value) : Out := .plain (loV (ieq (lvE l (xOf r)) 0) l (xOf r))
noncomputable abbrev abO (_ : Nat) (l : List Int) (r : List Value) : Out := .plain (abV (ieq (lvE l (xOf r)) 0) l (xOf r))
def lvB (b : Bool) (L : List Int) (x : Int) (l : List Int) (r : List Value) : Prop := l = L ∧ r = [gi x] ∧ ieq (lvE L x) 0 = b
theorem lvB_ok {b : Bool} {L : List Int} {x : Int} : ∀ (n : Nat) l r, lvB b L x l r → lvC l r ∧ Out.plain (loV b L x) = loO n l r := by
  rintro n l r ⟨rfl, rfl, rfl⟩; exact ⟨rfl, rfl⟩
theorem abB_ok {b : Bool} {L : List Int} {x : Int} : ∀ (n : Nat) l r, lvB b L x l r → lvC l r ∧ Out.plain (abV b L x) = abO n l r := by
  rintro n l r ⟨rfl, rfl, rfl⟩; exact ⟨rfl, rfl⟩
def hvC (cs : List Value) (n k row : Nat) (r : List Value) : Prop := okT tiT cs n ∧ r = [gi (xOf r)] ∧ n ≤ k ∧ (Nat.beq row 0 || Nat.beq row 2) = true
open Classical in
noncomputable def hxX (vs : List Value) (B : List Cells) : Option Out := hdY none (fun cs n k row r => if hvC cs n k row r then some (.plain (heV (ieq (heE (TellT.dec tiT cs) (xOf r)) 0) (TellT.dec tiT cs) n (xOf r).toNat (xOf r))) else none) vs B
noncomputable def hxAY (b : Bool) (L : List Int) (N s : Nat) (x : Int) (vs : List Value) (B : List Cells) (K : Out → Prop) : Prop := hdY False (fun cs n k row r => (hvC cs n k row r ∧ cs = L.map gi ∧ n = N ∧ r = [gi x] ∧ ieq (heE L x) 0 = b ∧ x.toNat = s) ∧ K (.plain (heV b L N s x))) vs B
theorem hxA_ok (b : Bool) (L : List Int) (N s : Nat) (x : Int) (vs : List Value) (B : List Cells) (K : Out → Prop) (h : hxAY b L N s x vs B K) : ∃ o, hxX vs B = some o ∧ K o := by
  rcases hdY_inv (z := False) (f := fun cs n k row r => (hvC cs n k row r ∧ cs = L.map gi ∧ n = N ∧ r = [gi x] ∧ ieq (heE L x) 0 = b ∧ x.toNat = s) ∧ K (.plain (heV b L N s x))) (vs := vs) (B := B) with q | ⟨cs, n, k, e, row, r, rfl, rfl⟩
  · unfold hxAY at h; rw [q] at h; exact h.elim
  · unfold hxAY at h
    rw [hdY_at] at h
    obtain ⟨⟨h1, rfl, rfl, rfl, rfl, rfl⟩, h2⟩ := h
    refine ⟨_, by unfold hxX; rw [hdY_at, if_pos h1], ?_⟩
    rw [decT]
    exact h2
/-! One list that is empty, and a number. -/
noncomputable def e1X (V : Value) (vs : List Value) (B : List Cells) : Option Out := match vs, B with
  | [v, .int .i64 _], [] => match isEm v with
    | true => some (.plain V)
    | false => none
  | _, _ => none
noncomputable def e1AY (V : Value) (vs : List Value) (B : List Cells) (K : Out → Prop) : Prop := match vs, B with
  | [v, .int .i64 _], [] => match isEm v with
    | true => K (.plain V)
    | false => False
  | _, _ => False
theorem e1A_ok (V : Value) (vs : List Value) (B : List Cells) (K : Out → Prop) (h : e1AY V vs B K) : ∃ o, e1X V vs B = some o ∧ K o := by
  unfold e1AY at h
  unfold e1X
  split at h
  · split at h
    · rename_i hv
      exact ⟨_, rfl, h⟩
    · exact h.elim
  · exact h.elim
theorem e1O_ok {f : FuncId} {V : Value} {orc : Orc} (ho : OrcOk Tryz.prog orc) (hV : flat 3 V = true) (hn : ∀ x, CallJ Tryz.prog f #[nilS, gi x] (canon Tryz.prog []) (fun v _ => v = V)) (he : ∀ q x, CallJ Tryz.prog f #[emS q, gi x] (canon Tryz.prog []) (fun v _ => v = V)) : OrcOk Tryz.prog (orElse f (anyO Tryz.prog.globals.size (e1X V)) orc) := by
  refine anyO_ok globs_pos ho fun vs B o h _ => ?_
  unfold e1X at h
  split at h
  · split at h
    · rename_i hv
      cases h
      rcases isEm_some hv with rfl | ⟨q, rfl⟩
      · exact ⟨hV, hn _⟩
      · exact ⟨hV, he q _⟩
    · cases h
  · cases h
end Go.Proofs.YtihnnmejkpddeaaGreatDoor
