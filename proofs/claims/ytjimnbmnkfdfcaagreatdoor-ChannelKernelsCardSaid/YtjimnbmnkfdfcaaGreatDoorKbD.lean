/-
  Kernels: short ones, awake, and what the law asks.
-/
import Derived.Test.YtjimnbmnkfdfcaaGreatDoorKbA
import Derived.Test.YtjimnbmnkfdfcaaGreatDoorAhZ
/-! (OWN WORK. Kernels: ShortKernel, of any length.) -/
namespace Go.Proofs.YtjimnbmnkfdfcaaGreatDoor
open Go Go.Am
noncomputable def skX (vs : List Value) (B : List Cells) : Option Out := match B with
  | [] => match vs with
    | [.slice none 0 0] => some (.plain (.bool true))
    | [.slice (some ⟨0, 0, none⟩) 0 _] => some (.plain (.bool true))
    | _ => none
  | [(c, _, _)] => match vs with
    | [.slice (some ⟨i, 0, none⟩) n _] => match Nat.beq i Tryz.prog.globals.size, decs dI c with
      | true, some _ => some (.plain (.bool (!(ilt 8 (Int.ofNat n)))))
      | _, _ => none
    | _ => none
  | _ => none
noncomputable def skY (vs : List Value) (B : List Cells) (K : Out → Prop) : Prop := match B with
  | [] => match vs with
    | [.slice none 0 0] => K (.plain (.bool true))
    | [.slice (some ⟨0, 0, none⟩) 0 _] => K (.plain (.bool true))
    | _ => False
  | [(c, _, _)] => match vs with
    | [.slice (some ⟨i, 0, none⟩) n _] => Nat.beq i Tryz.prog.globals.size = true ∧ (∃ l : List Int, c = l.map gi) ∧ K (.plain (.bool (!(ilt 8 (Int.ofNat n)))))
    | _ => False
  | _ => False
theorem skY_ok (vs : List Value) (B : List Cells) (K : Out → Prop) (h : skY vs B K) : ∃ o, skX vs B = some o ∧ K o := by
  unfold skY at h
  split at h
  · split at h
    · exact ⟨_, rfl, h⟩
    · exact ⟨_, rfl, h⟩
    · exact h.elim
  · split at h
    · obtain ⟨hi, ⟨l, rfl⟩, hK⟩ := h
      refine ⟨_, ?_, hK⟩
      simp only [skX, hi, decs_map (d := dI) (e := gi) (fun _ => rfl)]
    · exact h.elim
  · exact h.elim
noncomputable def orcKq : Orc := orElse 8 (anyO Tryz.prog.globals.size skX) orcKp
set_option maxRecDepth 100000 in
theorem orcKq_ok : OrcOk Tryz.prog orcKq := by
  refine anyO_ok globs_pos orcKp_ok fun vs B o h hfl => ?_
  unfold skX at h
  split at h
  · split at h
    · cases h; exact ⟨rfl, callC_ok mixed orcKo_ok (askKo_ok 1) (Eq.mpr (sk_nil _) rfl)⟩
    · cases h; exact ⟨rfl, callC_ok mixed orcKo_ok (askKo_ok 1) (Eq.mpr (sk_emp _ _) rfl)⟩
    · cases h
  · split at h
    · rename_i i n k
      split at h
      · rename_i l hb hd
        cases h
        rw [Nat.beq_eq] at hb
        obtain rfl := hb
        obtain rfl := decs_some (d := dI) (e := gi) dI_some hd
        exact ⟨rfl, callC_ok mixed orcKo_ok (askKo_ok 1) (Eq.mpr (sk_run l n _ _ k _) rfl)⟩
      · cases h
    · cases h
  · cases h
noncomputable def askKq (n : Nat) : Asks := asksV Tryz.prog.globals.size 8 skY (askKp n)
theorem askKq_ok (n : Nat) : AsksOk orcKq (askKq n) := asksV_ok skY_ok (askKp_ok n)
end Go.Proofs.YtjimnbmnkfdfcaaGreatDoor
/-! (OWN WORK. Kernels: awake; asks for the law, each of one way only.) -/
namespace Go.Proofs.YtjimnbmnkfdfcaaGreatDoor
open Go Go.Am
theorem awakeK_call (es : Nat → TypeId) : CallJ Tryz.prog 9 #[] (base tabs2 es Tryz.prog.globals.size) (fun v _ => v = .bool true) :=
  CallJ.pieces (fn := Tryz.f9) (v := .bool true) (by kernel_rfl) (by kernel_rfl) (fun g => atAh_0 es g)
def wakeK : List Value → Option Value
  | [] => some (.bool true)
  | _ => none
noncomputable def orcKz : Orc := orElse 9 (tabSpec tabs2 wakeK) orcKq
theorem orcKz_ok : OrcOk Tryz.prog orcKz := by
  refine tabSpec_ok tabs2_flat (fun l v h => ?_) orcKq_ok
  unfold wakeK at h
  split at h
  · cases h
    exact ⟨rfl, rfl, fun es => awakeK_call es⟩
  · cases h
noncomputable def askKz (n : Nat) : Asks := skipA 9 (askKq n)
theorem askKz_ok (n : Nat) : AsksOk orcKz (askKz n) := skipA_ok (askKq_ok n)
noncomputable def pZ (b : Nat) (W : List Int → List Int) (v : List Int → Int) (l : List Nat) (kl : List Int) (r : List Value) (K : Out → Prop) : Prop := match r with
  | [] => match b with
    | 0 => erE l kl ≠ 0 ∧ K (.plain (erV (erE l kl)))
    | 1 => (l.length ≤ 41 ∧ erE l kl = 0 ∧ okAll (l.map unitE) (W kl) (1 - (kl.length : Int)) (v kl) l.length) ∧ K (.fresh (tupM [] l.length [gi 0]) (dstF (valU (l.map unitE) l.length (W kl) (1 - (kl.length : Int)) (v kl)) l.length l.length) 96)
    | _ => (l.length ≤ 41 ∧ erE l kl = 0 ∧ ¬ okAll (l.map unitE) (W kl) (1 - (kl.length : Int)) (v kl) l.length) ∧ K (.plain (erV 4))
  | _ => False
end Go.Proofs.YtjimnbmnkfdfcaaGreatDoor
/-! (OWN WORK. Kernels: what the law asks of the filters and of the weights, each case alone.) -/
namespace Go.Proofs.YtjimnbmnkfdfcaaGreatDoor
open Go Go.Am
noncomputable def overA (f : FuncId) (A B : Asks) : Asks := fun f' args h k => match Nat.beq f f' with
  | true => A f' args h k
  | false => B f' args h k
theorem overA_ok {f : FuncId} {o1 orc : Orc} {A B : Asks} (hA : AsksOk o1 A) (h1 : ∀ a h r, o1 f a h = some r → orc f a h = some r) (hB : AsksOk orc B) : AsksOk orc (overA f A B) := by
  intro f' args h k hk
  unfold overA at hk
  split at hk
  · rename_i hf
    obtain rfl : f = f' := Nat.eq_of_beq_eq_true hf
    obtain ⟨v, h', e, q⟩ := hA f args h k hk
    exact ⟨v, h', h1 _ _ _ e, q⟩
  · exact hB f' args h k hk
def noO : Orc := fun _ _ _ => none
def noA : Asks := fun _ _ _ _ => False
theorem noA_ok : AsksOk noO noA := fun _ _ _ _ h => h.elim
theorem oe_at {f : FuncId} {X : Array Value → AHeap → Option (Value × AHeap)} {o : Orc} {a : Array Value} {h : AHeap} {r : Value × AHeap} (k : X a h = some r) : orElse f X o f a h = some r := by
  simp only [orElse, Nat.beq_refl, k]
theorem oe_ne {f g : FuncId} {X : Array Value → AHeap → Option (Value × AHeap)} {o : Orc} {a : Array Value} {h : AHeap} {r : Value × AHeap} (e : Nat.beq f g = false) (k : o g a h = some r) : orElse f X o g a h = some r := by
  simp only [orElse, e, k]
theorem oe_of {f : FuncId} {X : Array Value → AHeap → Option (Value × AHeap)} {a : Array Value} {h : AHeap} {r : Value × AHeap} (k : orElse f X noO f a h = some r) : X a h = some r := by
  simp only [orElse, Nat.beq_refl, noO] at k
  split at k
  · rename_i e; rw [e]; exact k
  · cases k
noncomputable def pVY (b : Nat) (W : List Int → List Int) (v : List Int → Int) (l : List Nat) (kl : List Int) (r : List Value) (K : Out → Prop) : Prop := match r with
  | [] => match b with
    | 0 => erE l kl ≠ 0 ∧ K (.plain (erV (erE l kl)))
    | 1 => (l.length ≤ 41 ∧ erE l kl = 0 ∧ okAll (l.map unitE) (W kl) (1 - (kl.length : Int)) (v kl) l.length) ∧ ∃ m, l.length = m + 1 ∧ K (.fresh (tupM [] (m + 1) [gi 0]) (dstF (valU (l.map unitE) l.length (W kl) (1 - (kl.length : Int)) (v kl)) l.length l.length) 96)
    | 3 => (l = [] ∧ erE l kl = 0) ∧ K (.fresh (tupM [] 0 [gi 0]) [] 96)
    | _ => (l.length ≤ 41 ∧ erE l kl = 0 ∧ ¬ okAll (l.map unitE) (W kl) (1 - (kl.length : Int)) (v kl) l.length) ∧ K (.plain (erV 4))
  | _ => False
theorem pV_ok {b : Nat} {W : List Int → List Int} {v : List Int → Int} (l : List Nat) (kl : List Int) (r : List Value) (K : Out → Prop) (h : pVY b W v l kl r K) : ∃ o, pX W v l kl r = some o ∧ K o := by
  unfold pVY at h
  split at h
  · split at h
    · obtain ⟨he, hk⟩ := h
      exact ⟨_, if_pos ⟨rfl, .inr he⟩, by rw [fOut_err he]; exact hk⟩
    · obtain ⟨⟨h1, he, ho⟩, m, hm, hk⟩ := h
      refine ⟨_, if_pos ⟨rfl, .inl h1⟩, ?_⟩
      rw [fOut_val he]
      unfold outP
      rw [if_pos ho, hm]; rw [hm] at hk; exact hk
    · obtain ⟨⟨rfl, he⟩, hk⟩ := h
      refine ⟨_, if_pos ⟨rfl, .inl (Nat.zero_le _)⟩, ?_⟩
      rw [fOut_val he]
      unfold outP
      have h0 : okAll (List.map unitE []) (W kl) (1 - (kl.length : Int)) (v kl) ([] : List Nat).length := fun i hi => absurd hi (Nat.not_lt_zero _)
      rw [if_pos h0]; exact hk
    · obtain ⟨⟨h1, he, ho⟩, hk⟩ := h
      refine ⟨_, if_pos ⟨rfl, .inl h1⟩, ?_⟩
      rw [fOut_val he]
      unfold outP
      rw [if_neg ho]; exact hk
  · exact h.elim
noncomputable def rVY (b : Nat) (f : List Nat → List Int → Nat → Int) (l : List Nat) (kl : List Int) (r : List Value) (K : Out → Prop) : Prop := match r with
  | [] => match b with
    | 1 => (erE l kl = 0 ∧ ∀ x ∈ rL f l kl, okU x) ∧ ∃ m, l.length = m + 1 ∧ K (.fresh (tupM [] (m + 1) [gi 0]) (mdP (rL f l kl) (rL f l kl).length) 96)
    | 3 => (l = [] ∧ erE l kl = 0) ∧ K (.plain (erV 0))
    | _ => (erE l kl = 0 ∧ l ≠ [] ∧ ¬ ∀ x ∈ rL f l kl, okU x) ∧ K (.plain (erV 4))
  | _ => False
theorem rL_ne {f : List Nat → List Int → Nat → Int} {l : List Nat} {kl : List Int} (h : l ≠ []) : rL f l kl ≠ [] := fun q => h (List.eq_nil_of_length_eq_zero (by have := congrArg List.length q; simpa [rL] using this))
theorem rV_ok {b : Nat} {f : List Nat → List Int → Nat → Int} (l : List Nat) (kl : List Int) (r : List Value) (K : Out → Prop) (h : rVY b f l kl r K) : ∃ o, rX f l kl r = some o ∧ K o := by
  unfold rVY at h
  split at h
  · split at h
    · obtain ⟨⟨he, ho⟩, m, hm, hk⟩ := h
      refine ⟨_, if_pos ⟨rfl, he⟩, ?_⟩
      have hn : rL f l kl ≠ [] := rL_ne fun q => by rw [q] at hm; simp at hm
      have hl : (rL f l kl).length = m + 1 := by simp [rL, hm]
      unfold mkO
      rw [if_neg hn, if_pos ho, hl]; rw [hl] at hk; exact hk
    · obtain ⟨⟨rfl, he⟩, hk⟩ := h
      exact ⟨_, if_pos ⟨rfl, he⟩, hk⟩
    · obtain ⟨⟨he, hn, ho⟩, hk⟩ := h
      refine ⟨_, if_pos ⟨rfl, he⟩, ?_⟩
      unfold mkO
      rw [if_neg (rL_ne hn), if_neg ho]; exact hk
  · exact h.elim
noncomputable def wVY (b : Bool) (l : List Int) (r : List Value) (K : Out → Prop) : Prop := r = [] ∧ match b with
  | false => keE l ≠ 0 ∧ K (.plain (weV (keE l)))
  | true => keE l = 0 ∧ ∃ q, l.length = q + 1 ∧ K (.fresh (tupM [] (2 * q + 1) [gi (sumW l * sumW l), gi 0]) ((wtsE l).map gi) 3)
theorem wV_ok (b : Bool) (l : List Int) (r : List Value) (K : Out → Prop) (h : wVY b l r K) : ∃ o, ifX wtC wtO l r = some o ∧ K o := by
  obtain ⟨hc, h1⟩ := h
  refine ⟨_, if_pos hc, ?_⟩
  unfold wtO
  split at h1
  · rw [if_neg h1.1]; exact h1.2
  · obtain ⟨he, q, hq, hk⟩ := h1
    rw [if_pos he, hq, show 2 * (q + 1) - 1 = 2 * q + 1 by omega]; exact hk
noncomputable def rwVY (l : List Int) (r : List Value) (K : Out → Prop) : Prop := (r = [] ∧ keE l = 0) ∧ ∃ q, l.length = q + 1 ∧ K (.fresh (tupM [] (2 * q + 1) [gi (sumW l * sumW l)]) ((wtsE l).map gi) 3)
theorem rwV_ok (l : List Int) (r : List Value) (K : Out → Prop) (h : rwVY l r K) : ∃ o, ifX kC rwO l r = some o ∧ K o := by
  obtain ⟨hc, q, hq, hk⟩ := h
  refine ⟨_, if_pos hc, ?_⟩
  unfold rwO
  rw [hq, show 2 * (q + 1) - 1 = 2 * q + 1 by omega]; exact hk
noncomputable def askLz (b b' : Nat) (w : Bool) : Asks :=
  overA 13 (asks2 Tryz.prog.globals.size 13 tF tI (pVY b' wtsE sqW) noA)
  (overA 10 (asks2 Tryz.prog.globals.size 10 tF tI (pVY b List.reverse sumW) noA)
  (overA 19 (asks2 Tryz.prog.globals.size 19 tF tI (rVY b' refF2) noA)
  (overA 18 (asks2 Tryz.prog.globals.size 18 tF tI (rVY b refF1) noA)
  (overA 14 (asksT' Tryz.prog.globals.size 14 tI (wVY w) noA)
  (overA 20 (asksT' Tryz.prog.globals.size 20 tI rwVY noA) (askKz 1))))))
set_option maxRecDepth 100000 in
theorem askLz_ok (b b' : Nat) (w : Bool) : AsksOk orcKz (askLz b b' w) := by
  refine overA_ok (asks2_ok pV_ok noA_ok) (fun _ _ _ q => ?_)
    (overA_ok (asks2_ok pV_ok noA_ok) (fun _ _ _ q => ?_)
    (overA_ok (asks2_ok rV_ok noA_ok) (fun _ _ _ q => ?_)
    (overA_ok (asks2_ok rV_ok noA_ok) (fun _ _ _ q => ?_)
    (overA_ok (asksT'_ok (wV_ok w) noA_ok) (fun _ _ _ q => ?_)
    (overA_ok (asksT'_ok rwV_ok noA_ok) (fun _ _ _ q => ?_) (askKz_ok 1))))))
  all_goals
    have q' := oe_of q
    repeat' (first | exact oe_at q' | refine oe_ne rfl ?_)
end Go.Proofs.YtjimnbmnkfdfcaaGreatDoor
