/-
  OWN WORK. Short kernels, awake, one function in other words.
-/
import Derived.Test.YthgojmebbhpbbaaGreatDoorKdA
import Derived.Test.YthgojmebbhpbbaaGreatDoorAhZ
/-! (OWN WORK. Kernels: ShortKernel, of any length.) -/
namespace Go.Proofs.YthgojmebbhpbbaaGreatDoor
open Go Go.Am
noncomputable def skX (vs : List Value) (B : List Cells) : Option Out := match B with
 | [] => match vs with
  | [.slice none 0 0] => some (.plain (.bool true))
  | [.slice (some ⟨0, 0, none⟩) 0 _] => some (.plain (.bool true))
  | _ => none
 | [(c, _, _)] => match vs with
  | [.slice (some ⟨i, 0, none⟩) n _] => match Nat.beq i Tryz.prog.globals.size, decs dI c with
   | true, some _ => some (.plain (.bool (!(ilt 8 (Int.ofNat n)))))
   | _, _ => none
  | _ => none
 | _ => none
noncomputable def skY (vs : List Value) (B : List Cells) (K : Out → Prop) : Prop := match B with
 | [] => match vs with
  | [.slice none 0 0] => K (.plain (.bool true))
  | [.slice (some ⟨0, 0, none⟩) 0 _] => K (.plain (.bool true))
  | _ => False
 | [(c, _, _)] => match vs with
  | [.slice (some ⟨i, 0, none⟩) n _] => Nat.beq i Tryz.prog.globals.size = true ∧ (∃ l : List Int, c = l.map gi) ∧ K (.plain (.bool (!(ilt 8 (Int.ofNat n)))))
  | _ => False
 | _ => False
theorem skY_ok (vs : List Value) (B : List Cells) (K : Out → Prop) (h : skY vs B K) : ∃ o, skX vs B = some o ∧ K o := by
 unfold skY at h
 split at h
 ·split at h
  ·exact ⟨_, rfl, h⟩
  ·exact ⟨_, rfl, h⟩
  ·exact h.elim
 ·split at h
  ·obtain ⟨hi, ⟨l, rfl⟩, hK⟩ := h
   refine ⟨_, ?_, hK⟩
   simp only [skX, hi, decs_map (d := dI) (e := gi) (fun _ => rfl)]
  ·exact h.elim
 ·exact h.elim
noncomputable def orcKq : Orc := orElse 6 (anyO Tryz.prog.globals.size skX) orcKp
set_option maxRecDepth 100000 in
theorem orcKq_ok : OrcOk Tryz.prog orcKq := by
 refine anyO_ok globs_pos orcKp_ok fun vs B o h hfl => ?_
 unfold skX at h
 split at h
 ·split at h
  ·cases h; exact ⟨rfl, callC_ok mixed orcKo_ok (askKo_ok 1) (Eq.mpr (sk_nil _) rfl)⟩
  ·cases h; exact ⟨rfl, callC_ok mixed orcKo_ok (askKo_ok 1) (Eq.mpr (sk_emp _ _) rfl)⟩
  ·cases h
 ·split at h
  ·rename_i i n k
   split at h
   ·rename_i l hb hd
    cases h
    rw [Nat.beq_eq] at hb
    obtain rfl := hb
    obtain rfl := decs_some (d := dI) (e := gi) dI_some hd
    exact ⟨rfl, callC_ok mixed orcKo_ok (askKo_ok 1) (Eq.mpr (sk_run l n _ _ k _) rfl)⟩
   ·cases h
  ·cases h
 ·cases h
noncomputable def askKq (n : Nat) : Asks := asksV Tryz.prog.globals.size 6 skY (askKp n)
theorem askKq_ok (n : Nat) : AsksOk orcKq (askKq n) := asksV_ok skY_ok (askKp_ok n)
end Go.Proofs.YthgojmebbhpbbaaGreatDoor
/-! (OWN WORK. Kernels: awake.) -/
namespace Go.Proofs.YthgojmebbhpbbaaGreatDoor
open Go Go.Am
theorem awakeK_call (es : Nat → TypeId) : CallJ Tryz.prog 7 #[] (base tabs2 es Tryz.prog.globals.size) (fun v _ => v = .bool true) :=
 CallJ.pieces (fn := Tryz.f7) (v := .bool true) (by kernel_rfl) (by kernel_rfl) (fun g => atAh_0 es g)
def wakeK : List Value → Option Value
 | [] => some (.bool true)
 | _ => none
noncomputable def orcKz : Orc := orElse 7 (tabSpec tabs2 wakeK) orcKq
theorem orcKz_ok : OrcOk Tryz.prog orcKz := by
 refine tabSpec_ok tabs2_flat (fun l v h => ?_) orcKq_ok
 unfold wakeK at h
 split at h
 ·cases h
  exact ⟨rfl, rfl, fun es => awakeK_call es⟩
 ·cases h
noncomputable def askKz (n : Nat) : Asks := skipA 7 (askKq n)
theorem askKz_ok (n : Nat) : AsksOk orcKz (askKz n) := skipA_ok (askKq_ok n)
end Go.Proofs.YthgojmebbhpbbaaGreatDoor
/-! (OWN WORK. Kernels: one function asked in other words; weights.) -/
namespace Go.Proofs.YthgojmebbhpbbaaGreatDoor
open Go Go.Am
noncomputable def overA (f : FuncId) (A B : Asks) : Asks := fun f' args h k => match Nat.beq f f' with
 | true => A f' args h k
 | false => B f' args h k
theorem overA_ok {f : FuncId} {o1 orc : Orc} {A B : Asks} (hA : AsksOk o1 A) (h1 : ∀ a h r, o1 f a h = some r → orc f a h = some r) (hB : AsksOk orc B) : AsksOk orc (overA f A B) := by
 intro f' args h k hk
 unfold overA at hk
 split at hk
 ·rename_i hf
  obtain rfl : f = f' := Nat.eq_of_beq_eq_true hf
  obtain ⟨v, h', e, q⟩ := hA f args h k hk
  exact ⟨v, h', h1 _ _ _ e, q⟩
 ·exact hB f' args h k hk
def noO : Orc := fun _ _ _ => none
def noA : Asks := fun _ _ _ _ => False
theorem noA_ok : AsksOk noO noA := fun _ _ _ _ h => h.elim
theorem oe_at {f : FuncId} {X : Array Value → AHeap → Option (Value × AHeap)} {o : Orc} {a : Array Value} {h : AHeap} {r : Value × AHeap} (k : X a h = some r) : orElse f X o f a h = some r := by
 simp only [orElse, Nat.beq_refl, k]
theorem oe_ne {f g : FuncId} {X : Array Value → AHeap → Option (Value × AHeap)} {o : Orc} {a : Array Value} {h : AHeap} {r : Value × AHeap} (e : Nat.beq f g = false) (k : o g a h = some r) : orElse f X o g a h = some r := by
 simp only [orElse, e, k]
theorem oe_of {f : FuncId} {X : Array Value → AHeap → Option (Value × AHeap)} {a : Array Value} {h : AHeap} {r : Value × AHeap} (k : orElse f X noO f a h = some r) : X a h = some r := by
 simp only [orElse, Nat.beq_refl, noO] at k
 split at k
 ·rename_i e; rw [e]; exact k
 ·cases k
noncomputable def wVY (b : Bool) (l : List Int) (r : List Value) (K : Out → Prop) : Prop := r = [] ∧ match b with
 | false => keE l ≠ 0 ∧ K (.plain (weV (keE l)))
 | true => keE l = 0 ∧ ∃ q, l.length = q + 1 ∧ K (.fresh (tupM [] (2 * q + 1) [gi (sumW l * sumW l), gi 0]) ((wtsE l).map gi) 3)
theorem wV_ok (b : Bool) (l : List Int) (r : List Value) (K : Out → Prop) (h : wVY b l r K) : ∃ o, ifX wtC wtO l r = some o ∧ K o := by
 obtain ⟨hc, h1⟩ := h
 refine ⟨_, if_pos hc, ?_⟩
 unfold wtO
 split at h1
 ·rw [if_neg h1.1]; exact h1.2
 ·obtain ⟨he, q, hq, hk⟩ := h1
  rw [if_pos he, hq, show 2 * (q + 1) - 1 = 2 * q + 1 by omega]; exact hk
end Go.Proofs.YthgojmebbhpbbaaGreatDoor
/-! (OWN WORK. Kernels: sums over a window, weights there and back.) -/
namespace Go.Proofs.YthgojmebbhpbbaaGreatDoor
open Go Go.Am
theorem atE_bd {n : Nat} (x : Int) (hn : 1 ≤ n) : 0 ≤ atE x (Int.ofNat n) ∧ atE x (Int.ofNat n) < n := by
 unfold atE
 simp only [Int.ofNat_eq_natCast]
 repeat' split
 all_goals omega
noncomputable def atN (x : Int) (n : Nat) : Nat := (atE x (Int.ofNat n)).toNat
theorem atN_lt {n : Nat} (x : Int) (hn : 1 ≤ n) : atN x n < n := by
 obtain ⟨h0, h1⟩ := atE_bd x hn
 unfold atN; omega
noncomputable def dq (q : Int → Int) : List Int → Int → Int → Int
 | [], _, s => s
 | w :: W, z, s => dq q W (z + 1) (s + w * q z)
theorem pl_at (n j : Nat) (d i : Int) : plF n j d i = atE (Int.ofNat j + (d + i)) (Int.ofNat n) := by
 unfold plF atE
 rw [show Int.ofNat j + (d + i) = Int.ofNat j + d + i by omega]
 generalize Int.ofNat j + d + i = x
 generalize Int.ofNat n - 1 = y
 repeat' split
 all_goals omega
theorem wts_1 (a : Int) : wtsE [a] = [0 + a * a] := by kernel_rfl
theorem wts_2 (a b : Int) : wtsE [a, b] = [0 + a * b, 0 + a * a + b * b, 0 + b * a] := by kernel_rfl
theorem wts_3 (a b c : Int) : wtsE [a, b, c] = [0 + a * c, 0 + a * b + b * c, 0 + a * a + b * b + c * c, 0 + b * a + c * b, 0 + c * a] := by kernel_rfl
theorem wts_4 (a b c d : Int) : wtsE [a, b, c, d] = [0 + a * d, 0 + a * c + b * d, 0 + a * b + b * c + c * d, 0 + a * a + b * b + c * c + d * d, 0 + b * a + c * b + d * c, 0 + c * a + d * b, 0 + d * a] := by kernel_rfl
theorem wts_5 (a b c d p : Int) : wtsE [a, b, c, d, p] = [0 + a * p, 0 + a * d + b * p, 0 + a * c + b * d + c * p, 0 + a * b + b * c + c * d + d * p, 0 + a * a + b * b + c * c + d * d + p * p, 0 + b * a + c * b + d * c + p * d, 0 + c * a + d * b + p * c, 0 + d * a + p * b, 0 + p * a] := by kernel_rfl
theorem wts_6 (a b c d p u : Int) : wtsE [a, b, c, d, p, u] = [0 + a * u, 0 + a * p + b * u, 0 + a * d + b * p + c * u, 0 + a * c + b * d + c * p + d * u, 0 + a * b + b * c + c * d + d * p + p * u, 0 + a * a + b * b + c * c + d * d + p * p + u * u, 0 + b * a + c * b + d * c + p * d + u * p, 0 + c * a + d * b + p * c + u * d, 0 + d * a + p * b + u * c, 0 + p * a + u * b, 0 + u * a] := by kernel_rfl
theorem wts_7 (a b c d p u z : Int) : wtsE [a, b, c, d, p, u, z] = [0 + a * z, 0 + a * u + b * z, 0 + a * p + b * u + c * z, 0 + a * d + b * p + c * u + d * z, 0 + a * c + b * d + c * p + d * u + p * z, 0 + a * b + b * c + c * d + d * p + p * u + u * z, 0 + a * a + b * b + c * c + d * d + p * p + u * u + z * z, 0 + b * a + c * b + d * c + p * d + u * p + z * u, 0 + c * a + d * b + p * c + u * d + z * p, 0 + d * a + p * b + u * c + z * d, 0 + p * a + u * b + z * c, 0 + u * a + z * b, 0 + z * a] := by kernel_rfl
end Go.Proofs.YthgojmebbhpbbaaGreatDoor
