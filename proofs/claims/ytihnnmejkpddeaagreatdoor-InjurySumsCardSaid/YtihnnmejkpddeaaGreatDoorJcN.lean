/-
  OWN WORK. Stage 6: copies, absolute values of lists, sums by limits and the reference's moments, carried out.
-/
import Derived.Test.YtihnnmejkpddeaaGreatDoorJcL
namespace Go.Proofs.YtihnnmejkpddeaaGreatDoor
open Go Go.Am

noncomputable def syCl : FuncId → Sy := fun f => match Nat.beq f 110 with
  | true => syOf [(7, 16)]
  | false => syOf []
theorem clo_run (l : List Int) (m e row k : Nat) (K : Value → AHeap → Prop) : callR Tryz.prog orcJf syCl askJf 60 110 #[liP (m + 1) k] (canon Tryz.prog [(l.map gi, e, row)]) K = ((Nat.ble (0 + (m + 1)) (List.length (List.map gi l)) = true ∧ Nat.ble (((2 * (m + 1)) + 256) * 8) 281474976710656 = true ∧ List.all (List.take (m + 1) (List.drop 0 (List.map gi l))) Value.oneCell' = true ∧ K (Value.slice (some ⟨nG1 + 2, 0, none⟩) (m + 1) (m + 1)) ((((canon Tryz.prog [Prod.mk (List.map gi l) (Prod.mk e row)]).push (.cells [] 3 2 false)).set (nG1 + 1) (.dead)).push (.cells (List.take (m + 1) (List.drop 0 (List.map gi l))) 3 2 false)))) := by kernel_rfl
theorem rmo_run (a b : List Int) (u : Int) (m e row k e' row' k' : Nat) (K : Value → AHeap → Prop) : callC Tryz.prog (exec Tryz.prog orcJf 10) (syOf []) askJf (moLo a b u (m + 1) e row k e' row' k') 40 41 #[liP (m + 1) k, slQ (m + 1) k', gi u] (i2H a e row b e' row') K = ((loopOf Tryz.prog 41 0 = loopOf Tryz.prog 41 0 ∧ liP (m + 1) k = liP (m + 1) k ∧ slQ (m + 1) k' = slQ (m + 1) k' ∧ gi u = gi u ∧ nilS = nilS ∧ gi 0 = goN 0 ∧ (i2H a e row b e' row').get (nG1) = Option.some (.cells (List.map gi a) e row true) ∧ (i2H a e row b e' row').get (nG1 + 1) = Option.some (.cells (List.map gi b) e' row' true) ∧ ((List.length a = (m + 1) ∧ List.length b = (m + 1) ∧ (0 : Nat) < (m + 1) ∧ ((m + 1) : Nat) ≤ 65536) ∧ bdU a ∧ bdU b ∧ limS u) ∧ (∀ _ : Nat → Value, K (slN 2 (m + 1) (m + 1)) (moD (List.map gi a) (List.map gi b) e row e' row' (List.map gi (moL u a b)))))) := by kernel_rfl
end Go.Proofs.YtihnnmejkpddeaaGreatDoor
