/-
  OWN WORK. What is asked of the calls of a law on numbers.
-/
import Derived.Test.YtmfepbkpojafnaaGreatDoorFnK
namespace Go.Proofs.YtmfepbkpojafnaaGreatDoor
open Go Go.Am

noncomputable def askDraw (x y : Int) (h : AHeap) (k : Value → AHeap → Prop) : Prop :=
  (drawE x y = 0 → k (.tuple #[slB h.n y.toNat, gi 0]) (h.push (ic ((drawS x y.toNat).map gi)))) ∧ (drawE x y ≠ 0 → k (.tuple #[nilS, gi (drawE x y)]) h)
noncomputable def askRef (x y : Int) (h : AHeap) (k : Value → AHeap → Prop) : Prop :=
  drawE x y = 0 ∧ (y.toNat = 0 → k nilS h) ∧ (y.toNat ≠ 0 → k (slB h.n y.toNat) (h.push (ic ((drawS x y.toNat).map gi))))
noncomputable def askSame (args : List Value) (h : AHeap) (k : Value → AHeap → Prop) : Prop := match args with
  | [.slice none 0 0, .slice none 0 0] => k (.bool true) h
  | [.slice (some ⟨i, 0, none⟩) n _, .slice none 0 0] => match h.get i with
    | some (.cells c _ _ _) => (n = 0 ∧ c.all (flat 3) = true) ∧ k (.bool true) h
    | _ => False
  | [.slice (some ⟨i, 0, none⟩) n _, .slice (some ⟨j, 0, none⟩) m _] => match h.get i with
    | some (.cells c _ _ _) => match h.get j with
      | some (.cells d _ _ _) => match Nat.beq i j with
        | true => False
        | false => (∃ l : List Int, c = l.map gi ∧ d = l.map gi ∧ n = l.length ∧ m = l.length ∧ l.length ≤ 65536) ∧ k (.bool true) h
      | _ => False
    | _ => False
  | _ => False
noncomputable def lawAsks : Asks := fun f args h k =>
  match Nat.beq f 15 with
  | true => askSame args.toList h k
  | false => match args.toList with
    | [.int .i64 x, .int .i64 y] => match Nat.beq f 10 with
      | true => askDraw x y h k
      | false => match Nat.beq f 12 with
        | true => askRef x y h k
        | false => False
    | _ => False
end Go.Proofs.YtmfepbkpojafnaaGreatDoor
