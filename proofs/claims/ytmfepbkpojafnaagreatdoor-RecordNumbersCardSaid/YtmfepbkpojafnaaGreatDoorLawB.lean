/-
  OWN WORK. The law on numbers: its last line.
-/
import Derived.Test.YtmfepbkpojafnaaGreatDoorLawA
namespace Go.Proofs.YtmfepbkpojafnaaGreatDoor
open Go Go.Am

noncomputable abbrev HL (es : Nat → TypeId) (a b c d : Int) : AHeap := ((base tabs es Tryz.prog.globals.size).push (.cells [gi a, gi b] 22 0 false)).push (.cells [gi c, gi d] 24 0 false)
noncomputable abbrev boxR : Value := .pointer (some ⟨Tryz.prog.globals.size + 1, 0, none⟩)
noncomputable def numAsks : Asks := fun f args h k =>
  match Nat.beq f 15 with
  | true => sameO args h = some (.bool true, h) ∧ k (.bool true) h
  | false => match args.toList with
    | [.int .i64 x, .int .i64 y] => match Nat.beq f 10 with
      | true => askDraw x y h k
      | false => match Nat.beq f 12 with
        | true => askRef x y h k
        | false => False
    | _ => False
theorem last_0 (es : Nat → TypeId) (s : ByteArray) (a b c d e : Int) (v7 v10 : Value) (g : Nat → Value) (Q : Exit → List Value → AHeap → Prop) :
    execC Tryz.prog (exec Tryz.prog orcK 10) (syOf [(36, 1), (38, 1), (43, 7), (48, 1), (55, 1)]) numAsks (noLoops _) 4 (regionOf Tryz.prog 3 8) (stOf 60 [(0, .string s), (5, boxR), (7, v7), (8, gi e), (9, gi e), (10, v10)] g) (HL es a b c d) (told 60 [6] Q) =
    ((nameS s = true → (nameS s = true → sameO #[v7, v10] (HL es a b c d) = some (.bool true, HL es a b c d) ∧ ((ieq e e) = true → (Value.agg #[gi c, gi d] = .agg #[gi c, gi d]) ∧ ((ieq (ratioR c d) (ratioR c d)) = true → Q .normal [.bool true] (HL es a b c d)) ∧ ((ieq (ratioR c d) (ratioR c d)) = false → Q .normal [.bool false] (HL es a b c d))) ∧ ((ieq e e) = false → Q .normal [.bool false] (HL es a b c d))) ∧ (nameS s = false → Q .normal [.bool false] (HL es a b c d))) ∧
     (nameS s = false → (nameS s = true → Q .normal [.bool false] (HL es a b c d)) ∧ (nameS s = false → sameO #[v7, v10] (HL es a b c d) = some (.bool true, HL es a b c d) ∧ ((ieq e e) = true → (Value.agg #[gi c, gi d] = .agg #[gi c, gi d]) ∧ ((ieq (ratioR c d) (ratioR c d)) = true → Q .normal [.bool true] (HL es a b c d)) ∧ ((ieq (ratioR c d) (ratioR c d)) = false → Q .normal [.bool false] (HL es a b c d))) ∧ ((ieq e e) = false → Q .normal [.bool false] (HL es a b c d))))) := by kernel_rfl
theorem last_1 (es : Nat → TypeId) (s : ByteArray) (a b c d e : Int) (v7 v10 : Value) (L : List Value) (g : Nat → Value) (Q : Exit → List Value → AHeap → Prop) :
    execC Tryz.prog (exec Tryz.prog orcK 10) (syOf [(36, 1), (38, 1), (43, 7), (48, 1), (55, 1)]) numAsks (noLoops _) 4 (regionOf Tryz.prog 3 8) (stOf 60 [(0, .string s), (5, boxR), (7, v7), (8, gi e), (9, gi e), (10, v10)] g) ((HL es a b c d).push (ic L)) (told 60 [6] Q) =
    ((nameS s = true → (nameS s = true → sameO #[v7, v10] ((HL es a b c d).push (ic L)) = some (.bool true, (HL es a b c d).push (ic L)) ∧ ((ieq e e) = true → (Value.agg #[gi c, gi d] = .agg #[gi c, gi d]) ∧ ((ieq (ratioR c d) (ratioR c d)) = true → Q .normal [.bool true] ((HL es a b c d).push (ic L))) ∧ ((ieq (ratioR c d) (ratioR c d)) = false → Q .normal [.bool false] ((HL es a b c d).push (ic L)))) ∧ ((ieq e e) = false → Q .normal [.bool false] ((HL es a b c d).push (ic L)))) ∧ (nameS s = false → Q .normal [.bool false] ((HL es a b c d).push (ic L)))) ∧
     (nameS s = false → (nameS s = true → Q .normal [.bool false] ((HL es a b c d).push (ic L))) ∧ (nameS s = false → sameO #[v7, v10] ((HL es a b c d).push (ic L)) = some (.bool true, (HL es a b c d).push (ic L)) ∧ ((ieq e e) = true → (Value.agg #[gi c, gi d] = .agg #[gi c, gi d]) ∧ ((ieq (ratioR c d) (ratioR c d)) = true → Q .normal [.bool true] ((HL es a b c d).push (ic L))) ∧ ((ieq (ratioR c d) (ratioR c d)) = false → Q .normal [.bool false] ((HL es a b c d).push (ic L)))) ∧ ((ieq e e) = false → Q .normal [.bool false] ((HL es a b c d).push (ic L)))))) := by kernel_rfl
theorem last_2 (es : Nat → TypeId) (s : ByteArray) (a b c d e : Int) (v7 v10 : Value) (L : List Value) (g : Nat → Value) (Q : Exit → List Value → AHeap → Prop) :
    execC Tryz.prog (exec Tryz.prog orcK 10) (syOf [(36, 1), (38, 1), (43, 7), (48, 1), (55, 1)]) numAsks (noLoops _) 4 (regionOf Tryz.prog 3 8) (stOf 60 [(0, .string s), (5, boxR), (7, v7), (8, gi e), (9, gi e), (10, v10)] g) (((HL es a b c d).push (ic L)).push (ic L)) (told 60 [6] Q) =
    ((nameS s = true → (nameS s = true → sameO #[v7, v10] (((HL es a b c d).push (ic L)).push (ic L)) = some (.bool true, ((HL es a b c d).push (ic L)).push (ic L)) ∧ ((ieq e e) = true → (Value.agg #[gi c, gi d] = .agg #[gi c, gi d]) ∧ ((ieq (ratioR c d) (ratioR c d)) = true → Q .normal [.bool true] (((HL es a b c d).push (ic L)).push (ic L))) ∧ ((ieq (ratioR c d) (ratioR c d)) = false → Q .normal [.bool false] (((HL es a b c d).push (ic L)).push (ic L)))) ∧ ((ieq e e) = false → Q .normal [.bool false] (((HL es a b c d).push (ic L)).push (ic L)))) ∧ (nameS s = false → Q .normal [.bool false] (((HL es a b c d).push (ic L)).push (ic L)))) ∧
     (nameS s = false → (nameS s = true → Q .normal [.bool false] (((HL es a b c d).push (ic L)).push (ic L))) ∧ (nameS s = false → sameO #[v7, v10] (((HL es a b c d).push (ic L)).push (ic L)) = some (.bool true, ((HL es a b c d).push (ic L)).push (ic L)) ∧ ((ieq e e) = true → (Value.agg #[gi c, gi d] = .agg #[gi c, gi d]) ∧ ((ieq (ratioR c d) (ratioR c d)) = true → Q .normal [.bool true] (((HL es a b c d).push (ic L)).push (ic L))) ∧ ((ieq (ratioR c d) (ratioR c d)) = false → Q .normal [.bool false] (((HL es a b c d).push (ic L)).push (ic L)))) ∧ ((ieq e e) = false → Q .normal [.bool false] (((HL es a b c d).push (ic L)).push (ic L)))))) := by kernel_rfl
end Go.Proofs.YtmfepbkpojafnaaGreatDoor
