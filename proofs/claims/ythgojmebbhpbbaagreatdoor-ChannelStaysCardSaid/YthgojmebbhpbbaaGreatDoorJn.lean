/-
  OWN WORK. The library's contract for strings.Join, laid over this program.
-/
import Derived.Test.YthgojmebbhpbbaaGreatDoorAm4
import Derived.Shelf.Strings.OnBuilder
import Derived.Test.YthgojmebbhpbbaaGreatDoorProg
import Derived.KernelRfl
namespace Go.Proofs.YthgojmebbhpbbaaGreatDoor
open Go Go.Am Go.Shelf
def joinRen : Go.Shelf.Ren := ⟨fun | 156 => 134 | 165 => 147 | 166 => 148 | 169 => 149 | 240 => 156 | 241 => 157 | 276 => 167 | 277 => 168 | n => n, fun | 31 => 187 | 9 => 9 | 3 => 3 | 4 => 4 | 0 => 0 | 20 => 20 | 72 => 199 | 76 => 203 | 70 => 196 | 37 => 197 | 75 => 202 | 127 => 209 | 164 => 218 | 5 => 5 | 80 => 115 | n => n, fun | n => n⟩
theorem joinLays : Go.Proofs.Lays.n156 Tryz.prog joinRen := {
 mixed := by kernel_rfl
 f156 := Tryz.func134.trans (congrArg some (by kernel_rfl))
 f165 := Tryz.func147.trans (congrArg some (by kernel_rfl))
 f166 := Tryz.func148.trans (congrArg some (by kernel_rfl))
 f169 := Tryz.func149.trans (congrArg some (by kernel_rfl))
 f240 := Tryz.func156.trans (congrArg some (by kernel_rfl))
 f241 := Tryz.func157.trans (congrArg some (by kernel_rfl))
 f276 := Tryz.func167.trans (congrArg some (by kernel_rfl))
 f277 := Tryz.func168.trans (congrArg some (by kernel_rfl))
 t0 := Tryz.underlying0
 a0 := Tryz.isAgg0
 z0 := Tryz.sizeOf0
 v0 := Tryz.zeroValue0
 t3 := Tryz.underlying3
 a3 := Tryz.isAgg3
 z3 := Tryz.sizeOf3
 v3 := Tryz.zeroValue3
 t4 := Tryz.underlying4
 a4 := Tryz.isAgg4
 z4 := Tryz.sizeOf4
 v4 := Tryz.zeroValue4
 t9 := Tryz.underlying9
 a9 := Tryz.isAgg9
 z9 := Tryz.sizeOf9
 v9 := Tryz.zeroValue9
 t20 := Tryz.underlying20
 a20 := Tryz.isAgg20
 z20 := Tryz.sizeOf20
 v20 := Tryz.zeroValue20
 t31 := Tryz.underlying187
 a31 := Tryz.isAgg187
 z31 := Tryz.sizeOf187
 v31 := Tryz.zeroValue187
 t37 := Tryz.underlying197
 a37 := Tryz.isAgg197
 z37 := Tryz.sizeOf197
 v37 := Tryz.zeroValue197
 t70 := Tryz.underlying196
 a70 := Tryz.isAgg196
 z70 := Tryz.sizeOf196
 v70 := Tryz.zeroValue196
 t72 := Tryz.underlying199
 a72 := Tryz.isAgg199
 z72 := Tryz.sizeOf199
 v72 := Tryz.zeroValue199
 t75 := Tryz.underlying202
 a75 := Tryz.isAgg202
 z75 := Tryz.sizeOf202
 v75 := Tryz.zeroValue202
 t76 := Tryz.underlying203
 a76 := Tryz.isAgg203
 z76 := Tryz.sizeOf203
 v76 := Tryz.zeroValue203
 t127 := Tryz.underlying209
 a127 := Tryz.isAgg209
 z127 := Tryz.sizeOf209
 v127 := Tryz.zeroValue209
 t164 := Tryz.underlying218
 a164 := Tryz.isAgg218
 z164 := Tryz.sizeOf218
 v164 := Tryz.zeroValue218 }
theorem joinExtra : Builder.Extra Tryz.prog joinRen := {
 sizeBuilder := by kernel_rfl
 liesBuilder := by kernel_rfl
 t5 := Tryz.underlying5
 a5 := Tryz.isAgg5
 z5 := Tryz.sizeOf5
 v5 := Tryz.zeroValue5
 infoByte := by kernel_rfl
 cellsByte := by kernel_rfl
 sizeByte := by kernel_rfl
 neB5 := by decide }
noncomputable def orj : Orc := orElse 134 joinS (fun _ _ _ => none)
theorem orj_ok : OrcOk Tryz.prog orj := joinS_ok (fun a c sep w => Any.strings_Join_none joinLays joinExtra a c sep w)
 (fun bk o c xs sep w h1 h2 h3 h4 h5 => Any.strings_Join joinLays joinExtra bk o c xs sep w h1 h2 h3 h4 h5) (fun _ _ _ _ _ h => by cases h)
end Go.Proofs.YthgojmebbhpbbaaGreatDoor
