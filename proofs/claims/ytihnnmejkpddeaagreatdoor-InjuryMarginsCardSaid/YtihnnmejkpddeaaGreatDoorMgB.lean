/-
  OWN WORK. Stage 6: sizes and bounds, carried out.
-/
import Derived.Test.YtihnnmejkpddeaaGreatDoorMgA
import Derived.Test.YtihnnmejkpddeaaGreatDoorJcAE
namespace Go.Proofs.YtihnnmejkpddeaaGreatDoor
open Go Go.Am

theorem sz_run (a b : Int) (K : Value → Prop) : callC Tryz.prog (exec Tryz.prog orcJc 10) (syOf [(12, 1), (17, 7), (19, 15)]) askJc (noLoops _) 20 91 #[.agg #[gi a, gi b]] (emp Tryz.prog) (fun v _ => K v) = (([gi a, gi b][1]? = Option.some (gi b) ∧ [gi a, gi b][1]? = Option.some (gi b) ∧ [gi a, gi b][1]? = Option.some (gi b) ∧ (ilt 0 b = true → (ratB a b = true ∧ Value.agg #[gi a, gi b] = Value.agg #[gi a, gi b] ∧ K (gi (firstS [withinS a 0 5000000000000, withinS b 1 1000000, whenS (!(ieq (rqA a b) a && (ieq (rqB a b) b && true))) 1])))) ∧ (ilt 0 b = false → K (gi (firstS [withinS a 0 5000000000000, withinS b 1 1000000, 0]))))) := by kernel_rfl
theorem rsz_run (a b : Int) (K : Value → Prop) : callC Tryz.prog (exec Tryz.prog orcJc 10) (syOf [(13, 1), (19, 7), (21, 15)]) askJc (noLoops _) 20 23 #[.agg #[gi a, gi b]] (emp Tryz.prog) (fun v _ => K v) = (([gi a, gi b][1]? = Option.some (gi b) ∧ ((!(ieq (firstS [withinS a 0 5000000000000, withinS b 1 1000000]) 0)) = true → K (gi (firstS [withinS a 0 5000000000000, withinS b 1 1000000]))) ∧ ((!(ieq (firstS [withinS a 0 5000000000000, withinS b 1 1000000]) 0)) = false → (dvB a b = true ∧ Value.agg #[gi a, gi b] = Value.agg #[gi a, gi b] ∧ K (gi (whenS (!(ieq (rqA a b) a && (ieq (rqB a b) b && true))) 1)))))) := by kernel_rfl
theorem scp_run (a b r c d : Int) (K : Value → Prop) : callC Tryz.prog (exec Tryz.prog orcJc 10) (syOf []) askJc (noLoops _) 20 173 #[.agg #[gi a, gi b, gi r], .agg #[gi c, gi d]] (emp Tryz.prog) (fun v _ => K v) = (K (gi (cpR (Prod.mk a b) (Prod.mk c d)))) := by kernel_rfl
theorem rst_run (n k : Nat) (K : Value → Prop) : callC Tryz.prog (exec Tryz.prog orcJc 10) (syOf []) askJc (noLoops _) 20 59 #[.slice none 0 0] (emp Tryz.prog) (fun v _ => K v) = (K (Value.bool true)) := by kernel_rfl
end Go.Proofs.YtihnnmejkpddeaaGreatDoor
