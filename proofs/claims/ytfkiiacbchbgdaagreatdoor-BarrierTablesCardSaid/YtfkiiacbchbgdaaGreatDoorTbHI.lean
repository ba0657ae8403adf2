/-
  OWN WORK. Tables of tows: the law on the abstract machine.
-/
import Derived.Test.YtfkiiacbchbgdaaGreatDoorTbEG
/-! (OWN WORK. Tables of tows: the law, carried out.) -/
namespace Go.Proofs.YtfkiiacbchbgdaaGreatDoor
open Go Go.Am

noncomputable abbrev hB (es : Nat → TypeId) : AHeap := base tabs4 es Tryz.prog.globals.size
noncomputable abbrev dS (i k : Nat) : Value := .slice (some ⟨Tryz.prog.globals.size + i, 0, none⟩) 0 k
noncomputable abbrev hL (h : AHeap) (l : List Int) (e : TypeId) (row : Nat) : AHeap := h.push (.cells (l.map gi) e row true)
theorem t_long1 (es : Nat → TypeId) (l : List Int) (m k e row : Nat) (tab : List Int) (m' k' e' row' : Nat) (a b c d w x : Int) (K : Value → Prop) : callC Tryz.prog (exec Tryz.prog orcG1 20) (syOf [(16, 31)]) (askG1 true) (noLoops _) 60 4 #[towV (m + 1) k a b c d w, slQ (m' + 1) k', gi x] (hL (hL (hB es) l e row) tab e' row') (fun v _ => K v) = ((ilt 65 (Int.ofNat (m + 1)) = true ∧ K (Value.bool true))) := by kernel_rfl
theorem t_long2 (es : Nat → TypeId) (l : List Int) (m k e row : Nat) (tab : List Int) (m' k' e' row' : Nat) (a b c d w x : Int) (K : Value → Prop) : callC Tryz.prog (exec Tryz.prog orcG1 20) (syOf [(16, 32), (20, 31)]) (askG1 true) (noLoops _) 60 4 #[towV (m + 1) k a b c d w, slQ (m' + 1) k', gi x] (hL (hL (hB es) l e row) tab e' row') (fun v _ => K v) = ((ilt 65 (Int.ofNat (m + 1)) = false ∧ ilt 70 (Int.ofNat (m' + 1)) = true ∧ K (Value.bool true))) := by kernel_rfl
theorem t_ff00 (es : Nat → TypeId) (l : List Int) (m k e row : Nat) (tab : List Int) (m' k' e' row' : Nat) (a b c d w x : Int) (K : Value → Prop) : callC Tryz.prog (exec Tryz.prog orcG1 20) (syOf [(16, 32), (20, 32), (25, 7), (26, 7), (30, 7), (32, 7), (34, 7), (36, 7), (39, 32), (41, 7), (44, 7), (47, 7), (51, 32), (55, 7), (60, 7), (64, 31), (69, 31)]) (askG1 false) (noLoops _) 60 4 #[towV (m + 1) k a b c d w, slQ (m' + 1) k', gi x] (hL (hL (hB es) l e row) tab e' row') (fun v _ => K v) = ((ilt 65 (Int.ofNat (m + 1)) = false ∧ ilt 70 (Int.ofNat (m' + 1)) = false ∧ (List.all (List.map gi l) (flat 3) = true ∧ True) ∧ towOk (List.map gi l) (m + 1) ∧ noR (decI (List.map gi l)) (Prod.mk a (Prod.mk b (Prod.mk c (Prod.mk d w)))) [] ∧ (List.all (List.map gi (decI (List.map gi l))) (flat 3) = true ∧ True) ∧ towOk (List.map gi (decI (List.map gi l))) (m + 1) ∧ (noR (decI (List.map gi (decI (List.map gi l)))) (Prod.mk a (Prod.mk b (Prod.mk c (Prod.mk d w)))) [] ∧ ieq (ctE (List.length (decI (List.map gi (decI (List.map gi l))))) (decI (List.map gi (decI (List.map gi l)))) (Prod.mk a (Prod.mk b (Prod.mk c (Prod.mk d w))))) 0 = false) ∧ (List.all (List.map gi l) (flat 3) = true ∧ True) ∧ towOk (List.map gi l) (m + 1) ∧ noR (decI (List.map gi l)) (Prod.mk a (Prod.mk b (Prod.mk c (Prod.mk d w)))) [] ∧ (List.all (List.map gi tab) (flat 3) = true ∧ True) ∧ towOk (List.map gi tab) (m' + 1) ∧ niC (decI (List.map gi tab)) [] ∧ (List.all (List.map gi (decI (List.map gi l))) (flat 3) = true ∧ List.all (List.map gi (decI (List.map gi tab))) (flat 3) = true ∧ True) ∧ towOk (List.map gi (decI (List.map gi l))) (m + 1) ∧ towOk (List.map gi (decI (List.map gi tab))) (m' + 1) ∧ kfC (decI (List.map gi (decI (List.map gi l)))) (Prod.mk a (Prod.mk b (Prod.mk c (Prod.mk d w)))) (decI (List.map gi (decI (List.map gi tab)))) [gi x] ∧ (List.all (List.map gi l) (flat 3) = true ∧ True) ∧ towOk (List.map gi l) (m + 1) ∧ noR (decI (List.map gi l)) (Prod.mk a (Prod.mk b (Prod.mk c (Prod.mk d w)))) [] ∧ ieq (ctE (List.length (decI (List.map gi l))) (decI (List.map gi l)) (Prod.mk a (Prod.mk b (Prod.mk c (Prod.mk d w))))) 0 = false ∧ ieq (ctE (List.length (decI (List.map gi l))) (decI (List.map gi l)) (Prod.mk a (Prod.mk b (Prod.mk c (Prod.mk d w))))) 0 = false ∧ True ∧ siC [nilS, nilS] [] ∧ ieq (ctE (List.length (decI (List.map gi (decI (List.map gi l))))) (decI (List.map gi (decI (List.map gi l)))) (Prod.mk a (Prod.mk b (Prod.mk c (Prod.mk d w))))) (ctE (List.length (decI (List.map gi l))) (decI (List.map gi l)) (Prod.mk a (Prod.mk b (Prod.mk c (Prod.mk d w))))) = true ∧ ieq (kV (decI (List.map gi (decI (List.map gi l)))) (decI (List.map gi (decI (List.map gi tab)))) (Prod.mk a (Prod.mk b (Prod.mk c (Prod.mk d w)))) (arg0 [gi x])) (ctE (List.length (decI (List.map gi l))) (decI (List.map gi l)) (Prod.mk a (Prod.mk b (Prod.mk c (Prod.mk d w))))) = true ∧ K (Value.bool true))) := by kernel_rfl
theorem t_ff10 (es : Nat → TypeId) (l : List Int) (m k e row : Nat) (tab : List Int) (m' k' e' row' : Nat) (W : Nat) (a b c d  x : Int) (K : Value → Prop) : callC Tryz.prog (exec Tryz.prog orcG1 20) (syOf [(16, 32), (20, 32), (25, 7), (26, 7), (30, 7), (32, 7), (34, 7), (36, 7), (39, 31), (41, 7), (44, 7), (47, 7), (51, 32), (55, 7), (60, 7), (64, 31), (69, 31)]) (askG1 true) (noLoops _) 60 4 #[towV (m + 1) k a b c d (Int.ofNat W), slQ (m' + 1) k', gi x] (hL (hL (hB es) l e row) tab e' row') (fun v _ => K v) = ((ilt 65 (Int.ofNat (m + 1)) = false ∧ ilt 70 (Int.ofNat (m' + 1)) = false ∧ (List.all (List.map gi l) (flat 3) = true ∧ True) ∧ towOk (List.map gi l) (m + 1) ∧ noR (decI (List.map gi l)) (Prod.mk a (Prod.mk b (Prod.mk c (Prod.mk d (Int.ofNat W))))) [] ∧ (List.all (List.map gi (decI (List.map gi l))) (flat 3) = true ∧ True) ∧ towOk (List.map gi (decI (List.map gi l))) (m + 1) ∧ (noR (decI (List.map gi (decI (List.map gi l)))) (Prod.mk a (Prod.mk b (Prod.mk c (Prod.mk d (Int.ofNat W))))) [] ∧ ieq (ctE (List.length (decI (List.map gi (decI (List.map gi l))))) (decI (List.map gi (decI (List.map gi l)))) (Prod.mk a (Prod.mk b (Prod.mk c (Prod.mk d (Int.ofNat W)))))) 0 = true) ∧ (List.all (List.map gi l) (flat 3) = true ∧ True) ∧ towOk (List.map gi l) (m + 1) ∧ noR (decI (List.map gi l)) (Prod.mk a (Prod.mk b (Prod.mk c (Prod.mk d (Int.ofNat W))))) [] ∧ (List.all (List.map gi tab) (flat 3) = true ∧ True) ∧ towOk (List.map gi tab) (m' + 1) ∧ niC (decI (List.map gi tab)) [] ∧ (List.all (List.map gi (decI (List.map gi l))) (flat 3) = true ∧ List.all (List.map gi (decI (List.map gi tab))) (flat 3) = true ∧ True) ∧ towOk (List.map gi (decI (List.map gi l))) (m + 1) ∧ towOk (List.map gi (decI (List.map gi tab))) (m' + 1) ∧ kfC (decI (List.map gi (decI (List.map gi l)))) (Prod.mk a (Prod.mk b (Prod.mk c (Prod.mk d (Int.ofNat W))))) (decI (List.map gi (decI (List.map gi tab)))) [gi x] ∧ (List.all (List.map gi l) (flat 3) = true ∧ True) ∧ towOk (List.map gi l) (m + 1) ∧ noR (decI (List.map gi l)) (Prod.mk a (Prod.mk b (Prod.mk c (Prod.mk d (Int.ofNat W))))) [] ∧ ieq (ctE (List.length (decI (List.map gi l))) (decI (List.map gi l)) (Prod.mk a (Prod.mk b (Prod.mk c (Prod.mk d (Int.ofNat W)))))) 0 = true ∧ (List.all (List.map gi l) (flat 3) = true ∧ True) ∧ towOk (List.map gi l) (m + 1) ∧ rTC (decI (List.map gi l)) (Prod.mk a (Prod.mk b (Prod.mk c (Prod.mk d (Int.ofNat W))))) [] ∧ (List.all (List.map gi l) (flat 3) = true ∧ List.all (List.map gi tab) (flat 3) = true ∧ True) ∧ towOk (List.map gi l) (m + 1) ∧ towOk (List.map gi tab) (m' + 1) ∧ tfC (decI (List.map gi l)) (Prod.mk a (Prod.mk b (Prod.mk c (Prod.mk d (Int.ofNat W))))) (decI (List.map gi tab)) [] ∧ Value.agg #[liP (m + 1) k, gi a, gi b, gi c, gi d, gi (Int.ofNat W)] = Value.agg #[liP (m + 1) k, gi a, gi b, gi c, gi d, gi (Int.ofNat W)] ∧ (List.all (List.map gi l) (flat 3) = true ∧ True) ∧ towOk (List.map gi l) (m + 1) ∧ oneR (decI (List.map gi l)) (Prod.mk a (Prod.mk b (Prod.mk c (Prod.mk d (Int.ofNat W))))) [gi x] ∧ ieq (firstS [tE (decI (List.map gi tab)) (Int.ofNat W), ceE (Int.ofNat W) (arg0 [gi x])]) 0 = false ∧ (List.all (List.map gi (rnL a 0 (decI (List.map gi (decI (List.map gi l)))))) (flat 3) = true ∧ List.all (List.map gi (rnL a 0 (decI (List.map gi l)))) (flat 3) = true ∧ True) ∧ siC [liP (W + 1) ((m + 1) + 1), slQ (W + 1) ((m + 1) + 1)] [Prod.mk (List.map gi (rnL a 0 (decI (List.map gi (decI (List.map gi l)))))) (Prod.mk 3 2), Prod.mk (List.map gi (rnL a 0 (decI (List.map gi l)))) (Prod.mk 3 2)] ∧ ieq 0 (ctE (List.length (decI (List.map gi l))) (decI (List.map gi l)) (Prod.mk a (Prod.mk b (Prod.mk c (Prod.mk d (Int.ofNat W)))))) = true ∧ ieq (kV (decI (List.map gi (decI (List.map gi l)))) (decI (List.map gi (decI (List.map gi tab)))) (Prod.mk a (Prod.mk b (Prod.mk c (Prod.mk d (Int.ofNat W))))) (arg0 [gi x])) (firstS [tE (decI (List.map gi tab)) (Int.ofNat W), ceE (Int.ofNat W) (arg0 [gi x])]) = true ∧ K (Value.bool true))) := by kernel_rfl
theorem t_ff11 (es : Nat → TypeId) (l : List Int) (m k e row : Nat) (tab : List Int) (m' k' e' row' : Nat) (W : Nat) (a b c d  x : Int) (K : Value → Prop) : callC Tryz.prog (exec Tryz.prog orcG1 20) (syOf [(16, 32), (20, 32), (25, 7), (26, 7), (30, 7), (32, 7), (34, 7), (36, 7), (39, 31), (41, 7), (44, 7), (47, 7), (51, 31), (55, 7), (60, 7), (64, 31), (69, 31)]) (askG1 true) (noLoops _) 60 4 #[towV (m + 1) k a b c d (Int.ofNat W), slQ (m' + 1) k', gi x] (hL (hL (hB es) l e row) tab e' row') (fun v _ => K v) = ((ilt 65 (Int.ofNat (m + 1)) = false ∧ ilt 70 (Int.ofNat (m' + 1)) = false ∧ (List.all (List.map gi l) (flat 3) = true ∧ True) ∧ towOk (List.map gi l) (m + 1) ∧ noR (decI (List.map gi l)) (Prod.mk a (Prod.mk b (Prod.mk c (Prod.mk d (Int.ofNat W))))) [] ∧ (List.all (List.map gi (decI (List.map gi l))) (flat 3) = true ∧ True) ∧ towOk (List.map gi (decI (List.map gi l))) (m + 1) ∧ (noR (decI (List.map gi (decI (List.map gi l)))) (Prod.mk a (Prod.mk b (Prod.mk c (Prod.mk d (Int.ofNat W))))) [] ∧ ieq (ctE (List.length (decI (List.map gi (decI (List.map gi l))))) (decI (List.map gi (decI (List.map gi l)))) (Prod.mk a (Prod.mk b (Prod.mk c (Prod.mk d (Int.ofNat W)))))) 0 = true) ∧ (List.all (List.map gi l) (flat 3) = true ∧ True) ∧ towOk (List.map gi l) (m + 1) ∧ noR (decI (List.map gi l)) (Prod.mk a (Prod.mk b (Prod.mk c (Prod.mk d (Int.ofNat W))))) [] ∧ (List.all (List.map gi tab) (flat 3) = true ∧ True) ∧ towOk (List.map gi tab) (m' + 1) ∧ niC (decI (List.map gi tab)) [] ∧ (List.all (List.map gi (decI (List.map gi l))) (flat 3) = true ∧ List.all (List.map gi (decI (List.map gi tab))) (flat 3) = true ∧ True) ∧ towOk (List.map gi (decI (List.map gi l))) (m + 1) ∧ towOk (List.map gi (decI (List.map gi tab))) (m' + 1) ∧ kfC (decI (List.map gi (decI (List.map gi l)))) (Prod.mk a (Prod.mk b (Prod.mk c (Prod.mk d (Int.ofNat W))))) (decI (List.map gi (decI (List.map gi tab)))) [gi x] ∧ (List.all (List.map gi l) (flat 3) = true ∧ True) ∧ towOk (List.map gi l) (m + 1) ∧ noR (decI (List.map gi l)) (Prod.mk a (Prod.mk b (Prod.mk c (Prod.mk d (Int.ofNat W))))) [] ∧ ieq (ctE (List.length (decI (List.map gi l))) (decI (List.map gi l)) (Prod.mk a (Prod.mk b (Prod.mk c (Prod.mk d (Int.ofNat W)))))) 0 = true ∧ (List.all (List.map gi l) (flat 3) = true ∧ True) ∧ towOk (List.map gi l) (m + 1) ∧ rTC (decI (List.map gi l)) (Prod.mk a (Prod.mk b (Prod.mk c (Prod.mk d (Int.ofNat W))))) [] ∧ (List.all (List.map gi l) (flat 3) = true ∧ List.all (List.map gi tab) (flat 3) = true ∧ True) ∧ towOk (List.map gi l) (m + 1) ∧ towOk (List.map gi tab) (m' + 1) ∧ tfC (decI (List.map gi l)) (Prod.mk a (Prod.mk b (Prod.mk c (Prod.mk d (Int.ofNat W))))) (decI (List.map gi tab)) [] ∧ Value.agg #[liP (m + 1) k, gi a, gi b, gi c, gi d, gi (Int.ofNat W)] = Value.agg #[liP (m + 1) k, gi a, gi b, gi c, gi d, gi (Int.ofNat W)] ∧ (List.all (List.map gi l) (flat 3) = true ∧ True) ∧ towOk (List.map gi l) (m + 1) ∧ oneR (decI (List.map gi l)) (Prod.mk a (Prod.mk b (Prod.mk c (Prod.mk d (Int.ofNat W))))) [gi x] ∧ ieq (firstS [tE (decI (List.map gi tab)) (Int.ofNat W), ceE (Int.ofNat W) (arg0 [gi x])]) 0 = true ∧ (List.all (List.map gi l) (flat 3) = true ∧ List.all (List.map gi tab) (flat 3) = true ∧ True) ∧ towOk (List.map gi l) (m + 1) ∧ towOk (List.map gi tab) (m' + 1) ∧ prC (decI (List.map gi l)) (Prod.mk a (Prod.mk b (Prod.mk c (Prod.mk d (Int.ofNat W))))) (decI (List.map gi tab)) [gi x] ∧ (List.all (List.map gi (rnL a 0 (decI (List.map gi (decI (List.map gi l)))))) (flat 3) = true ∧ List.all (List.map gi (rnL a 0 (decI (List.map gi l)))) (flat 3) = true ∧ True) ∧ siC [liP (W + 1) ((m + 1) + 1), slQ (W + 1) ((m + 1) + 1)] [Prod.mk (List.map gi (rnL a 0 (decI (List.map gi (decI (List.map gi l)))))) (Prod.mk 3 2), Prod.mk (List.map gi (rnL a 0 (decI (List.map gi l)))) (Prod.mk 3 2)] ∧ ieq 0 (ctE (List.length (decI (List.map gi l))) (decI (List.map gi l)) (Prod.mk a (Prod.mk b (Prod.mk c (Prod.mk d (Int.ofNat W)))))) = true ∧ ieq (kV (decI (List.map gi (decI (List.map gi l)))) (decI (List.map gi (decI (List.map gi tab)))) (Prod.mk a (Prod.mk b (Prod.mk c (Prod.mk d (Int.ofNat W))))) (arg0 [gi x])) (whenS (!(pvB (decI (List.map gi l)) (decI (List.map gi tab)) (Prod.mk a (Prod.mk b (Prod.mk c (Prod.mk d (Int.ofNat W))))) (arg0 [gi x]))) 19) = true ∧ K (Value.bool true))) := by kernel_rfl
theorem t_long1n (es : Nat → TypeId) (l : List Int) (m k e row : Nat)  (a b c d w x : Int) (K : Value → Prop) : callC Tryz.prog (exec Tryz.prog orcG2 20) (syOf [(16, 31)]) (askG2 true) (noLoops _) 60 4 #[towV (m + 1) k a b c d w, nilS, gi x] (hL (hB es) l e row) (fun v _ => K v) = ((ilt 65 (Int.ofNat (m + 1)) = true ∧ K (Value.bool true))) := by kernel_rfl
theorem t_fn0 (es : Nat → TypeId) (l : List Int) (m k e row : Nat)  (a b c d w x : Int) (K : Value → Prop) : callC Tryz.prog (exec Tryz.prog orcG2 20) (syOf [(16, 32), (25, 7), (26, 7), (30, 7), (34, 7), (36, 7), (39, 32), (41, 7), (44, 7), (47, 7), (51, 32), (55, 7), (60, 7), (64, 31), (69, 31)]) (askG2 false) (noLoops _) 60 4 #[towV (m + 1) k a b c d w, nilS, gi x] (hL (hB es) l e row) (fun v _ => K v) = ((ilt 65 (Int.ofNat (m + 1)) = false ∧ (List.all (List.map gi l) (flat 3) = true ∧ True) ∧ towOk (List.map gi l) (m + 1) ∧ noR (decI (List.map gi l)) (Prod.mk a (Prod.mk b (Prod.mk c (Prod.mk d w)))) [] ∧ (List.all (List.map gi (decI (List.map gi l))) (flat 3) = true ∧ True) ∧ towOk (List.map gi (decI (List.map gi l))) (m + 1) ∧ (noR (decI (List.map gi (decI (List.map gi l)))) (Prod.mk a (Prod.mk b (Prod.mk c (Prod.mk d w)))) [] ∧ ieq (ctE (List.length (decI (List.map gi (decI (List.map gi l))))) (decI (List.map gi (decI (List.map gi l)))) (Prod.mk a (Prod.mk b (Prod.mk c (Prod.mk d w))))) 0 = false) ∧ (List.all (List.map gi l) (flat 3) = true ∧ True) ∧ towOk (List.map gi l) (m + 1) ∧ noR (decI (List.map gi l)) (Prod.mk a (Prod.mk b (Prod.mk c (Prod.mk d w)))) [] ∧ (List.all (List.map gi (decI (List.map gi l))) (flat 3) = true ∧ True) ∧ towOk (List.map gi (decI (List.map gi l))) (m + 1) ∧ keC (decI (List.map gi (decI (List.map gi l)))) (Prod.mk a (Prod.mk b (Prod.mk c (Prod.mk d w)))) [Value.slice (some ⟨0, 0, none⟩) 0 0, gi x] ∧ (List.all (List.map gi l) (flat 3) = true ∧ True) ∧ towOk (List.map gi l) (m + 1) ∧ noR (decI (List.map gi l)) (Prod.mk a (Prod.mk b (Prod.mk c (Prod.mk d w)))) [] ∧ ieq (ctE (List.length (decI (List.map gi l))) (decI (List.map gi l)) (Prod.mk a (Prod.mk b (Prod.mk c (Prod.mk d w))))) 0 = false ∧ ieq (ctE (List.length (decI (List.map gi l))) (decI (List.map gi l)) (Prod.mk a (Prod.mk b (Prod.mk c (Prod.mk d w))))) 0 = false ∧ True ∧ siC [nilS, nilS] [] ∧ ieq (ctE (List.length (decI (List.map gi (decI (List.map gi l))))) (decI (List.map gi (decI (List.map gi l)))) (Prod.mk a (Prod.mk b (Prod.mk c (Prod.mk d w))))) (ctE (List.length (decI (List.map gi l))) (decI (List.map gi l)) (Prod.mk a (Prod.mk b (Prod.mk c (Prod.mk d w))))) = true ∧ ieq (kE (decI (List.map gi (decI (List.map gi l)))) [] (Prod.mk a (Prod.mk b (Prod.mk c (Prod.mk d w)))) (arg1 [Value.slice (some ⟨0, 0, none⟩) 0 0, gi x])) (ctE (List.length (decI (List.map gi l))) (decI (List.map gi l)) (Prod.mk a (Prod.mk b (Prod.mk c (Prod.mk d w))))) = true ∧ K (Value.bool true))) := by kernel_rfl
theorem t_fn1 (es : Nat → TypeId) (l : List Int) (m k e row : Nat)  (W : Nat) (a b c d  x : Int) (K : Value → Prop) : callC Tryz.prog (exec Tryz.prog orcG2 20) (syOf [(16, 32), (25, 7), (26, 7), (30, 7), (34, 7), (36, 7), (39, 31), (41, 7), (44, 7), (47, 7), (51, 32), (55, 7), (60, 7), (64, 31), (69, 31)]) (askG2 true) (noLoops _) 60 4 #[towV (m + 1) k a b c d (Int.ofNat W), nilS, gi x] (hL (hB es) l e row) (fun v _ => K v) = ((ilt 65 (Int.ofNat (m + 1)) = false ∧ (List.all (List.map gi l) (flat 3) = true ∧ True) ∧ towOk (List.map gi l) (m + 1) ∧ noR (decI (List.map gi l)) (Prod.mk a (Prod.mk b (Prod.mk c (Prod.mk d (Int.ofNat W))))) [] ∧ (List.all (List.map gi (decI (List.map gi l))) (flat 3) = true ∧ True) ∧ towOk (List.map gi (decI (List.map gi l))) (m + 1) ∧ (noR (decI (List.map gi (decI (List.map gi l)))) (Prod.mk a (Prod.mk b (Prod.mk c (Prod.mk d (Int.ofNat W))))) [] ∧ ieq (ctE (List.length (decI (List.map gi (decI (List.map gi l))))) (decI (List.map gi (decI (List.map gi l)))) (Prod.mk a (Prod.mk b (Prod.mk c (Prod.mk d (Int.ofNat W)))))) 0 = true) ∧ (List.all (List.map gi l) (flat 3) = true ∧ True) ∧ towOk (List.map gi l) (m + 1) ∧ noR (decI (List.map gi l)) (Prod.mk a (Prod.mk b (Prod.mk c (Prod.mk d (Int.ofNat W))))) [] ∧ (List.all (List.map gi (decI (List.map gi l))) (flat 3) = true ∧ True) ∧ towOk (List.map gi (decI (List.map gi l))) (m + 1) ∧ keC (decI (List.map gi (decI (List.map gi l)))) (Prod.mk a (Prod.mk b (Prod.mk c (Prod.mk d (Int.ofNat W))))) [Value.slice (some ⟨0, 0, none⟩) 0 0, gi x] ∧ (List.all (List.map gi l) (flat 3) = true ∧ True) ∧ towOk (List.map gi l) (m + 1) ∧ noR (decI (List.map gi l)) (Prod.mk a (Prod.mk b (Prod.mk c (Prod.mk d (Int.ofNat W))))) [] ∧ ieq (ctE (List.length (decI (List.map gi l))) (decI (List.map gi l)) (Prod.mk a (Prod.mk b (Prod.mk c (Prod.mk d (Int.ofNat W)))))) 0 = true ∧ (List.all (List.map gi l) (flat 3) = true ∧ True) ∧ towOk (List.map gi l) (m + 1) ∧ rTC (decI (List.map gi l)) (Prod.mk a (Prod.mk b (Prod.mk c (Prod.mk d (Int.ofNat W))))) [] ∧ (List.all (List.map gi l) (flat 3) = true ∧ True) ∧ towOk (List.map gi l) (m + 1) ∧ teC (decI (List.map gi l)) (Prod.mk a (Prod.mk b (Prod.mk c (Prod.mk d (Int.ofNat W))))) [nilS] ∧ Value.agg #[liP (m + 1) k, gi a, gi b, gi c, gi d, gi (Int.ofNat W)] = Value.agg #[liP (m + 1) k, gi a, gi b, gi c, gi d, gi (Int.ofNat W)] ∧ (List.all (List.map gi l) (flat 3) = true ∧ True) ∧ towOk (List.map gi l) (m + 1) ∧ oneR (decI (List.map gi l)) (Prod.mk a (Prod.mk b (Prod.mk c (Prod.mk d (Int.ofNat W))))) [gi x] ∧ ieq (firstS [tE [] (Int.ofNat W), ceE (Int.ofNat W) (arg0 [gi x])]) 0 = false ∧ (List.all (List.map gi (rnL a 0 (decI (List.map gi (decI (List.map gi l)))))) (flat 3) = true ∧ List.all (List.map gi (rnL a 0 (decI (List.map gi l)))) (flat 3) = true ∧ True) ∧ siC [liP (W + 1) ((m + 1) + 1), slQ (W + 1) ((m + 1) + 1)] [Prod.mk (List.map gi (rnL a 0 (decI (List.map gi (decI (List.map gi l)))))) (Prod.mk 3 2), Prod.mk (List.map gi (rnL a 0 (decI (List.map gi l)))) (Prod.mk 3 2)] ∧ ieq 0 (ctE (List.length (decI (List.map gi l))) (decI (List.map gi l)) (Prod.mk a (Prod.mk b (Prod.mk c (Prod.mk d (Int.ofNat W)))))) = true ∧ ieq (kE (decI (List.map gi (decI (List.map gi l)))) [] (Prod.mk a (Prod.mk b (Prod.mk c (Prod.mk d (Int.ofNat W))))) (arg1 [Value.slice (some ⟨0, 0, none⟩) 0 0, gi x])) (firstS [tE [] (Int.ofNat W), ceE (Int.ofNat W) (arg0 [gi x])]) = true ∧ K (Value.bool true))) := by kernel_rfl
theorem t_long1e (es : Nat → TypeId) (l : List Int) (m k e row : Nat) (k' : Nat) (a b c d w x : Int) (K : Value → Prop) : callC Tryz.prog (exec Tryz.prog orcG2 20) (syOf [(16, 31)]) (askG2 true) (noLoops _) 60 4 #[towV (m + 1) k a b c d w, dS 1 k', gi x] ((hL (hB es) l e row).push .dead) (fun v _ => K v) = ((ilt 65 (Int.ofNat (m + 1)) = true ∧ K (Value.bool true))) := by kernel_rfl
theorem t_fe0 (es : Nat → TypeId) (l : List Int) (m k e row : Nat) (k' : Nat) (a b c d w x : Int) (K : Value → Prop) : callC Tryz.prog (exec Tryz.prog orcG2 20) (syOf [(16, 32), (25, 7), (26, 7), (30, 7), (34, 7), (36, 7), (39, 32), (41, 7), (44, 7), (47, 7), (51, 32), (55, 7), (60, 7), (64, 31), (69, 31)]) (askG2 false) (noLoops _) 60 4 #[towV (m + 1) k a b c d w, dS 1 k', gi x] ((hL (hB es) l e row).push .dead) (fun v _ => K v) = ((ilt 65 (Int.ofNat (m + 1)) = false ∧ (List.all (List.map gi l) (flat 3) = true ∧ True) ∧ towOk (List.map gi l) (m + 1) ∧ noR (decI (List.map gi l)) (Prod.mk a (Prod.mk b (Prod.mk c (Prod.mk d w)))) [] ∧ (List.all (List.map gi (decI (List.map gi l))) (flat 3) = true ∧ True) ∧ towOk (List.map gi (decI (List.map gi l))) (m + 1) ∧ (noR (decI (List.map gi (decI (List.map gi l)))) (Prod.mk a (Prod.mk b (Prod.mk c (Prod.mk d w)))) [] ∧ ieq (ctE (List.length (decI (List.map gi (decI (List.map gi l))))) (decI (List.map gi (decI (List.map gi l)))) (Prod.mk a (Prod.mk b (Prod.mk c (Prod.mk d w))))) 0 = false) ∧ (List.all (List.map gi l) (flat 3) = true ∧ True) ∧ towOk (List.map gi l) (m + 1) ∧ noR (decI (List.map gi l)) (Prod.mk a (Prod.mk b (Prod.mk c (Prod.mk d w)))) [] ∧ (List.all (List.map gi (decI (List.map gi l))) (flat 3) = true ∧ True) ∧ towOk (List.map gi (decI (List.map gi l))) (m + 1) ∧ keC (decI (List.map gi (decI (List.map gi l)))) (Prod.mk a (Prod.mk b (Prod.mk c (Prod.mk d w)))) [Value.slice (some ⟨0, 0, none⟩) 0 0, gi x] ∧ (List.all (List.map gi l) (flat 3) = true ∧ True) ∧ towOk (List.map gi l) (m + 1) ∧ noR (decI (List.map gi l)) (Prod.mk a (Prod.mk b (Prod.mk c (Prod.mk d w)))) [] ∧ ieq (ctE (List.length (decI (List.map gi l))) (decI (List.map gi l)) (Prod.mk a (Prod.mk b (Prod.mk c (Prod.mk d w))))) 0 = false ∧ ieq (ctE (List.length (decI (List.map gi l))) (decI (List.map gi l)) (Prod.mk a (Prod.mk b (Prod.mk c (Prod.mk d w))))) 0 = false ∧ True ∧ siC [nilS, nilS] [] ∧ ieq (ctE (List.length (decI (List.map gi (decI (List.map gi l))))) (decI (List.map gi (decI (List.map gi l)))) (Prod.mk a (Prod.mk b (Prod.mk c (Prod.mk d w))))) (ctE (List.length (decI (List.map gi l))) (decI (List.map gi l)) (Prod.mk a (Prod.mk b (Prod.mk c (Prod.mk d w))))) = true ∧ ieq (kE (decI (List.map gi (decI (List.map gi l)))) [] (Prod.mk a (Prod.mk b (Prod.mk c (Prod.mk d w)))) (arg1 [Value.slice (some ⟨0, 0, none⟩) 0 0, gi x])) (ctE (List.length (decI (List.map gi l))) (decI (List.map gi l)) (Prod.mk a (Prod.mk b (Prod.mk c (Prod.mk d w))))) = true ∧ K (Value.bool true))) := by kernel_rfl
theorem t_fe1 (es : Nat → TypeId) (l : List Int) (m k e row : Nat) (k' : Nat) (W : Nat) (a b c d  x : Int) (K : Value → Prop) : callC Tryz.prog (exec Tryz.prog orcG2 20) (syOf [(16, 32), (25, 7), (26, 7), (30, 7), (34, 7), (36, 7), (39, 31), (41, 7), (44, 7), (47, 7), (51, 32), (55, 7), (60, 7), (64, 31), (69, 31)]) (askG2 true) (noLoops _) 60 4 #[towV (m + 1) k a b c d (Int.ofNat W), dS 1 k', gi x] ((hL (hB es) l e row).push .dead) (fun v _ => K v) = ((ilt 65 (Int.ofNat (m + 1)) = false ∧ (List.all (List.map gi l) (flat 3) = true ∧ True) ∧ towOk (List.map gi l) (m + 1) ∧ noR (decI (List.map gi l)) (Prod.mk a (Prod.mk b (Prod.mk c (Prod.mk d (Int.ofNat W))))) [] ∧ (List.all (List.map gi (decI (List.map gi l))) (flat 3) = true ∧ True) ∧ towOk (List.map gi (decI (List.map gi l))) (m + 1) ∧ (noR (decI (List.map gi (decI (List.map gi l)))) (Prod.mk a (Prod.mk b (Prod.mk c (Prod.mk d (Int.ofNat W))))) [] ∧ ieq (ctE (List.length (decI (List.map gi (decI (List.map gi l))))) (decI (List.map gi (decI (List.map gi l)))) (Prod.mk a (Prod.mk b (Prod.mk c (Prod.mk d (Int.ofNat W)))))) 0 = true) ∧ (List.all (List.map gi l) (flat 3) = true ∧ True) ∧ towOk (List.map gi l) (m + 1) ∧ noR (decI (List.map gi l)) (Prod.mk a (Prod.mk b (Prod.mk c (Prod.mk d (Int.ofNat W))))) [] ∧ (List.all (List.map gi (decI (List.map gi l))) (flat 3) = true ∧ True) ∧ towOk (List.map gi (decI (List.map gi l))) (m + 1) ∧ keC (decI (List.map gi (decI (List.map gi l)))) (Prod.mk a (Prod.mk b (Prod.mk c (Prod.mk d (Int.ofNat W))))) [Value.slice (some ⟨0, 0, none⟩) 0 0, gi x] ∧ (List.all (List.map gi l) (flat 3) = true ∧ True) ∧ towOk (List.map gi l) (m + 1) ∧ noR (decI (List.map gi l)) (Prod.mk a (Prod.mk b (Prod.mk c (Prod.mk d (Int.ofNat W))))) [] ∧ ieq (ctE (List.length (decI (List.map gi l))) (decI (List.map gi l)) (Prod.mk a (Prod.mk b (Prod.mk c (Prod.mk d (Int.ofNat W)))))) 0 = true ∧ (List.all (List.map gi l) (flat 3) = true ∧ True) ∧ towOk (List.map gi l) (m + 1) ∧ rTC (decI (List.map gi l)) (Prod.mk a (Prod.mk b (Prod.mk c (Prod.mk d (Int.ofNat W))))) [] ∧ (List.all (List.map gi l) (flat 3) = true ∧ True) ∧ towOk (List.map gi l) (m + 1) ∧ teC (decI (List.map gi l)) (Prod.mk a (Prod.mk b (Prod.mk c (Prod.mk d (Int.ofNat W))))) [Value.slice (some ⟨0, 0, none⟩) 0 k'] ∧ Value.agg #[liP (m + 1) k, gi a, gi b, gi c, gi d, gi (Int.ofNat W)] = Value.agg #[liP (m + 1) k, gi a, gi b, gi c, gi d, gi (Int.ofNat W)] ∧ (List.all (List.map gi l) (flat 3) = true ∧ True) ∧ towOk (List.map gi l) (m + 1) ∧ oneR (decI (List.map gi l)) (Prod.mk a (Prod.mk b (Prod.mk c (Prod.mk d (Int.ofNat W))))) [gi x] ∧ ieq (firstS [tE [] (Int.ofNat W), ceE (Int.ofNat W) (arg0 [gi x])]) 0 = false ∧ (List.all (List.map gi (rnL a 0 (decI (List.map gi (decI (List.map gi l)))))) (flat 3) = true ∧ List.all (List.map gi (rnL a 0 (decI (List.map gi l)))) (flat 3) = true ∧ True) ∧ siC [liP (W + 1) ((m + 1) + 1), slQ (W + 1) ((m + 1) + 1)] [Prod.mk (List.map gi (rnL a 0 (decI (List.map gi (decI (List.map gi l)))))) (Prod.mk 3 2), Prod.mk (List.map gi (rnL a 0 (decI (List.map gi l)))) (Prod.mk 3 2)] ∧ ieq 0 (ctE (List.length (decI (List.map gi l))) (decI (List.map gi l)) (Prod.mk a (Prod.mk b (Prod.mk c (Prod.mk d (Int.ofNat W)))))) = true ∧ ieq (kE (decI (List.map gi (decI (List.map gi l)))) [] (Prod.mk a (Prod.mk b (Prod.mk c (Prod.mk d (Int.ofNat W))))) (arg1 [Value.slice (some ⟨0, 0, none⟩) 0 0, gi x])) (firstS [tE [] (Int.ofNat W), ceE (Int.ofNat W) (arg0 [gi x])]) = true ∧ K (Value.bool true))) := by kernel_rfl
theorem t_long2n (es : Nat → TypeId)  (tab : List Int) (m' k' e' row' : Nat) (a b c d w x : Int) (K : Value → Prop) : callC Tryz.prog (exec Tryz.prog orcG3 20) (syOf [(20, 31)]) askG3 (noLoops _) 60 4 #[emV (nilS) a b c d w, liP (m' + 1) k', gi x] (hL (hB es) tab e' row') (fun v _ => K v) = ((ilt 70 (Int.ofNat (m' + 1)) = true ∧ K (Value.bool true))) := by kernel_rfl
theorem t_nf (es : Nat → TypeId)  (tab : List Int) (m' k' e' row' : Nat) (a b c d w x : Int) (K : Value → Prop) : callC Tryz.prog (exec Tryz.prog orcG3 20) (syOf [(20, 32), (32, 7), (34, 7)]) askG3 (noLoops _) 60 4 #[emV (nilS) a b c d w, liP (m' + 1) k', gi x] (hL (hB es) tab e' row') (fun v _ => K v) = ((ilt 70 (Int.ofNat (m' + 1)) = false ∧ (List.all (List.map gi tab) (flat 3) = true ∧ True) ∧ towOk (List.map gi tab) (m' + 1) ∧ niC (decI (List.map gi tab)) [] ∧ (List.all (List.map gi (decI (List.map gi tab))) (flat 3) = true ∧ True) ∧ towOk (List.map gi (decI (List.map gi tab))) (m' + 1) ∧ K (Value.bool true))) := by kernel_rfl
theorem t_long2e (es : Nat → TypeId) (k : Nat) (tab : List Int) (m' k' e' row' : Nat) (a b c d w x : Int) (K : Value → Prop) : callC Tryz.prog (exec Tryz.prog orcG3 20) (syOf [(20, 31)]) askG3 (noLoops _) 60 4 #[emV (dS 0 k) a b c d w, slQ (m' + 1) k', gi x] (hL ((hB es).push .dead) tab e' row') (fun v _ => K v) = ((ilt 70 (Int.ofNat (m' + 1)) = true ∧ K (Value.bool true))) := by kernel_rfl
theorem t_ef (es : Nat → TypeId) (k : Nat) (tab : List Int) (m' k' e' row' : Nat) (a b c d w x : Int) (K : Value → Prop) : callC Tryz.prog (exec Tryz.prog orcG3 20) (syOf [(20, 32), (32, 7), (34, 7)]) askG3 (noLoops _) 60 4 #[emV (dS 0 k) a b c d w, slQ (m' + 1) k', gi x] (hL ((hB es).push .dead) tab e' row') (fun v _ => K v) = ((ilt 70 (Int.ofNat (m' + 1)) = false ∧ (List.all (List.map gi tab) (flat 3) = true ∧ True) ∧ towOk (List.map gi tab) (m' + 1) ∧ niC (decI (List.map gi tab)) [] ∧ (List.all (List.map gi (decI (List.map gi tab))) (flat 3) = true ∧ True) ∧ towOk (List.map gi (decI (List.map gi tab))) (m' + 1) ∧ K (Value.bool true))) := by kernel_rfl
theorem t_nn (es : Nat → TypeId)   (a b c d w x : Int) (K : Value → Prop) : callC Tryz.prog (exec Tryz.prog orcG4 20) (syOf []) askG4 (noLoops _) 60 4 #[emV (nilS) a b c d w, nilS, gi x] (hB es) (fun v _ => K v) = (K (Value.bool true)) := by kernel_rfl
theorem t_ne (es : Nat → TypeId)  (k' : Nat) (a b c d w x : Int) (K : Value → Prop) : callC Tryz.prog (exec Tryz.prog orcG4 20) (syOf []) askG4 (noLoops _) 60 4 #[emV (nilS) a b c d w, dS 0 k', gi x] ((hB es).push .dead) (fun v _ => K v) = (K (Value.bool true)) := by kernel_rfl
theorem t_en (es : Nat → TypeId) (k : Nat)  (a b c d w x : Int) (K : Value → Prop) : callC Tryz.prog (exec Tryz.prog orcG4 20) (syOf []) askG4 (noLoops _) 60 4 #[emV (dS 0 k) a b c d w, nilS, gi x] ((hB es).push .dead) (fun v _ => K v) = (K (Value.bool true)) := by kernel_rfl
theorem t_ee (es : Nat → TypeId) (k : Nat) (k' : Nat) (a b c d w x : Int) (K : Value → Prop) : callC Tryz.prog (exec Tryz.prog orcG4 20) (syOf []) askG4 (noLoops _) 60 4 #[emV (dS 0 k) a b c d w, dS 1 k', gi x] (((hB es).push .dead).push .dead) (fun v _ => K v) = (K (Value.bool true)) := by kernel_rfl
end Go.Proofs.YtfkiiacbchbgdaaGreatDoor
/-! (OWN WORK. Tables of tows: the law on the abstract machine: true for all tows, tables and cells.) -/
namespace Go.Proofs.YtfkiiacbchbgdaaGreatDoor
open Go Go.Am

theorem firstS_go' {x : Int} {r : List Int} (h : x = 0) : firstS (x :: r) = firstS r := by
  show (bif ieq x 0 then firstS r else x) = _
  rw [h]; rfl
theorem ieq_eq {x y : Int} (h : x = y) : ieq x y = true := by rw [h, ieq_self]
theorem nat_of {w : Int} (h : 1 ≤ w) : ∃ W : Nat, w = Int.ofNat W := by
  obtain ⟨W, rfl⟩ := Int.eq_ofNat_of_zero_le (show 0 ≤ w by omega)
  exact ⟨W, rfl⟩
section
variable (es : Nat → TypeId) (a b c d w x : Int)
abbrev LawT (args : Array Value) (h : AHeap) : Prop := CallJ Tryz.prog 4 args h (fun v _ => v = .bool true)
set_option maxRecDepth 100000 in
theorem tab_nn : LawT #[emV nilS a b c d w, nilS, gi x] (hB es) := callC_ok mixed orcG4_ok askG4_ok (Eq.mpr (t_nn es a b c d w x _) rfl)
set_option maxRecDepth 100000 in
theorem tab_ne (k' : Nat) : LawT #[emV nilS a b c d w, dS 0 k', gi x] ((hB es).push .dead) := callC_ok mixed orcG4_ok askG4_ok (Eq.mpr (t_ne es k' a b c d w x _) rfl)
set_option maxRecDepth 100000 in
theorem tab_en (k : Nat) : LawT #[emV (dS 0 k) a b c d w, nilS, gi x] ((hB es).push .dead) := callC_ok mixed orcG4_ok askG4_ok (Eq.mpr (t_en es k a b c d w x _) rfl)
set_option maxRecDepth 100000 in
theorem tab_ee (k k' : Nat) : LawT #[emV (dS 0 k) a b c d w, dS 1 k', gi x] (((hB es).push .dead).push .dead) := callC_ok mixed orcG4_ok askG4_ok (Eq.mpr (t_ee es k k' a b c d w x _) rfl)
set_option maxRecDepth 100000 in
theorem tab_nf (tab : List Int) (k' e' row' : Nat) (h0 : 0 < tab.length) : LawT #[emV nilS a b c d w, liP tab.length k', gi x] (hL (hB es) tab e' row') := by
  obtain ⟨m', hm⟩ : ∃ m', tab.length = m' + 1 := ⟨tab.length - 1, by omega⟩
  rw [hm]
  cases hs : ilt 70 (Int.ofNat (m' + 1)) with
  | true => exact callC_ok mixed orcG3_ok askG3_ok (Eq.mpr (t_long2n es tab m' k' e' row' a b c d w x _) ⟨hs, rfl⟩)
  | false =>
    have hle : m' + 1 ≤ 70 := by
      rw [ilt_say] at hs
      have := of_decide_eq_false hs
      simp only [Int.ofNat_eq_natCast] at this
      omega
    have hf := flat_ints tab
    have ht : towOk (tab.map gi) (m' + 1) := towOk_of hm (Nat.succ_pos m') (by omega)
    refine callC_ok mixed orcG3_ok askG3_ok (Eq.mpr (t_nf es tab m' k' e' row' a b c d w x _) ?_)
    repeat rw [decI_map]
    repeat' (first | assumption | exact rfl | exact trivial | apply And.intro)
set_option maxRecDepth 100000 in
theorem tab_ef (k : Nat) (tab : List Int) (k' e' row' : Nat) (h0 : 0 < tab.length) : LawT #[emV (dS 0 k) a b c d w, slQ tab.length k', gi x] (hL ((hB es).push .dead) tab e' row') := by
  obtain ⟨m', hm⟩ : ∃ m', tab.length = m' + 1 := ⟨tab.length - 1, by omega⟩
  rw [hm]
  cases hs : ilt 70 (Int.ofNat (m' + 1)) with
  | true => exact callC_ok mixed orcG3_ok askG3_ok (Eq.mpr (t_long2e es k tab m' k' e' row' a b c d w x _) ⟨hs, rfl⟩)
  | false =>
    have hle : m' + 1 ≤ 70 := by
      rw [ilt_say] at hs
      have := of_decide_eq_false hs
      simp only [Int.ofNat_eq_natCast] at this
      omega
    have hf := flat_ints tab
    have ht : towOk (tab.map gi) (m' + 1) := towOk_of hm (Nat.succ_pos m') (by omega)
    refine callC_ok mixed orcG3_ok askG3_ok (Eq.mpr (t_ef es k tab m' k' e' row' a b c d w x _) ?_)
    repeat rw [decI_map]
    repeat' (first | assumption | exact rfl | exact trivial | apply And.intro)
/-- What holds for an empty table. -/
theorem fE_bad {l : List Int} {W : Nat} (hc : ctE l.length l (a, b, c, d, Int.ofNat W) = 0) : ieq (firstS [tE [] (Int.ofNat W), ceE (Int.ofNat W) x]) 0 = false ∧ ieq (kE l [] (a, b, c, d, Int.ofNat W) x) (firstS [tE [] (Int.ofNat W), ceE (Int.ofNat W) x]) = true := by
  obtain ⟨k1, k2, k3, k4, k5, k6⟩ := ctE_zero hc
  have e : kE l [] (a, b, c, d, Int.ofNat W) x = firstS [tE [] (Int.ofNat W), ceE (Int.ofNat W) x] := firstS_go' hc
  exact ⟨by rw [← e]; exact kE_nil, ieq_eq e⟩
set_option maxRecDepth 100000 in
theorem tab_fn (l : List Int) (k e row : Nat) (h0 : 0 < l.length) : LawT #[towV l.length k a b c d w, nilS, gi x] (hL (hB es) l e row) := by
  obtain ⟨m, hm⟩ : ∃ m, l.length = m + 1 := ⟨l.length - 1, by omega⟩
  rw [hm]
  cases hs : ilt 65 (Int.ofNat (m + 1)) with
  | true => exact callC_ok mixed orcG2_ok (askG2_ok true) (Eq.mpr (t_long1n es l m k e row a b c d w x _) ⟨hs, rfl⟩)
  | false =>
    have hle : m + 1 ≤ 65 := by
      rw [ilt_say] at hs
      have := of_decide_eq_false hs
      simp only [Int.ofNat_eq_natCast] at this
      omega
    have hf := flat_ints l
    have ht : towOk (l.map gi) (m + 1) := towOk_of hm (Nat.succ_pos m) (by omega)
    have hk : keC l (a, b, c, d, w) [eS 0, gi x] := ⟨0, rfl⟩
    have hte : teC l (a, b, c, d, w) [nilS] := .inl rfl
    cases hz : ieq (ctE l.length l (a, b, c, d, w)) 0 with
    | false =>
      have hq := ieq_self (ctE l.length l (a, b, c, d, w))
      have hsn : siC [nilS, nilS] [] := .inl ⟨rfl, rfl⟩
      have q1 : ieq (kE l [] (a, b, c, d, w) x) (ctE l.length l (a, b, c, d, w)) = true := ieq_eq (kE_bad hz)
      refine callC_ok mixed orcG2_ok (askG2_ok false) (Eq.mpr (t_fn0 es l m k e row a b c d w x _) ?_)
      repeat rw [decI_map]
      repeat' (first | assumption | exact rfl | exact trivial | apply And.intro)
    | true =>
      have hc : ctE l.length l (a, b, c, d, w) = 0 := by rw [ieq_dec] at hz; exact of_decide_eq_true hz
      obtain ⟨k1, k2, k3, k4, k5, k6⟩ := ctE_zero hc
      obtain ⟨W, rfl⟩ := nat_of k5
      have hz' : ieq 0 (ctE l.length l (a, b, c, d, Int.ofNat W)) = true := by rw [hc]; rfl
      obtain ⟨q1, q2⟩ := fE_bad a b c d x hc
      have hrt : rTC l (a, b, c, d, Int.ofNat W) [] := ⟨hc, rfl⟩
      have hg := flat_ints (rnL a 0 l)
      have hsi : siC [liP (W + 1) ((m + 1) + 1), slQ (W + 1) ((m + 1) + 1)] [((rnL a 0 l).map gi, 3, 2), ((rnL a 0 l).map gi, 3, 2)] := .inr ⟨_, _, _, _, _, _, _, _, rfl, rfl, by rw [rnL_len]; simp only [Int.ofNat_eq_natCast] at k6; omega, by simp only [Int.ofNat_eq_natCast] at k6; omega⟩
      refine callC_ok mixed orcG2_ok (askG2_ok true) (Eq.mpr (t_fn1 es l m k e row W a b c d x _) ?_)
      repeat rw [decI_map]
      repeat' (first | assumption | exact rfl | exact trivial | apply And.intro)
set_option maxRecDepth 100000 in
theorem tab_fe (l : List Int) (k e row : Nat) (k' : Nat) (h0 : 0 < l.length) : LawT #[towV l.length k a b c d w, dS 1 k', gi x] ((hL (hB es) l e row).push .dead) := by
  obtain ⟨m, hm⟩ : ∃ m, l.length = m + 1 := ⟨l.length - 1, by omega⟩
  rw [hm]
  cases hs : ilt 65 (Int.ofNat (m + 1)) with
  | true => exact callC_ok mixed orcG2_ok (askG2_ok true) (Eq.mpr (t_long1e es l m k e row k' a b c d w x _) ⟨hs, rfl⟩)
  | false =>
    have hle : m + 1 ≤ 65 := by
      rw [ilt_say] at hs
      have := of_decide_eq_false hs
      simp only [Int.ofNat_eq_natCast] at this
      omega
    have hf := flat_ints l
    have ht : towOk (l.map gi) (m + 1) := towOk_of hm (Nat.succ_pos m) (by omega)
    have hk : keC l (a, b, c, d, w) [eS 0, gi x] := ⟨0, rfl⟩
    have hte : teC l (a, b, c, d, w) [eS k'] := .inr ⟨k', rfl⟩
    cases hz : ieq (ctE l.length l (a, b, c, d, w)) 0 with
    | false =>
      have hq := ieq_self (ctE l.length l (a, b, c, d, w))
      have hsn : siC [nilS, nilS] [] := .inl ⟨rfl, rfl⟩
      have q1 : ieq (kE l [] (a, b, c, d, w) x) (ctE l.length l (a, b, c, d, w)) = true := ieq_eq (kE_bad hz)
      refine callC_ok mixed orcG2_ok (askG2_ok false) (Eq.mpr (t_fe0 es l m k e row k' a b c d w x _) ?_)
      repeat rw [decI_map]
      repeat' (first | assumption | exact rfl | exact trivial | apply And.intro)
    | true =>
      have hc : ctE l.length l (a, b, c, d, w) = 0 := by rw [ieq_dec] at hz; exact of_decide_eq_true hz
      obtain ⟨k1, k2, k3, k4, k5, k6⟩ := ctE_zero hc
      obtain ⟨W, rfl⟩ := nat_of k5
      have hz' : ieq 0 (ctE l.length l (a, b, c, d, Int.ofNat W)) = true := by rw [hc]; rfl
      obtain ⟨q1, q2⟩ := fE_bad a b c d x hc
      have hrt : rTC l (a, b, c, d, Int.ofNat W) [] := ⟨hc, rfl⟩
      have hg := flat_ints (rnL a 0 l)
      have hsi : siC [liP (W + 1) ((m + 1) + 1), slQ (W + 1) ((m + 1) + 1)] [((rnL a 0 l).map gi, 3, 2), ((rnL a 0 l).map gi, 3, 2)] := .inr ⟨_, _, _, _, _, _, _, _, rfl, rfl, by rw [rnL_len]; simp only [Int.ofNat_eq_natCast] at k6; omega, by simp only [Int.ofNat_eq_natCast] at k6; omega⟩
      refine callC_ok mixed orcG2_ok (askG2_ok true) (Eq.mpr (t_fe1 es l m k e row k' W a b c d x _) ?_)
      repeat rw [decI_map]
      repeat' (first | assumption | exact rfl | exact trivial | apply And.intro)
set_option maxRecDepth 100000 in
theorem tab_ff (l : List Int) (k e row : Nat) (tab : List Int) (k' e' row' : Nat) (h0 : 0 < l.length) (h0' : 0 < tab.length) : LawT #[towV l.length k a b c d w, slQ tab.length k', gi x] (hL (hL (hB es) l e row) tab e' row') := by
  obtain ⟨m, hm⟩ : ∃ m, l.length = m + 1 := ⟨l.length - 1, by omega⟩
  obtain ⟨m', hm'⟩ : ∃ m', tab.length = m' + 1 := ⟨tab.length - 1, by omega⟩
  rw [hm, hm']
  cases hs : ilt 65 (Int.ofNat (m + 1)) with
  | true => exact callC_ok mixed orcG1_ok (askG1_ok true) (Eq.mpr (t_long1 es l m k e row tab m' k' e' row' a b c d w x _) ⟨hs, rfl⟩)
  | false =>
  cases hs' : ilt 70 (Int.ofNat (m' + 1)) with
  | true => exact callC_ok mixed orcG1_ok (askG1_ok true) (Eq.mpr (t_long2 es l m k e row tab m' k' e' row' a b c d w x _) ⟨hs, hs', rfl⟩)
  | false =>
    have hle : m + 1 ≤ 65 := by
      rw [ilt_say] at hs
      have := of_decide_eq_false hs
      simp only [Int.ofNat_eq_natCast] at this
      omega
    have hle' : m' + 1 ≤ 70 := by
      rw [ilt_say] at hs'
      have := of_decide_eq_false hs'
      simp only [Int.ofNat_eq_natCast] at this
      omega
    have hf := flat_ints l
    have hf' := flat_ints tab
    have ht : towOk (l.map gi) (m + 1) := towOk_of hm (Nat.succ_pos m) (by omega)
    have ht' : towOk (tab.map gi) (m' + 1) := towOk_of hm' (Nat.succ_pos m') (by omega)
    cases hz : ieq (ctE l.length l (a, b, c, d, w)) 0 with
    | false =>
      have hq := ieq_self (ctE l.length l (a, b, c, d, w))
      have hsn : siC [nilS, nilS] [] := .inl ⟨rfl, rfl⟩
      have eb : kE l tab (a, b, c, d, w) x = ctE l.length l (a, b, c, d, w) := kE_bad hz
      have q1 : ieq (kV l tab (a, b, c, d, w) x) (ctE l.length l (a, b, c, d, w)) = true := ieq_eq (by unfold kV; rw [eb, hz]; rfl)
      refine callC_ok mixed orcG1_ok (askG1_ok false) (Eq.mpr (t_ff00 es l m k e row tab m' k' e' row' a b c d w x _) ?_)
      repeat rw [decI_map]
      repeat' (first | assumption | exact rfl | exact trivial | apply And.intro)
    | true =>
      have hc : ctE l.length l (a, b, c, d, w) = 0 := by rw [ieq_dec] at hz; exact of_decide_eq_true hz
      obtain ⟨k1, k2, k3, k4, k5, k6⟩ := ctE_zero hc
      obtain ⟨W, rfl⟩ := nat_of k5
      have hz' : ieq 0 (ctE l.length l (a, b, c, d, Int.ofNat W)) = true := by rw [hc]; rfl
      have hrt : rTC l (a, b, c, d, Int.ofNat W) [] := ⟨hc, rfl⟩
      have hg := flat_ints (rnL a 0 l)
      have hsi : siC [liP (W + 1) ((m + 1) + 1), slQ (W + 1) ((m + 1) + 1)] [((rnL a 0 l).map gi, 3, 2), ((rnL a 0 l).map gi, 3, 2)] := .inr ⟨_, _, _, _, _, _, _, _, rfl, rfl, by rw [rnL_len]; simp only [Int.ofNat_eq_natCast] at k6; omega, by simp only [Int.ofNat_eq_natCast] at k6; omega⟩
      have ek : kE l tab (a, b, c, d, Int.ofNat W) x = firstS [tE tab (Int.ofNat W), ceE (Int.ofNat W) x] := firstS_go' hc
      cases hn : ieq (firstS [tE tab (Int.ofNat W), ceE (Int.ofNat W) x]) 0 with
      | false =>
        have q1 : ieq (kV l tab (a, b, c, d, Int.ofNat W) x) (firstS [tE tab (Int.ofNat W), ceE (Int.ofNat W) x]) = true := ieq_eq (by unfold kV; rw [ek, hn]; rfl)
        refine callC_ok mixed orcG1_ok (askG1_ok true) (Eq.mpr (t_ff10 es l m k e row tab m' k' e' row' W a b c d x _) ?_)
        repeat rw [decI_map]
        repeat' (first | assumption | exact rfl | exact trivial | apply And.intro)
      | true =>
        have hn0 : firstS [tE tab (Int.ofNat W), ceE (Int.ofNat W) x] = 0 := by rw [ieq_dec] at hn; exact of_decide_eq_true hn
        obtain ⟨x0, x1⟩ := ceE_zero (w := Int.ofNat W) (x := x) (firstS_none hn0 _ (.tail _ (.head _)))
        obtain ⟨y1, y2⟩ := tE_zero (tab := tab) (w := Int.ofNat W) (by omega) (by omega) (firstS_none hn0 _ (.head _))
        have hp : prC l (a, b, c, d, Int.ofNat W) tab [gi x] := ⟨⟨hc, y2, y1⟩, rfl, x0, x1⟩
        have q1 : ieq (kV l tab (a, b, c, d, Int.ofNat W) x) (whenS (!(pvB l tab (a, b, c, d, Int.ofNat W) x)) 19) = true := ieq_eq (by unfold kV; rw [ek, hn]; rfl)
        refine callC_ok mixed orcG1_ok (askG1_ok true) (Eq.mpr (t_ff11 es l m k e row tab m' k' e' row' W a b c d x _) ?_)
        repeat rw [decI_map]
        repeat' (first | assumption | exact rfl | exact trivial | apply And.intro)
end
end Go.Proofs.YtfkiiacbchbgdaaGreatDoor
