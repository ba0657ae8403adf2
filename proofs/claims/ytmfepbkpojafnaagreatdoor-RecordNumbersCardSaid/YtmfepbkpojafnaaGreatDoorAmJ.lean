/-
  OWN WORK. 'Am', tenth text: new slices, append, copy, len.
-/
import Derived.Test.YtmfepbkpojafnaaGreatDoorAmI
import Derived.Laws.Append
namespace Go.Am
section
variable {P : Program} {ρ : Rho} {h : AHeap} {w : World}

theorem zero_cells_run {elem : TypeId} {n : Nat} {zero : Array Value} (hz : pureRun P (if n = 0 then pure #[] else do pure (← zeroValue elem).cells) = some zero) :
    (n = 0 ∧ zero = #[]) ∨ (n ≠ 0 ∧ ∃ z, z.cells = zero ∧ ∀ w, (zeroValue elem).run P w = .ok z w) := by
  by_cases h0 : n = 0
  · rw [if_pos h0, pureRun_pure] at hz
    exact .inl ⟨h0, by simpa using hz.symm⟩
  · rw [if_neg h0, pureRun_bind] at hz
    cases hv : pureRun P (zeroValue elem) with
    | none => simp [hv] at hz
    | some z =>
      rw [hv, Option.bind_some, pureRun_pure] at hz
      exact .inr ⟨h0, z, by simpa using hz, pureRun_sound P _ _ hv⟩

theorem amakeSlice_ok (H : HRel ρ h w) {t : TypeId} {len cap len' cap' : Value} {r : ANext} (hl : VRel ρ len len') (hc : VRel ρ cap cap') (ha : amakeSlice P h t len cap = some r) : ValOkN P ρ h w r (Instr.makeSlice t len' cap') := by
  unfold amakeSlice at ha
  split at ha
  · rename_i elem l c hu
    have r1 := pureRun_sound P _ _ hu
    obtain rfl := hl.int
    obtain rfl := hc.int
    split at ha
    · rename_i info s hi hs
      have r2 := pureRun_sound P _ _ hi
      have r3 := pureRun_sound P _ _ hs
      split at ha
      · rename_i hb
        simp only [Bool.and_eq_true, Nat.ble_eq] at hb
        obtain ⟨⟨hlc, hc1⟩, hbytes⟩ := hb
        split at ha
        · rename_i zero hz
          split at ha
          · rename_i hfz
            cases ha
            obtain ⟨H', A'⟩ := new_cells_exact H ((Array.range (c * s)).map (zero[· % zero.size]!)).toList ((Array.range (c * s)).map (zero[· % zero.size]!)) elem (s + 1) (LRel.of_ARel (zeros_rel (ρ := ρ) hfz (c * s)))
            refine ⟨.slice (some ⟨w.heap.size, 0, none⟩) l c, _, _, ?_, VRel.mk_slice (g := ⟨w.heap.size, 0, _, s + 1⟩) (ρ.upd_same _ _) hlc (Nat.le_refl _) (.inl rfl), H', A'⟩
            have w1 : IntKind.i64.wrap (l : Int) = (l : Int) := IntWalk.i64_in _ ⟨by omega, by omega⟩
            have w2 : IntKind.i64.wrap (c : Int) = (c : Int) := IntWalk.i64_in _ ⟨by omega, by omega⟩
            have g1 : ¬ ((c : Int) < 0) := by omega
            have g2 : ¬ ((281474976710656 : Int) < (info.bytes : Int) * (c : Int)) := by
              have : ((info.bytes * c : Nat) : Int) ≤ ((281474976710656 : Nat) : Int) := Int.ofNat_le.2 hbytes
              rw [Int.natCast_mul] at this
              exact Int.not_lt.2 this
            have g3 : ¬ ((l : Int) < 0) := by omega
            have g4 : ¬ ((c : Int) < (l : Int)) := by omega
            rcases zero_cells_run hz with ⟨h0, rfl⟩ | ⟨h0, z, rfl, hzr⟩
            · simp [Instr.makeSlice, r1, asInt, asIntOf, r2, w1, w2, g1, g2, g3, g4, r3, h0, newRow]
            · simp [Instr.makeSlice, r1, asInt, asIntOf, r2, w1, w2, g1, g2, g3, g4, r3, h0, hzr, newRow]
          · cases ha
        · cases ha
      · cases ha
    · cases ha
  · cases ha

theorem len_ok {t : TypeId} {n : Nat} {a : Option Addr} {k : Nat} (args : Array Value) (argTypes : Array TypeId) (h0 : argTypes[0]? = some t) (h1 : args[0]? = some (.slice a n k)) {e : TypeId} (hu : pureRun P (underlying t) = some (.slice e)) (ty : TypeId) (w : World) :
    (Builtin.len_ argTypes ty args).run P w = .ok (goInt n) w := by
  have r1 := pureRun_sound P _ _ hu
  simp [Builtin.len_, h0, h1, r1]

theorem ARel.get {R : Value → Value → Prop} {a b : Array Value} (k : ARel R a b) {i : Nat} {x : Value} (hx : a[i]? = some x) : ∃ y, b[i]? = some y ∧ R x y := by
  have hi : i < b.size := by rw [← k.1]; exact (Array.getElem?_eq_some_iff.1 hx).1
  exact ⟨b[i], Array.getElem?_eq_getElem hi, k.2 i _ _ hx (Array.getElem?_eq_getElem hi)⟩

theorem alen_ok (H : HRel ρ h w) {argTypes : Array TypeId} {args args' : Array Value} {v : Value} (hA : ARel (VRel ρ) args args') (ha : alen P h argTypes args = some v) (ty : TypeId) :
    (Builtin.len_ argTypes ty args').run P w = .ok v w ∧ flat 3 v = true := by
  unfold alen at ha
  split at ha
  · rename_i t a n k h0 h1
    obtain ⟨y, e1, e2⟩ := hA.get h1
    obtain ⟨a', k', rfl, _⟩ := e2.slice_any
    split at ha
    · rename_i e hu
      cases ha
      exact ⟨len_ok args' argTypes h0 e1 hu ty w, rfl⟩
    · cases ha
  · rename_i t r h0 h1
    obtain ⟨y, e1, e2⟩ := hA.get h1
    split at ha
    · rename_i kk ee es clock hu hg
      have r1 := pureRun_sound P _ _ hu
      cases ha
      obtain ⟨r', rfl, hb⟩ := e2.unfold
      obtain ⟨g, hi⟩ := H.get_live hg (by simp) hb.born
      obtain rfl := hb.live hi
      obtain ⟨o, o', f1, f2, f3⟩ := H.obj _ g hi
      rw [hg] at f1
      cases f1
      obtain ⟨es', rfl, q2, q3⟩ := f3
      exact ⟨by simp [Builtin.len_, h0, e1, r1, run_getObj f2, q2], rfl⟩
    · cases ha
  · rename_i t a h0 h1
    obtain ⟨y, e1, e2⟩ := hA.get h1
    split at ha
    · rename_i arr hu
      have r1 := pureRun_sound P _ _ hu
      split at ha
      · rename_i n e hu2
        have r2 := pureRun_sound P _ _ hu2
        cases ha
        exact ⟨by simp [Builtin.len_, h0, e1, r1, r2], rfl⟩
      · cases ha
    · cases ha
  · rename_i t a h0 h1
    obtain ⟨y, e1, e2⟩ := hA.get h1
    split at ha
    · rename_i n e hu
      have r1 := pureRun_sound P _ _ hu
      cases ha
      exact ⟨by simp [Builtin.len_, h0, e1, r1], rfl⟩
    · cases ha
  · cases ha

/-! append -/
def appZ (xt : Option TypeId) : Sem Bool :=
  match xt with
  | some xType => do pure ((← underlying xType) matches .int _)
  | none => pure false
def appN (zeros : Bool) (elem : TypeId) (x : Value) : Sem Nat :=
  if zeros then do
      let l := IntKind.i64.wrap (← asInt x)
      if l < 0 then runtimePanic (.error "makeslice: len out of range")
      if l * (← typeInfo elem).bytes > 2 ^ 48 then
        let made ← choose (.extern "append.ofMake.carriedOut" 2)
        runtimePanic (.error (if made == 1 then "makeslice: len out of range" else "growslice: len out of range"))
      pure l.toNat
    else Builtin.lenOf x
def appC (zeros : Bool) (elem : TypeId) (size n : Nat) (x : Value) : Sem (Array Value) :=
  if !zeros then Builtin.firstCells size n x
  else if n * size = 0 then pure #[]
  else do pure (Builtin.zeroCells (← zeroValue elem).cells n)
/-- What append does when its arguments are at hand. -/
def appB (size elem : TypeId) (zeros : Bool) (n : Nat) (base : Option Addr) (sLen sCap : Nat) (s x : Value) : Sem Value := do
  let need := sLen + n
  if need ≤ sCap then
    let new ← appC zeros elem size n x
    if let some a := base then storeCells (a.add (sLen * size)) new.toList
    pure (.slice base need sCap)
  else
    if (need : Int) > IntKind.i64.max ∧ (zeros ∨ (← typeInfo elem).bytes = 0) then runtimePanic (.error "growslice: len out of range")
    if Builtin.nextslicecap need sCap * (← typeInfo elem).bytes > 2 ^ 48 then (if zeros then runtimePanic (.error "growslice: len out of range") else do
      if !(← Builtin.mayShare size sLen n base x) then mark .noRoom
      unsupported (.resourceLimit "append: a slice or a string whose bytes no memory bears"))
    let newCap ← choose (.appendCap need sCap elem)
    askRoom (newCap * (← typeInfo elem).bytes)
    let old ← Builtin.firstCells size sLen s
    let new ← appC zeros elem size n x
    let rest := Builtin.zeroCells (← zeroValue elem).cells (newCap - need)
    pure (.slice (some (← newRow elem (old ++ new ++ rest))) need newCap)
theorem append_eq {argTypes : Array TypeId} {args : Array Value} {ty sType elem size n sLen sCap : Nat} {base : Option Addr} {x : Value} {zeros : Bool} (h0 : argTypes[0]? = some sType) (h1 : args[0]? = some (.slice base sLen sCap)) (h2 : args[1]? = some x)
    (r1 : (underlying sType).run P w = .ok (.slice elem) w) (r2 : (sizeOf elem).run P w = .ok size w) (r3 : (appZ argTypes[1]?).run P w = .ok zeros w)
    (r4 : (zeros = false ∧ (Builtin.lenOf x).run P w = .ok n w) ∨ (zeros = true ∧ x = .int .i64 (n : Int) ∧ IntKind.i64.wrap (n : Int) = n ∧ ∃ info, (typeInfo elem).run P w = .ok info w ∧ ¬ ((n : Int) * (info.bytes : Int) > 2 ^ 48))) :
    (Builtin.append_ argTypes ty args).run P w = (appB size elem zeros n base sLen sCap (.slice base sLen sCap) x).run P w := by
  unfold Builtin.append_
  simp only [h0, h1, h2]
  rw [run_then r1]
  simp only
  rw [run_then r2]
  have fin : ∀ K : Bool → Sem Value, (match argTypes[1]? with
      | some xType => do
        let d ← underlying xType
        let zeros ← pure (match d with | TypeDesc.int _ => true | _ => false)
        K zeros
      | none => do
        let zeros ← pure false
        K zeros).run P w = (K zeros).run P w := by
    intro K
    cases h3 : argTypes[1]? with
    | none =>
      rw [h3] at r3
      simp only [appZ] at r3
      simp at r3
      subst r3
      rfl
    | some t =>
      rw [h3] at r3
      simp only [appZ] at r3
      show ((underlying t) >>= fun d => (pure (match d with | TypeDesc.int _ => true | _ => false) : Sem Bool) >>= K).run P w = _
      rw [← bind_assoc]
      exact run_then r3
  refine (fin _).trans ?_
  rcases r4 with ⟨rfl, hl⟩ | ⟨rfl, rfl, hw, info, hi, hb⟩
  · refine (run_then hl).trans ?_
    rfl
  · have ha : (asInt (.int .i64 (n : Int))).run P w = .ok (n : Int) w := rfl
    have g1 : ¬ (IntKind.i64.wrap (n : Int) < 0) := by rw [hw]; omega
    have g2 : ¬ (IntKind.i64.wrap (n : Int) * (info.bytes : Int) > 2 ^ 48) := by rw [hw]; exact hb
    refine (congrArg (fun s => Sem.run P s w) (if_pos rfl)).trans ?_
    refine (run_then ha).trans ?_
    rw [if_neg g1]
    refine (run_then hi).trans ?_
    rw [if_neg g2, hw]
    rfl
theorem mem_flat_of_all {l : List Value} {n : Nat} (hl : l.all (flat n) = true) : LRel (VRel ρ) l l := LRel.flat hl

theorem anews_ok (H : HRel ρ h w) {elem : TypeId} {size n : Nat} {xt : Option TypeId} {x y : Value} {news : List Value} (hx : VRel ρ x y) (ha : anews P h elem size xt x = some (n, news)) :
    ∃ zeros news', (∀ w, (appZ xt).run P w = .ok zeros w) ∧
      ((zeros = false ∧ (Builtin.lenOf y).run P w = .ok n w) ∨ (zeros = true ∧ y = .int .i64 (n : Int) ∧ IntKind.i64.wrap (n : Int) = n ∧ ∃ info, (typeInfo elem).run P w = .ok info w ∧ ¬ ((n : Int) * (info.bytes : Int) > 2 ^ 48))) ∧ LRel (VRel ρ) news news' ∧ news.length = n * size ∧ (appC zeros elem size n y).run P w = .ok news'.toArray w := by
  unfold anews at ha
  split at ha
  · rename_i hxt
    cases xt with
    | none => simp at hxt
    | some t =>
      simp only [Option.map_eq_some_iff] at hxt
      obtain ⟨d, hd, hi⟩ := hxt
      have r0 := pureRun_sound P _ _ hd
      have hZ : ∀ w, (appZ (some t)).run P w = .ok true w := fun w => by
        simp only [appZ]
        rw [run_then (r0 w)]
        exact congrArg (fun b => (Result.ok b w : Result Bool)) hi
      split at ha
      · rename_i l
        obtain rfl := hx.int
        split at ha
        · rename_i info hinfo
          have r1 := pureRun_sound P _ _ hinfo
          split at ha
          · rename_i hb
            simp only [Bool.and_eq_true, Nat.ble_eq] at hb
            obtain ⟨hl1, hl2⟩ := hb
            split at ha
            · rename_i zs hz
              split at ha
              · rename_i hf
                simp only [Bool.and_eq_true, Nat.beq_eq] at hf
                simp only [Option.some.injEq, Prod.mk.injEq] at ha
                obtain ⟨rfl, rfl⟩ := ha
                have w1 : IntKind.i64.wrap (l : Int) = (l : Int) := IntWalk.i64_in _ ⟨by omega, by omega⟩
                have g2 : ¬ ((l : Int) * (info.bytes : Int) > 2 ^ 48) := by
                  have : ((info.bytes * l : Nat) : Int) ≤ ((281474976710656 : Nat) : Int) := Int.ofNat_le.2 hl2
                  rw [Int.natCast_mul, Int.mul_comm] at this
                  exact Int.not_lt.2 this
                refine ⟨true, zs.toList, hZ, .inr ⟨rfl, rfl, w1, info, r1 w, g2⟩, LRel.flat hf.1, by simpa using hf.2, ?_⟩
                · have rz := pureRun_sound P _ _ hz w
                  simp only [appC]
                  simpa using rz
              · cases ha
            · cases ha
          · cases ha
        · cases ha
      · cases ha
  · rename_i hxt
    have hZ : ∀ w, (appZ xt).run P w = .ok false w := fun w => by
      cases xt with
      | none => rfl
      | some t =>
        simp only [Option.map_eq_some_iff] at hxt
        obtain ⟨d, hd, hi⟩ := hxt
        have r0 := pureRun_sound P _ _ hd
        simp only [appZ]
        rw [run_then (r0 w)]
        exact congrArg (fun b => (Result.ok b w : Result Bool)) hi
    split at ha
    · rename_i a m k
      cases hc : rcells h a (m * size) with
      | none => simp [hc] at ha
      | some cs =>
        simp [hc] at ha
        obtain ⟨rfl, rfl⟩ := ha
        cases a with
        | none =>
          obtain rfl := hx.atom_eq rfl
          unfold rcells at hc
          split at hc
          · rename_i h0
            cases hc
            refine ⟨false, [], hZ, (.inl ⟨rfl, by simp [Builtin.lenOf]⟩), LRel.nil, by simpa using h0.symm, ?_⟩
            simp [appC, Builtin.firstCells]
          · cases hc
        | some a =>
          obtain ⟨a', k', rfl, hp, _⟩ := hx.slice_any
          obtain ⟨ys, h1, h2, h3⟩ := rcells_ok (P := P) H hp hc
          exact ⟨false, ys, hZ, (.inl ⟨rfl, by simp [Builtin.lenOf]⟩), h1, h2, by simp [appC, Builtin.firstCells, h3]⟩
    · rename_i s
      obtain rfl := hx.atom_eq rfl
      split at ha
      · rename_i hs
        have hs := Nat.eq_of_beq_eq_true hs
        subst hs
        simp only [Option.some.injEq, Prod.mk.injEq] at ha
        obtain ⟨rfl, rfl⟩ := ha
        refine ⟨false, bytesOf s, hZ, (.inl ⟨rfl, by simp [Builtin.lenOf]⟩), LRel.flat (bytesOf_flat s), by simp [bytesOf_length], ?_⟩
        have hext : s.extract 0 s.size = s := by simp
        simp only [appC, Builtin.firstCells, hext]
        show Result.ok _ w = _
        congr 1
        apply Array.ext'
        simp [bytesOf]
      · cases ha
    · cases ha
  · cases ha

theorem HRel.kill {i : Nat} {g : G} (H : HRel ρ h w) (hi : ρ i = .live g) : HRel (ρ.upd i .dead) (h.set i .dead) w := by
  have old : ∀ {j gj}, ρ.upd i .dead j = .live gj → j ≠ i ∧ ρ j = .live gj := fun {j gj} h' => by
    by_cases e : j = i
    · subst e; rw [ρ.upd_same] at h'; cases h'
    · rw [ρ.upd_ne _ e] at h'; exact ⟨e, h'⟩
  refine ⟨fun j hj => ?_, fun j k gj gk hj hk he => H.inj j k gj gk (old hj).2 (old hk).2 he, fun j gj hj => ?_, fun j hj o ho => ?_⟩
  · have : ρ j = .unborn := H.bound j hj
    rw [ρ.upd_ne _ (by intro e; subst e; rw [hi] at this; cases this)]
    exact this
  · obtain ⟨ne, hl⟩ := old hj
    obtain ⟨o1, o2, f1, f2, f3⟩ := H.obj j gj hl
    exact ⟨o1, o2, by rw [AHeap.get_set, if_neg ne]; exact f1, f2, f3.mono Rho.le_dead⟩
  · by_cases e : j = i
    · subst e
      rw [AHeap.get_set, if_pos rfl] at ho
      cases ho
      rfl
    · rw [ρ.upd_ne _ e] at hj
      rw [AHeap.get_set, if_neg e] at ho
      exact H.dead j hj o ho

theorem HRel.setOther (H : HRel ρ h w) {b : Nat} (hb : ∀ j gj, ρ j = .live gj → gj.b ≠ b) (o : Obj) : HRel ρ h (setBlock w b o) :=
  ⟨H.bound, H.inj, fun j gj hj => by
    obtain ⟨o1, o2, f1, f2, f3⟩ := H.obj j gj hj
    exact ⟨o1, o2, f1, by rw [setBlock_ne (hb j gj hj)]; exact f2, f3⟩, H.dead⟩
/-- A block that is there, and that no abstract block stands for, is stood for by a new one. -/
theorem HRel.adopt (H : HRel ρ h w) {g : G} (hb : ∀ j gj, ρ j = .live gj → gj.b ≠ g.b) {o : AObj} {o' : Obj} (hw : w.heap[g.b]? = some o') (ho : ObjRel (ρ.upd h.n (.live g)) g o o') :
    HRel (ρ.upd h.n (.live g)) (h.push o) w := by
  have hu := H.bound h.n (Nat.le_refl _)
  have hle : ρ.le (ρ.upd h.n (.live g)) := Rho.le_born hu
  have old : ∀ {j gj}, j ≠ h.n → ρ.upd h.n (.live g) j = .live gj → ρ j = .live gj := fun hj h => by rwa [ρ.upd_ne _ hj] at h
  refine ⟨fun i hi => ?_, fun i j gi gj hi hj he => ?_, fun i gi hi => ?_, fun i hi o ho => ?_⟩
  · simp at hi
    rw [ρ.upd_ne _ (by omega)]; exact H.bound i (by omega)
  · by_cases ei : i = h.n
    · by_cases ej : j = h.n
      · rw [ei, ej]
      · subst ei
        rw [ρ.upd_same] at hi
        cases hi
        exact absurd he.symm (hb j gj (old ej hj))
    · by_cases ej : j = h.n
      · subst ej
        rw [ρ.upd_same] at hj
        cases hj
        exact absurd he (hb i gi (old ei hi))
      · exact H.inj i j gi gj (old ei hi) (old ej hj) he
  · by_cases ei : i = h.n
    · subst ei
      rw [ρ.upd_same] at hi
      cases hi
      exact ⟨o, o', by rw [AHeap.get_push, if_pos rfl], hw, ho⟩
    · obtain ⟨o1, o2, f1, f2, f3⟩ := H.obj i gi (old ei hi)
      exact ⟨o1, o2, by rw [AHeap.get_push, if_neg ei]; exact f1, f2, f3.mono hle⟩
  · by_cases ei : i = h.n
    · subst ei; rw [ρ.upd_same] at hi; cases hi
    · rw [ρ.upd_ne _ ei] at hi
      rw [AHeap.get_push, if_neg ei] at ho
      exact H.dead i hi o ho
theorem Adv.kill {i : Nat} {g : G} (H : HRel ρ h w) (hi : ρ i = .live g) (k : Nat) : Adv k ρ h w (ρ.upd i .dead) (h.set i .dead) w := by
  refine ⟨Rho.le_dead, Nat.le_refl _, Nat.le_refl _, rfl, rfl, rfl, fun _ _ _ => rfl, fun b _ ⟨j, gj, hj, hbj, hr⟩ => ?_, fun j _ hu => ?_⟩
  · by_cases e : j = i
    · subst e; rw [ρ.upd_same] at hj; cases hj
    · rw [ρ.upd_ne _ e] at hj
      unfold AHeap.rw at hr
      rw [AHeap.get_set, if_neg e] at hr
      exact ⟨j, gj, hj, hbj, hr⟩
  · rw [ρ.upd_ne _ (by intro e; subst e; rw [hi] at hu; cases hu)]; exact hu

/-- append that stays in place: room was known. -/
theorem appB_fits {size elem n sLen sCap : Nat} {zeros : Bool} {base : Option Addr} {s x : Value} {new : Array Value} (hle : sLen + n ≤ sCap) (hC : (appC zeros elem size n x).run P w = .ok new w) {w' : World}
    (hst : match base with | some a => (storeCells (a.add (sLen * size)) new.toList).run P w = .ok () w' | none => w' = w) :
    (appB size elem zeros n base sLen sCap s x).run P w = .ok (.slice base (sLen + n) sCap) w' := by
  unfold appB
  simp only
  rw [if_pos hle, run_then hC]
  cases base with
  | none => subst hst; rfl
  | some a => simp only at hst ⊢; rw [run_then hst]; rfl
/-- append into a new row. -/
theorem appB_grow {size elem n sLen sCap : Nat} {zeros : Bool} {base : Option Addr} {s x : Value} {old new : Array Value} {info : TypeInfo} {z : Value} (hgt : sCap < sLen + n)
    (hi : ∀ w, (typeInfo elem).run P w = .ok info w) (hz : ∀ w, (zeroValue elem).run P w = .ok z w) (hb0 : 0 < info.bytes) (hb : (2 * (sLen + n) + 256) * info.bytes ≤ 281474976710656)
    (hold : (Builtin.firstCells size sLen s).run P w.drew = .ok old w.drew) (hC : (appC zeros elem size n x).run P w.drew = .ok new w.drew) :
    (appB size elem zeros n base sLen sCap s x).run P w =
      .ok (.slice (some ⟨w.heap.size, 0, none⟩) (sLen + n) (grownCap w (sLen + n) sCap elem)) (w.drew.alloc (.cells (old ++ new ++ Builtin.zeroCells z.cells (grownCap w (sLen + n) sCap elem - (sLen + n))) elem)) := by
  have h1 : ¬ (sLen + n ≤ sCap) := by omega
  have hb2 : (sLen + n) * info.bytes ≤ 140737488355328 := by
    have : (2 * (sLen + n) + 256) * info.bytes = 2 * ((sLen + n) * info.bytes) + 256 * info.bytes := by rw [Nat.add_mul, Nat.mul_assoc]
    omega
  have h2 : ¬ (Builtin.nextslicecap (sLen + n) sCap * info.bytes > 2 ^ 48) := by
    have := growslice_fits (bytes := info.bytes) hgt hb2
    omega
  have h3 : sLen + n ≤ 281474976710656 := by
    have h4 : 2 * (sLen + n) + 256 ≤ (2 * (sLen + n) + 256) * info.bytes := Nat.le_mul_of_pos_right _ hb0
    omega
  have h5 : ¬ (((sLen + n : Nat) : Int) > IntKind.i64.max ∧ (zeros = true ∨ info.bytes = 0)) := by
    intro hc
    have : IntKind.i64.max = 9223372036854775807 := rfl
    rw [this] at hc
    omega
  unfold appB
  simp only
  rw [if_neg h1, run_then (hi w), if_neg h5, run_then (hi w), if_neg h2]
  have hch : (choose (.appendCap (sLen + n) sCap elem)).run P w = .ok (grownCap w (sLen + n) sCap elem) w.drew := by
    simp [Question.forced, grownCap]
  rw [run_then hch, run_then (hi w.drew), run_then (run_askRoom P w.drew _), run_then hold, run_then hC, run_then (hz w.drew)]
  simp [newRow]
end
end Go.Am
