/-
  OWN WORK. 'Am': functions that write into blocks which a closure has caught: behind the call nothing is known of these blocks.
-/
import Derived.Test.YtihnnmejkpddeaaGreatDoorAmY
namespace Go.Am
noncomputable section
def killH (h : AHeap) (ids : List Nat) : AHeap := List.rec (motive := fun _ => AHeap → AHeap) (fun h => h) (fun i _ ih h => ih (h.set i .dead)) ids h
def killR (ρ : Rho) (ids : List Nat) : Rho := List.rec (motive := fun _ => Rho → Rho) (fun ρ => ρ) (fun i _ ih ρ => ih (ρ.upd i .dead)) ids ρ
def capN : Value → List Nat
  | .func _ _ b => b.toList.flatMap fun v => match v with
    | .pointer (some ⟨i, _, none⟩) => [i]
    | _ => []
  | _ => []
def blkCp (caps : List Nat) (h : AHeap) (i : Nat) : Option Blk := match h.get i with
  | some (.cells c e row ro) => match caps.any (Nat.beq i) with
    | true => some (c, e, row, ro)
    | false => some (c, e, row, true)
  | _ => none
def viewCp (n : Nat) (vs : List Value) (h : AHeap) : Option (List Value × List Blk) :=
  match (idsA vs).all (Nat.ble n), amapM (renA n (idsA vs)) vs, amapM (blkCp (vs.flatMap capN) h) (idsA vs) with
  | true, some us, some B => some (us, B)
  | _, _, _ => none
def killed (ids : List Nat) (B : List Blk) : List Nat := ((ids.zip B).filter fun p => !p.2.2.2.2).map (·.1)
def flatCp (B : List Blk) : Bool := B.all fun b => b.1.all (flat 3)
def flatCpP (B : List Blk) : Prop := List.rec (motive := fun _ => Prop) True (fun b _ ih => b.1.all (flat 3) = true ∧ ih) B
theorem flatCpP_iff : ∀ {B : List Blk}, flatCpP B → flatCp B = true
  | [], _ => rfl
  | b :: B, h => by
    show (b.1.all (flat 3) && flatCp B) = true
    rw [show b.1.all (flat 3) = true from h.1, flatCpP_iff (B := B) h.2]; rfl
def capO (n : Nat) (X : List Value → List Blk → Option Value) : Array Value → AHeap → Option (Value × AHeap) := fun args h => match viewCp n args.toList h with
  | some (us, B) => match flatCp B, X us B with
    | true, some v => match flat 3 v with
      | true => some (v, killH h (killed (idsA args.toList) B))
      | false => none
    | _, _ => none
  | none => none
def asksCp (n : Nat) (f : FuncId) (Y : List Value → List Blk → (Value → Prop) → Prop) (A : Asks) : Asks := fun f' args h k => match Nat.beq f f' with
  | true => match viewCp n args.toList h with
    | some (us, B) => flatCpP B ∧ Y us B fun v => k v (killH h (killed (idsA args.toList) B))
    | none => False
  | false => A f' args h k
theorem asksCp_ok {n : Nat} {f : FuncId} {X : List Value → List Blk → Option Value} {Y : List Value → List Blk → (Value → Prop) → Prop} (hY : ∀ vs B K, Y vs B K → ∃ v, X vs B = some v ∧ flat 3 v = true ∧ K v) {A : Asks} {orc : Orc} (hA : AsksOk orc A) : AsksOk (orElse f (capO n X) orc) (asksCp n f Y A) := by
  intro f' args h k hk
  unfold asksCp at hk
  split at hk
  · rename_i hf
    split at hk
    · rename_i us B hv
      obtain ⟨hB, hk⟩ := hk
      obtain ⟨v, hX, hfl, hq⟩ := hY _ _ _ hk
      refine ⟨v, _, ?_, hq⟩
      have : capO n X args h = some (v, killH h (killed (idsA args.toList) B)) := by
        unfold capO
        rw [hv]
        simp only [flatCpP_iff hB, hX, hfl]
      simp only [orElse, hf, this]
    · exact hk.elim
  · rename_i hf
    obtain ⟨v, h', e, q⟩ := hA f' args h k hk
    exact ⟨v, h', by simp only [orElse, hf, e], q⟩
theorem killAll_ok {w : World} {k : Nat} : ∀ (ids : List Nat) (ρ : Rho) (h : AHeap), HRel ρ h w → (∀ i ∈ ids, ∃ g, ρ i = .live g) → ids.Nodup →
    HRel (killR ρ ids) (killH h ids) w ∧ Adv k ρ h w (killR ρ ids) (killH h ids) w ∧ ∀ i g, killR ρ ids i = .live g → i ∉ ids ∧ ρ i = .live g
  | [], ρ, h, H, _, _ => ⟨H, Adv.refl _ _ _ _, fun i g hi => ⟨by simp, hi⟩⟩
  | j :: ids, ρ, h, H, hl, hn => by
    obtain ⟨g, hg⟩ := hl j (.head _)
    obtain ⟨hj, hn'⟩ := List.nodup_cons.1 hn
    have hl' : ∀ i ∈ ids, ∃ g, (ρ.upd j .dead) i = .live g := fun i hi => by
      obtain ⟨q, hq⟩ := hl i (.tail _ hi)
      exact ⟨q, by rw [Rho.upd_ne _ _ (by intro e; subst e; exact hj hi)]; exact hq⟩
    obtain ⟨k1, k2, k3⟩ := killAll_ok ids (ρ.upd j .dead) (h.set j .dead) (H.kill hg) hl' hn'
    refine ⟨k1, (Adv.kill H hg k).trans k2, fun i q hi => ?_⟩
    obtain ⟨q1, q2⟩ := k3 i q hi
    by_cases e : i = j
    · subst e; rw [Rho.upd_same] at q2; cases q2
    · rw [Rho.upd_ne _ _ e] at q2
      exact ⟨by simp [e, q1], q2⟩
section
variable {P : Program} {args args₂ : Array Value} {h h₂ : AHeap} {pre : Pre}
structure SmallCp (P : Program) (args args₂ : Array Value) (h h₂ : AHeap) (pre : Pre) : Prop where
  view : View P h h₂ pre
  rens : args.size = args₂.size ∧ ∀ (i : Nat) x y, args[i]? = some x → args₂[i]? = some y → Ren pre x y ∨ Empt h₂ pre x y
  born : ∀ j i, pre j = some i → i < P.globals.size ∨ ∃ v ∈ args.toList, Mentions v i
theorem SmallCp.start (s : SmallCp P args args₂ h h₂ pre) {ρ : Rho} {w : World} {args' : Array Value} (H : HRel ρ h w) (G : Globs P ρ) (hA : ARel (VRel ρ) args args') :
    HRel (viewRho ρ h₂.n pre) h₂ w ∧ Globs P (viewRho ρ h₂.n pre) ∧ ARel (VRel (viewRho ρ h₂.n pre)) args₂ args' ∧ Alive ρ pre := by
  have hnd : ∀ j i, pre j = some i → ρ i ≠ .dead := fun j i hji hd => by
    obtain ⟨o, o₂, h1, _, h3⟩ := s.view.obj j i hji
    have := H.dead i hd o h1
    subst this
    cases o₂ <;> exact h3.elim
  have A : Alive ρ pre := s.view.alive H fun j i hji hu => by
    rcases s.born j i hji with hg | ⟨v, hv, hm⟩
    · rcases G i hg with e | ⟨q, e, _⟩
      · exact hnd j i hji e
      · rw [e] at hu; cases hu
    · obtain ⟨n, hn⟩ := List.getElem?_of_mem hv
      have hn : args[n]? = some v := by rw [← Array.getElem?_toList]; exact hn
      have hlt : n < args'.size := by rw [← hA.1]; exact (Array.getElem?_eq_some_iff.1 hn).1
      exact hm.born (hA.2 n v args'[n] hn (Array.getElem?_eq_getElem hlt)) hu
  refine ⟨s.view.hrel H A, s.view.globs' G, ⟨s.rens.1 ▸ hA.1, fun i x y hx hy => ?_⟩, A⟩
  have hi : i < args.size := by rw [s.rens.1]; exact (Array.getElem?_eq_some_iff.1 hx).1
  have hv := hA.2 i args[i] y (Array.getElem?_eq_getElem hi) hy
  rcases s.rens.2 i args[i] x (Array.getElem?_eq_getElem hi) hx with r | r
  · exact r.vrel s.view hv
  · exact r.vrel s.view hv
theorem CallJ.kill {f : FuncId} {res : Value} (hres : flat 3 res = true) (s : SmallCp P args args₂ h h₂ pre) {ids : List Nat} (hnd : ids.Nodup) (hin : ∀ i ∈ ids, ∃ j, pre j = some i) (hout : ∀ j i, pre j = some i → h₂.rw j = true → i ∈ ids)
    (hc : CallJ P f args₂ h₂ (fun v _ => v = res)) : ∀ ρ args' w, HRel ρ h w → Globs P ρ → ARel (VRel ρ) args args' → CallsIn (fence none) 0 P f args' w (CPost ρ h w res (killH h ids)) := by
  intro ρ args' w H G hA
  obtain ⟨H₂, G₂, A₂, al⟩ := s.start H G hA
  refine CallsIn.mono (hc _ args' w H₂ G₂ A₂) ?_
  rintro e w' ⟨v, v', h', ρ', rfl, rfl, hv, H', F⟩
  obtain rfl := VRel.flat_eq hres hv
  obtain ⟨k1, k2, k3⟩ := killAll_ok (k := h.n) ids ρ h H (fun i hi => by obtain ⟨j, hj⟩ := hin i hi; exact al j i hj) hnd
  have kept : ∀ i g, killR ρ ids i = .live g → w'.heap[g.b]? = w.heap[g.b]? := fun i g hi => by
    obtain ⟨n1, n2⟩ := k3 i g hi
    refine F.kept g.b (H.lt n2) ?_
    rintro ⟨j, q, hj, hb, hr⟩
    obtain ⟨i', hp, hl⟩ := viewRho_live hj
    have hr' : h.rw i' = true := by
      obtain ⟨x, x₂, r1, r2, r3⟩ := s.view.obj j i' hp
      simp only [AHeap.rw, r1, r2] at hr ⊢
      cases x with
      | cells c e row ro =>
        cases x₂ with
        | cells c₂ e₂ row₂ ro₂ =>
          obtain ⟨_, _, _, _, h5⟩ := r3
          cases ro with
          | false => rfl
          | true => rw [h5 rfl] at hr; cases hr
        | _ => exact r3.elim
      | _ => rfl
    obtain rfl := H.inj i' i q g hl n2 hb hr'
    exact n1 (hout j i' hp hr)
  refine ⟨_, killR ρ ids, rfl, .flat hres, ⟨k1.bound, k1.inj, fun i g hi => ?_, k1.dead⟩, ⟨k2.le, k2.n, F.size, F.os, F.tape, F.output, fun b hb ho => F.kept b hb fun o => ho (s.view.own o), fun b hb o => ?_, k2.stay⟩⟩
  · obtain ⟨o, o', q1, q2, q3⟩ := k1.obj i g hi
    exact ⟨o, o', q1, by rw [kept i g hi]; exact q2, q3⟩
  · exact k2.own b hb o
end
theorem cap_ids {ids : List Nat} {B : List Blk} (hl : ids.length = B.length) : (ids.zip B).map (·.1) = ids := List.map_fst_zip (by omega)
theorem renCp_spec {P : Program} {B : List Blk} {ids : List Nat} {v u : Value} (hP : 0 < P.globals.size) (e : renA P.globals.size ids v = some u) : Ren (preOf P.globals.size ids) v u ∨ Empt (canonT [] (fun _ => 0) P.globals.size B) (preOf P.globals.size ids) v u := by
  rw [← pre_same]
  unfold renA at e
  split at e
  · rename_i cs
    split at e
    · rename_i hf; cases e; exact .inl (.flat hf)
    · split at e
      · rename_i l hl
        cases e
        obtain ⟨h1, h2⟩ := amapM_spec hl
        have : Value.agg cs = .agg cs.toList.toArray := by rw [Array.toArray_toList]
        rw [this]
        exact .inr (.inr ⟨_, _, rfl, rfl, h1, fun i x y hx hy => renE_spec (h2 i x y hx hy) rfl (by rw [canonT_n (T := []) rfl]; omega) (by simp only [preT]; rw [if_neg (by omega)]; rfl)⟩)
      · cases e
  · rename_i a k
    cases e
    refine .inr (.inl ⟨a, 0, k, rfl, rfl, ?_, by rw [canonT_n (T := []) rfl]; omega⟩)
    simp only [preT]
    rw [if_neg (by omega)]; rfl
  · exact .inl (renV_spec e)
theorem capO_ok {P : Program} {f : FuncId} {X : List Value → List Blk → Option Value} {orc : Orc} (hP : 0 < P.globals.size) (ho : OrcOk P orc)
    (hX : ∀ vs B v, X vs B = some v → flatCp B = true → CallJ P f vs.toArray (canonT [] (fun _ => 0) P.globals.size B) (fun v' _ => v' = v)) : OrcOk P (orElse f (capO P.globals.size X) orc) := by
  refine orElse_ok ho fun args h v h' hk => ?_
  unfold capO at hk
  split at hk
  · rename_i vs B hv
    split at hk
    · rename_i v' hB hx
      split at hk
      · rename_i hfl
        cases hk
        have hc := hX vs B v hx hB
        unfold viewCp at hv
        split at hv
        · rename_i us B' hge hr hb
          cases hv
          obtain ⟨r1, r2⟩ := amapM_spec hr
          obtain ⟨b1, b2⟩ := amapM_spec hb
          obtain ⟨i1, i2⟩ := addIds_spec (args.toList.flatMap namedA) [] (by simp)
          have hblk : ∀ (j : Nat) b i, B[j]? = some b → (idsA args.toList)[j]? = some i → ∃ ro, h.get i = some (.cells b.1 b.2.1 b.2.2.1 ro) ∧ (ro = true → b.2.2.2 = true) := fun j b i hbj hij => by
            have hq := b2 j i b hij hbj
            unfold blkCp at hq
            split at hq
            · rename_i c e row ro hg
              split at hq
              · cases hq; exact ⟨ro, hg, fun h => h⟩
              · cases hq; exact ⟨ro, hg, fun _ => rfl⟩
            · cases hq
          have hcn : (canonT [] (fun _ => 0) P.globals.size B).n = P.globals.size + B.length := canonT_n (T := []) rfl B
          have hcg : ∀ j, P.globals.size ≤ j → (canonT [] (fun _ => 0) P.globals.size B).get j = (B[j - P.globals.size]?).map (fun b => AObj.cells b.1 b.2.1 b.2.2.1 b.2.2.2) := fun j hj => by rw [canonT_get (T := []) rfl, if_pos hj]
          have V : View P h (canonT [] (fun _ => 0) P.globals.size B) (preOf P.globals.size (idsA args.toList)) := by
            refine ⟨fun j i e => ?_, fun j j' i e e' => ?_, fun j i e => ?_, fun j e hj o ho => ?_, fun g hg => ?_⟩
            · simp only [preOf] at e
              split at e
              · have := (List.getElem?_eq_some_iff.1 e).1
                rw [hcn]; unfold idsA at this b1; omega
              · cases e
            · simp only [preOf] at e e'
              split at e
              · split at e'
                · have h1 := (List.getElem?_eq_some_iff.1 e).1
                  have := (List.getElem?_inj h1 i1).1 (e.trans e'.symm)
                  omega
                · cases e'
              · cases e
            · simp only [preOf] at e
              split at e
              · rename_i hge
                have h1 := (List.getElem?_eq_some_iff.1 e).1
                have hb' : B[j - P.globals.size]? = some B[j - P.globals.size] := List.getElem?_eq_getElem (by omega)
                obtain ⟨ro, h2, h3⟩ := hblk _ _ i hb' e
                refine ⟨_, .cells B[j - P.globals.size].1 B[j - P.globals.size].2.1 B[j - P.globals.size].2.2.1 B[j - P.globals.size].2.2.2, h2, by rw [hcg j hge, hb']; rfl, rfl, rfl, rfl, flat_ren ?_, h3⟩
                exact List.all_eq_true.1 hB _ (List.mem_of_getElem? hb')
              · cases e
            · by_cases hge : P.globals.size ≤ j
              · rw [hcn] at hj
                simp only [preOf, if_pos hge] at e
                rw [List.getElem?_eq_none_iff] at e
                omega
              · rw [canonT_get (T := []) rfl, if_neg hge] at ho
                have : (base [] (fun _ => 0) P.globals.size).get j = none := rfl
                rw [this] at ho; cases ho
            · refine ⟨by rw [hcn]; omega, .inl ?_⟩
              simp only [preOf]
              rw [if_neg (by omega)]
          have s : SmallCp P args vs.toArray h (canonT [] (fun _ => 0) P.globals.size B) (preOf P.globals.size (idsA args.toList)) := by
            refine ⟨V, ⟨by rw [← Array.length_toList, r1]; simp, fun i x y hx hy => renCp_spec hP (r2 i x y (by rw [Array.getElem?_toList]; exact hx) (by simpa using hy))⟩, fun j i e => ?_⟩
            simp only [preOf] at e
            split at e
            · rcases i2 i (List.mem_of_getElem? e) with hi | hi
              · cases hi
              · obtain ⟨v, hv', hi⟩ := List.mem_flatMap.1 hi
                exact .inr ⟨v, hv', namedA_spec hi⟩
            · cases e
          refine CallJ.kill hfl s ?_ (fun i hi => ?_) (fun j i e hr => ?_) hc
          · have : (killed (idsA args.toList) B).Sublist (idsA args.toList) := by
              have h1 := (List.filter_sublist (l := (idsA args.toList).zip B) (p := fun p => !p.2.2.2.2)).map (·.1)
              rw [cap_ids b1] at h1
              exact h1
            exact this.nodup i1
          · have : i ∈ idsA args.toList := by
              have h1 := (List.filter_sublist (l := (idsA args.toList).zip B) (p := fun p => !p.2.2.2.2)).map (·.1)
              rw [cap_ids b1] at h1
              exact h1.subset hi
            obtain ⟨q, hq, e⟩ := List.getElem_of_mem this
            refine ⟨P.globals.size + q, ?_⟩
            simp only [preOf, if_pos (Nat.le_add_right _ _), Nat.add_sub_cancel_left]
            rw [List.getElem?_eq_getElem hq, e]
          · simp only [preOf] at e
            split at e
            · rename_i hge
              have h1 := (List.getElem?_eq_some_iff.1 e).1
              have hb' : B[j - P.globals.size]? = some B[j - P.globals.size] := List.getElem?_eq_getElem (by omega)
              unfold AHeap.rw at hr
              rw [hcg j hge, hb'] at hr
              refine List.mem_map.2 ⟨(i, B[j - P.globals.size]), List.mem_filter.2 ⟨?_, by simpa using hr⟩, rfl⟩
              refine List.mem_of_getElem? (i := j - P.globals.size) ?_
              rw [List.getElem?_zip_eq_some]
              exact ⟨e, hb'⟩
            · cases e
        · cases hv
      · cases hk
    · cases hk
  · cases hk
end
end Go.Am
