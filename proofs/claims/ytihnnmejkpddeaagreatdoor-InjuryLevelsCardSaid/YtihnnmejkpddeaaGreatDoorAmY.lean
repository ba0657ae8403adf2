/-
  OWN WORK. 'Am': functions of any arguments; calls carried out in place; lists told by functions.
-/
import Derived.Test.YtihnnmejkpddeaaGreatDoorAmX
/-! (OWN WORK. 'Am': functions of something plain and one slice that is read.) -/
namespace Go.Am
noncomputable section
/-- The calls of a function of a plain value and a slice. -/
def genL {α : Type} (d : Value → Option α) (B : Nat) (X : List α → Value → Option Out) : Array Value → AHeap → Option (Value × AHeap) := fun args h => match args.toList with
  | [p, .slice none 0 0] => match plainB p, X [] p with
    | true, some o => some (o.val h.n, o.heap h)
    | _, _ => none
  | [p, .slice (some _) 0 _] => match plainB p, X [] p with
    | true, some o => some (o.val h.n, o.heap h)
    | _, _ => none
  | [p, .slice (some ⟨i, 0, none⟩) (m + 1) k] => match h.get i with
    | some (.cells c _ _ _) => match decs d c with
      | some l => match Nat.ble (m + 1) l.length && Nat.ble (m + 1) B && Nat.ble (m + 1) k && plainB p, X (l.take (m + 1)) p with
        | true, some o => some (o.val h.n, o.heap h)
        | _, _ => none
      | none => none
    | _ => none
  | _ => none
def asksL {α : Type} (f : FuncId) (e : α → Value) (B : Nat) (Y : List α → Value → (Out → Prop) → Prop) (A : Asks) : Asks := fun f' args h k => match Nat.beq f f' with
  | true => match args.toList with
    | [p, .slice none n xk] => match plainB p with
      | true => n = 0 ∧ xk = 0 ∧ Y [] p fun o => o.kont h k
      | false => False
    | [p, .slice (some ⟨i, 0, none⟩) n xk] => match h.get i, plainB p with
      | some (.cells c _ _ _), true => ∃ l : List α, c = l.map e ∧ 0 < n ∧ n ≤ l.length ∧ n ≤ B ∧ n ≤ xk ∧ Y (l.take n) p fun o => o.kont h k
      | some .dead, true => n = 0 ∧ Y [] p fun o => o.kont h k
      | none, true => n = 0 ∧ Y [] p fun o => o.kont h k
      | _, _ => False
    | _ => False
  | false => A f' args h k
theorem asksL_ok {α : Type} {f : FuncId} {d : Value → Option α} {e : α → Value} (hd : ∀ x, d (e x) = some x) {B : Nat} {X : List α → Value → Option Out} {Y : List α → Value → (Out → Prop) → Prop} (hY : ∀ l r K, Y l r K → ∃ o, X l r = some o ∧ K o) {A : Asks} {orc : Orc} (hA : AsksOk orc A) : AsksOk (orElse f (genL d B X) orc) (asksL f e B Y A) := by
  intro f' args h k hk
  unfold asksL at hk
  split at hk
  · rename_i hf
    split at hk
    · rename_i p n xk hargs
      split at hk
      · rename_i hr
        obtain ⟨rfl, rfl, hk⟩ := hk
        obtain ⟨o, hX, hq⟩ := hY _ _ _ hk
        rw [o.kont_iff] at hq
        refine ⟨_, _, ?_, hq⟩
        have hS : genL d B X args h = some (o.val h.n, o.heap h) := by
          unfold genL
          rw [hargs]
          simp only [hr, hX]
        simp only [orElse, hf, hS]
      · exact hk.elim
    · rename_i p i n xk hargs
      have empty : n = 0 → plainB p = true → (Y [] p fun o => o.kont h k) → ∃ v h', orElse f (genL d B X) orc f' args h = some (v, h') ∧ k v h' := by
        rintro rfl hr hk
        obtain ⟨o, hX, hq⟩ := hY _ _ _ hk
        rw [o.kont_iff] at hq
        refine ⟨_, _, ?_, hq⟩
        have hS : genL d B X args h = some (o.val h.n, o.heap h) := by
          unfold genL
          rw [hargs]
          simp only [hr, hX]
        simp only [orElse, hf, hS]
      split at hk
      · rename_i c _ _ _ hg hr
        obtain ⟨l, rfl, h0, h1, h2, h3, hk⟩ := hk
        obtain ⟨o, hX, hq⟩ := hY _ _ _ hk
        rw [o.kont_iff] at hq
        obtain ⟨m, rfl⟩ : ∃ m, n = m + 1 := ⟨n - 1, by omega⟩
        refine ⟨_, _, ?_, hq⟩
        have hS : genL d B X args h = some (o.val h.n, o.heap h) := by
          unfold genL
          rw [hargs]
          have e1 : Nat.ble (m + 1) l.length = true := by rw [Nat.ble_eq]; exact h1
          have e2 : Nat.ble (m + 1) B = true := by rw [Nat.ble_eq]; exact h2
          have e3 : Nat.ble (m + 1) xk = true := by rw [Nat.ble_eq]; exact h3
          simp only [hg, decs_map hd, e1, e2, e3, hr, Bool.and_self, hX]
        simp only [orElse, hf, hS]
      · exact empty hk.1 (by assumption) hk.2
      · exact empty hk.1 (by assumption) hk.2
      · exact hk.elim
    · exact hk.elim
  · rename_i hf
    obtain ⟨v, h', e, q⟩ := hA f' args h k hk
    exact ⟨v, h', by simp only [orElse, hf, e], q⟩
end
section
variable {P : Program}
theorem lastL_nil {args : Array Value} {h : AHeap} {p : Value} (hargs : args.toList = [p, .slice none 0 0]) (hr : plainB p = true) : ∃ pre, Small P args args h (emp P) pre := by
  refine ⟨_, Small.canonE (P := P) (B := []) (ids := []) (args₂ := args) rfl (by simp) (fun j b i hb => by simp at hb) ⟨rfl, fun i x y hx hy => ?_⟩ (fun i hi => by simp at hi)⟩
  rw [hx] at hy
  cases hy
  rw [← Array.getElem?_toList, hargs] at hx
  match i, hx with
  | 0, hx => cases hx; exact .inl (plain_ren hr)
  | 1, hx => cases hx; exact .inl (.flat rfl)
theorem lastL_emp {args : Array Value} {h : AHeap} {p : Value} {a : Addr} {k : Nat} (hP : 0 < P.globals.size) (hargs : args.toList = [p, .slice (some a) 0 k]) (hr : plainB p = true) : ∃ pre, Small P args #[p, .slice (some ⟨0, 0, none⟩) 0 k] h (emp P) pre := by
  refine ⟨_, Small.canonE (P := P) (B := []) (ids := []) (args₂ := #[p, .slice (some ⟨0, 0, none⟩) 0 k]) rfl (by simp) (fun j b i hb => by simp at hb) ⟨?_, fun i x y hx hy => ?_⟩ (fun i hi => by simp at hi)⟩
  · rw [← Array.length_toList, hargs]; simp
  · rw [← Array.getElem?_toList, hargs] at hx
    match i, hx, hy with
    | 0, hx, hy => cases hx; cases hy; exact .inl (plain_ren hr)
    | 1, hx, hy => cases hx; cases hy; exact .inr (.inl ⟨_, 0, k, rfl, rfl, by simp [preOf], hP⟩)
theorem lastL_full {α : Type} {e : α → Value} (hfl : ∀ x, flat 3 (e x) = true) {args : Array Value} {h : AHeap} {p : Value} {i n k el row : Nat} {ro : Bool} {l : List α} (hargs : args.toList = [p, .slice (some ⟨i, 0, none⟩) n k]) (hr : plainB p = true) (hg : h.get i = some (.cells (l.map e) el row ro)) :
    ∃ pre, Small P args #[p, rdPo P 0 n k] h (rdH P (l.map e) el row) pre := by
  refine ⟨_, Small.canonE (P := P) (B := [(l.map e, el, row)]) (ids := [i]) (args₂ := #[p, rdPo P 0 n k]) rfl (by simp) (fun j b i' hb hi => ?_) ⟨?_, fun j x y hx hy => ?_⟩ (fun i' hi => ?_)⟩
  · match j, hb, hi with
    | 0, hb, hi =>
      cases hb; cases hi
      refine ⟨⟨ro, hg⟩, ?_⟩
      rw [List.all_eq_true]
      intro x hx
      obtain ⟨y, _, rfl⟩ := List.mem_map.1 hx
      exact hfl y
  · rw [← Array.length_toList, hargs]; simp
  · rw [← Array.getElem?_toList, hargs] at hx
    match j, hx, hy with
    | 0, hx, hy => cases hx; cases hy; exact .inl (plain_ren hr)
    | 1, hx, hy => cases hx; cases hy; exact .inl (.slice (by simp [preOf]))
  · obtain rfl : i' = i := by simpa using hi
    exact ⟨_, by rw [hargs]; exact .tail _ (.head _), .inl ⟨0, n, k, rfl⟩⟩
theorem genL_ok {α : Type} {f : FuncId} {d : Value → Option α} {e : α → Value} (hd : ∀ v x, d v = some x → v = e x) (hfl : ∀ x, flat 3 (e x) = true) (hP : 0 < P.globals.size) {B : Nat} {X : List α → Value → Option Out} {orc : Orc} (ho : OrcOk P orc)
    (hok : ∀ l r o, X l r = some o → o.Ok)
    (hnil : ∀ p o, X [] p = some o → CallJ P f #[p, .slice none 0 0] (emp P) o.Got)
    (hemp : ∀ p k o, X [] p = some o → CallJ P f #[p, .slice (some ⟨0, 0, none⟩) 0 k] (emp P) o.Got)
    (hfull : ∀ (l : List α) n p el row k o, 0 < n → n ≤ l.length → n ≤ B → n ≤ k → X (l.take n) p = some o → CallJ P f #[p, rdPo P 0 n k] (rdH P (l.map e) el row) o.Got) : OrcOk P (orElse f (genL d B X) orc) := by
  refine orElse_ok ho fun args h v h' hk => ?_
  unfold genL at hk
  split at hk
  · rename_i p hargs
    split at hk
    · rename_i o hr hX
      cases hk
      obtain ⟨pre, s⟩ := lastL_nil (P := P) (h := h) hargs hr
      refine Out.call (hok _ _ _ hX) s ?_
      rw [show args = #[p, .slice none 0 0] by rw [← Array.toArray_toList (xs := args), hargs]]
      exact hnil p o hX
    · cases hk
  · rename_i p a k hargs
    split at hk
    · rename_i o hr hX
      cases hk
      obtain ⟨pre, s⟩ := lastL_emp (P := P) (h := h) hP hargs hr
      exact Out.call (hok _ _ _ hX) s (hemp p k o hX)
    · cases hk
  · rename_i p i m k hargs
    split at hk
    · rename_i c el row ro hg
      split at hk
      · rename_i l hl
        split at hk
        · rename_i o hc hX
          simp only [Bool.and_eq_true, Nat.ble_eq] at hc
          obtain ⟨⟨⟨h1, h2⟩, h3⟩, hr⟩ := hc
          cases hk
          obtain rfl := decs_some hd hl
          obtain ⟨pre, s⟩ := lastL_full (P := P) hfl hargs hr hg
          exact Out.call (hok _ _ _ hX) s (hfull l (m + 1) p el row k o (by omega) h1 h2 h3 hX)
        · cases hk
      · cases hk
    · cases hk
  · cases hk
end
end Go.Am
/-! (OWN WORK. 'Am': calls that take over a block of their caller's, and give one in its place.) -/
namespace Go.Am
section
variable {P : Program} {h h₂ : AHeap} {pre : Pre}
/-- What is asked for a call to be carried out on a smaller heap of which it takes over one block, and only reads the others. -/
structure SmallW (P : Program) (args args₂ : Array Value) (h h₂ : AHeap) (pre : Pre) (i₀ : Nat) : Prop where
  view : View P h h₂ pre
  rens : args.size = args₂.size ∧ ∀ (i : Nat) x y, args[i]? = some x → args₂[i]? = some y → Ren pre x y ∨ Empt h₂ pre x y
  born : ∀ j i, pre j = some i → i < P.globals.size ∨ ∃ v ∈ args.toList, Mentions v i
  ro : ∀ j i, pre j = some i → i ≠ i₀ → h₂.rw j = false
  wr : h.rw i₀ = true
  there : ∃ j, pre j = some i₀
theorem SmallW.start {args args₂ : Array Value} {i₀ : Nat} (s : SmallW P args args₂ h h₂ pre i₀) {ρ : Rho} {w : World} {args' : Array Value} (H : HRel ρ h w) (G : Globs P ρ) (hA : ARel (VRel ρ) args args') :
    HRel (viewRho ρ h₂.n pre) h₂ w ∧ Globs P (viewRho ρ h₂.n pre) ∧ ARel (VRel (viewRho ρ h₂.n pre)) args₂ args' ∧ ∃ g₀, ρ i₀ = .live g₀ ∧ ∀ b, Own (viewRho ρ h₂.n pre) h₂ b → g₀.b = b := by
  have hnd : ∀ j i, pre j = some i → ρ i ≠ .dead := fun j i hji hd => by
    obtain ⟨o, o₂, h1, _, h3⟩ := s.view.obj j i hji
    have := H.dead i hd o h1
    subst this
    cases o₂ <;> exact h3.elim
  have A : Alive ρ pre := s.view.alive H fun j i hji hu => by
    rcases s.born j i hji with hg | ⟨v, hv, hm⟩
    · rcases G i hg with e | ⟨q, e, _⟩
      · exact hnd j i hji e
      · rw [e] at hu; cases hu
    · obtain ⟨n, hn⟩ := List.getElem?_of_mem hv
      have hn : args[n]? = some v := by rw [← Array.getElem?_toList]; exact hn
      have hlt : n < args'.size := by rw [← hA.1]; exact (Array.getElem?_eq_some_iff.1 hn).1
      exact hm.born (hA.2 n v args'[n] hn (Array.getElem?_eq_getElem hlt)) hu
  obtain ⟨j₀, hj₀⟩ := s.there
  obtain ⟨g₀, hg₀⟩ := A j₀ i₀ hj₀
  refine ⟨s.view.hrel H A, s.view.globs' G, ⟨s.rens.1 ▸ hA.1, fun i x y hx hy => ?_⟩, g₀, hg₀, fun b ⟨j, g, hj, hb, hr⟩ => ?_⟩
  · have hi : i < args.size := by rw [s.rens.1]; exact (Array.getElem?_eq_some_iff.1 hx).1
    have hv := hA.2 i args[i] y (Array.getElem?_eq_getElem hi) hy
    rcases s.rens.2 i args[i] x (Array.getElem?_eq_getElem hi) hx with r | r
    · exact r.vrel s.view hv
    · exact r.vrel s.view hv
  · obtain ⟨i, hp, hl⟩ := viewRho_live hj
    by_cases e : i = i₀
    · subst e
      rw [hg₀] at hl
      cases hl
      exact hb
    · rw [s.ro j i hp e] at hr
      cases hr
theorem sl_vrel {ρ ρ₁ : Rho} {r m n k : Nat} {g : G} {c : Value} (h1 : ρ r = .live g) (h2 : ρ₁ m = .live g) (hv : VRel ρ (.slice (some ⟨r, 0, none⟩) n k) c) : VRel ρ₁ (.slice (some ⟨m, 0, none⟩) n k) c := by
  obtain ⟨a', k', rfl, q1, q2, q3, q4⟩ := hv.unfold
  refine .fold ⟨a', k', rfl, ?_, q2, q3, fun q hq => q4 q ?_⟩
  · unfold PRel at q1 ⊢
    simp only at q1 ⊢
    rw [h2]; rw [h1] at q1; exact q1
  · simp only at hq ⊢
    rw [h2] at hq; rw [h1]; exact hq
/-- A call that takes over a block, and whose result lies in a block in its place. -/
theorem CallJ.moved {f : FuncId} {args args₂ : Array Value} {xs : List Value} {el : TypeId} {row i₀ n k : Nat} (hxs : xs.all (flat 3) = true)
    (s : SmallW P args args₂ h h₂ pre i₀) (hc : CallJ P f args₂ h₂ (fun v h' => ∃ r, v = .slice (some ⟨r, 0, none⟩) n k ∧ h'.get r = some (.cells xs el row false))) :
    ∀ ρ args' w, HRel ρ h w → Globs P ρ → ARel (VRel ρ) args args' → CallsIn (fence none) 0 P f args' w (CPost ρ h w (.slice (some ⟨h.n, 0, none⟩) n k) ((h.set i₀ .dead).push (.cells xs el row false))) := by
  intro ρ args' w H G hA
  obtain ⟨H₂, G₂, A₂, g₀, hg₀, own⟩ := s.start H G hA
  refine CallsIn.mono (hc _ args' w H₂ G₂ A₂) ?_
  rintro e w' ⟨v, v', h', ρ', rfl, ⟨r, rfl, hget⟩, hv, H', F⟩
  obtain ⟨g, hg⟩ := H'.get_live hget (by simp) (by
    obtain ⟨a', k', _, hp, _⟩ := hv.slice_any
    exact hp.born)
  have hlt0 : i₀ < h.n := by
    apply Nat.lt_of_not_le
    intro hle
    rw [H.bound i₀ hle] at hg₀
    cases hg₀
  have hnew : g.b < w.heap.size → g₀.b = g.b := fun hlt => own g.b (F.own g.b hlt ⟨r, g, hg, rfl, by simp [AHeap.rw, hget]⟩)
  obtain ⟨o, o', q1, q2, q3⟩ := H'.obj r g hg
  rw [hget] at q1
  cases q1
  have hun : ρ h.n = .unborn := H.bound h.n (Nat.le_refl _)
  let ρ₁ : Rho := fun i => if i = h.n then .live g else if i = i₀ then .dead else ρ i
  have e1 : ρ₁ h.n = .live g := if_pos rfl
  have e2 : ρ₁ i₀ = .dead := by
    show (if i₀ = h.n then St.live g else if i₀ = i₀ then .dead else ρ i₀) = .dead
    rw [if_neg (by omega), if_pos rfl]
  have e3 : ∀ i, i ≠ h.n → i ≠ i₀ → ρ₁ i = ρ i := fun i h1 h2 => by
    show (if i = h.n then St.live g else if i = i₀ then .dead else ρ i) = ρ i
    rw [if_neg h1, if_neg h2]
  have hle : ρ.le ρ₁ := fun i => by
    by_cases e : i = h.n
    · rw [e, hun]; trivial
    · by_cases e' : i = i₀
      · rw [e', e2]; cases ρ i₀ <;> simp [St.le]
      · rw [e3 i e e']; exact St.le_refl _
  have hlive : ∀ i q, ρ₁ i = .live q → (i = h.n ∧ q = g) ∨ (i ≠ h.n ∧ i ≠ i₀ ∧ ρ i = .live q) := fun i q hi => by
    by_cases e : i = h.n
    · rw [e, e1] at hi; cases hi; exact .inl ⟨e, rfl⟩
    · by_cases e' : i = i₀
      · rw [e', e2] at hi; cases hi
      · rw [e3 i e e'] at hi; exact .inr ⟨e, e', hi⟩
  have get3 : ∀ i, i ≠ h.n → i ≠ i₀ → ((h.set i₀ .dead).push (.cells xs el row false)).get i = h.get i := fun i h1 h2 => by
    rw [AHeap.get_push, AHeap.set_n, if_neg h1, AHeap.get_set, if_neg h2]
  have rw3 : ∀ i, i ≠ h.n → i ≠ i₀ → ((h.set i₀ .dead).push (.cells xs el row false)).rw i = h.rw i := fun i h1 h2 => by
    simp only [AHeap.rw, get3 i h1 h2]
  have sep : ∀ j q, j ≠ i₀ → ρ j = .live q → g₀.b ≠ q.b := fun j q hj hq e => hj (H.inj i₀ j g₀ q hg₀ hq e s.wr).symm
  refine ⟨v', ρ₁, rfl, sl_vrel hg e1 hv, ⟨fun i hi => ?_, fun i j p q hi hj e hr => ?_, fun i p hi => ?_, fun i hi o ho => ?_⟩, ⟨hle, ?_, F.size, F.os, F.tape, F.output, fun b hb ho => F.kept b hb fun x => ho (s.view.own x), fun b hb o => ?_, fun i hi hu => ?_⟩⟩
  · have hi : h.n + 1 ≤ i := hi
    rw [e3 i (by omega) (by omega)]
    exact H.bound i (by omega)
  · rcases hlive i p hi with ⟨z1, z2⟩ | ⟨z1, z1', z2⟩ <;> rcases hlive j q hj with ⟨z3, z4⟩ | ⟨z3, z3', z4⟩
    · rw [z1, z3]
    · subst z2
      have := hnew (by rw [e]; exact H.lt z4)
      exact absurd (this.trans e) (sep j q z3' z4)
    · subst z4
      have := hnew (by rw [← e]; exact H.lt z2)
      exact absurd (this.trans e.symm) (sep i p z1' z2)
    · exact H.inj i j p q z2 z4 e (by rwa [rw3 i z1 z1'] at hr)
  · rcases hlive i p hi with ⟨z1, z2⟩ | ⟨z1, z1', z2⟩
    · subst z1 z2
      refine ⟨_, o', by rw [AHeap.get_push, AHeap.set_n, if_pos rfl], q2, ?_⟩
      obtain ⟨d, fr, z1, z2, z3, z4, z5, z6⟩ := q3
      refine ⟨d, fr, z1, z2, z3, z4, fun j v hv => ?_, z6⟩
      obtain ⟨v', y1, y2⟩ := z5 j v hv
      have hfv := List.all_eq_true.1 hxs v (List.mem_of_getElem? hv)
      exact ⟨v', y1, by rw [VRel.flat_eq hfv y2]; exact .flat hfv⟩
    · obtain ⟨o₁, o₁', k1, k2, k3⟩ := H.obj i p z2
      refine ⟨o₁, o₁', by rw [get3 i z1 z1']; exact k1, ?_, k3.mono hle⟩
      rw [F.kept p.b (H.lt z2) fun x => sep i p z1' z2 (own _ x)]
      exact k2
  · by_cases e : i = h.n
    · rw [e, e1] at hi; cases hi
    · by_cases e' : i = i₀
      · rw [AHeap.get_push, AHeap.set_n, if_neg e, AHeap.get_set, if_pos e'] at ho
        cases ho; rfl
      · rw [e3 i e e'] at hi
        rw [get3 i e e'] at ho
        exact H.dead i hi o ho
  · exact Nat.le_succ _
  · obtain ⟨i, p, hi, hb', hr⟩ := o
    rcases hlive i p hi with ⟨z1, z2⟩ | ⟨z1, z1', z2⟩
    · subst z2
      subst hb'
      exact s.view.own (F.own p.b hb ⟨r, p, hg, rfl, by simp [AHeap.rw, hget]⟩)
    · exact ⟨i, p, z2, hb', by rwa [rw3 i z1 z1'] at hr⟩
  · rw [e3 i (by omega) fun e => by rw [e, hg₀] at hu; cases hu]
    exact hu
/-- Blocks of a heap, of which one may be written. -/
theorem viewW {ids : List Nat} {B : List Blk} (es : Nat → TypeId) (hl : ids.length = B.length) (hn : ids.Nodup) (hge : ∀ i ∈ ids, P.globals.size ≤ i)
    (hB : ∀ (j : Nat) b i, B[j]? = some b → ids[j]? = some i → (∃ ro, h.get i = some (.cells b.1 b.2.1 b.2.2.1 ro) ∧ (ro = true → b.2.2.2 = true)) ∧ b.1.all (flat 3) = true) :
    View P h (canonT [] es P.globals.size B) (preT P.globals.size [] ids) := by
  have hT : tabsFlat P.globals.size [] = true := rfl
  have pn : ∀ j i, preT P.globals.size [] ids j = some i → P.globals.size ≤ j ∧ ids[j - P.globals.size]? = some i := fun j i e => by
    simp only [preT] at e
    split at e
    · rename_i h1; exact ⟨h1, e⟩
    · simp at e
  refine ⟨fun j i e => ?_, fun j j' i e e' => ?_, fun j i e => ?_, fun j e hj o ho => ?_, fun g hg => ?_⟩
  · obtain ⟨h1, h2⟩ := pn j i e
    have := (List.getElem?_eq_some_iff.1 h2).1
    rw [canonT_n hT]
    omega
  · obtain ⟨h1, h2⟩ := pn j i e
    obtain ⟨h3, h4⟩ := pn j' i e'
    have h5 := (List.getElem?_eq_some_iff.1 h2).1
    have := (List.getElem?_inj h5 hn).1 (h2.trans h4.symm)
    omega
  · obtain ⟨h1, h2⟩ := pn j i e
    have h3 := (List.getElem?_eq_some_iff.1 h2).1
    have hb' : B[j - P.globals.size]? = some B[j - P.globals.size] := List.getElem?_eq_getElem (by omega)
    obtain ⟨⟨ro, k1, k2⟩, k3⟩ := hB _ _ i hb' h2
    exact ⟨_, .cells B[j - P.globals.size].1 B[j - P.globals.size].2.1 B[j - P.globals.size].2.2.1 B[j - P.globals.size].2.2.2, k1, by rw [canonT_get hT, if_pos h1, hb']; rfl, rfl, rfl, rfl, flat_ren k3, k2⟩
  · rw [canonT_get hT] at ho
    rw [canonT_n hT] at hj
    split at ho
    · rename_i h1
      simp only [preT, if_pos h1, List.getElem?_eq_none_iff] at e
      omega
    · rw [show base [] es P.globals.size = emp P from rfl] at ho
      cases ho
  · refine ⟨by rw [canonT_n hT]; omega, .inl ?_⟩
    simp only [preT]
    rw [if_neg (by omega)]
    rfl
theorem SmallW.canonT {args args₂ : Array Value} {B : List Blk} {ids : List Nat} {i₀ : Nat} (es : Nat → TypeId) (hl : ids.length = B.length) (hn : ids.Nodup) (hge : ∀ i ∈ ids, P.globals.size ≤ i)
    (hB : ∀ (j : Nat) b i, B[j]? = some b → ids[j]? = some i → (∃ ro, h.get i = some (.cells b.1 b.2.1 b.2.2.1 ro) ∧ (ro = true → b.2.2.2 = true)) ∧ b.1.all (flat 3) = true ∧ (i ≠ i₀ → b.2.2.2 = true))
    (hr : args.size = args₂.size ∧ ∀ (i : Nat) x y, args[i]? = some x → args₂[i]? = some y → Ren (preT P.globals.size [] ids) x y)
    (hb : ∀ i ∈ ids, ∃ v ∈ args.toList, Mentions v i) (hw : h.rw i₀ = true) (h0 : i₀ ∈ ids) : SmallW P args args₂ h (Go.Am.canonT [] es P.globals.size B) (preT P.globals.size [] ids) i₀ where
  view := viewW es hl hn hge fun j b i h1 h2 => ⟨(hB j b i h1 h2).1, (hB j b i h1 h2).2.1⟩
  rens := ⟨hr.1, fun i x y hx hy => .inl (hr.2 i x y hx hy)⟩
  born := fun j i e => by
    simp only [preT] at e
    split at e
    · exact .inr (hb i (List.mem_of_getElem? e))
    · simp at e
  ro := fun j i e hne => by
    simp only [preT] at e
    split at e
    · rename_i h1
      have h3 := (List.getElem?_eq_some_iff.1 e).1
      have hb' : B[j - P.globals.size]? = some B[j - P.globals.size] := List.getElem?_eq_getElem (by omega)
      simp only [AHeap.rw, canonT_get (T := []) rfl, if_pos h1, hb', Option.map_some, (hB _ _ i hb' e).2.2 hne]
      rfl
    · simp at e
  wr := hw
  there := by
    obtain ⟨j, hj⟩ := List.getElem?_of_mem h0
    refine ⟨P.globals.size + j, ?_⟩
    simp only [preT]
    rw [if_pos (by omega), show P.globals.size + j - P.globals.size = j by omega]
    exact hj
end
end Go.Am
/-! (OWN WORK. 'Am': calls that are carried out in place on values that are not known; their loops as often as they go.) -/
namespace Go.Am
noncomputable section
section
variable (P : Program) (orc : Orc) (sy : Sy) (pc : Asks)
def runRegionE (ex : Ex) (ops : Array Oper) (draw : Bool) (a : AAct) (h : AHeap) (k : AAct → AHeap → Prop) : Prop :=
  match constsOk P ops, draw with
  | false, _ => False
  | true, false => runOpsC P ex sy pc ops ops.toList a h k
  | true, true => match orderly ops with
    | true => runDrawC P ex sy pc ops (befs ops.toList []) (ops.size + 1) (Array.replicate ops.size false) [] a h k
    | false => False
def stepE (ex : Ex) (ih : Code → AAct → AHeap → Post → Prop) (c : Code) (a : AAct) (h : AHeap) (k : Post) : Prop :=
  match c with
  | .skip => k .normal a h
  | .region _ ops draw => runRegionE P sy pc ex ops draw a h fun a' h' => k .normal a' h'
  | .seq x y => ih x a h fun e a' h' => match e with
    | .normal => ih y a' h' k
    | e => k e a' h'
  | .cond x y z => match a.eval x with
    | .bool true => ih y a h k
    | .bool false => ih z a h k
    | _ => False
  | .block id b => ih b a h fun e a' h' => match e with
    | .exit j => match Nat.beq j id with
      | true => k .normal a' h'
      | false => k (.exit j) a' h'
    | e => k e a' h'
  | .loop b => ih b a h fun e a' h' => match e with
    | .normal => ih (.loop b) a' h' k
    | e => k e a' h'
  | .exit id => k (.exit id) a h
  | .ret => k .ret a h
  | .label _ => k .normal a h
  | .scope b => ih b a h fun e a' h' => match e with
    | .goto _ => False
    | e => k e a' h'
  | _ => False
def execE (n : Nat) : Code → AAct → AHeap → Post → Prop := Nat.rec (motive := fun _ => Code → AAct → AHeap → Post → Prop) (fun _ _ _ _ => False) (fun n ih => stepE P sy pc (exec P orc n) ih) n
/-- What is asked of a call that is carried out in place. -/
def callE (n : Nat) (f : FuncId) (args : Array Value) (h : AHeap) (K : Value → AHeap → Prop) : Prop :=
  match P.funcs[f]? with
  | some fn => match fn.body with
    | some c => match Nat.ble args.size fn.ntmps with
      | true => execE P orc sy pc n c (enterAct fn.ntmps args.toList) h (fin P fn K)
      | false => False
    | none => False
  | none => False
end
/-- A function whose calls are carried out in place. -/
def inlO (P : Program) (f : FuncId) (n : Nat) (orc : Orc) : Orc := orElse f (fun args h => acallRun P (exec P orc n) f args h) orc
def asksI (P : Program) (f : FuncId) (n : Nat) (orc : Orc) (sy : Sy) (pc A : Asks) : Asks := fun f' args h k => match Nat.beq f f' with
  | true => callE P orc sy pc n f args h k
  | false => A f' args h k
end
section
variable {P : Program} {orc : Orc} {sy : Sy} {pc : Asks}
theorem runRegionE_ok {n : Nat} (hpc : AsksOk orc pc) {ops : Array Oper} {draw : Bool} {a : AAct} {h : AHeap} {k : AAct → AHeap → Prop} (hk : runRegionE P sy pc (exec P orc n) ops draw a h k) : ∃ a' h', runRegion P (exec P orc n) ops draw a h = some (a', h') ∧ k a' h' := by
  unfold runRegionE at hk
  split at hk
  · exact hk.elim
  · rename_i hc
    obtain ⟨a', h', hr, hk⟩ := runOpsC_ok (by rw [exec_orc]; exact hpc) hk
    exact ⟨a', h', by unfold runRegion; simp only [hc]; exact hr, hk⟩
  · rename_i hc
    split at hk
    · rename_i hor
      obtain ⟨a', h', hr, hk⟩ := runDrawC_ok (by rw [exec_orc]; exact hpc) (fun p hp => by cases hp) hk
      exact ⟨a', h', by unfold runRegion; simp only [hc, hor]; exact hr, hk⟩
    · exact hk.elim
theorem execE_ok (hpc : AsksOk orc pc) : ∀ {n : Nat} {c : Code} {a : AAct} {h : AHeap} {k : Post}, execE P orc sy pc n c a h k → ∃ e a' h', exec P orc n none c a h = some (e, a', h') ∧ k e a' h'
  | 0, _, _, _, _, hk => hk.elim
  | n + 1, c, a, h, k, hk => by
    have hk : stepE P sy pc (exec P orc n) (execE P orc sy pc n) c a h k := hk
    rw [exec_succ]
    cases c with
    | skip => exact ⟨_, _, _, rfl, hk⟩
    | region id ops draw =>
      obtain ⟨a', h', hr, hk⟩ := runRegionE_ok hpc hk
      exact ⟨_, a', h', by simp only [execStep, hr]; rfl, hk⟩
    | seq x y =>
      obtain ⟨e, a₁, h₁, hx, hk⟩ := execE_ok hpc (c := x) hk
      cases e with
      | normal =>
        obtain ⟨e', a', h', hy, hk⟩ := execE_ok hpc (c := y) hk
        exact ⟨e', a', h', by simp only [execStep, hx]; exact hy, hk⟩
      | _ => exact ⟨_, a₁, h₁, by simp only [execStep, hx], hk⟩
    | cond x y z =>
      simp only [stepE] at hk
      split at hk
      · rename_i hb
        obtain ⟨e', a', h', hy, hk⟩ := execE_ok hpc hk
        exact ⟨e', a', h', by simp only [execStep, hb]; exact hy, hk⟩
      · rename_i hb
        obtain ⟨e', a', h', hy, hk⟩ := execE_ok hpc hk
        exact ⟨e', a', h', by simp only [execStep, hb]; exact hy, hk⟩
      · exact hk.elim
    | block id b =>
      obtain ⟨e, a₁, h₁, hx, hk⟩ := execE_ok hpc (c := b) hk
      cases e with
      | exit j =>
        simp only at hk
        split at hk
        · rename_i hj
          exact ⟨_, a₁, h₁, by simp only [execStep, hx, hj], hk⟩
        · rename_i hj
          exact ⟨_, a₁, h₁, by simp only [execStep, hx, hj], hk⟩
      | _ => exact ⟨_, a₁, h₁, by simp only [execStep, hx], hk⟩
    | loop b =>
      obtain ⟨e, a₁, h₁, hx, hk⟩ := execE_ok hpc (c := b) hk
      cases e with
      | normal =>
        obtain ⟨e', a', h', hy, hk⟩ := execE_ok hpc (c := .loop b) hk
        exact ⟨e', a', h', by simp only [execStep, hx]; exact hy, hk⟩
      | _ => exact ⟨_, a₁, h₁, by simp only [execStep, hx], hk⟩
    | exit id => exact ⟨_, _, _, rfl, hk⟩
    | ret => exact ⟨_, _, _, rfl, hk⟩
    | label l => exact ⟨_, _, _, rfl, hk⟩
    | scope b =>
      obtain ⟨e, a₁, h₁, hx, hk⟩ := execE_ok hpc (c := b) hk
      cases e with
      | goto l => exact hk.elim
      | _ => exact ⟨_, a₁, h₁, by simp only [execStep, hx], hk⟩
    | _ => exact hk.elim
theorem callE_ok (hpc : AsksOk orc pc) {n : Nat} {f : FuncId} {args : Array Value} {h : AHeap} {K : Value → AHeap → Prop} (hk : callE P orc sy pc n f args h K) : ∃ v h', acallRun P (exec P orc n) f args h = some (v, h') ∧ K v h' := by
  unfold callE at hk
  split at hk
  · rename_i fn hfn
    split at hk
    · rename_i c hc
      split at hk
      · rename_i hs
        obtain ⟨e, a', h', hx, hk⟩ := execE_ok hpc hk
        obtain ⟨he, hm, v, hv, hk⟩ := fin_end hk
        refine ⟨v, h', ?_, hk⟩
        unfold acallRun
        rcases he with rfl | rfl
        · simp only [hfn, hc, hs, hx, hm, shutMarks, hv, Option.map_some]
        · simp only [hfn, hc, hs, hx, hm, shutMarks, hv, Option.map_some]
      · exact hk.elim
    · exact hk.elim
  · exact hk.elim
theorem inlO_ok (hm : P.follows .mixedOrders = true) (ho : OrcOk P orc) {f : FuncId} {n : Nat} : OrcOk P (inlO P f n orc) :=
  orElse_ok ho fun _ _ _ _ hk _ _ _ H G hA => acallRun_ok (exec_ok hm ho n) H G hA hk none
theorem asksI_ok {f : FuncId} {n : Nat} {A : Asks} (hpc : AsksOk orc pc) (hA : AsksOk orc A) : AsksOk (inlO P f n orc) (asksI P f n orc sy pc A) := by
  intro f' args h k hk
  unfold asksI at hk
  split at hk
  · rename_i hf
    obtain ⟨v, h', e, q⟩ := callE_ok hpc hk
    obtain rfl : f = f' := Nat.eq_of_beq_eq_true hf
    exact ⟨v, h', by simp only [inlO, orElse, hf, e], q⟩
  · rename_i hf
    obtain ⟨v, h', e, q⟩ := hA f' args h k hk
    exact ⟨v, h', by simp only [inlO, orElse, hf, e], q⟩
end
end Go.Am
/-! (OWN WORK. 'Am': a call that is carried out in place, loops and all, as a call.) -/
namespace Go.Am

theorem CallJ.ofE {P : Program} {orc : Orc} {sy : Sy} {pc : Asks} (hm : P.follows .mixedOrders = true) (ho : OrcOk P orc) (hpc : AsksOk orc pc) {n : Nat} {f : FuncId} {args : Array Value} {h : AHeap} {K : Value → AHeap → Prop} (hk : callE P orc sy pc n f args h K) : CallJ P f args h K := by
  intro ρ args' w H G hA
  obtain ⟨v, h', hc, hK⟩ := callE_ok hpc hk
  refine CallsIn.mono (acallRun_ok (exec_ok hm ho n) H G hA hc none) ?_
  rintro e w' ⟨v', ρ', rfl, hv, H', A⟩
  exact ⟨_, v', h', ρ', rfl, hK, hv, H', A.fr⟩
/-- One function's calls, known as elsewhere. -/
noncomputable def liftO (f : FuncId) (A B : Orc) : Orc := orElse f (A f) B
noncomputable def liftA (f : FuncId) (A B : Asks) : Asks := fun f' args h k => match Nat.beq f f' with
  | true => A f' args h k
  | false => B f' args h k
theorem liftO_ok {P : Program} {f : FuncId} {A B : Orc} (hA : OrcOk P A) (hB : OrcOk P B) : OrcOk P (liftO f A B) :=
  orElse_ok hB fun args h v h' hk => hA f args h v h' hk
theorem liftA_ok {f : FuncId} {A B : Orc} {a b : Asks} (hA : AsksOk A a) (hB : AsksOk B b) : AsksOk (liftO f A B) (liftA f a b) := by
  intro f' args h k hk
  unfold liftA at hk
  split at hk
  · rename_i hf
    obtain ⟨v, h', e, q⟩ := hA f' args h k hk
    obtain rfl : f = f' := Nat.eq_of_beq_eq_true hf
    exact ⟨v, h', by simp only [liftO, orElse, hf, e], q⟩
  · rename_i hf
    obtain ⟨v, h', e, q⟩ := hB f' args h k hk
    exact ⟨v, h', by simp only [liftO, orElse, hf, e], q⟩
/-- What is asked of a function of plain values, in words of its own. -/
noncomputable def asksP (f : FuncId) (Y : List Value → (Value → Prop) → Prop) (A : Asks) : Asks := fun f' args h k => match Nat.beq f f' with
  | true => Y args.toList fun v => k v h
  | false => A f' args h k
theorem asksP_ok {f : FuncId} {X : Array Value → AHeap → Option (Value × AHeap)} {Y : List Value → (Value → Prop) → Prop} {orc : Orc} {A : Asks} (hY : ∀ args h K, Y args.toList K → ∃ v, X args h = some (v, h) ∧ K v) (hA : AsksOk orc A) : AsksOk (orElse f X orc) (asksP f Y A) := by
  intro f' args h k hk
  unfold asksP at hk
  split at hk
  · rename_i hf
    obtain ⟨v, e, q⟩ := hY args h _ hk
    exact ⟨v, h, by simp only [orElse, hf, e], q⟩
  · rename_i hf
    obtain ⟨v, h', e, q⟩ := hA f' args h k hk
    exact ⟨v, h', by simp only [orElse, hf, e], q⟩
end Go.Am
/-! (OWN WORK. 'Am': functions of any arguments whose blocks hold plain cells: the blocks that the arguments name, under new numbers; what they return becomes known.) -/
namespace Go.Am
noncomputable section
def namedS : Value → List Nat
  | .slice _ 0 _ => []
  | .slice (some ⟨i, _, none⟩) _ _ => [i]
  | _ => []
def namedA (v : Value) : List Nat := match v with
  | .agg cs => cs.toList.flatMap namedS
  | .slice _ 0 _ => []
  | v => named v
def idsA (vs : List Value) : List Nat := addIds [] (vs.flatMap namedA)
def renE (n : Nat) (ids : List Nat) (v : Value) : Option Value := match v with
  | .slice (some _) 0 k => some (.slice (some ⟨0, 0, none⟩) 0 k)
  | v => renV n ids v
def renA (n : Nat) (ids : List Nat) (v : Value) : Option Value := match v with
  | .agg cs => match flat 3 (.agg cs) with
    | true => some (.agg cs)
    | false => match amapM (renE n ids) cs.toList with
      | some l => some (.agg l.toArray)
      | none => none
  | .slice (some _) 0 k => some (.slice (some ⟨0, 0, none⟩) 0 k)
  | v => renV n ids v
abbrev Cells := List Value × TypeId × Nat
def blkB (h : AHeap) (i : Nat) : Option Cells := match h.get i with
  | some (.cells c e row _) => some (c, e, row)
  | _ => none
/-- The arguments, and the blocks that they name, under new numbers. -/
def viewA (n : Nat) (vs : List Value) (h : AHeap) : Option (List Value × List Cells) :=
  match (idsA vs).all (Nat.ble n), amapM (renA n (idsA vs)) vs, amapM (blkB h) (idsA vs) with
  | true, some us, some B => some (us, B)
  | _, _, _ => none
def flatB (B : List Cells) : Bool := B.all fun b => b.1.all (flat 3)
def flatP (B : List Cells) : Prop := List.rec (motive := fun _ => Prop) True (fun b _ ih => b.1.all (flat 3) = true ∧ ih) B
theorem flatP_iff : ∀ {B : List Cells}, flatP B → flatB B = true
  | [], _ => rfl
  | b :: B, h => by
    show (b.1.all (flat 3) && flatB B) = true
    rw [show b.1.all (flat 3) = true from h.1, flatP_iff (B := B) h.2]; rfl
def anyO (n : Nat) (X : List Value → List Cells → Option Out) : Array Value → AHeap → Option (Value × AHeap) := fun args h => match viewA n args.toList h with
  | some (vs, B) => match flatB B, X vs B with
    | true, some o => some (o.val h.n, o.heap h)
    | _, _ => none
  | none => none
def asksV (n : Nat) (f : FuncId) (Y : List Value → List Cells → (Out → Prop) → Prop) (A : Asks) : Asks := fun f' args h k => match Nat.beq f f' with
  | true => match viewA n args.toList h with
    | some (vs, B) => flatP B ∧ Y vs B fun o => o.kont h k
    | none => False
  | false => A f' args h k
theorem asksV_ok {n : Nat} {f : FuncId} {X : List Value → List Cells → Option Out} {Y : List Value → List Cells → (Out → Prop) → Prop} (hY : ∀ vs B K, Y vs B K → ∃ o, X vs B = some o ∧ K o) {A : Asks} {orc : Orc} (hA : AsksOk orc A) : AsksOk (orElse f (anyO n X) orc) (asksV n f Y A) := by
  intro f' args h k hk
  unfold asksV at hk
  split at hk
  · rename_i hf
    split at hk
    · rename_i vs B hv
      obtain ⟨hB, hk⟩ := hk
      obtain ⟨o, hX, hq⟩ := hY _ _ _ hk
      rw [o.kont_iff] at hq
      refine ⟨_, _, ?_, hq⟩
      have : anyO n X args h = some (o.val h.n, o.heap h) := by
        unfold anyO
        rw [hv]
        simp only [flatP_iff hB, hX]
      simp only [orElse, hf, this]
    · exact hk.elim
  · rename_i hf
    obtain ⟨v, h', e, q⟩ := hA f' args h k hk
    exact ⟨v, h', by simp only [orElse, hf, e], q⟩
theorem pre_same (n : Nat) (ids : List Nat) : preT n [] ids = preOf n ids := by
  funext j
  unfold preT preOf
  by_cases h : n ≤ j
  · rw [if_pos h, if_pos h]
  · rw [if_neg h, if_neg h]; rfl
theorem namedS_spec {v : Value} {i : Nat} (hi : i ∈ namedS v) : ∃ o n k, v = .slice (some ⟨i, o, none⟩) n k := by
  unfold namedS at hi
  split at hi
  · cases hi
  · simp only [List.mem_singleton] at hi; subst hi; exact ⟨_, _, _, rfl⟩
  · cases hi
theorem namedA_spec {v : Value} {i : Nat} (hi : i ∈ namedA v) : Mentions v i := by
  unfold namedA at hi
  split at hi
  · rename_i cs
    obtain ⟨c, hc, hi⟩ := List.mem_flatMap.1 hi
    obtain ⟨o, n, k, rfl⟩ := namedS_spec hi
    exact .inr (.inr (.inl ⟨cs, o, n, k, rfl, hc⟩))
  · cases hi
  · exact named_spec hi
theorem renE_spec {h₂ : AHeap} {pre : Pre} {n : Nat} {ids : List Nat} {v u : Value} (e : renE n ids v = some u) (hp : pre = preT n [] ids) (h0 : 0 < h₂.n) (hd : pre 0 = none) : Ren pre v u ∨ EmptS h₂ pre v u := by
  unfold renE at e
  split at e
  · rename_i a k
    cases e
    exact .inr ⟨a, 0, k, rfl, rfl, hd, h0⟩
  · rw [hp]; exact .inl (renV_spec e)
theorem renA_spec {P : Program} {B : List Cells} {ids : List Nat} {v u : Value} (hP : 0 < P.globals.size) (e : renA P.globals.size ids v = some u) : Ren (preOf P.globals.size ids) v u ∨ Empt (canon P B) (preOf P.globals.size ids) v u := by
  rw [← pre_same]
  unfold renA at e
  split at e
  · rename_i cs
    split at e
    · rename_i hf; cases e; exact .inl (.flat hf)
    · split at e
      · rename_i l hl
        cases e
        obtain ⟨h1, h2⟩ := amapM_spec hl
        have : Value.agg cs = .agg cs.toList.toArray := by rw [Array.toArray_toList]
        rw [this]
        exact .inr (.inr ⟨_, _, rfl, rfl, h1, fun i x y hx hy => renE_spec (h2 i x y hx hy) rfl (by rw [canon_n]; omega) (by simp only [preT]; rw [if_neg (by omega)]; rfl)⟩)
      · cases e
  · rename_i a k
    cases e
    refine .inr (.inl ⟨a, 0, k, rfl, rfl, ?_, by rw [canon_n]; omega⟩)
    simp only [preT]
    rw [if_neg (by omega)]; rfl
  · exact .inl (renV_spec e)
theorem anyO_ok {P : Program} {f : FuncId} {X : List Value → List Cells → Option Out} {orc : Orc} (hP : 0 < P.globals.size) (ho : OrcOk P orc)
    (hX : ∀ vs B o, X vs B = some o → flatB B = true → o.Ok ∧ CallJ P f vs.toArray (canon P B) o.Got) : OrcOk P (orElse f (anyO P.globals.size X) orc) := by
  refine orElse_ok ho fun args h v h' hk => ?_
  unfold anyO at hk
  split at hk
  · rename_i vs B hv
    split at hk
    · rename_i o hB ho'
      cases hk
      obtain ⟨h1, h2⟩ := hX vs B o ho' hB
      unfold viewA at hv
      split at hv
      · rename_i us B' hge hr hb
        cases hv
        obtain ⟨r1, r2⟩ := amapM_spec hr
        obtain ⟨b1, b2⟩ := amapM_spec hb
        obtain ⟨i1, i2⟩ := addIds_spec (args.toList.flatMap namedA) [] (by simp)
        have s : Small P args vs.toArray h (canon P B) (preOf P.globals.size (idsA args.toList)) := by
          refine Small.canonE b1 i1 (fun j b i hbj hij => ?_) ⟨?_, fun i x y hx hy => ?_⟩ (fun i hi => ?_)
          · have hq := b2 j i b hij hbj
            unfold blkB at hq
            split at hq
            · rename_i c e row ro hg
              cases hq
              refine ⟨⟨ro, hg⟩, ?_⟩
              exact List.all_eq_true.1 hB _ (List.mem_of_getElem? hbj)
            · cases hq
          · rw [← Array.length_toList, r1]; simp
          · exact renA_spec hP (r2 i x y (by rw [Array.getElem?_toList]; exact hx) (by simpa using hy))
          · rcases i2 i hi with hi | hi
            · cases hi
            · obtain ⟨v, hv', hi⟩ := List.mem_flatMap.1 hi
              exact ⟨v, hv', namedA_spec hi⟩
        exact Out.call h1 s h2
      · cases hv
    · cases hk
  · cases hk
end
end Go.Am
/-! (OWN WORK. 'Am': functions of plain arguments that read the tables.) -/
namespace Go.Am
noncomputable section
variable {P : Program}
/-- The calls of a function on plain arguments, wherever the tables are. -/
noncomputable def tabSpec (T : Tabs) (S : List Value → Option Value) : Array Value → AHeap → Option (Value × AHeap) := fun args h => match hasTabs T h with
  | true => (S args.toList).map (·, h)
  | false => none
theorem tabSpec_ok {T : Tabs} (hT : tabsFlat P.globals.size T = true) {f : FuncId} {S : List Value → Option Value} (hS : ∀ l v, S l = some v → l.all (flat 3) = true ∧ flat 3 v = true ∧ ∀ es, CallJ P f l.toArray (base T es P.globals.size) (fun u _ => u = v)) {orc : Orc} (ho : OrcOk P orc) : OrcOk P (orElse f (tabSpec T S) orc) := by
  refine orElse_ok ho fun args h v h' hk => ?_
  unfold tabSpec at hk
  split at hk
  · rename_i htab
    obtain ⟨u, hu, e⟩ := Option.map_eq_some_iff.1 hk
    cases e
    obtain ⟨h1, h2, h3⟩ := hS _ _ hu
    have V := view_canonT (P := P) (B := []) (ids := []) hT htab rfl (by simp) (by simp) (fun j b i hb => by simp at hb)
    refine CallJ.plain h2 ⟨V, ⟨rfl, fun i x y hx hy => ?_⟩, fun j i e => ?_, fun j e => ?_⟩ (h3 (typesOf h))
    · rw [hx] at hy
      cases hy
      exact .inl (.flat (List.all_eq_true.1 h1 x (List.mem_of_getElem? (by rw [Array.getElem?_toList]; exact hx))))
    · simp only [preT] at e
      split at e
      · simp at e
      · split at e
        · cases e; left; omega
        · cases e
    · obtain ⟨i, hi⟩ := Option.isSome_iff_exists.1 e
      simp only [preT] at hi
      split at hi
      · simp at hi
      · split at hi
        · rename_i ht
          cases hi
          obtain ⟨c, hm⟩ := tab_any.1 ht
          obtain ⟨o, ho'⟩ := tab_some (es := typesOf h) hm
          obtain ⟨c', _, rfl⟩ := tab_get ho'
          have : (canonT T (typesOf h) P.globals.size []).get j = _ := ho'
          simp [AHeap.rw, this]
        · cases hi
  · cases hk
/-- What is asked of such a function, in words of its own. -/
noncomputable def asksT (T : Tabs) (f : FuncId) (Y : List Value → (Value → Prop) → Prop) (A : Asks) : Asks := fun f' args h k => match Nat.beq f f' with
  | true => match hasTabs T h with
    | true => Y args.toList fun v => k v h
    | false => False
  | false => A f' args h k
theorem asksT_ok {T : Tabs} {f : FuncId} {S : List Value → Option Value} {Y : List Value → (Value → Prop) → Prop} {orc : Orc} {A : Asks} (hY : ∀ l K, Y l K → ∃ v, S l = some v ∧ K v) (hA : AsksOk orc A) : AsksOk (orElse f (tabSpec T S) orc) (asksT T f Y A) := by
  intro f' args h k hk
  unfold asksT at hk
  split at hk
  · rename_i hf
    split at hk
    · rename_i ht
      obtain ⟨v, e, q⟩ := hY _ _ hk
      exact ⟨v, h, by simp only [orElse, hf, tabSpec, ht, e, Option.map_some], q⟩
    · exact hk.elim
  · rename_i hf
    obtain ⟨v, h', e, q⟩ := hA f' args h k hk
    exact ⟨v, h', by simp only [orElse, hf, e], q⟩
theorem asksQ_ok {f : FuncId} {S : List Value → Option Value} {Y : List Value → (Value → Prop) → Prop} {orc : Orc} {A : Asks} (hY : ∀ l K, Y l K → ∃ v, S l = some v ∧ K v) (hA : AsksOk orc A) : AsksOk (orElse f (flatSpec S) orc) (asksP f Y A) := by
  refine asksP_ok (fun args h K hk => ?_) hA
  obtain ⟨v, e, q⟩ := hY _ _ hk
  exact ⟨v, by simp only [flatSpec, e, Option.map_some], q⟩
end
end Go.Am
/-! (OWN WORK. 'Am': functions of a slice whose elements are told by a list (each of some cells), and of plain values behind it, as known calls.) -/
namespace Go.Am
noncomputable section
/-- How elements are told by cells. -/
structure Tell (α : Type) where
  cells : List α → List Value
  dec : List Value → Option (List α)
  dec_cells : ∀ l, dec (cells l) = some l
  dec_some : ∀ {c l}, dec c = some l → c = cells l
  flat : ∀ l, (cells l).all (flat 3) = true
variable {α : Type}
def goodN (n m : Nat) : Bool := Nat.blt 0 n && (Nat.beq m n && Nat.ble n 65536)
theorem goodN_iff {n m : Nat} : goodN n m = true ↔ 0 < n ∧ m = n ∧ n ≤ 65536 := by
  unfold goodN
  rw [Bool.and_eq_true, Bool.and_eq_true, Nat.blt_eq, Nat.beq_eq, Nat.ble_eq]
def lstX (N : Nat) (T : Tell α) (X : List α → List Value → Option Out) (vs : List Value) (B : List Cells) : Option Out := match B with
  | [] => match vs with
    | .slice none 0 0 :: r => X [] r
    | .slice (some ⟨0, 0, none⟩) 0 _ :: r => X [] r
    | _ => none
  | [(c, _, _)] => match vs with
    | .slice (some ⟨i, 0, none⟩) n _ :: r => match Nat.beq i N && r.all plainB, T.dec c with
      | true, some l => match goodN n l.length with
        | true => X l r
        | false => none
      | _, _ => none
    | _ => none
  | _ => none
def lstY (N : Nat) (T : Tell α) (Y : List α → List Value → (Out → Prop) → Prop) (vs : List Value) (B : List Cells) (K : Out → Prop) : Prop := match B with
  | [] => match vs with
    | .slice none 0 0 :: r => Y [] r K
    | .slice (some ⟨0, 0, none⟩) 0 _ :: r => Y [] r K
    | _ => False
  | [(c, _, _)] => match vs with
    | .slice (some ⟨i, 0, none⟩) n _ :: r => (Nat.beq i N && r.all plainB) = true ∧ ∃ l, c = T.cells l ∧ (0 < n ∧ l.length = n ∧ n ≤ 65536) ∧ Y l r K
    | _ => False
  | _ => False
theorem lstY_ok {N : Nat} {T : Tell α} {X : List α → List Value → Option Out} {Y : List α → List Value → (Out → Prop) → Prop} (hY : ∀ l r K, Y l r K → ∃ o, X l r = some o ∧ K o) (vs : List Value) (B : List Cells) (K : Out → Prop) (h : lstY N T Y vs B K) : ∃ o, lstX N T X vs B = some o ∧ K o := by
  unfold lstY at h
  split at h
  · split at h
    · exact hY _ _ _ h
    · exact hY _ _ _ h
    · exact h.elim
  · split at h
    · obtain ⟨hi, l, rfl, hg, hK⟩ := h
      obtain ⟨o, h1, h2⟩ := hY _ _ _ hK
      refine ⟨o, ?_, h2⟩
      simp only [lstX, hi, T.dec_cells, goodN_iff.2 hg]
      exact h1
    · exact h.elim
  · exact h.elim
/-- The calls of a function of such a slice. -/
def lstO (N : Nat) (T : Tell α) (X : List α → List Value → Option Out) : Array Value → AHeap → Option (Value × AHeap) := anyO N (lstX N T X)
def asksT' (N : Nat) (f : FuncId) (T : Tell α) (Y : List α → List Value → (Out → Prop) → Prop) (A : Asks) : Asks := asksV N f (lstY N T Y) A
theorem asksT'_ok {N : Nat} {f : FuncId} {T : Tell α} {X : List α → List Value → Option Out} {Y : List α → List Value → (Out → Prop) → Prop} (hY : ∀ l r K, Y l r K → ∃ o, X l r = some o ∧ K o) {orc : Orc} {A : Asks} (hA : AsksOk orc A) : AsksOk (orElse f (lstO N T X) orc) (asksT' N f T Y A) :=
  asksV_ok (lstY_ok hY) hA
theorem lstO_ok {P : Program} {f : FuncId} {T : Tell α} {X : List α → List Value → Option Out} {orc : Orc} (hP : 0 < P.globals.size) (ho : OrcOk P orc)
    (hok : ∀ l r o, X l r = some o → o.Ok)
    (hnil : ∀ r o, X [] r = some o → CallJ P f (.slice none 0 0 :: r).toArray (canon P []) o.Got)
    (hemp : ∀ r o k, X [] r = some o → CallJ P f (.slice (some ⟨0, 0, none⟩) 0 k :: r).toArray (canon P []) o.Got)
    (hfull : ∀ l r o e row k, X l r = some o → 0 < l.length → l.length ≤ 65536 → CallJ P f (.slice (some ⟨P.globals.size, 0, none⟩) l.length k :: r).toArray (canon P [(T.cells l, e, row)]) o.Got) : OrcOk P (orElse f (lstO P.globals.size T X) orc) := by
  refine anyO_ok hP ho fun vs B o h _ => ?_
  unfold lstX at h
  split at h
  · split at h
    · exact ⟨hok _ _ _ h, hnil _ _ h⟩
    · exact ⟨hok _ _ _ h, hemp _ _ _ h⟩
    · cases h
  · rename_i c e row
    split at h
    · rename_i i n k r
      split at h
      · rename_i l hb hd
        split at h
        · rename_i hg
          obtain ⟨h0, rfl, h1⟩ := goodN_iff.1 hg
          rw [Bool.and_eq_true, Nat.beq_eq] at hb
          obtain rfl := hb.1
          obtain rfl := T.dec_some hd
          exact ⟨hok _ _ _ h, hfull _ _ _ _ _ _ h h0 h1⟩
        · cases h
      · cases h
    · cases h
  · cases h
open Classical in
/-- Under a condition. -/
def ifX (C : List α → List Value → Prop) (out : List α → List Value → Out) : List α → List Value → Option Out := fun l r => if C l r then some (out l r) else none
def ifY (C : List α → List Value → Prop) (out : List α → List Value → Out) : List α → List Value → (Out → Prop) → Prop := fun l r K => C l r ∧ K (out l r)
theorem ifX_some {C : List α → List Value → Prop} {out : List α → List Value → Out} {l : List α} {r : List Value} {o : Out} (h : ifX C out l r = some o) : C l r ∧ o = out l r := by
  unfold ifX at h
  split at h
  · rename_i hc; cases h; exact ⟨hc, rfl⟩
  · cases h
theorem ifY_ok {C : List α → List Value → Prop} {out : List α → List Value → Out} : ∀ l r K, ifY C out l r K → ∃ o, ifX C out l r = some o ∧ K o := fun l r K ⟨hc, hk⟩ => ⟨_, if_pos hc, hk⟩
def lstI (N : Nat) (T : Tell α) (C : List α → List Value → Prop) (out : List α → List Value → Out) : Array Value → AHeap → Option (Value × AHeap) := lstO N T (ifX C out)
def asksI' (N : Nat) (f : FuncId) (T : Tell α) (C : List α → List Value → Prop) (out : List α → List Value → Out) (A : Asks) : Asks := asksT' N f T (ifY C out) A
theorem asksI'_ok {N : Nat} {f : FuncId} {T : Tell α} {C : List α → List Value → Prop} {out : List α → List Value → Out} {orc : Orc} {A : Asks} (hA : AsksOk orc A) : AsksOk (orElse f (lstI N T C out) orc) (asksI' N f T C out A) := asksT'_ok ifY_ok hA
theorem lstI_ok {P : Program} {f : FuncId} {T : Tell α} {C : List α → List Value → Prop} {out : List α → List Value → Out} {orc : Orc} (hP : 0 < P.globals.size) (ho : OrcOk P orc)
    (hok : ∀ l r, C l r → (out l r).Ok)
    (hnil : ∀ r, C [] r → CallJ P f (.slice none 0 0 :: r).toArray (canon P []) (out [] r).Got)
    (hemp : ∀ r k, C [] r → CallJ P f (.slice (some ⟨0, 0, none⟩) 0 k :: r).toArray (canon P []) (out [] r).Got)
    (hfull : ∀ l r m e row k, C l r → l.length = m + 1 → m + 1 ≤ 65536 → CallJ P f (.slice (some ⟨P.globals.size, 0, none⟩) (m + 1) k :: r).toArray (canon P [(T.cells l, e, row)]) (out l r).Got) : OrcOk P (orElse f (lstI P.globals.size T C out) orc) :=
  lstO_ok hP ho (fun l r o h => by obtain ⟨hc, rfl⟩ := ifX_some h; exact hok l r hc) (fun r o h => by obtain ⟨hc, rfl⟩ := ifX_some h; exact hnil r hc) (fun r o k h => by obtain ⟨hc, rfl⟩ := ifX_some h; exact hemp r k hc)
    (fun l r o e row k h h0 h1 => by obtain ⟨hc, rfl⟩ := ifX_some h; obtain ⟨m, hm⟩ : ∃ m, l.length = m + 1 := ⟨l.length - 1, by omega⟩; rw [hm]; exact hfull l r m e row k hc hm (by omega))
end
end Go.Am
