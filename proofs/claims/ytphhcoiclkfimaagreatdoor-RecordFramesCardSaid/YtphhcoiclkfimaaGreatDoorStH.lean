/-
  OWN WORK. The numbers in a stream, by the program: known for all bytes.
-/
import Derived.Test.YtphhcoiclkfimaaGreatDoorStC
namespace Go.Proofs.YtphhcoiclkfimaaGreatDoor
open Go Go.Am

noncomputable def ruLoops (l : List Int) (off n e row k : Nat) : Loops Tryz.prog where
  body := fun _ => loopOf Tryz.prog 71 0
  spec := fun _ a h c => entry a 34 [(0, liQ off n k), (3, nilS), (4, goN 0)] (h.get N1 = some (.cells (l.map gb) e row true) ∧ (off + n ≤ l.length ∧ n ≤ 1000000 ∧ ∀ x ∈ (l.drop off).take n, inB x) ∧
    (n / 2 = 0 → ∀ g, c (.exit 0) (stOf 34 [(0, liQ off n k), (3, nilS), (4, goN (2 * (n / 2)))] g) (gC Tryz.prog (bC (l.map gb) e row))) ∧ (0 < n / 2 → ∀ g, c (.exit 0) (stOf 34 [(0, liQ off n k), (3, slO (n / 2) (n / 2)), (4, goN (2 * (n / 2)))] g) (gD Tryz.prog (bC (l.map gb) e row) (rdF ((l.drop off).take n) (n / 2)) 48)))
  ok := fun i a h c q => by
    obtain ⟨h1, h2, h3, g0, ⟨hs1, hs2, hs3⟩, h4, h5⟩ := entry_facts q
    refine J.of_told (ru_loop l off n e row k hs1 hs2 hs3 a h ⟨fun q b hb => ?_, .inl ⟨rfl, ?_⟩⟩ h1 h2) ?_
    · match q, hb with
      | 0, hb => cases hb; exact g0
    · simp only [List.map_cons, List.map_nil]
      rw [h3 (0, liQ off n k) (by simp), h3 (3, nilS) (by simp), h3 (4, goN 0) (by simp)]
      rfl
    · rintro ex vs h' g ⟨rfl, ⟨h0, rfl, rfl⟩ | ⟨h0, rfl, rfl⟩⟩
      · exact h4 h0 g
      · exact h5 h0 g
theorem ru_run (l : List Int) (off n e row k : Nat) (K : Value → AHeap → Prop) : callC Tryz.prog (exec Tryz.prog orcSd 10) (syOf []) askSd (ruLoops l off n e row k) 40 71 #[liQ off n k] (liH (l.map gb) e row) K = ((loopOf Tryz.prog 71 0 = loopOf Tryz.prog 71 0 ∧ liQ off n k = liQ off n k ∧ nilS = nilS ∧ gi 0 = goN 0 ∧ (liH (List.map gb l) e row).get (N1) = Option.some (.cells (List.map gb l) e row true) ∧ (((off + n) : Nat) ≤ List.length l ∧ (n : Nat) ≤ 1000000 ∧ (∀ y1 : Int, (List.Mem y1 (List.take n (List.drop off l)) → inB y1))) ∧ ((n / 2) = 0 → (∀ _ : Nat → Value, K nilS (gC Tryz.prog (bC (List.map gb l) e row)))) ∧ ((0 : Nat) < (n / 2) → (∀ _ : Nat → Value, K (slO (n / 2) (n / 2)) (gD Tryz.prog (bC (List.map gb l) e row) (rdF (List.take n (List.drop off l)) (n / 2)) 48))))) := by kernel_rfl
theorem ru_nil : (call Tryz.prog orcSd 60 71 #[nilS] (emp Tryz.prog)).map (·.1) = some nilS := by kernel_rfl
theorem ru_emp (k : Nat) : (call Tryz.prog orcSd 60 71 #[.slice (some ⟨0, 0, none⟩) 0 k] (emp Tryz.prog)).map (·.1) = some nilS := by kernel_rfl
noncomputable def ruOut (L : List Int) : Out := if L.length < 2 then .plain nilS else .fresh (slM (L.length / 2)) (rdF L (L.length / 2)) 48
open Classical in
noncomputable def ruX : List Int → List Value → Option Out := fun L r => match r with
  | [] => if ∀ x ∈ L, inB x then some (ruOut L) else none
  | _ => none
theorem ruX_ok {L : List Int} (h : ∀ x ∈ L, inB x) : ruX L [] = some (ruOut L) := if_pos h
theorem ruX_some {L : List Int} {r : List Value} {o : Out} (h : ruX L r = some o) : r = [] ∧ (∀ x ∈ L, inB x) ∧ o = ruOut L := by
  unfold ruX at h
  split at h
  · split at h
    · rename_i hb; cases h; exact ⟨rfl, hb, rfl⟩
    · cases h
  · cases h
noncomputable def orcSg : Orc := orElse 71 (genO dB 1000000 true ruX) orcSd
set_option maxRecDepth 100000 in
theorem orcSg_ok : OrcOk Tryz.prog orcSg := by
  refine genO_ok dB_some (fun _ => rfl) globs_pos orcSd_ok ?_ ?_ ?_ ?_
  · intro L r o h
    obtain ⟨rfl, _, rfl⟩ := ruX_some h
    unfold ruOut
    split
    · rfl
    · exact ⟨names_sl _, flat_floats _⟩
  · intro r o h
    obtain ⟨rfl, _, rfl⟩ := ruX_some h
    exact CallJ.of_call mixed orcSd_ok ru_nil fun _ => rfl
  · intro r k o h
    obtain ⟨rfl, _, rfl⟩ := ruX_some h
    exact CallJ.of_call mixed orcSd_ok (ru_emp k) fun _ => rfl
  · intro l off n r el row k o _ hw h0 h1 h2 h3 h
    obtain ⟨rfl, hb, rfl⟩ := ruX_some h
    have hlen : ((l.drop off).take n).length = n := by rw [List.length_take, List.length_drop]; omega
    refine callC_ok mixed orcSd_ok askSd_ok (Eq.mpr (ru_run l off n el row k _) ?_)
    unfold ruOut
    rw [hlen]
    refine ⟨rfl, rfl, rfl, rfl, by rw [canon_get, if_pos (Nat.le_refl _), Nat.sub_self]; rfl, ⟨h1, h2, hb⟩, fun hz _ => ?_, fun hp _ => ?_⟩
    · rw [if_pos (by omega)]; rfl
    · rw [if_neg (by omega)]; exact ⟨N1 + 1, rfl, gD_dst⟩
/-- What is asked of readUnits. -/
noncomputable def askRU (A : Asks) : Asks := fun f' args h k => match Nat.beq 71 f' with
  | true => match args.toList with
    | [.slice (some ⟨i, off, none⟩) n xk] => match h.get i with
      | some (.cells c _ row _) => ∃ l : List Int, c = l.map gb ∧ (Nat.beq row 0 || Nat.beq row 2) = true ∧ off + n ≤ l.length ∧ n ≤ 1000000 ∧ n ≤ xk ∧ (∀ x : Int, List.Mem x ((l.drop off).take n) → inB x) ∧
          (n < 2 → k nilS h) ∧ (2 ≤ n → k (.slice (some ⟨h.n, 0, none⟩) (n / 2) (n / 2)) (h.push (.cells (rdF ((l.drop off).take n) (n / 2)) 48 2 false)))
      | _ => False
    | _ => False
  | false => A f' args h k
theorem askRU_ok {A : Asks} (hA : AsksOk orcSd A) : AsksOk orcSg (askRU A) := by
  intro f' args h k hk
  unfold askRU at hk
  split at hk
  · rename_i hf
    split at hk
    · rename_i i off n xk hargs
      split at hk
      · rename_i c _ row _ hg
        obtain ⟨l, rfl, hw, h1, h2, h3, hb, hk0, hk1⟩ := hk
        by_cases h0 : n = 0
        · subst h0
          refine ⟨_, _, ?_, hk0 (by omega)⟩
          have hS : genO dB 1000000 true ruX args h = some (nilS, h) := by
            unfold genO
            rw [hargs]
            have : ruX [] [] = some (ruOut []) := ruX_ok fun x hx => by cases hx
            simp only [List.all_nil, this]
            rfl
          simp only [orcSg, orElse, hf, hS]
        · have hlen : ((l.drop off).take n).length = n := by rw [List.length_take, List.length_drop]; omega
          have hX : ruX ((l.drop off).take n) [] = some (ruOut ((l.drop off).take n)) := ruX_ok hb
          obtain ⟨m, rfl⟩ : ∃ m, n = m + 1 := ⟨n - 1, by omega⟩
          have e1 : Nat.ble (off + (m + 1)) l.length = true := by rw [Nat.ble_eq]; exact h1
          have e2 : Nat.ble (m + 1) 1000000 = true := by rw [Nat.ble_eq]; exact h2
          have e3 : Nat.ble (m + 1) xk = true := by rw [Nat.ble_eq]; exact h3
          have hS : genO dB 1000000 true ruX args h = some ((ruOut ((l.drop off).take (m + 1))).val h.n, (ruOut ((l.drop off).take (m + 1))).heap h) := by
            unfold genO
            rw [hargs]
            simp only [hg, decs_map (d := dB) (e := gb) (fun _ => rfl), e1, e2, e3, hw, List.all_nil, Bool.and_self, Bool.or_true, hX]
          by_cases hn : m + 1 < 2
          · have : ruOut ((l.drop off).take (m + 1)) = .plain nilS := by unfold ruOut; rw [hlen, if_pos hn]
            rw [this] at hS
            exact ⟨nilS, h, by simp only [orcSg, orElse, hf, hS]; rfl, hk0 hn⟩
          · have : ruOut ((l.drop off).take (m + 1)) = .fresh (slM ((m + 1) / 2)) (rdF ((l.drop off).take (m + 1)) ((m + 1) / 2)) 48 := by unfold ruOut; rw [hlen, if_neg hn]
            rw [this] at hS
            exact ⟨_, _, by simp only [orcSg, orElse, hf, hS]; rfl, hk1 (by omega)⟩
      · exact hk.elim
    · exact hk.elim
  · rename_i hf
    obtain ⟨v, h', e, q⟩ := hA f' args h k hk
    exact ⟨v, h', by simp only [orcSg, orElse, hf, e], q⟩
/-- CheckSamples of nothing. -/
noncomputable def askCN (A : Asks) : Asks := fun f' args h k => match Nat.beq 56 f', args.toList with
  | true, [.slice none 0 0] => k (csR [] []) h
  | _, _ => A f' args h k
theorem cs_nilS (h : AHeap) : orcSd 56 #[nilS] h = some (csR [] [], h) := by kernel_rfl
theorem askCN_ok {A : Asks} (hA : AsksOk orcSd A) : AsksOk orcSd (askCN A) := by
  intro f' args h k hk
  unfold askCN at hk
  split at hk
  · rename_i hf hargs
    obtain rfl := Nat.eq_of_beq_eq_true hf
    have : args = #[nilS] := by rw [← hargs]
    subst this
    exact ⟨_, _, cs_nilS h, hk⟩
  · exact hA f' args h k hk
noncomputable def askSg : Asks := askRU (askCN askSd)
theorem askSg_ok : AsksOk orcSg askSg := askRU_ok (askCN_ok askSd_ok)
end Go.Proofs.YtphhcoiclkfimaaGreatDoor
