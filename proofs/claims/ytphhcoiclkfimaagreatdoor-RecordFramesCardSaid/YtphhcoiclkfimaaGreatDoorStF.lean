/-
  OWN WORK. The bytes of samples behind others, by the program: known for all valid samples.
-/
import Derived.Test.YtphhcoiclkfimaaGreatDoorStE
namespace Go.Proofs.YtphhcoiclkfimaaGreatDoor
open Go Go.Am

noncomputable abbrev WH (c : List Value) (d : List Value) (e : TypeId) (row : Nat) : AHeap := canonT [] (fun _ => 0) Tryz.prog.globals.size [(c, 5, 2, false), (d, e, row, true)]
theorem WH_get0 (c d : List Value) (e : TypeId) (row : Nat) : (WH c d e row).get N1 = some (.cells c 5 2 false) := by
  rw [canonT_get (T := []) rfl, if_pos (Nat.le_refl _), Nat.sub_self]; rfl
noncomputable def uwLoops (hd us : List Int) (n m : Nat) : Loops Tryz.prog where
  body := fun _ => loopOf Tryz.prog 68 0
  spec := fun _ a h c => entry a 27 [(0, slN 0 m m), (9, slN 2 n n), (10, goN n), (11, goN 0)] (h.get N1 = some (.cells (hd.map gb) 5 2 false) ∧ h.get (N1 + 2) = some (.cells (us.map gi) 3 2 false) ∧ (n = us.length ∧ n ≤ 65536 ∧ m = hd.length ∧ 0 < m ∧ m ≤ 65536) ∧
    ∀ g, c (.exit 0) (stOf 27 [(0, slO (m + 2 * n) (m + 2 * n)), (9, liP n n), (10, goN n), (11, goN n)] g) (gD Tryz.prog (uC (us.map gi) 3 2 false) ((pkL hd us).map gb) 5))
  ok := fun i a h c q => by
    obtain ⟨h1, h2, h3, g0, g1, ⟨rfl, hs2, rfl, hs4, hs5⟩, h4⟩ := entry_facts q
    refine J.of_facts (l := [0, 9, 10, 11].zip [slN 0 hd.length hd.length, slN 2 us.length us.length, goN us.length, goN 0]) h1 h2 h3 fun g => ?_
    refine J.reheap (es := fun _ => 0) (vs₂ := uwV us.length us.length 0 (slO hd.length hd.length)) (B := [(us.map gi, 3, 2, false), (hd.map gb, 5, 2, false)]) (ids := [N1 + 2, N1]) globs_pos (by decide) (by decide) rfl (by simp) (by simp) ?_ (by kernel_rfl) ?_ fun g' => ?_
    · intro q b i hb hi
      match q, hb, hi with
      | 0, hb, hi => cases hb; cases hi; exact ⟨g1, flat_ints us⟩
      | 1, hb, hi => cases hb; cases hi; exact ⟨g0, flat_bytes hd⟩
    · intro i hi
      simp only [List.mem_cons, List.not_mem_nil, or_false] at hi
      rcases hi with rfl | rfl
      · exact ⟨(9, slN 2 us.length us.length), by simp, by simp [named]⟩
      · exact ⟨(0, slN 0 hd.length hd.length), by simp, by simp [named]⟩
    · refine J.of_told (uw_loop hd us us.length 3 2 us.length false (Nat.le_refl _) hs2 hs4 hs5 _ _ ⟨fun q b hb => ?_, .inr ⟨N1 + 1, 0, rfl, by omega, ?_, ?_, ?_⟩⟩ rfl rfl) ?_
      · match q, hb with
        | 0, hb => cases hb; exact gC_get (C := [(us.map gi, 3, 2, false), (hd.map gb, 5, 2, false)]) (q := 0) rfl
      · intro hx
        have hx : (pkL hd (us.take 0)).map gb = [] := hx
        have := congrArg List.length hx
        rw [List.take_zero, pkL_nil, List.length_map] at this
        have : hd.length = 0 := this
        omega
      · show _ = uwV _ _ 0 (.slice _ ((pkL hd (us.take 0)).map gb).length ((pkL hd (us.take 0)).map gb).length)
        rw [List.take_zero, pkL_nil, List.length_map]
        kernel_rfl
      · show _ = some (AObj.cells ((pkL hd (us.take 0)).map gb) _ _ _)
        rw [List.take_zero, pkL_nil]
        exact gC_get (C := [(us.map gi, 3, 2, false), (hd.map gb, 5, 2, false)]) (q := 1) rfl
      · rintro ex vs h' g ⟨rfl, rfl, rfl⟩
        have := h4 g
        rw [List.take_length]
        exact this
theorem uw_run (hd : List Int) (l : List Nat) (m n k e row : Nat) (K : Value → AHeap → Prop) : callC Tryz.prog (exec Tryz.prog orcSc 10) (syOf [(9, 7)]) (askSB (askSb askSm)) (uwLoops hd ((l.take n).map unitE) n m) 40 68 #[slN 0 m m, slN 1 n k] (WH (hd.map gb) (l.map gf) e row) K = ((∃ x1 : List Nat, (List.map gf l = List.map gf x1 ∧ (0 : Nat) < n ∧ (n : Nat) ≤ List.length x1 ∧ (n : Nat) ≤ 65536 ∧ validL (List.take n x1) ∧ loopOf Tryz.prog 68 0 = loopOf Tryz.prog 68 0 ∧ slN 0 m m = slN 0 m m ∧ Value.slice (some ⟨N1 + 2, 0, none⟩) n n = slN 2 n n ∧ goN n = goN n ∧ gi 0 = goN 0 ∧ ((WH (List.map gb hd) (List.map gf l) e row).push (.cells (unitsL (List.take n x1)) 3 2 false)).get (N1) = Option.some (.cells (List.map gb hd) 5 2 false) ∧ ((WH (List.map gb hd) (List.map gf l) e row).push (.cells (unitsL (List.take n x1)) 3 2 false)).get (N1 + 2) = Option.some (.cells (List.map gi (List.map unitE (List.take n l))) 3 2 false) ∧ (n = List.length (List.map unitE (List.take n l)) ∧ (n : Nat) ≤ 65536 ∧ m = List.length hd ∧ (0 : Nat) < m ∧ (m : Nat) ≤ 65536) ∧ (∀ _ : Nat → Value, K (slO (m + (2 * n)) (m + (2 * n))) (gD Tryz.prog (uC (List.map gi (List.map unitE (List.take n l))) 3 2 false) (List.map gb (pkL hd (List.map unitE (List.take n l)))) 5))))) := by kernel_rfl
set_option maxRecDepth 100000 in
theorem uw_call (hd : List Int) (l : List Nat) (m n k e row : Nat) (hm : m = hd.length) (hm0 : 0 < m) (hm1 : m ≤ 65536) (h0 : 0 < n) (h1 : n ≤ l.length) (h2 : n ≤ 65536) (hv : validL (l.take n)) : CallJ Tryz.prog 68 #[slN 0 m m, slN 1 n k] (WH (hd.map gb) (l.map gf) e row) (fun v h' => ∃ r, v = .slice (some ⟨r, 0, none⟩) (m + 2 * n) (m + 2 * n) ∧ h'.get r = some (.cells ((pkL hd ((l.take n).map unitE)).map gb) 5 2 false)) := by
  have hlen : (l.take n).length = n := by rw [List.length_take]; omega
  refine callC_ok mixed orcSc_ok (askSB_ok askSk_ok) (Eq.mpr (uw_run hd l m n k e row _) ⟨l, rfl, h0, h1, h2, hv, rfl, rfl, rfl, rfl, rfl, ?_, ?_, ⟨by rw [List.length_map, hlen], h2, hm, hm0, hm1⟩, fun _ => ⟨N1 + 1, rfl, ?_⟩⟩)
  · rw [AHeap.get_push_ne (by kernel_rfl)]
    exact WH_get0 _ _ _ _
  · rw [AHeap.get_push_eq (by kernel_rfl)]; rfl
  · exact gD_dst
open Classical in
noncomputable def uwO : Array Value → AHeap → Option (Value × AHeap) := fun args h => match args.toList with
  | [.slice (some ⟨i, 0, none⟩) m k, .slice (some ⟨j, 0, none⟩) n _] => match h.get i with
    | some (.cells c e row false) => match h.get j with
      | some (.cells d _ _ _) => match decs dB c, decs dF d with
        | some hd, some l => if (i ≠ j ∧ Tryz.prog.globals.size ≤ i ∧ Tryz.prog.globals.size ≤ j ∧ e = 5 ∧ row = 2 ∧ k = m) ∧ m = hd.length ∧ 0 < m ∧ m ≤ 65536 ∧ 0 < n ∧ n ≤ l.length ∧ n ≤ 65536 ∧ validL (l.take n) then
            some (.slice (some ⟨h.n, 0, none⟩) (m + 2 * n) (m + 2 * n), (h.set i .dead).push (.cells ((pkL hd ((l.take n).map unitE)).map gb) 5 2 false)) else none
        | _, _ => none
      | _ => none
    | _ => none
  | _ => none
noncomputable def orcSd : Orc := orElse 68 uwO orcSc
set_option maxRecDepth 100000 in
theorem orcSd_ok : OrcOk Tryz.prog orcSd := by
  refine orElse_ok orcSc_ok fun args h v h' hk => ?_
  unfold uwO at hk
  split at hk
  · rename_i i m k j n k' ha
    split at hk
    · rename_i c e row hg
      split at hk
      · rename_i d e' row' ro' hg'
        split at hk
        · rename_i hd l hc hd'
          split at hk
          · rename_i hx
            obtain ⟨⟨hne, hi, hj, rfl, rfl, rfl⟩, hm, hm0, hm1, h0, h1, h2, hv⟩ := hx
            cases hk
            obtain rfl := decs_some dB_some hc
            obtain rfl := decs_some dF_some hd'
            have hA : args = #[.slice (some ⟨i, 0, none⟩) k k, .slice (some ⟨j, 0, none⟩) n k'] := by rw [← ha]
            subst hA
            refine CallJ.moved (flat_bytes _) (SmallW.canonT (i₀ := i) (B := [(hd.map gb, 5, 2, false), (l.map gf, e', row', true)]) (ids := [i, j]) (args₂ := #[slN 0 k k, slN 1 n k']) (fun _ => 0) rfl (by simp [hne]) ?_ ?_ ⟨rfl, fun q x y hx hy => ?_⟩ ?_ (by simp [AHeap.rw, hg]) (by simp)) (uw_call hd l k n k' e' row' hm hm0 hm1 h0 h1 h2 hv)
            · intro q hq
              simp only [List.mem_cons, List.not_mem_nil, or_false] at hq
              rcases hq with rfl | rfl
              · exact hi
              · exact hj
            · intro q b x hb hx
              match q, hb, hx with
              | 0, hb, hx => cases hb; cases hx; exact ⟨⟨false, hg, fun h => h⟩, flat_bytes hd, fun h => absurd rfl h⟩
              | 1, hb, hx => cases hb; cases hx; exact ⟨⟨ro', hg', fun _ => rfl⟩, flat_floats l, fun _ => rfl⟩
            · match q, hx, hy with
              | 0, hx, hy => cases hx; cases hy; exact .slice (by simp [preT])
              | 1, hx, hy => cases hx; cases hy; exact .slice (by simp [preT])
            · intro q hq
              simp only [List.mem_cons, List.not_mem_nil, or_false] at hq
              rcases hq with rfl | rfl
              · exact ⟨_, .head _, .inl ⟨0, k, k, rfl⟩⟩
              · exact ⟨_, .tail _ (.head _), .inl ⟨0, n, k', rfl⟩⟩
          · cases hk
        · cases hk
      · cases hk
    · cases hk
  · cases hk
noncomputable def askUW (A : Asks) : Asks := fun f' args h k => match Nat.beq 68 f' with
  | true => match args.toList with
    | [.slice (some ⟨i, 0, none⟩) m kk, .slice (some ⟨j, 0, none⟩) n _] => match h.get i, h.get j with
      | some (.cells c e row false), some (.cells d _ _ _) => (Nat.beq i j = false ∧ Nat.ble Tryz.prog.globals.size i = true ∧ Nat.ble Tryz.prog.globals.size j = true ∧ Nat.beq e 5 = true ∧ Nat.beq row 2 = true ∧ kk = m) ∧ ∃ (hd : List Int) (l : List Nat), c = hd.map gb ∧ d = l.map gf ∧ m = hd.length ∧ 0 < m ∧ m ≤ 65536 ∧ 0 < n ∧ n ≤ l.length ∧ n ≤ 65536 ∧ validL (l.take n) ∧
          k (.slice (some ⟨h.n, 0, none⟩) (m + 2 * n) (m + 2 * n)) ((h.set i .dead).push (.cells ((pkL hd ((l.take n).map unitE)).map gb) 5 2 false))
      | _, _ => False
    | _ => False
  | false => A f' args h k
theorem askUW_ok {A : Asks} (hA : AsksOk orcSc A) : AsksOk orcSd (askUW A) := by
  intro f' args h k hk
  unfold askUW at hk
  split at hk
  · rename_i hf
    split at hk
    · rename_i i m kk j n k' hargs
      split at hk
      · rename_i c e row d _ _ _ hg hg'
        obtain ⟨⟨hne, hi, hj, he, hr, rfl⟩, hd, l, rfl, rfl, hm, hm0, hm1, h0, h1, h2, hv, hk⟩ := hk
        refine ⟨_, _, ?_, hk⟩
        have hc : (i ≠ j ∧ Tryz.prog.globals.size ≤ i ∧ Tryz.prog.globals.size ≤ j ∧ e = 5 ∧ row = 2 ∧ kk = kk) ∧ kk = hd.length ∧ 0 < kk ∧ kk ≤ 65536 ∧ 0 < n ∧ n ≤ l.length ∧ n ≤ 65536 ∧ validL (l.take n) :=
          ⟨⟨fun e => by subst e; simp at hne, by rwa [Nat.ble_eq] at hi, by rwa [Nat.ble_eq] at hj, Nat.eq_of_beq_eq_true he, Nat.eq_of_beq_eq_true hr, rfl⟩, hm, hm0, hm1, h0, h1, h2, hv⟩
        have e1 : uwO args h = some (.slice (some ⟨h.n, 0, none⟩) (kk + 2 * n) (kk + 2 * n), (h.set i .dead).push (.cells ((pkL hd ((l.take n).map unitE)).map gb) 5 2 false)) := by
          unfold uwO
          rw [hargs]
          simp only [hg, hg', decs_map (d := dB) (e := gb) (fun _ => rfl), decs_map (d := dF) (e := gf) (fun _ => rfl)]
          exact if_pos hc
        simp only [orcSd, orElse, hf, e1]
      · exact hk.elim
    · exact hk.elim
  · rename_i hf
    obtain ⟨v, h', e, q⟩ := hA f' args h k hk
    exact ⟨v, h', by simp only [orcSd, orElse, hf, e], q⟩
noncomputable def askSd : Asks := askUW (askSB (askSb askSm))
theorem askSd_ok : AsksOk orcSd askSd := askUW_ok (askSB_ok askSk_ok)
end Go.Proofs.YtphhcoiclkfimaaGreatDoor
