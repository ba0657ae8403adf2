/-
  OWN WORK. The bytes of a stream: a head, two bytes for each integer, a seal.
-/
import Derived.Test.YtphhcoiclkfimaaGreatDoorStA
namespace Go.Proofs.YtphhcoiclkfimaaGreatDoor
open Go Go.Am

noncomputable abbrev slN (b n k : Nat) : Value := .slice (some ⟨Tryz.prog.globals.size + b, 0, none⟩) n k
noncomputable def hiB (u : Int) : Int := (u % 65536) / 256
noncomputable def loB (u : Int) : Int := u % 256
noncomputable def pkL (hd us : List Int) : List Int := hd ++ us.flatMap fun u => [hiB u, loB u]
theorem pkL_nil (hd : List Int) : pkL hd [] = hd := by simp [pkL]
theorem pkL_succ (hd us : List Int) (u : Int) : pkL hd (us ++ [u]) = pkL hd us ++ [hiB u, loB u] := by simp [pkL]
theorem pkL_length (hd : List Int) : ∀ us : List Int, (pkL hd us).length = hd.length + 2 * us.length
  | [] => by simp [pkL]
  | u :: us => by
    have := pkL_length hd us
    simp only [pkL, List.length_append, List.flatMap_cons, List.length_cons, List.length_nil] at this ⊢
    omega
theorem hiB_in (u : Int) : inB (hiB u) := by
  unfold inB hiB
  omega
theorem loB_in (u : Int) : inB (loB u) := by
  unfold inB loB
  omega
theorem pkL_in {hd us : List Int} (h : ∀ x ∈ hd, inB x) : ∀ x ∈ pkL hd us, inB x := by
  intro x hx
  rcases List.mem_append.1 hx with hx | hx
  · exact h x hx
  · obtain ⟨u, _, hx⟩ := List.mem_flatMap.1 hx
    simp only [List.mem_cons, List.not_mem_nil, or_false] at hx
    rcases hx with rfl | rfl
    · exact hiB_in u
    · exact loB_in u
noncomputable def hdC (n : Nat) : List Int := [67, 82, 85, 49, ((n : Int) / 256) % 256, (n : Int) % 256]
theorem hdC_in (n : Nat) : ∀ x ∈ hdC n, inB x := by
  intro x hx
  unfold hdC at hx
  simp only [List.mem_cons, List.not_mem_nil, or_false] at hx
  unfold inB
  rcases hx with rfl | rfl | rfl | rfl | rfl | rfl <;> omega
noncomputable def strE (l : List Nat) : List Int := pkL (hdC l.length) (l.map unitE)
noncomputable def stmE (l : List Nat) : List Int := strE l ++ slK (strE l) 0 0 0 0 0 0 0 0
theorem strE_length (l : List Nat) : (strE l).length = 6 + 2 * l.length := by
  unfold strE
  rw [pkL_length, List.length_map]; rfl
theorem stmE_length (l : List Nat) : (stmE l).length = 14 + 2 * l.length := by
  unfold stmE
  rw [List.length_append, strE_length]
  show 6 + 2 * l.length + 8 = _
  omega
theorem strE_in (l : List Nat) : ∀ x ∈ strE l, inB x := pkL_in (hdC_in _)
theorem in8_zero : in8 0 0 0 0 0 0 0 0 := by unfold in8 inB; omega
theorem units_take {l : List Nat} {i : Nat} (h : i < l.length) : (l.take (i + 1)).map unitE = (l.take i).map unitE ++ [unitE l[i]] := by
  rw [List.take_add_one, List.getElem?_eq_getElem h, List.map_append]; rfl
theorem u16_mod (n : Int) : fwrap IntKind.u16 n = n % 65536 := by
  rw [fwrap_eq]
  simp [IntKind.wrap, IntKind.bits, IntKind.signed]
theorem ieq_ne' {x : Int} (h : x ≠ 0) : ieq x 0 = false := by rw [ieq_dec]; exact decide_eq_false h
end Go.Proofs.YtphhcoiclkfimaaGreatDoor
