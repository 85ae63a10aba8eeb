/-
  THE WALKS OF None, light, longest, slices.Equal.
-/
import Derived.Test.YtengfhcocagpiaaFoot
namespace Go.Proofs.Ytengfhcocagpiaa
open Go.RowKit Go.Sort
set_option linter.unusedVariables false
set_option maxRecDepth 100000

/-- All of them nought. -/
def nones (l : List (BitVec 8)) : Bool := l.all (· == 0#8)
theorem nones_next {l : List (BitVec 8)} {j : Nat} (h : j < l.length) : nones (l.take (j + 1)) = (nones (l.take j) && l[j] == 0#8) := by
  unfold nones; rw [List.take_succ_eq_append_getElem h, List.all_append]; simp only [List.all_cons, List.all_nil, Bool.and_true]
theorem nones_not {l : List (BitVec 8)} {j : Nat} (h : j < l.length) (e : (((l[j].toNat : Int)) != 0) = true) : nones l = false := by
  unfold nones
  rw [List.all_eq_false]
  refine ⟨l[j], List.getElem_mem h, ?_⟩
  intro h2
  have : l[j] = 0#8 := by simpa using h2
  rw [this] at e
  simp at e
theorem nones_yes {l : List (BitVec 8)} {j : Nat} (h : j < l.length) (e : (((l[j].toNat : Int)) != 0) = false) : l[j] = 0#8 := by
  apply BitVec.eq_of_toNat_eq
  have : ((l[j].toNat : Int)) = 0 := by simpa using e
  simp
  omega

theorem none_any (A : Option Addr) (n c : Nat) (l : List (BitVec 8)) (w : World) (hn : n ≤ 140737488355328) (h : Has w A n l) :
    Calls Try.prog 14 #[.slice A n c] w fun e w' => e = .returned (.bool (nones l)) ∧ w' = w := by
  have H := Lib.hid h
  clear h
  go_enter Try.func14, Try.ntmps14
  go_wp2
  go_loopw [7] (fun i wr => ∃ j : Nat, j ≤ n ∧ i = .int .i64 j ∧ wr = w ∧ nones (l.take j) = true) (fun i _ => n - (intOf i).toNat)
  case atStart => exact ⟨0, Nat.zero_le _, rfl, rfl, rfl⟩
  case round =>
    obtain ⟨j, hj, rfl, rfl, hN⟩ := hrel
    have HN := Lib.hid hN
    clear hN
    by_cases hlt : j < n
    · obtain ⟨b, off, rfl⟩ := H.out.some_ (by omega)
      have hjl : j < l.length := by rw [H.out.1]; omega
      have hc := H.out.cell j (by omega)
      go_wp2
      · have hne : ((l[j].toNat : Int) != 0) = true := by assumption
        go_ret
        exact ⟨by rw [nones_not hjl hne]; rfl, rfl⟩
      · have he : ((l[j].toNat : Int) != 0) = false := by assumption
        go_roundw
        case rel => exact ⟨j + 1, by omega, by go_num, trivial, by rw [nones_next hjl, HN.out, nones_yes hjl he]; rfl⟩
        case measure => simp [intOf]; omega
    · have e : j = n := by omega
      subst e
      go_wp2
      go_ret
      exact ⟨by have := HN.out; rw [List.take_of_length_le (by rw [H.out.1]; exact Nat.le_refl _)] at this; rw [this]; rfl, rfl⟩

theorem light_any (A : Option Addr) (n c : Nat) (L : List Sl) (w : World) (h : Ln w A n L) :
    Calls Try.prog 9 #[.slice A n c] w fun e w' => (∃ b, e = .returned (.bool b)) ∧ w' = w := by
  have hn := h.few
  have H := Lib.hid h
  clear h
  go_enter Try.func9, Try.ntmps9
  go_wp2
  go_loopw [3, 8] (fun s i wr => ∃ (z : Int) (j : Nat), j ≤ n ∧ s = .int .i64 z ∧ i = .int .i64 j ∧ wr = w) (fun _ i _ => n - (intOf i).toNat)
  case atStart => exact ⟨0, 0, Nat.zero_le _, rfl, rfl, rfl⟩
  case round =>
    obtain ⟨z, j, hj, rfl, rfl, rfl⟩ := hrel
    by_cases hlt : j < n
    · obtain ⟨hjl, b, off, rfl, hc, hh, hx⟩ := H.out.one hlt
      clear hh
      go_wp2
      go_roundw
      case rel => exact ⟨_, j + 1, by omega, rfl, by go_num, trivial⟩
      case measure => simp [intOf]; omega
    · have e : j = n := by omega
      subst e
      go_wp2
      go_ret
      exact ⟨⟨_, rfl⟩, rfl⟩

theorem longest_any (A : Option Addr) (n c : Nat) (L : List Sl) (w : World) (h : Ln w A n L) :
    Calls Try.prog 16 #[.slice A n c] w fun e w' => e = .returned (.int .i64 (mx L : Int)) ∧ w' = w := by
  have hn := h.few
  have H := Lib.hid h
  clear h
  go_enter Try.func16, Try.ntmps16
  go_wp2
  go_loopw [3, 8] (fun s i wr => ∃ (j : Nat), j ≤ n ∧ s = .int .i64 (mx (L.take j) : Int) ∧ i = .int .i64 j ∧ wr = w) (fun _ i _ => n - (intOf i).toNat)
  case atStart => exact ⟨0, Nat.zero_le _, rfl, rfl, rfl⟩
  case round =>
    obtain ⟨j, hj, rfl, rfl, rfl⟩ := hrel
    by_cases hlt : j < n
    · obtain ⟨hjl, b, off, rfl, hc, hh, hx⟩ := H.out.one hlt
      have hmx := fun (w : World) => run_max2 (P := Try.prog) w #[3, 3] 3 (mx (L.take j) : Int) (L[j].n : Int) (mx (L.take (j + 1)) : Int) (by rw [mx_next L hjl, hh.1]; omega)
      clear hh
      go_wp2
      go_roundw
      case rel => exact ⟨j + 1, by omega, rfl, by go_num, trivial⟩
      case measure => simp [intOf]; omega
    · have e : j = n := by omega
      subst e
      have := H.out.all
      simp only [this]
      go_wp2
      go_ret
      exact ⟨rfl, rfl⟩

end Go.Proofs.Ytengfhcocagpiaa
