/-
  THE WALKS OF None, light, longest, slices.Equal.
-/
import Derived.Test.YtapbphkhbhcdkaaGreatRows2
import Derived.Test.YtapbphkhbhcdkaaGreatRuns
namespace Go.Proofs.YtapbphkhbhcdkaaGreat
open Go.RowKit Go.Sort
set_option linter.unusedVariables false
set_option maxRecDepth 100000

theorem longest_any (A : Option Addr) (n c : Nat) (L : List Sl) (w : World) (h : Ln w A n L) :
    Calls Tryz.prog 55 #[.slice A n c] w fun e w' => e = .returned (.int .i64 (mx L : Int)) ∧ w' = w := by
  have hn := h.few
  have H := Lib.hid h
  clear h
  go_enter Tryz.func55, Tryz.ntmps55
  go_wp2
  go_loopw [3, 8] (fun s i wr => ∃ (j : Nat), j ≤ n ∧ s = .int .i64 (mx (L.take j) : Int) ∧ i = .int .i64 j ∧ wr = w) (fun _ i _ => n - (intOf i).toNat)
  case atStart => exact ⟨0, Nat.zero_le _, rfl, rfl, rfl⟩
  case round =>
    obtain ⟨j, hj, rfl, rfl, rfl⟩ := hrel
    by_cases hlt : j < n
    · obtain ⟨hjl, b, off, rfl, hc, hh, hx⟩ := H.out.one hlt
      have hmx := fun (w : World) => run_max2 (P := Tryz.prog) w #[3, 3] 3 (mx (L.take j) : Int) (L[j].n : Int) (mx (L.take (j + 1)) : Int) (by rw [mx_next L hjl, hh.1]; omega)
      clear hh
      go_wp2
      go_roundw
      case rel => exact ⟨j + 1, by omega, rfl, by go_num, trivial⟩
      case measure => simp [intOf]; omega
    · have e : j = n := by omega
      subst e
      have := H.out.all
      simp only [this]
      go_wp2
      go_ret
      exact ⟨rfl, rfl⟩

end Go.Proofs.YtapbphkhbhcdkaaGreat
