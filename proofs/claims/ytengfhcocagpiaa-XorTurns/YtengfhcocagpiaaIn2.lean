/-
  THE SLICES THAT CAME IN, with their capacity.
-/
import Derived.Test.YtengfhcocagpiaaIn
namespace Go.Proofs.Ytengfhcocagpiaa
open Go.RowKit
set_option linter.unusedVariables false

section
open Go.ChangeShapes Go.WideShapes Go.Deep
variable {H : Type} {enc : TypeId × Value → H} {w : World}

theorem rows_in2 {a : Option Addr} {len cap : Nat} {d : DataW H} {p : List MemPlace} (h : DataW.Trod enc Try.prog w 0 (fun _ => true) true 22 (.slice a len cap) d p) (hw : ∀ n ∈ d.weights Try.prog 22, n ≤ reachBytes) :
    ∃ L, (Ln w a len L ∧ len ≤ 5864062014634) ∧ len ≤ cap ∧ cap ≤ maxLen := by
  obtain ⟨L, hL⟩ := rows_in h hw
  refine ⟨L, hL, ?_⟩
  obtain ⟨fuel, hf⟩ := h
  rcases open_slice1 Try.underlying22 cells25 hf with ⟨hcs, _⟩ | ⟨x, len', cap', m, n, V, D, Pl, hcs, _, hl, hm, hmm, hx, hi⟩
  · simp [Value.cells] at hcs
    obtain ⟨rfl, rfl, rfl⟩ := hcs
    exact ⟨Nat.le_refl _, by unfold maxLen; omega⟩
  · simp [Value.cells] at hcs
    obtain ⟨rfl, rfl, rfl⟩ := hcs
    exact ⟨hl, hm⟩
end

end Go.Proofs.Ytengfhcocagpiaa
