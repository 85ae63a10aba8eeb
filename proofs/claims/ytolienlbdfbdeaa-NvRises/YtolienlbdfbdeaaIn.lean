/-
  WHAT COMES IN: bytes.
-/
import Derived.Test.YtolienlbdfbdeaaAwake
import Derived.Deep.Slices
import Derived.Deep.Fields
import Derived.ChangeSame
namespace Go.Proofs.Ytolienlbdfbdeaa
open Go.RowKit
set_option linter.unusedVariables false

section
open Go.ChangeShapes Go.WideShapes Go.Deep
variable {H : Type} {enc : TypeId × Value → H} {w : World}

theorem cells5 : Try.prog.cellsOf 5 = 1 := by kernel_rfl
/-- Bytes that came in. -/
theorem bytes_in {fuel : Nat} {cs : List Value} {x : DataW H × List MemPlace} (h : DataW.trod enc Try.prog w 0 (fun _ => true) true fuel 34 cs = some x) :
    ∃ A m c l, cs = [.slice A m c] ∧ Has w A m l := by
  rcases open_ints Try.underlying34 Try.underlying5 cells5 h with ⟨rfl, _⟩ | ⟨a, len, cap, zs, rfl, _, hl, hm, hz, _, hcell, hwz⟩
  · exact ⟨none, 0, 0, [], rfl, Has.nil _ _⟩
  · exact ⟨some a, len, cap, _, rfl, Has.of_row hl (by simpa using hz) hcell hwz⟩
/-- The bytes that came in, as a row's reading has them. -/
theorem row_in {a : Option Addr} {len cap : Nat} {d : DataW H} {p : List MemPlace} (h : DataW.Trod enc Try.prog w 0 (fun _ => true) true 34 (.slice a len cap) d p) : ∃ l, Has w a len l := by
  obtain ⟨fuel, hf⟩ := h
  obtain ⟨A, m, c, l, e, h1⟩ := bytes_in hf
  simp [Value.cells] at e
  obtain ⟨rfl, rfl, rfl⟩ := e
  exact ⟨l, h1⟩
end

end Go.Proofs.Ytolienlbdfbdeaa
