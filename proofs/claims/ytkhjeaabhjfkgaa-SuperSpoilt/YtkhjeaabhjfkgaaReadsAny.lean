/-
  WHAT reads ANSWERS, whatever the bytes; what comes in as bytes.
-/
import Derived.Test.YtkhjeaabhjfkgaaReads
import Derived.Deep.Slices
import Derived.Deep.Fields
import Derived.ChangeSame
namespace Go.Proofs.Ytkhjeaabhjfkgaa
open Go.RowKit
set_option linter.unusedVariables false

theorem reads_any (A : Option Addr) (n c : Nat) (L : List (BitVec 8)) (w : World) (hc : n ≤ c) (hcm : c ≤ maxLen) (hn6 : n ≤ 1000000) (h : Has w A n L) : Calls Try.prog 14 #[.slice A n c] w (Answers w (dec L).1 (dec L).2) := by
  have hl := h.1
  by_cases hn : n < 22
  · rw [dec_size (by omega)]
    exact reads_size A n c L w hn h
  obtain ⟨ab, off, rfl⟩ := h.some_ (by omega)
  obtain ⟨q, rfl⟩ : ∃ q, n = q + 22 := ⟨n - 22, by omega⟩
  have hcm' : c ≤ 9223372036854775807 := by unfold maxLen at hcm; omega
  by_cases he : L.take 22 = sealL (L.take 18)
  · have hs := (sealed_iff L (by omega)).1 he
    have hf := reads_form ab off q c L w hc hcm' hn6 h he (lab L).m (lab L).b (lab L).g (lab L).s (lab L).n (lab L).l (lab L).k _ rfl rfl
    refine hf.mono fun e w' hh => ?_
    by_cases hg : good L
    · rw [dec_good (by omega) hs hg]
      exact hh.1 hg
    · rw [dec_bad (by omega) hs hg]
      exact hh.2 hg
  · rw [dec_sum (by omega) (fun hs => he ((sealed_iff L (by omega)).2 hs))]
    exact reads_sum ab off q c L w hc hcm' hn6 h he

/-- Bytes that came in, with their room. -/
def Inb (w : World) (a : Option Addr) (len cap : Nat) (l : List (BitVec 8)) : Prop := Has w a len l ∧ len ≤ cap ∧ cap ≤ maxLen
section
open Go.ChangeShapes Go.WideShapes Go.Deep
variable {H : Type} {enc : TypeId × Value → H} {w : World}
theorem cells5 : Try.prog.cellsOf 5 = 1 := by kernel_rfl
theorem bytes_in {a : Option Addr} {len cap : Nat} {d : DataW H} {p : List MemPlace} (h : DataW.Trod enc Try.prog w 0 (fun _ => true) true 30 (.slice a len cap) d p) : ∃ l, Inb w a len cap l := by
  obtain ⟨fuel, hf⟩ := h
  rcases open_ints Try.underlying30 Try.underlying5 cells5 hf with ⟨hcs, _⟩ | ⟨x, l, c, zs, hcs, _, hl, hm, hz, _, hcell, hwz⟩
  · simp [Value.cells] at hcs
    obtain ⟨rfl, rfl, rfl⟩ := hcs
    exact ⟨[], Has.nil _ _, Nat.le_refl _, by unfold maxLen; omega⟩
  · simp [Value.cells] at hcs
    obtain ⟨rfl, rfl, rfl⟩ := hcs
    exact ⟨_, Has.of_row hl (by simpa using hz) hcell hwz, hl, hm⟩
end
end Go.Proofs.Ytkhjeaabhjfkgaa
