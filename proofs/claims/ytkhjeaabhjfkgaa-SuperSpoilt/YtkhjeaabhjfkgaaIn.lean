/-
  A STRUCT OF SIX INTEGERS THAT COMES IN BY VALUE: it is written out, and each number is one of its kind.
-/
import Derived.Test.YtkhjeaabhjfkgaaBase
import Derived.ChangeSame
import Derived.Lib.SmallJoins
import Derived.Deep.Fields
import Derived.Deep.Slices
namespace Go.Proofs.Ytkhjeaabhjfkgaa
open Go.RowKit Go.Sort Go.Joins Go.ChangeShapes Go.WideShapes Go.ChangeAt Go.Maps Go.Deep
set_option linter.unusedVariables false

theorem list6 {α : Type} {cs : List α} (h : cs.length = 6) : ∃ c0 c1 c2 c3 c4 c5, cs = [c0, c1, c2, c3, c4, c5] := by
  match cs, h with
  | [c0, c1, c2, c3, c4, c5], _ => exact ⟨c0, c1, c2, c3, c4, c5, rfl⟩

section
variable {H : Type} {enc : TypeId × Value → H} {w : World}

theorem six_of {P : Program} {t : TypeId} {f0 f1 f2 f3 f4 f5 : Field} {fuel : Nat} {cs : List Value} {y : DataW H × List MemPlace} {base : Nat} {spare : Nat → Bool} {held : Bool} (hs : P.underlying t = some (.struct #[f0, f1, f2, f3, f4, f5]))
    (hone : oneCellFields P #[f0, f1, f2, f3, f4, f5] = true) (hC : P.cellsOf t = 6) (h : DataW.trod enc P w base spare held fuel t cs = some y) :
    ∃ v0 v1 v2 v3 v4 v5 n z0 z1 z2 z3 z4 z5, cs = [v0, v1, v2, v3, v4, v5] ∧ DataW.trod enc P w base spare held n f0.type [v0] = some z0 ∧ DataW.trod enc P w base spare held n f1.type [v1] = some z1 ∧
      DataW.trod enc P w base spare held n f2.type [v2] = some z2 ∧ DataW.trod enc P w base spare held n f3.type [v3] = some z3 ∧ DataW.trod enc P w base spare held n f4.type [v4] = some z4 ∧ DataW.trod enc P w base spare held n f5.type [v5] = some z5 := by
  obtain ⟨xs, n, _, _, hlen, hxl, hf⟩ := DataW.trod_struct hs h
  rw [hC] at hlen
  obtain ⟨o0, k0⟩ := hone_of hone 0 f0 rfl
  obtain ⟨o1, k1⟩ := hone_of hone 1 f1 rfl
  obtain ⟨o2, k2⟩ := hone_of hone 2 f2 rfl
  obtain ⟨o3, k3⟩ := hone_of hone 3 f3 rfl
  obtain ⟨o4, k4⟩ := hone_of hone 4 f4 rfl
  obtain ⟨o5, k5⟩ := hone_of hone 5 f5 rfl
  obtain ⟨v0, v1, v2, v3, v4, v5, rfl⟩ := list6 hlen
  obtain ⟨z0, z1, z2, z3, z4, z5, rfl⟩ := list6 hxl
  exact ⟨v0, v1, v2, v3, v4, v5, n, z0, z1, z2, z3, z4, z5, rfl, by simpa [o0, k0] using hf 0 f0 rfl, by simpa [o1, k1] using hf 1 f1 rfl, by simpa [o2, k2] using hf 2 f2 rfl, by simpa [o3, k3] using hf 3 f3 rfl, by simpa [o4, k4] using hf 4 f4 rfl, by simpa [o5, k5] using hf 5 f5 rfl⟩

theorem cells23 : Try.prog.cellsOf 23 = 6 := by kernel_rfl

def Wide64 (x : Int) : Prop := -9223372036854775808 ≤ x ∧ x ≤ 9223372036854775807
def Byte (x : Int) : Prop := 0 ≤ x ∧ x ≤ 255

/-- Six small numbers that come in. -/
theorem small_in {r : Reach} {base : Nat} {v : Value} {d : DataW H} {p : List MemPlace} (hv : Value.okWide Try.prog w r base 23 v) (h : DataW.Trod enc Try.prog w 0 (fun _ => true) true 23 v d p) :
    ∃ x0 x1 x2 x3 x4 x5 : Int, v = .agg #[.int .u8 x0, .int .u8 x1, .int .u8 x2, .int .u8 x3, .int .u8 x4, .int .u8 x5] ∧ Byte x0 ∧ Byte x1 ∧ Byte x2 ∧ Byte x3 ∧ Byte x4 ∧ Byte x5 := by
  obtain ⟨⟨cs⟩, rfl, hsz⟩ := okWide_struct Try.underlying23 hv
  obtain ⟨fuel, hf⟩ := h
  obtain ⟨v0, v1, v2, v3, v4, v5, n, z0, z1, z2, z3, z4, z5, hcs, t0, t1, t2, t3, t4, t5⟩ := six_of Try.underlying23 (by kernel_rfl) cells23 hf
  obtain rfl : cs = _ := hcs
  obtain ⟨a0, e0, _, w0⟩ := DataW.trod_int Try.underlying5 t0
  obtain ⟨a1, e1, _, w1⟩ := DataW.trod_int Try.underlying5 t1
  obtain ⟨a2, e2, _, w2⟩ := DataW.trod_int Try.underlying5 t2
  obtain ⟨a3, e3, _, w3⟩ := DataW.trod_int Try.underlying5 t3
  obtain ⟨a4, e4, _, w4⟩ := DataW.trod_int Try.underlying5 t4
  obtain ⟨a5, e5, _, w5⟩ := DataW.trod_int Try.underlying5 t5
  injection e0 with e0
  injection e1 with e1
  injection e2 with e2
  injection e3 with e3
  injection e4 with e4
  injection e5 with e5
  subst e0 e1 e2 e3 e4 e5
  have wf : ∀ x : Int, (Lit.int IntKind.u8 x).wf = true → Byte x := by
    intro x h
    unfold Byte
    simpa [Lit.wf, IntKind.min, IntKind.max, IntKind.signed, IntKind.bits] using h
  exact ⟨a0, a1, a2, a3, a4, a5, rfl, wf _ w0, wf _ w1, wf _ w2, wf _ w3, wf _ w4, wf _ w5⟩
end

end Go.Proofs.Ytkhjeaabhjfkgaa
