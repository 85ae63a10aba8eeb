/-
  A STRIPE THAT COMES IN BY VALUE; THE WALK OF ArrayCut FOR ANY NUMBER keep.
-/
import Derived.Test.YtapbphkhbhcdkaaGreatArrayCutWalk
namespace Go.Proofs.YtapbphkhbhcdkaaGreat
open Go.RowKit Go.Sort Go.Joins Go.ChangeShapes Go.WideShapes Go.ChangeAt Go.Maps Go.Deep
set_option linter.unusedVariables false
set_option maxRecDepth 100000

section
variable {H : Type} {enc : TypeId × Value → H} {w : World}
theorem last_in {r : Reach} {base : Nat} {v : Value} {d : DataW H} {p : List MemPlace} (hv : Value.okWide Tryz.prog w r base 26 v) (h : DataW.Trod enc Tryz.prog w 0 (fun _ => true) true 26 v d p) :
    ∃ x f : BitVec 8, v = .agg #[val x, val f] := by
  obtain ⟨⟨cs⟩, rfl, hsz⟩ := okWide_struct Tryz.underlying26 hv
  obtain ⟨fuel, hf⟩ := h
  obtain ⟨v0, v1, n, z0, z1, hcs, t0, t1⟩ := two_in Tryz.underlying26 (by kernel_rfl) cells89 hf
  obtain rfl : cs = _ := hcs
  obtain ⟨a0, e0, _, w0⟩ := DataW.trod_int Tryz.underlying5 t0
  obtain ⟨a1, e1, _, w1⟩ := DataW.trod_int Tryz.underlying5 t1
  injection e0 with e0
  injection e1 with e1
  subst e0 e1
  have b0 : 0 ≤ a0 ∧ a0 ≤ 255 := by simpa [Lit.wf, IntKind.min, IntKind.max, IntKind.signed, IntKind.bits] using w0
  have b1 : 0 ≤ a1 ∧ a1 ≤ 255 := by simpa [Lit.wf, IntKind.min, IntKind.max, IntKind.signed, IntKind.bits] using w1
  have n0 : (((BitVec.ofNat 8 a0.toNat).toNat : Nat) : Int) = a0 := by rw [BitVec.toNat_ofNat]; omega
  have n1 : (((BitVec.ofNat 8 a1.toNat).toNat : Nat) : Int) = a1 := by rw [BitVec.toNat_ofNat]; omega
  refine ⟨BitVec.ofNat 8 a0.toNat, BitVec.ofNat 8 a1.toNat, ?_⟩
  unfold val
  rw [n0, n1]
end

theorem cut_walk2 (x0 x1 x2 x3 x4 x5 : Int) (A : Option Addr) (n c : Nat) (xs : List (BitVec 8 × BitVec 8)) {w : World} (hst : St w A n xs) (x f : BitVec 8) (ops keep : Int) (h0 : 0 ≤ x0 ∧ x0 ≤ 255) (h1 : 0 ≤ x1 ∧ x1 ≤ 255) (h2 : 0 ≤ x2 ∧ x2 ≤ 255) (h3 : 0 ≤ x3 ∧ x3 ≤ 255) (h4 : 0 ≤ x4 ∧ x4 ≤ 255) (h5 : 0 ≤ x5 ∧ x5 ≤ 255) (ho : 0 ≤ ops ∧ ops ≤ 255) (hk : 0 ≤ keep ∧ keep ≤ 18446744073709551615) :
    Calls Tryz.prog 3 #[.agg #[.int .u8 x0, .int .u8 x1, .int .u8 x2, .int .u8 x3, .int .u8 x4, .int .u8 x5], .slice A n c, .agg #[val x, val f], .int .u8 ops, .int .u64 keep] w fun e w' => e = .returned (.bool true) ∧ Below w.heap.size w w' := by
  obtain ⟨k, rfl⟩ : ∃ k : Nat, keep = (k : Int) := ⟨keep.toNat, by omega⟩
  exact cut_walk x0 x1 x2 x3 x4 x5 A n c xs hst x f ops k h0 h1 h2 h3 h4 h5 ho (by omega)
end Go.Proofs.YtapbphkhbhcdkaaGreat
