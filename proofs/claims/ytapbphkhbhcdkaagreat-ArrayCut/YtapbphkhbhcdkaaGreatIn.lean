/-
  WHAT COMES IN: six small numbers by value; a slice of stripes.
-/
import Derived.Test.YtapbphkhbhcdkaaGreatAwake
import Derived.ChangeSame
import Derived.Lib.SmallJoins
import Derived.Deep.Fields
import Derived.Deep.Slices
namespace Go.Proofs.YtapbphkhbhcdkaaGreat
open Go.RowKit Go.Sort Go.Joins Go.ChangeShapes Go.WideShapes Go.ChangeAt Go.Maps Go.Deep
set_option linter.unusedVariables false
set_option maxRecDepth 100000

theorem list6 {α : Type} {cs : List α} (h : cs.length = 6) : ∃ c0 c1 c2 c3 c4 c5, cs = [c0, c1, c2, c3, c4, c5] := by
  match cs, h with
  | [c0, c1, c2, c3, c4, c5], _ => exact ⟨c0, c1, c2, c3, c4, c5, rfl⟩

section
variable {H : Type} {enc : TypeId × Value → H} {w : World}

theorem six_of {P : Program} {t : TypeId} {f0 f1 f2 f3 f4 f5 : Field} {fuel : Nat} {cs : List Value} {y : DataW H × List MemPlace} {base : Nat} {spare : Nat → Bool} {held : Bool} (hs : P.underlying t = some (.struct #[f0, f1, f2, f3, f4, f5]))
    (hone : oneCellFields P #[f0, f1, f2, f3, f4, f5] = true) (hC : P.cellsOf t = 6) (h : DataW.trod enc P w base spare held fuel t cs = some y) :
    ∃ v0 v1 v2 v3 v4 v5 n z0 z1 z2 z3 z4 z5, cs = [v0, v1, v2, v3, v4, v5] ∧ DataW.trod enc P w base spare held n f0.type [v0] = some z0 ∧ DataW.trod enc P w base spare held n f1.type [v1] = some z1 ∧
      DataW.trod enc P w base spare held n f2.type [v2] = some z2 ∧ DataW.trod enc P w base spare held n f3.type [v3] = some z3 ∧ DataW.trod enc P w base spare held n f4.type [v4] = some z4 ∧ DataW.trod enc P w base spare held n f5.type [v5] = some z5 := by
  obtain ⟨xs, n, _, _, hlen, hxl, hf⟩ := DataW.trod_struct hs h
  rw [hC] at hlen
  obtain ⟨o0, k0⟩ := hone_of hone 0 f0 rfl
  obtain ⟨o1, k1⟩ := hone_of hone 1 f1 rfl
  obtain ⟨o2, k2⟩ := hone_of hone 2 f2 rfl
  obtain ⟨o3, k3⟩ := hone_of hone 3 f3 rfl
  obtain ⟨o4, k4⟩ := hone_of hone 4 f4 rfl
  obtain ⟨o5, k5⟩ := hone_of hone 5 f5 rfl
  obtain ⟨v0, v1, v2, v3, v4, v5, rfl⟩ := list6 hlen
  obtain ⟨z0, z1, z2, z3, z4, z5, rfl⟩ := list6 hxl
  exact ⟨v0, v1, v2, v3, v4, v5, n, z0, z1, z2, z3, z4, z5, rfl, by simpa [o0, k0] using hf 0 f0 rfl, by simpa [o1, k1] using hf 1 f1 rfl, by simpa [o2, k2] using hf 2 f2 rfl, by simpa [o3, k3] using hf 3 f3 rfl, by simpa [o4, k4] using hf 4 f4 rfl, by simpa [o5, k5] using hf 5 f5 rfl⟩

theorem cells23 : Tryz.prog.cellsOf 23 = 6 := by kernel_rfl
theorem cells89 : Tryz.prog.cellsOf 26 = 2 := by kernel_rfl
def Byte (x : Int) : Prop := 0 ≤ x ∧ x ≤ 255
/-- Six small numbers that come in. -/
theorem small_in {r : Reach} {base : Nat} {v : Value} {d : DataW H} {p : List MemPlace} (hv : Value.okWide Tryz.prog w r base 23 v) (h : DataW.Trod enc Tryz.prog w 0 (fun _ => true) true 23 v d p) :
    ∃ x0 x1 x2 x3 x4 x5 : Int, v = .agg #[.int .u8 x0, .int .u8 x1, .int .u8 x2, .int .u8 x3, .int .u8 x4, .int .u8 x5] ∧ Byte x0 ∧ Byte x1 ∧ Byte x2 ∧ Byte x3 ∧ Byte x4 ∧ Byte x5 := by
  obtain ⟨⟨cs⟩, rfl, hsz⟩ := okWide_struct Tryz.underlying23 hv
  obtain ⟨fuel, hf⟩ := h
  obtain ⟨v0, v1, v2, v3, v4, v5, n, z0, z1, z2, z3, z4, z5, hcs, t0, t1, t2, t3, t4, t5⟩ := six_of Tryz.underlying23 (by kernel_rfl) cells23 hf
  obtain rfl : cs = _ := hcs
  obtain ⟨a0, e0, _, w0⟩ := DataW.trod_int Tryz.underlying5 t0
  obtain ⟨a1, e1, _, w1⟩ := DataW.trod_int Tryz.underlying5 t1
  obtain ⟨a2, e2, _, w2⟩ := DataW.trod_int Tryz.underlying5 t2
  obtain ⟨a3, e3, _, w3⟩ := DataW.trod_int Tryz.underlying5 t3
  obtain ⟨a4, e4, _, w4⟩ := DataW.trod_int Tryz.underlying5 t4
  obtain ⟨a5, e5, _, w5⟩ := DataW.trod_int Tryz.underlying5 t5
  injection e0 with e0
  injection e1 with e1
  injection e2 with e2
  injection e3 with e3
  injection e4 with e4
  injection e5 with e5
  subst e0 e1 e2 e3 e4 e5
  have wf : ∀ x : Int, (Lit.int IntKind.u8 x).wf = true → Byte x := by
    intro x h
    unfold Byte
    simpa [Lit.wf, IntKind.min, IntKind.max, IntKind.signed, IntKind.bits] using h
  exact ⟨a0, a1, a2, a3, a4, a5, rfl, wf _ w0, wf _ w1, wf _ w2, wf _ w3, wf _ w4, wf _ w5⟩

theorem two_in {P : Program} {t : TypeId} {f0 f1 : Field} {fuel : Nat} {cs : List Value} {y : DataW H × List MemPlace} {base : Nat} {spare : Nat → Bool} {held : Bool} (hs : P.underlying t = some (.struct #[f0, f1]))
    (hone : oneCellFields P #[f0, f1] = true) (hC : P.cellsOf t = 2) (h : DataW.trod enc P w base spare held fuel t cs = some y) :
    ∃ v0 v1 n z0 z1, cs = [v0, v1] ∧ DataW.trod enc P w base spare held n f0.type [v0] = some z0 ∧ DataW.trod enc P w base spare held n f1.type [v1] = some z1 := by
  obtain ⟨xs, n, _, _, hlen, hxl, hf⟩ := DataW.trod_struct hs h
  rw [hC] at hlen
  obtain ⟨o0, k0⟩ := hone_of hone 0 f0 rfl
  obtain ⟨o1, k1⟩ := hone_of hone 1 f1 rfl
  match cs, xs, hlen, hxl with
  | [v0, v1], [z0, z1], _, _ =>
    exact ⟨v0, v1, n, z0, z1, rfl, by simpa [o0, k0] using hf 0 f0 rfl, by simpa [o1, k1] using hf 1 f1 rfl⟩

theorem stripe_in {fuel : Nat} {cs : List Value} {y : DataW H × List MemPlace} {b o : Nat} (h : DataW.trod enc Tryz.prog w 0 (fun _ => true) true fuel 26 cs = some y)
    (hc : ∀ j, j < 2 → w.cell? ⟨b, o + j, none⟩ = cs[j]?) : ∃ x : BitVec 8 × BitVec 8, w.cell? ⟨b, o, none⟩ = some (val x.1) ∧ w.cell? ⟨b, o + 1, none⟩ = some (val x.2) ∧ b < w.heap.size := by
  obtain ⟨v0, v1, n, z0, z1, rfl, t0, t1⟩ := two_in Tryz.underlying26 (by kernel_rfl) cells89 h
  obtain ⟨a0, e0, _, w0⟩ := DataW.trod_int Tryz.underlying5 t0
  obtain ⟨a1, e1, _, w1⟩ := DataW.trod_int Tryz.underlying5 t1
  injection e0 with e0
  injection e1 with e1
  subst e0 e1
  have b0 : 0 ≤ a0 ∧ a0 ≤ 255 := by simpa [Lit.wf, IntKind.min, IntKind.max, IntKind.signed, IntKind.bits] using w0
  have b1 : 0 ≤ a1 ∧ a1 ≤ 255 := by simpa [Lit.wf, IntKind.min, IntKind.max, IntKind.signed, IntKind.bits] using w1
  have n0 : (((BitVec.ofNat 8 a0.toNat).toNat : Nat) : Int) = a0 := by rw [BitVec.toNat_ofNat]; omega
  have n1 : (((BitVec.ofNat 8 a1.toNat).toNat : Nat) : Int) = a1 := by rw [BitVec.toNat_ofNat]; omega
  have c0 := hc 0 (by omega)
  refine ⟨(BitVec.ofNat 8 a0.toNat, BitVec.ofNat 8 a1.toNat), ?_, ?_, World.block_lt_of_cell? w _ c0⟩
  · show w.cell? ⟨b, o, none⟩ = some (.int .u8 _)
    rw [n0]; exact c0
  · show w.cell? ⟨b, o + 1, none⟩ = some (.int .u8 _)
    rw [n1]; exact hc 1 (by omega)

theorem add_lit (b o k : Nat) : (⟨b, o, none⟩ : Addr).add k = ⟨b, o + k, none⟩ := by
  unfold Addr.add
  by_cases h : k = 0 <;> simp [h]

/-- Stripes that come in. -/
theorem stripes_in {a : Option Addr} {len cap : Nat} {d : DataW H} {p : List MemPlace} (h : DataW.Trod enc Tryz.prog w 0 (fun _ => true) true 24 (.slice a len cap) d p) : ∃ xs, St w a len xs := by
  obtain ⟨fuel, hf⟩ := h
  rcases open_slice Tryz.underlying24 hf with ⟨hcs, _⟩ | ⟨x, len', cap', m, n, D, Pl, hcs, _, hl, hm, hmm, _, hi⟩
  · simp [Value.cells] at hcs
    obtain ⟨rfl, rfl, rfl⟩ := hcs
    exact ⟨[], rfl, fun h => absurd h (by omega)⟩
  · simp [Value.cells] at hcs
    obtain ⟨rfl, rfl, rfl⟩ := hcs
    simp only [if_true] at hmm
    subst hmm
    have key : ∀ i, i < len → ∃ (y : BitVec 8 × BitVec 8), ∃ b o, x = ⟨b, o, none⟩ ∧ w.cell? ⟨b, o + i * 2, none⟩ = some (val y.1) ∧ w.cell? ⟨b, o + i * 2 + 1, none⟩ = some (val y.2) ∧ b < w.heap.size := by
      intro i hil
      obtain ⟨cs', hc, ht⟩ := hi i (by omega)
      rw [cells89] at hc
      obtain ⟨_, hcl, hat⟩ := World.cells?_some hc
      obtain ⟨b, o, spot⟩ := x
      have hs : spot = none := by
        obtain ⟨cs0, hc0, _⟩ := hi 0 (by omega)
        rw [cells89] at hc0
        obtain ⟨_, hcl0, hat0⟩ := World.cells?_some hc0
        have h0 := hat0 0 (by omega)
        rw [List.getElem?_eq_getElem (by omega)] at h0
        have := World.cell?_spot h0
        simpa [Addr.add] using this
      subst hs
      obtain ⟨y, hy⟩ := stripe_in (b := b) (o := o + i * 2) ht (fun j hj => by have := hat j hj; rw [add_lit, add_lit] at this; exact this)
      exact ⟨y, b, o, rfl, hy⟩
    rcases Nat.eq_zero_or_pos len with h0 | h0
    · subst h0
      exact ⟨[], rfl, fun h => absurd h (by omega)⟩
    · obtain ⟨_, b, o, rfl, _, _, hblt⟩ := key 0 h0
      have key2 : ∀ k, k ≤ len → ∃ L : List (BitVec 8 × BitVec 8), L.length = k ∧ ∀ i (h : i < L.length), w.cell? ⟨b, o + i * 2, none⟩ = some (val L[i].1) ∧ w.cell? ⟨b, o + i * 2 + 1, none⟩ = some (val L[i].2) := by
        intro k
        induction k with
        | zero => exact fun _ => ⟨[], rfl, fun i h => absurd h (by simp)⟩
        | succ k ih =>
          intro hk
          obtain ⟨L, hL, hat⟩ := ih (by omega)
          obtain ⟨y, b', o', e, hy1, hy2, _⟩ := key k (by omega)
          injection e with e1 e2
          subst e1 e2
          refine ⟨L ++ [y], by simp [hL], fun i h => ?_⟩
          rcases Nat.lt_or_ge i L.length with h' | h'
          · rw [List.getElem_append_left h']
            exact hat i h'
          · have e : i = L.length := by simp at h; omega
            subst e
            rw [List.getElem_append_right (Nat.le_refl _)]
            simpa [hL] using And.intro hy1 hy2
      obtain ⟨L, hL, hat⟩ := key2 len (Nat.le_refl _)
      exact ⟨L, hL, fun _ => ⟨b, o, rfl, hblt, hat⟩⟩
theorem byte_bv {a : Int} (h : Byte a) : a = ((BitVec.ofNat 8 a.toNat).toNat : Int) := by
  unfold Byte at h
  rw [BitVec.toNat_ofNat]
  omega
end

end Go.Proofs.YtapbphkhbhcdkaaGreat
