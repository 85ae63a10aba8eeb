/-
  WHAT COMES IN: a slice of slots, bytes; with their room.
-/
import Derived.Test.YtmdgnglefikpjaaMake
import Derived.Deep.Slices
import Derived.Deep.Fields
import Derived.ChangeSame
namespace Go.Proofs.Ytmdgnglefikpjaa
open Go.RowKit
set_option linter.unusedVariables false
set_option maxRecDepth 100000

theorem in_u8 {x : Int} (h : (Lit.int .u8 x).wf = true) : 0 ≤ x ∧ x ≤ 255 := by simpa [Lit.wf, IntKind.min, IntKind.max, IntKind.signed, IntKind.bits] using h
theorem in_u16 {x : Int} (h : (Lit.int .u16 x).wf = true) : 0 ≤ x ∧ x ≤ 65535 := by simpa [Lit.wf, IntKind.min, IntKind.max, IntKind.signed, IntKind.bits] using h
theorem in_u64 {x : Int} (h : (Lit.int .u64 x).wf = true) : 0 ≤ x ∧ x ≤ 18446744073709551615 := by simpa [Lit.wf, IntKind.min, IntKind.max, IntKind.signed, IntKind.bits] using h
theorem in_i8 {x : Int} (h : (Lit.int .i8 x).wf = true) : -128 ≤ x ∧ x ≤ 127 := by simpa [Lit.wf, IntKind.min, IntKind.max, IntKind.signed, IntKind.bits] using h
theorem in_i64 {x : Int} (h : (Lit.int .i64 x).wf = true) : -9223372036854775808 ≤ x ∧ x ≤ 9223372036854775807 := by simpa [Lit.wf, IntKind.min, IntKind.max, IntKind.signed, IntKind.bits] using h

/-- A slot lies at (b, o). -/
structure Sl.At (x : Sl) (w : World) (b o : Nat) : Prop where
  c0 : w.cell? ⟨b, o, none⟩ = some (.int .u8 (x.k : Int))
  c1 : w.cell? ⟨b, o + 1, none⟩ = some (.int .u32 (x.b : Int))
  kk : x.k < 256
  bb : x.b < 4294967296
  lt : b < w.heap.size
/-- A slice of slots that came in. -/
def Ins (w : World) (a : Option Addr) (len cap : Nat) (L : List Sl) : Prop := Sls w a len L ∧ len ≤ cap ∧ cap ≤ maxLen
def Inb (w : World) (a : Option Addr) (len cap : Nat) (l : List (BitVec 8)) : Prop := Has w a len l ∧ len ≤ cap ∧ cap ≤ maxLen
section
open Go.ChangeShapes Go.WideShapes Go.Deep
variable {H : Type} {enc : TypeId × Value → H} {w : World}
theorem cells5 : Try.prog.cellsOf 5 = 1 := by kernel_rfl
theorem cells45 : Try.prog.cellsOf 45 = 2 := by kernel_rfl
theorem bytes_in {a : Option Addr} {len cap : Nat} {d : DataW H} {p : List MemPlace} (h : DataW.Trod enc Try.prog w 0 (fun _ => true) true 30 (.slice a len cap) d p) : ∃ l, Inb w a len cap l := by
  obtain ⟨fuel, hf⟩ := h
  rcases open_ints Try.underlying30 Try.underlying5 cells5 hf with ⟨hcs, _⟩ | ⟨x, l, c, zs, hcs, _, hl, hm, hz, _, hcell, hwz⟩
  · simp [Value.cells] at hcs
    obtain ⟨rfl, rfl, rfl⟩ := hcs
    exact ⟨[], Has.nil _ _, Nat.le_refl _, by unfold maxLen; omega⟩
  · simp [Value.cells] at hcs
    obtain ⟨rfl, rfl, rfl⟩ := hcs
    exact ⟨_, Has.of_row hl (by simpa using hz) hcell hwz, hl, hm⟩
theorem two_in {P : Program} {t : TypeId} {f0 f1 : Field} {fuel : Nat} {cs : List Value} {y : DataW H × List MemPlace} {base : Nat} {spare : Nat → Bool} {held : Bool} (hs : P.underlying t = some (.struct #[f0, f1]))
    (hone : oneCellFields P #[f0, f1] = true) (hC : P.cellsOf t = 2) (h : DataW.trod enc P w base spare held fuel t cs = some y) :
    ∃ v0 v1 n z0 z1, cs = [v0, v1] ∧ DataW.trod enc P w base spare held n f0.type [v0] = some z0 ∧ DataW.trod enc P w base spare held n f1.type [v1] = some z1 := by
  obtain ⟨xs, n, _, _, hlen, hxl, hf⟩ := DataW.trod_struct hs h
  rw [hC] at hlen
  obtain ⟨o0, k0⟩ := hone_of hone 0 f0 rfl
  obtain ⟨o1, k1⟩ := hone_of hone 1 f1 rfl
  match cs, xs, hlen, hxl with
  | [v0, v1], [z0, z1], _, _ =>
    exact ⟨v0, v1, n, z0, z1, rfl, by simpa [o0, k0] using hf 0 f0 rfl, by simpa [o1, k1] using hf 1 f1 rfl⟩
theorem slot_in {fuel : Nat} {cs : List Value} {y : DataW H × List MemPlace} {b o : Nat} (h : DataW.trod enc Try.prog w 0 (fun _ => true) true fuel 45 cs = some y)
    (hc : ∀ j, j < 2 → w.cell? ⟨b, o + j, none⟩ = cs[j]?) : ∃ x : Sl, x.At w b o := by
  obtain ⟨v0, v1, n, z0, z1, rfl, t0, t1⟩ := two_in Try.underlying45 (by kernel_rfl) cells45 h
  obtain ⟨a0, e0, _, w0⟩ := DataW.trod_int Try.underlying5 t0
  obtain ⟨a1, e1, _, w1⟩ := DataW.trod_int Try.underlying43 t1
  injection e0 with e0
  injection e1 with e1
  subst e0 e1
  have b0 : 0 ≤ a0 ∧ a0 ≤ 255 := by simpa [Lit.wf, IntKind.min, IntKind.max, IntKind.signed, IntKind.bits] using w0
  have b1 : 0 ≤ a1 ∧ a1 ≤ 4294967295 := by simpa [Lit.wf, IntKind.min, IntKind.max, IntKind.signed, IntKind.bits] using w1
  have c0 := hc 0 (by omega)
  obtain ⟨k, rfl⟩ := Int.eq_ofNat_of_zero_le b0.1
  obtain ⟨q, rfl⟩ := Int.eq_ofNat_of_zero_le b1.1
  exact ⟨⟨k, q⟩, ⟨c0, hc 1 (by omega), by show k < 256; omega, by show q < _; omega, World.block_lt_of_cell? w _ c0⟩⟩
theorem add_lit (b o k : Nat) : (⟨b, o, none⟩ : Addr).add k = ⟨b, o + k, none⟩ := by
  unfold Addr.add
  by_cases h : k = 0 <;> simp [h]

/-- The slots that came in. -/
theorem slots_in {a : Option Addr} {len cap : Nat} {d : DataW H} {p : List MemPlace} (h : DataW.Trod enc Try.prog w 0 (fun _ => true) true 24 (.slice a len cap) d p) : ∃ L, Ins w a len cap L := by
  obtain ⟨fuel, hf⟩ := h
  rcases open_slice Try.underlying24 hf with ⟨hcs, _⟩ | ⟨x, len', cap', m, n, D, Pl, hcs, _, hl, hm, hmm, _, hi⟩
  · simp [Value.cells] at hcs
    obtain ⟨rfl, rfl, rfl⟩ := hcs
    exact ⟨[], ⟨rfl, fun h => absurd h (by omega), fun x hx => (by cases hx)⟩, Nat.le_refl _, by unfold maxLen; omega⟩
  · simp [Value.cells] at hcs
    obtain ⟨rfl, rfl, rfl⟩ := hcs
    simp only [if_true] at hmm
    subst hmm
    have key : ∀ i, i < len → ∃ (y : Sl), ∃ b o, x = ⟨b, o, none⟩ ∧ y.At w b (o + i * 2) := by
      intro i hil
      obtain ⟨cs', hc, ht⟩ := hi i (by omega)
      rw [cells45] at hc
      obtain ⟨_, hcl, hat⟩ := World.cells?_some hc
      obtain ⟨b, o, spot⟩ := x
      have hs : spot = none := by
        obtain ⟨cs0, hc0, _⟩ := hi 0 (by omega)
        rw [cells45] at hc0
        obtain ⟨_, hcl0, hat0⟩ := World.cells?_some hc0
        have h0 := hat0 0 (by omega)
        rw [List.getElem?_eq_getElem (by omega)] at h0
        have := World.cell?_spot h0
        simpa [Addr.add] using this
      subst hs
      obtain ⟨y, hy⟩ := slot_in (b := b) (o := o + i * 2) ht (fun j hj => by have := hat j hj; rw [add_lit, add_lit] at this; exact this)
      exact ⟨y, b, o, rfl, hy⟩
    rcases Nat.eq_zero_or_pos len with h0 | h0
    · subst h0
      exact ⟨[], ⟨rfl, fun h => absurd h (by omega), fun x hx => (by cases hx)⟩, hl, hm⟩
    · obtain ⟨_, b, o, rfl, _⟩ := key 0 h0
      have key2 : ∀ k, k ≤ len → ∃ L : List Sl, L.length = k ∧ ∀ i (h : i < L.length), L[i].At w b (o + i * 2) := by
        intro k
        induction k with
        | zero => exact fun _ => ⟨[], rfl, fun i h => absurd h (by simp)⟩
        | succ k ih =>
          intro hk
          obtain ⟨L, hL, hat⟩ := ih (by omega)
          obtain ⟨y, b', o', e, hy⟩ := key k (by omega)
          injection e with e1 e2
          subst e1 e2
          refine ⟨L ++ [y], by simp [hL], fun i h => ?_⟩
          by_cases hik : i < L.length
          · rw [List.getElem_append_left hik]
            exact hat i hik
          · have hik' : i = k := by simp at h; omega
            subst hik'
            rw [List.getElem_append_right (by omega)]
            simpa [hL] using hy
      obtain ⟨L, hL, hat⟩ := key2 len (Nat.le_refl _)
      refine ⟨L, ⟨hL, fun _ => ⟨b, o, rfl, (hat 0 (by omega)).lt, fun k hk => ⟨(hat k hk).c0, (hat k hk).c1⟩⟩, fun x hx => ?_⟩, hl, hm⟩
      obtain ⟨i, hi', rfl⟩ := List.getElem_of_mem hx
      exact ⟨(hat i hi').kk, (hat i hi').bb⟩
end
end Go.Proofs.Ytmdgnglefikpjaa
