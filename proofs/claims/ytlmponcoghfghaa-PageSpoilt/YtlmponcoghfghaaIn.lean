/-
  WHAT COMES IN: shapes, small numbers, images, images by small numbers, what is turned.
-/
import Derived.Test.YtlmponcoghfghaaAwake
import Derived.Deep.Slices
import Derived.Deep.Fields
import Derived.ChangeSame
import Derived.Lib.SmallJoins
namespace Go.Proofs.Ytlmponcoghfghaa
open Go.RowKit
set_option linter.unusedVariables false
set_option maxRecDepth 100000

theorem in_u8 {x : Int} (h : (Lit.int .u8 x).wf = true) : 0 ≤ x ∧ x ≤ 255 := by simpa [Lit.wf, IntKind.min, IntKind.max, IntKind.signed, IntKind.bits] using h
theorem in_u16 {x : Int} (h : (Lit.int .u16 x).wf = true) : 0 ≤ x ∧ x ≤ 65535 := by simpa [Lit.wf, IntKind.min, IntKind.max, IntKind.signed, IntKind.bits] using h
theorem in_u64 {x : Int} (h : (Lit.int .u64 x).wf = true) : 0 ≤ x ∧ x ≤ 18446744073709551615 := by simpa [Lit.wf, IntKind.min, IntKind.max, IntKind.signed, IntKind.bits] using h
theorem in_i8 {x : Int} (h : (Lit.int .i8 x).wf = true) : -128 ≤ x ∧ x ≤ 127 := by simpa [Lit.wf, IntKind.min, IntKind.max, IntKind.signed, IntKind.bits] using h
theorem in_i64 {x : Int} (h : (Lit.int .i64 x).wf = true) : -9223372036854775808 ≤ x ∧ x ≤ 9223372036854775807 := by simpa [Lit.wf, IntKind.min, IntKind.max, IntKind.signed, IntKind.bits] using h

/-- A cell lies at (b, o). -/
structure Sg.At (x : Sg) (w : World) (b o : Nat) : Prop where
  c0 : w.cell? ⟨b, o, none⟩ = some (.int .u8 (x.st : Int))
  c1 : w.cell? ⟨b, o + 1, none⟩ = some (.int .u64 (x.bo : Int))
  ft : x.fits
  lt : b < w.heap.size
section
open Go.ChangeShapes Go.WideShapes Go.Deep
variable {H : Type} {enc : TypeId × Value → H} {w : World}
theorem cells5 : Try.prog.cellsOf 5 = 1 := by kernel_rfl
theorem cells3 : Try.prog.cellsOf 3 = 1 := by kernel_rfl
theorem cells4 : Try.prog.cellsOf 4 = 1 := by kernel_rfl
theorem cells24 : Try.prog.cellsOf 24 = 1 := by kernel_rfl
theorem cells25 : Try.prog.cellsOf 25 = 1 := by kernel_rfl
theorem cells26 : Try.prog.cellsOf 26 = 1 := by kernel_rfl
theorem cells27 : Try.prog.cellsOf 27 = 1 := by kernel_rfl
theorem cells34 : Try.prog.cellsOf 34 = 1 := by kernel_rfl
theorem cells35 : Try.prog.cellsOf 35 = 1 := by kernel_rfl
theorem cells56 : Try.prog.cellsOf 56 = 1 := by kernel_rfl
theorem cells60 : Try.prog.cellsOf 60 = 2 := by kernel_rfl
theorem cells23 : Try.prog.cellsOf 23 = 6 := by kernel_rfl
theorem cells32 : Try.prog.cellsOf 32 = 6 := by kernel_rfl
theorem cells37 : Try.prog.cellsOf 37 = 5 := by kernel_rfl
theorem cells29 : Try.prog.cellsOf 29 = 5 := by kernel_rfl
theorem cells49 : Try.prog.cellsOf 49 = 5 := by kernel_rfl
theorem list6 {α : Type} {cs : List α} (h : cs.length = 6) : ∃ c0 c1 c2 c3 c4 c5, cs = [c0, c1, c2, c3, c4, c5] := by
  match cs, h with
  | [c0, c1, c2, c3, c4, c5], _ => exact ⟨c0, c1, c2, c3, c4, c5, rfl⟩
theorem list5 {α : Type} {cs : List α} (h : cs.length = 5) : ∃ c0 c1 c2 c3 c4, cs = [c0, c1, c2, c3, c4] := by
  match cs, h with
  | [c0, c1, c2, c3, c4], _ => exact ⟨c0, c1, c2, c3, c4, rfl⟩
/-- One field of a struct. -/
theorem field_in {t : TypeId} {fs : Array Field} {fuel : Nat} {cs : List Value} {y : DataW H × List MemPlace} (hs : Try.prog.underlying t = some (.struct fs)) (h : DataW.trod enc Try.prog w 0 (fun _ => true) true fuel t cs = some y)
    (j : Nat) (f : Field) (hj : fs[j]? = some f) (k : Nat) (hk : Try.prog.cellsOf f.type = k) : ∃ n z, DataW.trod enc Try.prog w 0 (fun _ => true) true n f.type ((cs.drop f.offset).take k) = some z := by
  obtain ⟨xs, n, _, _, hlen, hxl, hf⟩ := DataW.trod_struct hs h
  have hjl : j < xs.length := by rw [hxl]; exact (Array.getElem?_eq_some_iff.1 hj).1
  have h1 := hf j f hj
  rw [hk, List.getElem?_eq_getElem hjl] at h1
  exact ⟨n, _, h1⟩
theorem len_in {t : TypeId} {fs : Array Field} {fuel : Nat} {cs : List Value} {y : DataW H × List MemPlace} {k : Nat} (hs : Try.prog.underlying t = some (.struct fs)) (hk : Try.prog.cellsOf t = k) (h : DataW.trod enc Try.prog w 0 (fun _ => true) true fuel t cs = some y) : cs.length = k := by
  obtain ⟨xs, n, _, _, hlen, _⟩ := DataW.trod_struct hs h
  rw [hk] at hlen
  exact hlen
theorem i64_in {n : Nat} {v : Value} {z : DataW H × List MemPlace} (h : DataW.trod enc Try.prog w 0 (fun _ => true) true n 3 [v] = some z) : ∃ a, v = .int .i64 a := by
  obtain ⟨a, e, _⟩ := DataW.trod_int Try.underlying3 h
  injection e with e
  exact ⟨a, e⟩
theorem u64_in {n : Nat} {v : Value} {z : DataW H × List MemPlace} (h : DataW.trod enc Try.prog w 0 (fun _ => true) true n 24 [v] = some z) : ∃ a : Nat, v = .int .u64 (a : Int) ∧ a < 18446744073709551616 := by
  obtain ⟨a, e, _, wf⟩ := DataW.trod_int Try.underlying24 h
  injection e with e
  have hb := in_u64 wf
  exact ⟨a.toNat, by rw [e]; congr 1; omega, by omega⟩
theorem i8_in {n : Nat} {v : Value} {z : DataW H × List MemPlace} (h : DataW.trod enc Try.prog w 0 (fun _ => true) true n 25 [v] = some z) : ∃ a : Int, v = .int .i8 a ∧ -128 ≤ a ∧ a ≤ 127 := by
  obtain ⟨a, e, _, wf⟩ := DataW.trod_int Try.underlying25 h
  injection e with e
  exact ⟨a, e, in_i8 wf⟩
theorem u8_in {n : Nat} {v : Value} {z : DataW H × List MemPlace} (h : DataW.trod enc Try.prog w 0 (fun _ => true) true n 5 [v] = some z) : ∃ a : Nat, v = .int .u8 (a : Int) ∧ a < 256 := by
  obtain ⟨a, e, _, wf⟩ := DataW.trod_int Try.underlying5 h
  injection e with e
  have hb := in_u8 wf
  exact ⟨a.toNat, by rw [e]; congr 1; omega, by omega⟩
theorem bool_in {n : Nat} {v : Value} {z : DataW H × List MemPlace} (h : DataW.trod enc Try.prog w 0 (fun _ => true) true n 4 [v] = some z) : ∃ a : Bool, v = .bool a := by
  obtain ⟨a, e, _⟩ := DataW.trod_bool Try.underlying4 h
  injection e with e
  exact ⟨a, e⟩
theorem add_lit (b o k : Nat) : (⟨b, o, none⟩ : Addr).add k = ⟨b, o + k, none⟩ := by
  unfold Addr.add
  by_cases h : k = 0 <;> simp [h]
theorem slice_in {t e : TypeId} (ht : Try.prog.underlying t = some (.slice e)) {n : Nat} {v : Value} {z : DataW H × List MemPlace} (h : DataW.trod enc Try.prog w 0 (fun _ => true) true n t [v] = some z) : ∃ A len c, v = .slice A len c := by
  rcases open_slice ht h with ⟨hcs, _⟩ | ⟨x, len', cap', m, n, D, Pl, hcs, _⟩
  · injection hcs with hcs; exact ⟨_, _, _, hcs⟩
  · injection hcs with hcs; exact ⟨_, _, _, hcs⟩
/-- A shape that comes in. -/
theorem shape_in {r : Reach} {base : Nat} {v : Value} {d : DataW H} {p : List MemPlace} (hv : Value.okWide Try.prog w r base 32 v) (h : DataW.Trod enc Try.prog w 0 (fun _ => true) true 32 v d p) : ∃ m b g s n l : Int, v = sv m b g s n l := by
  obtain ⟨⟨cs⟩, rfl, hsz⟩ := okWide_struct Try.underlying32 hv
  obtain ⟨fuel, hf⟩ := h
  have hf : DataW.trod enc Try.prog w 0 (fun _ => true) true fuel 32 cs = some _ := hf
  obtain ⟨v0, v1, v2, v3, v4, v5, rfl⟩ := list6 (len_in Try.underlying32 cells32 hf)
  obtain ⟨_, _, t0⟩ := field_in Try.underlying32 hf 0 _ rfl 1 cells3
  obtain ⟨_, _, t1⟩ := field_in Try.underlying32 hf 1 _ rfl 1 cells3
  obtain ⟨_, _, t2⟩ := field_in Try.underlying32 hf 2 _ rfl 1 cells3
  obtain ⟨_, _, t3⟩ := field_in Try.underlying32 hf 3 _ rfl 1 cells3
  obtain ⟨_, _, t4⟩ := field_in Try.underlying32 hf 4 _ rfl 1 cells3
  obtain ⟨_, _, t5⟩ := field_in Try.underlying32 hf 5 _ rfl 1 cells3
  obtain ⟨a0, rfl⟩ := i64_in t0
  obtain ⟨a1, rfl⟩ := i64_in t1
  obtain ⟨a2, rfl⟩ := i64_in t2
  obtain ⟨a3, rfl⟩ := i64_in t3
  obtain ⟨a4, rfl⟩ := i64_in t4
  obtain ⟨a5, rfl⟩ := i64_in t5
  exact ⟨a0, a1, a2, a3, a4, a5, rfl⟩
/-- Six small numbers that come in. -/
theorem small_in {r : Reach} {base : Nat} {v : Value} {d : DataW H} {p : List MemPlace} (hv : Value.okWide Try.prog w r base 23 v) (h : DataW.Trod enc Try.prog w 0 (fun _ => true) true 23 v d p) : ∃ x0 x1 x2 x3 x4 x5 : Int, v = sm x0 x1 x2 x3 x4 x5 ∧ Byte x0 ∧ Byte x1 ∧ Byte x2 ∧ Byte x3 ∧ Byte x4 ∧ Byte x5 := by
  obtain ⟨⟨cs⟩, rfl, hsz⟩ := okWide_struct Try.underlying23 hv
  obtain ⟨fuel, hf⟩ := h
  have hf : DataW.trod enc Try.prog w 0 (fun _ => true) true fuel 23 cs = some _ := hf
  obtain ⟨v0, v1, v2, v3, v4, v5, rfl⟩ := list6 (len_in Try.underlying23 cells23 hf)
  obtain ⟨_, _, t0⟩ := field_in Try.underlying23 hf 0 _ rfl 1 cells5
  obtain ⟨_, _, t1⟩ := field_in Try.underlying23 hf 1 _ rfl 1 cells5
  obtain ⟨_, _, t2⟩ := field_in Try.underlying23 hf 2 _ rfl 1 cells5
  obtain ⟨_, _, t3⟩ := field_in Try.underlying23 hf 3 _ rfl 1 cells5
  obtain ⟨_, _, t4⟩ := field_in Try.underlying23 hf 4 _ rfl 1 cells5
  obtain ⟨_, _, t5⟩ := field_in Try.underlying23 hf 5 _ rfl 1 cells5
  obtain ⟨a0, rfl, h0⟩ := u8_in t0
  obtain ⟨a1, rfl, h1⟩ := u8_in t1
  obtain ⟨a2, rfl, h2⟩ := u8_in t2
  obtain ⟨a3, rfl, h3⟩ := u8_in t3
  obtain ⟨a4, rfl, h4⟩ := u8_in t4
  obtain ⟨a5, rfl, h5⟩ := u8_in t5
  exact ⟨a0, a1, a2, a3, a4, a5, rfl, ⟨by omega, by omega⟩, ⟨by omega, by omega⟩, ⟨by omega, by omega⟩, ⟨by omega, by omega⟩, ⟨by omega, by omega⟩, ⟨by omega, by omega⟩⟩
/-- An image that comes in. -/
theorem image_in {r : Reach} {base : Nat} {v : Value} {d : DataW H} {p : List MemPlace} (hv : Value.okWide Try.prog w r base 37 v) (h : DataW.Trod enc Try.prog w 0 (fun _ => true) true 37 v d p) : ∃ (q : Nat) (sg ix : Int) (A : Option Addr) (na c : Nat) (B : Option Addr) (nb e : Nat), v = .agg #[.int .u64 (q : Int), .int .i64 sg, .int .i64 ix, .slice A na c, .slice B nb e] := by
  obtain ⟨⟨cs⟩, rfl, hsz⟩ := okWide_struct Try.underlying37 hv
  obtain ⟨fuel, hf⟩ := h
  have hf : DataW.trod enc Try.prog w 0 (fun _ => true) true fuel 37 cs = some _ := hf
  obtain ⟨v0, v1, v2, v3, v4, rfl⟩ := list5 (len_in Try.underlying37 cells37 hf)
  obtain ⟨_, _, t0⟩ := field_in Try.underlying37 hf 0 _ rfl 1 cells24
  obtain ⟨_, _, t1⟩ := field_in Try.underlying37 hf 1 _ rfl 1 cells3
  obtain ⟨_, _, t2⟩ := field_in Try.underlying37 hf 2 _ rfl 1 cells3
  obtain ⟨_, _, t3⟩ := field_in Try.underlying37 hf 3 _ rfl 1 cells34
  obtain ⟨_, _, t4⟩ := field_in Try.underlying37 hf 4 _ rfl 1 cells35
  obtain ⟨a0, rfl, h0⟩ := u64_in t0
  obtain ⟨a1, rfl⟩ := i64_in t1
  obtain ⟨a2, rfl⟩ := i64_in t2
  obtain ⟨A, na, c, rfl⟩ := slice_in Try.underlying34 t3
  obtain ⟨B, nb, e, rfl⟩ := slice_in Try.underlying35 t4
  exact ⟨a0, a1, a2, A, na, c, B, nb, e, rfl⟩
/-- What is turned. -/
theorem spoil_in {r : Reach} {base : Nat} {v : Value} {d : DataW H} {p : List MemPlace} (hv : Value.okWide Try.prog w r base 49 v) (h : DataW.Trod enc Try.prog w 0 (fun _ => true) true 49 v d p) : ∃ (pg at_ by_ wh : Nat) (se : Bool), v = .agg #[.int .u8 (pg : Int), .int .u8 (at_ : Int), .int .u8 (by_ : Int), .int .u8 (wh : Int), .bool se] ∧ pg < 256 ∧ at_ < 256 ∧ by_ < 256 ∧ wh < 256 := by
  obtain ⟨⟨cs⟩, rfl, hsz⟩ := okWide_struct Try.underlying49 hv
  obtain ⟨fuel, hf⟩ := h
  have hf : DataW.trod enc Try.prog w 0 (fun _ => true) true fuel 49 cs = some _ := hf
  obtain ⟨v0, v1, v2, v3, v4, rfl⟩ := list5 (len_in Try.underlying49 cells49 hf)
  obtain ⟨_, _, t0⟩ := field_in Try.underlying49 hf 0 _ rfl 1 cells5
  obtain ⟨_, _, t1⟩ := field_in Try.underlying49 hf 1 _ rfl 1 cells5
  obtain ⟨_, _, t2⟩ := field_in Try.underlying49 hf 2 _ rfl 1 cells5
  obtain ⟨_, _, t3⟩ := field_in Try.underlying49 hf 3 _ rfl 1 cells5
  obtain ⟨_, _, t4⟩ := field_in Try.underlying49 hf 4 _ rfl 1 cells4
  obtain ⟨a0, rfl, h0⟩ := u8_in t0
  obtain ⟨a1, rfl, h1⟩ := u8_in t1
  obtain ⟨a2, rfl, h2⟩ := u8_in t2
  obtain ⟨a3, rfl, h3⟩ := u8_in t3
  obtain ⟨a4, rfl⟩ := bool_in t4
  exact ⟨a0, a1, a2, a3, a4, rfl, h0, h1, h2, h3⟩
/-- A slice that comes in, whatever it holds. -/
theorem lines_in {a : Option Addr} {len cap : Nat} {d : DataW H} {p : List MemPlace} (h : DataW.Trod enc Try.prog w 0 (fun _ => true) true 39 (.slice a len cap) d p) : ∃ x : Unit, True := ⟨(), trivial⟩
theorem two_in {P : Program} {t : TypeId} {f0 f1 : Field} {fuel : Nat} {cs : List Value} {y : DataW H × List MemPlace} {base : Nat} {spare : Nat → Bool} {held : Bool} (hs : P.underlying t = some (.struct #[f0, f1]))
    (hone : oneCellFields P #[f0, f1] = true) (hC : P.cellsOf t = 2) (h : DataW.trod enc P w base spare held fuel t cs = some y) :
    ∃ v0 v1 n z0 z1, cs = [v0, v1] ∧ DataW.trod enc P w base spare held n f0.type [v0] = some z0 ∧ DataW.trod enc P w base spare held n f1.type [v1] = some z1 := by
  obtain ⟨xs, n, _, _, hlen, hxl, hf⟩ := DataW.trod_struct hs h
  rw [hC] at hlen
  obtain ⟨o0, k0⟩ := hone_of hone 0 f0 rfl
  obtain ⟨o1, k1⟩ := hone_of hone 1 f1 rfl
  match cs, xs, hlen, hxl with
  | [v0, v1], [z0, z1], _, _ =>
    exact ⟨v0, v1, n, z0, z1, rfl, by simpa [o0, k0] using hf 0 f0 rfl, by simpa [o1, k1] using hf 1 f1 rfl⟩
theorem cell_in {fuel : Nat} {cs : List Value} {y : DataW H × List MemPlace} {b o : Nat} (h : DataW.trod enc Try.prog w 0 (fun _ => true) true fuel 60 cs = some y)
    (hc : ∀ j, j < 2 → w.cell? ⟨b, o + j, none⟩ = cs[j]?) : ∃ x : Sg, x.At w b o := by
  obtain ⟨v0, v1, n, z0, z1, rfl, t0, t1⟩ := two_in Try.underlying60 (by kernel_rfl) cells60 h
  obtain ⟨a0, e0, h0⟩ := u8_in t0
  obtain ⟨a1, e1, h1⟩ := u64_in t1
  subst e0 e1
  have c0 := hc 0 (by omega)
  exact ⟨⟨a0, a1⟩, ⟨c0, hc 1 (by omega), ⟨h0, h1⟩, World.block_lt_of_cell? w _ c0⟩⟩
/-- The cells that came in. -/
theorem cells_in {fuel : Nat} {v : Value} {y : DataW H × List MemPlace} (h : DataW.trod enc Try.prog w 0 (fun _ => true) true fuel 26 [v] = some y) : ∃ a len cap L, v = .slice a len cap ∧ Cls w a len L := by
  rcases open_slice Try.underlying26 h with ⟨hcs, _⟩ | ⟨x, len, cap, m, n, D, Pl, hcs, _, hl, hm, hmm, _, hi⟩
  · injection hcs with hcs
    exact ⟨_, _, _, [], hcs, ⟨rfl, fun h => absurd h (by omega), fun x hx => (by cases hx)⟩⟩
  · injection hcs with hcs
    subst hcs
    simp only [if_true] at hmm
    subst hmm
    have key : ∀ i, i < len → ∃ (y : Sg), ∃ b o, x = ⟨b, o, none⟩ ∧ y.At w b (o + i * 2) := by
      intro i hil
      obtain ⟨cs', hc, ht⟩ := hi i (by omega)
      rw [cells60] at hc
      obtain ⟨_, hcl, hat⟩ := World.cells?_some hc
      obtain ⟨b, o, spot⟩ := x
      have hs : spot = none := by
        obtain ⟨cs0, hc0, _⟩ := hi 0 (by omega)
        rw [cells60] at hc0
        obtain ⟨_, hcl0, hat0⟩ := World.cells?_some hc0
        have h0 := hat0 0 (by omega)
        rw [List.getElem?_eq_getElem (by omega)] at h0
        have := World.cell?_spot h0
        simpa [Addr.add] using this
      subst hs
      obtain ⟨y, hy⟩ := cell_in (b := b) (o := o + i * 2) ht (fun j hj => by have := hat j hj; rw [add_lit, add_lit] at this; exact this)
      exact ⟨y, b, o, rfl, hy⟩
    rcases Nat.eq_zero_or_pos len with h0 | h0
    · subst h0
      exact ⟨_, _, _, [], rfl, ⟨rfl, fun h => absurd h (by omega), fun x hx => (by cases hx)⟩⟩
    · obtain ⟨_, b, o, rfl, _⟩ := key 0 h0
      have key2 : ∀ k, k ≤ len → ∃ L : List Sg, L.length = k ∧ ∀ i (h : i < L.length), L[i].At w b (o + i * 2) := by
        intro k
        induction k with
        | zero => exact fun _ => ⟨[], rfl, fun i h => absurd h (by simp)⟩
        | succ k ih =>
          intro hk
          obtain ⟨L, hL, hat⟩ := ih (by omega)
          obtain ⟨y, b', o', e, hy⟩ := key k (by omega)
          injection e with e1 e2
          subst e1 e2
          refine ⟨L ++ [y], by simp [hL], fun i h => ?_⟩
          by_cases hik : i < L.length
          · rw [List.getElem_append_left hik]
            exact hat i hik
          · have hik' : i = k := by simp at h; omega
            subst hik'
            rw [List.getElem_append_right (by omega)]
            simpa [hL] using hy
      obtain ⟨L, hL, hat⟩ := key2 len (Nat.le_refl _)
      refine ⟨_, _, _, L, rfl, ⟨hL, fun _ => ⟨b, o, rfl, (hat 0 (by omega)).lt, fun k hk => ⟨(hat k hk).c0, (hat k hk).c1⟩⟩, fun x hx => ?_⟩⟩
      obtain ⟨i, hi', rfl⟩ := List.getElem_of_mem hx
      exact (hat i hi').ft
/-- Short numbers that came in. -/
theorem shorts_in {fuel : Nat} {v : Value} {y : DataW H × List MemPlace} (h : DataW.trod enc Try.prog w 0 (fun _ => true) true fuel 27 [v] = some y) : ∃ a len cap L, v = .slice a len cap ∧ Row w a len (shrt L) ∧ ∀ p ∈ L, p < 65536 := by
  rcases open_ints Try.underlying27 Try.underlying56 cells56 h with ⟨hcs, _⟩ | ⟨x, l, c, zs, hcs, _, hl, hm, hz, _, hcell, hwz⟩
  · injection hcs with hcs
    exact ⟨_, _, _, [], hcs, Row.nil _ _, fun p hp => by cases hp⟩
  · injection hcs with hcs
    subst hcs
    have hz : zs.length = c := by simpa using hz
    have hb : ∀ z ∈ zs, 0 ≤ z ∧ z ≤ 65535 := fun z hz => in_u16 (hwz z hz)
    refine ⟨_, _, _, (zs.take l).map Int.toNat, rfl, ⟨by rw [shrt_len, List.length_map, List.length_take]; omega, fun h0 => ?_⟩, fun p hp => ?_⟩
    · obtain ⟨b, off, spot⟩ := x
      have h0' := hcell 0 (by omega)
      have hs : spot = none := by simpa [Addr.add] using World.cell?_spot h0'
      subst hs
      have e0 := hcell 0 (by omega)
      rw [add_lit] at e0
      refine ⟨b, off, rfl, World.block_lt_of_cell? w _ e0, fun k hk => ?_⟩
      rw [shrt_len, List.length_map, List.length_take] at hk
      have hkz : k < zs.length := by omega
      have e1 := hcell k hkz
      rw [add_lit] at e1
      rw [e1]
      congr 1
      have e2 := shrt_get ((zs.take l).map Int.toNat) k (by rw [List.length_map, List.length_take]; omega)
      refine Eq.trans ?_ e2.symm
      have hg : zs.getD k 0 = zs[k] := by rw [List.getD_eq_getElem?_getD, List.getElem?_eq_getElem hkz]; rfl
      have hb' := hb zs[k] (List.getElem_mem hkz)
      rw [hg, List.getElem_map, List.getElem_take]
      congr 1
      omega
    · obtain ⟨z, hz', rfl⟩ := List.mem_map.1 hp
      have := hb z (List.mem_of_mem_take hz')
      omega
/-- An image by small numbers that comes in. -/
theorem tiny_in {r : Reach} {base : Nat} {v : Value} {d : DataW H} {p : List MemPlace} (hv : Value.okWide Try.prog w r base 29 v) (h : DataW.Trod enc Try.prog w 0 (fun _ => true) true 29 v d p) : ∃ (q : Nat) (z : Int) (ix : Nat) (A : Option Addr) (na ca : Nat) (B : Option Addr) (nb cb : Nat) (L : List Sg) (M : List Nat),
    v = .agg #[.int .u64 (q : Int), .int .i8 z, .int .u8 (ix : Int), .slice A na ca, .slice B nb cb] ∧ q < 18446744073709551616 ∧ (-128 ≤ z ∧ z ≤ 127) ∧ ix < 256 ∧ Cls w A na L ∧ Row w B nb (shrt M) ∧ ∀ p ∈ M, p < 65536 := by
  obtain ⟨⟨cs⟩, rfl, hsz⟩ := okWide_struct Try.underlying29 hv
  obtain ⟨fuel, hf⟩ := h
  have hf : DataW.trod enc Try.prog w 0 (fun _ => true) true fuel 29 cs = some _ := hf
  obtain ⟨v0, v1, v2, v3, v4, rfl⟩ := list5 (len_in Try.underlying29 cells29 hf)
  obtain ⟨_, _, t0⟩ := field_in Try.underlying29 hf 0 _ rfl 1 cells24
  obtain ⟨_, _, t1⟩ := field_in Try.underlying29 hf 1 _ rfl 1 cells25
  obtain ⟨_, _, t2⟩ := field_in Try.underlying29 hf 2 _ rfl 1 cells5
  obtain ⟨_, _, t3⟩ := field_in Try.underlying29 hf 3 _ rfl 1 cells26
  obtain ⟨_, _, t4⟩ := field_in Try.underlying29 hf 4 _ rfl 1 cells27
  obtain ⟨a0, rfl, h0⟩ := u64_in t0
  obtain ⟨a1, rfl, h1⟩ := i8_in t1
  obtain ⟨a2, rfl, h2⟩ := u8_in t2
  obtain ⟨A, na, ca, L, rfl, hL⟩ := cells_in t3
  obtain ⟨B, nb, cb, M, rfl, hM, hp⟩ := shorts_in t4
  exact ⟨a0, a1, a2, A, na, ca, B, nb, cb, L, M, rfl, h0, h1, h2, hL, hM, hp⟩
end
end Go.Proofs.Ytlmponcoghfghaa
