/-
  A SLICE OF ITEMS THAT CAME IN: what each of its four fields reads as.
-/
import Derived.Test.YtgekfhffppfnlaaAwake
import Derived.Deep.Slices
import Derived.Deep.Fields
import Derived.ChangeSame
namespace Go.Proofs.Ytgekfhffppfnlaa
open Go.RowKit
set_option linter.unusedVariables false

/-- An item: so many bytes, the number, the bytes and where they lie, whether they are taken as they are. -/
structure It where
  size : Int
  n : Nat
  A : Option Addr
  m : Nat
  c : Nat
  raw : List (BitVec 8)
  is : Bool
/-- The item lies at (b, o) in the world w. -/
structure It.At (x : It) (w : World) (b o : Nat) : Prop where
  c0 : w.cell? ⟨b, o, none⟩ = some (.int .i8 x.size)
  c1 : w.cell? ⟨b, o + 1, none⟩ = some (.int .u64 (x.n : Int))
  c2 : w.cell? ⟨b, o + 2, none⟩ = some (.slice x.A x.m x.c)
  c3 : w.cell? ⟨b, o + 3, none⟩ = some (.bool x.is)
  lo : -128 ≤ x.size
  hi : x.size ≤ 127
  big : x.n < 18446744073709551616
  has : Has w x.A x.m x.raw
  nil : x.A = none → x.c = 0
  cap : x.m ≤ x.c ∧ x.c ≤ maxLen
  lt : b < w.heap.size
/-- The slice (A, len, cap) of items. -/
def Items (w : World) (A : Option Addr) (len cap : Nat) (L : List It) : Prop :=
  L.length = len ∧ len ≤ cap ∧ cap ≤ maxLen ∧ (A = none → cap = 0) ∧ (0 < len → ∃ b o, A = some ⟨b, o, none⟩ ∧ ∀ i (h : i < L.length), L[i].At w b (o + i * 4))

theorem It.At.but {x : It} {w w' : World} {b o : Nat} {S : Nat → Prop} (h : x.At w b o) (hb : But S w w') (hS : ∀ k, S k → w.heap.size ≤ k) : x.At w' b o := by
  have hn : ∀ k, k < w.heap.size → ¬ S k := fun k hk s => by have := hS k s; omega
  have hc : ∀ j, w'.cell? ⟨b, j, none⟩ = w.cell? ⟨b, j, none⟩ := fun j => hb.cell (p := ⟨b, j, none⟩) h.lt (hn _ h.lt)
  refine ⟨(hc _).trans h.c0, (hc _).trans h.c1, (hc _).trans h.c2, (hc _).trans h.c3, h.lo, h.hi, h.big, ?_, h.nil, h.cap, Nat.lt_of_lt_of_le h.lt hb.size⟩
  have hh := h.has
  refine ⟨hh.1, fun h0 => ?_⟩
  obtain ⟨b2, off, e, hlt, hcell⟩ := hh.2 h0
  exact ⟨b2, off, e, Nat.lt_of_lt_of_le hlt hb.size, fun k hk => (hb.cell (p := ⟨b2, off + k, none⟩) hlt (hn b2 hlt)).trans (hcell k hk)⟩
theorem Items.but {w w' : World} {A : Option Addr} {len cap : Nat} {L : List It} {S : Nat → Prop} (h : Items w A len cap L) (hb : But S w w') (hS : ∀ k, S k → w.heap.size ≤ k) : Items w' A len cap L := by
  refine ⟨h.1, h.2.1, h.2.2.1, h.2.2.2.1, fun h0 => ?_⟩
  obtain ⟨b, o, e, hi⟩ := h.2.2.2.2 h0
  exact ⟨b, o, e, fun i hi' => (hi i hi').but hb hS⟩
theorem Items.below {w w' : World} {A : Option Addr} {len cap : Nat} {L : List It} (h : Items w A len cap L) (hb : Below w.heap.size w w') : Items w' A len cap L :=
  h.but (S := fun _ => False) (But.of_below hb) (fun _ h => h.elim)

section
open Go.ChangeShapes Go.WideShapes Go.Deep
variable {H : Type} {enc : TypeId × Value → H} {w : World}

theorem cells5 : Try.prog.cellsOf 5 = 1 := by kernel_rfl
theorem cells24 : Try.prog.cellsOf 24 = 1 := by kernel_rfl
theorem cells27 : Try.prog.cellsOf 27 = 1 := by kernel_rfl
theorem cells28 : Try.prog.cellsOf 28 = 1 := by kernel_rfl
theorem cells4 : Try.prog.cellsOf 4 = 1 := by kernel_rfl
theorem cells30 : Try.prog.cellsOf 30 = 4 := by kernel_rfl

/-- Bytes that came in. -/
theorem bytes_in {fuel : Nat} {cs : List Value} {x : DataW H × List MemPlace} (h : DataW.trod enc Try.prog w 0 (fun _ => true) true fuel 24 cs = some x) :
    ∃ A m c l, cs = [.slice A m c] ∧ Has w A m l ∧ (A = none → c = 0) ∧ m ≤ c ∧ c ≤ maxLen := by
  rcases open_ints Try.underlying24 Try.underlying5 cells5 h with ⟨rfl, _⟩ | ⟨a, len, cap, zs, rfl, _, hl, hm, hz, _, hcell, hwz⟩
  · exact ⟨none, 0, 0, [], rfl, Has.nil _ _, fun _ => rfl, Nat.le_refl _, by unfold maxLen; omega⟩
  · exact ⟨some a, len, cap, _, rfl, Has.of_row hl (by simpa using hz) hcell hwz, fun e => (by cases e), hl, hm⟩

theorem four_in {P : Program} {t : TypeId} {f0 f1 f2 f3 : Field} {fuel : Nat} {cs : List Value} {y : DataW H × List MemPlace} {base : Nat} {spare : Nat → Bool} {held : Bool} (hs : P.underlying t = some (.struct #[f0, f1, f2, f3]))
    (hone : oneCellFields P #[f0, f1, f2, f3] = true) (hC : P.cellsOf t = 4) (h : DataW.trod enc P w base spare held fuel t cs = some y) :
    ∃ v0 v1 v2 v3 n z0 z1 z2 z3, cs = [v0, v1, v2, v3] ∧ DataW.trod enc P w base spare held n f0.type [v0] = some z0 ∧ DataW.trod enc P w base spare held n f1.type [v1] = some z1 ∧
      DataW.trod enc P w base spare held n f2.type [v2] = some z2 ∧ DataW.trod enc P w base spare held n f3.type [v3] = some z3 := by
  obtain ⟨xs, n, _, _, hlen, hxl, hf⟩ := DataW.trod_struct hs h
  rw [hC] at hlen
  obtain ⟨o0, k0⟩ := hone_of hone 0 f0 rfl
  obtain ⟨o1, k1⟩ := hone_of hone 1 f1 rfl
  obtain ⟨o2, k2⟩ := hone_of hone 2 f2 rfl
  obtain ⟨o3, k3⟩ := hone_of hone 3 f3 rfl
  match cs, xs, hlen, hxl with
  | [v0, v1, v2, v3], [z0, z1, z2, z3], _, _ =>
    exact ⟨v0, v1, v2, v3, n, z0, z1, z2, z3, rfl, by simpa [o0, k0] using hf 0 f0 rfl, by simpa [o1, k1] using hf 1 f1 rfl, by simpa [o2, k2] using hf 2 f2 rfl, by simpa [o3, k3] using hf 3 f3 rfl⟩

theorem item_in {fuel : Nat} {cs : List Value} {y : DataW H × List MemPlace} {b o : Nat} (h : DataW.trod enc Try.prog w 0 (fun _ => true) true fuel 30 cs = some y)
    (hc : ∀ j, j < 4 → w.cell? ⟨b, o + j, none⟩ = cs[j]?) : ∃ x : It, x.At w b o := by
  obtain ⟨v0, v1, v2, v3, n, z0, z1, z2, z3, rfl, t0, t1, t2, t3⟩ := four_in Try.underlying30 (by kernel_rfl) cells30 h
  obtain ⟨a0, e0, _, w0⟩ := DataW.trod_int Try.underlying27 t0
  obtain ⟨a1, e1, _, w1⟩ := DataW.trod_int Try.underlying28 t1
  obtain ⟨A, m, c, l, e2, hh, hnil, hmc, hcm⟩ := bytes_in t2
  obtain ⟨q, e3, _⟩ := DataW.trod_bool Try.underlying4 t3
  injection e0 with e0
  injection e1 with e1
  injection e2 with e2
  injection e3 with e3
  subst e0 e1 e2 e3
  have b0 : -128 ≤ a0 ∧ a0 ≤ 127 := by simpa [Lit.wf, IntKind.min, IntKind.max, IntKind.signed, IntKind.bits] using w0
  have b1 : 0 ≤ a1 ∧ a1 ≤ 18446744073709551615 := by simpa [Lit.wf, IntKind.min, IntKind.max, IntKind.signed, IntKind.bits] using w1
  have hn : ((a1.toNat : Nat) : Int) = a1 := by omega
  have c0 := hc 0 (by omega)
  refine ⟨⟨a0, a1.toNat, A, m, c, l, q⟩, ⟨c0, by rw [hn]; exact hc 1 (by omega), hc 2 (by omega), hc 3 (by omega), b0.1, b0.2, by show a1.toNat < _; omega, hh, hnil, ⟨hmc, hcm⟩, ?_⟩⟩
  exact World.block_lt_of_cell? w _ c0

theorem add_lit (b o k : Nat) : (⟨b, o, none⟩ : Addr).add k = ⟨b, o + k, none⟩ := by
  unfold Addr.add
  by_cases h : k = 0 <;> simp [h]

/-- The items that came in. -/
theorem items_in {a : Option Addr} {len cap : Nat} {d : DataW H} {p : List MemPlace} (h : DataW.Trod enc Try.prog w 0 (fun _ => true) true 22 (.slice a len cap) d p) : ∃ L, Items w a len cap L := by
  obtain ⟨fuel, hf⟩ := h
  rcases open_slice Try.underlying22 hf with ⟨hcs, _⟩ | ⟨x, len', cap', m, n, D, Pl, hcs, _, hl, hm, hmm, _, hi⟩
  · simp [Value.cells] at hcs
    obtain ⟨rfl, rfl, rfl⟩ := hcs
    exact ⟨[], rfl, Nat.le_refl _, by unfold maxLen; omega, fun _ => rfl, fun h => absurd h (by omega)⟩
  · simp [Value.cells] at hcs
    obtain ⟨rfl, rfl, rfl⟩ := hcs
    simp only [if_true] at hmm
    subst hmm
    have key : ∀ i, i < len → ∃ (y : It), ∃ b o, x = ⟨b, o, none⟩ ∧ y.At w b (o + i * 4) := by
      intro i hil
      obtain ⟨cs', hc, ht⟩ := hi i (by omega)
      rw [cells30] at hc
      obtain ⟨_, hcl, hat⟩ := World.cells?_some hc
      obtain ⟨b, o, spot⟩ := x
      have hs : spot = none := by
        obtain ⟨cs0, hc0, _⟩ := hi 0 (by omega)
        rw [cells30] at hc0
        obtain ⟨_, hcl0, hat0⟩ := World.cells?_some hc0
        have h0 := hat0 0 (by omega)
        rw [List.getElem?_eq_getElem (by omega)] at h0
        have := World.cell?_spot h0
        simpa [Addr.add] using this
      subst hs
      obtain ⟨y, hy⟩ := item_in (b := b) (o := o + i * 4) ht (fun j hj => by have := hat j hj; rw [add_lit, add_lit] at this; exact this)
      exact ⟨y, b, o, rfl, hy⟩
    rcases Nat.eq_zero_or_pos len with h0 | h0
    · subst h0
      exact ⟨[], rfl, hl, hm, fun e => (by cases e), fun h => absurd h (by omega)⟩
    · obtain ⟨_, b, o, rfl, _⟩ := key 0 h0
      have key2 : ∀ k, k ≤ len → ∃ L : List It, L.length = k ∧ ∀ i (h : i < L.length), L[i].At w b (o + i * 4) := by
        intro k
        induction k with
        | zero => exact fun _ => ⟨[], rfl, fun i h => absurd h (by simp)⟩
        | succ k ih =>
          intro hk
          obtain ⟨L, hL, hat⟩ := ih (by omega)
          obtain ⟨y, b', o', e, hy⟩ := key k (by omega)
          injection e with e1 e2
          subst e1 e2
          refine ⟨L ++ [y], by simp [hL], fun i h => ?_⟩
          rcases Nat.lt_or_ge i L.length with h' | h'
          · rw [List.getElem_append_left h']
            exact hat i h'
          · have e : i = L.length := by simp at h; omega
            subst e
            rw [List.getElem_append_right (Nat.le_refl _)]
            simpa [hL] using hy
      obtain ⟨L, hL, hat⟩ := key2 len (Nat.le_refl _)
      exact ⟨L, hL, hl, hm, fun e => (by cases e), fun _ => ⟨b, o, rfl, hat⟩⟩
/-- The bytes that came in, as a row's reading has them. -/
theorem row_in {a : Option Addr} {len cap : Nat} {d : DataW H} {p : List MemPlace} (h : DataW.Trod enc Try.prog w 0 (fun _ => true) true 24 (.slice a len cap) d p) :
    ∃ l, Has w a len l ∧ (a = none → cap = 0) ∧ len ≤ cap ∧ cap ≤ maxLen := by
  obtain ⟨fuel, hf⟩ := h
  obtain ⟨A, m, c, l, e, h1, h2, h3, h4⟩ := bytes_in hf
  simp [Value.cells] at e
  obtain ⟨rfl, rfl, rfl⟩ := e
  exact ⟨l, h1, h2, h3, h4⟩
end

end Go.Proofs.Ytgekfhffppfnlaa
