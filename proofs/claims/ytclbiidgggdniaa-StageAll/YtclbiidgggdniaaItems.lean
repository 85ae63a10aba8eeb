/-
  ITEMS THAT CAME IN.
-/
import Derived.Test.YtclbiidgggdniaaLView
import Derived.Deep.Slices
import Derived.Deep.Fields
import Derived.ChangeSame
namespace Go.Proofs.Ytclbiidgggdniaa
open Go.RowKit
set_option linter.unusedVariables false
set_option maxRecDepth 100000

/-- An item that came in. -/
structure It where
  kind : Nat
  lba : Int
  fill : BitVec 8
/-- The item's three cells lie at (b, o). -/
structure It.At (x : It) (w : World) (b o : Nat) : Prop where
  c0 : w.cell? ⟨b, o, none⟩ = some (.int .u8 (x.kind : Int))
  c1 : w.cell? ⟨b, o + 1, none⟩ = some (.int .i8 x.lba)
  c2 : w.cell? ⟨b, o + 2, none⟩ = some (.int .u8 (x.fill.toNat : Int))
  hk : x.kind ≤ 255
  hl : -128 ≤ x.lba ∧ x.lba ≤ 127
  lt : b < w.heap.size
theorem It.At.below {x : It} {w w' : World} {b o : Nat} (h : x.At w b o) (hb : Below w.heap.size w w') : x.At w' b o :=
  ⟨(hb.cell (p := ⟨b, o, none⟩) h.lt).trans h.c0, (hb.cell (p := ⟨b, o + 1, none⟩) h.lt).trans h.c1, (hb.cell (p := ⟨b, o + 2, none⟩) h.lt).trans h.c2, h.hk, h.hl, Nat.lt_of_lt_of_le h.lt hb.size⟩
/-- Items that came in. -/
def Items (w : World) (A : Option Addr) (n cap : Nat) (L : List It) : Prop :=
  L.length = n ∧ n ≤ cap ∧ cap ≤ maxLen ∧ (0 < n → ∃ b off, A = some ⟨b, off, none⟩ ∧ ∀ i (h : i < L.length), L[i].At w b (off + i * 3))
theorem Items.below {w w' : World} {A : Option Addr} {n cap : Nat} {L : List It} (h : Items w A n cap L) (hb : Below w.heap.size w w') : Items w' A n cap L :=
  ⟨h.1, h.2.1, h.2.2.1, fun hn => by
    obtain ⟨b, off, e, hc⟩ := h.2.2.2 hn
    exact ⟨b, off, e, fun i hi => (hc i hi).below hb⟩⟩

section
open Go.ChangeShapes Go.WideShapes Go.ChangeAt Go.Deep
variable {H : Type} {enc : TypeId × Value → H} {w : World}
theorem cells46 : Try.prog.cellsOf 46 = 3 := by kernel_rfl
theorem three_in {P : Program} {t : TypeId} {f0 f1 f2 : Field} {fuel : Nat} {cs : List Value} {y : DataW H × List MemPlace} {base : Nat} {spare : Nat → Bool} {held : Bool} (hs : P.underlying t = some (.struct #[f0, f1, f2]))
    (hone : oneCellFields P #[f0, f1, f2] = true) (hC : P.cellsOf t = 3) (h : DataW.trod enc P w base spare held fuel t cs = some y) :
    ∃ v0 v1 v2 n z0 z1 z2, cs = [v0, v1, v2] ∧ DataW.trod enc P w base spare held n f0.type [v0] = some z0 ∧ DataW.trod enc P w base spare held n f1.type [v1] = some z1 ∧ DataW.trod enc P w base spare held n f2.type [v2] = some z2 := by
  obtain ⟨xs, n, _, _, hlen, hxl, hf⟩ := DataW.trod_struct hs h
  rw [hC] at hlen
  obtain ⟨o0, k0⟩ := hone_of hone 0 f0 rfl
  obtain ⟨o1, k1⟩ := hone_of hone 1 f1 rfl
  obtain ⟨o2, k2⟩ := hone_of hone 2 f2 rfl
  match cs, xs, hlen, hxl with
  | [v0, v1, v2], [z0, z1, z2], _, _ =>
    exact ⟨v0, v1, v2, n, z0, z1, z2, rfl, by simpa [o0, k0] using hf 0 f0 rfl, by simpa [o1, k1] using hf 1 f1 rfl, by simpa [o2, k2] using hf 2 f2 rfl⟩

theorem item_in {fuel : Nat} {cs : List Value} {y : DataW H × List MemPlace} {b o : Nat} (h : DataW.trod enc Try.prog w 0 (fun _ => true) true fuel 46 cs = some y)
    (hc : ∀ j, j < 3 → w.cell? ⟨b, o + j, none⟩ = cs[j]?) : ∃ x : It, x.At w b o := by
  obtain ⟨v0, v1, v2, n, z0, z1, z2, rfl, t0, t1, t2⟩ := three_in Try.underlying46 (by kernel_rfl) cells46 h
  obtain ⟨a0, e0, _, w0⟩ := DataW.trod_int Try.underlying5 t0
  obtain ⟨a1, e1, _, w1⟩ := DataW.trod_int Try.underlying30 t1
  obtain ⟨a2, e2, _, w2⟩ := DataW.trod_int Try.underlying5 t2
  injection e0 with e0
  injection e1 with e1
  injection e2 with e2
  subst e0 e1 e2
  have b0 : 0 ≤ a0 ∧ a0 ≤ 255 := by simpa [Lit.wf, IntKind.min, IntKind.max, IntKind.signed, IntKind.bits] using w0
  have b1 : -128 ≤ a1 ∧ a1 ≤ 127 := by simpa [Lit.wf, IntKind.min, IntKind.max, IntKind.signed, IntKind.bits] using w1
  have b2 : 0 ≤ a2 ∧ a2 ≤ 255 := by simpa [Lit.wf, IntKind.min, IntKind.max, IntKind.signed, IntKind.bits] using w2
  obtain ⟨k, rfl⟩ : ∃ k : Nat, a0 = (k : Int) := ⟨a0.toNat, by omega⟩
  have c0 := hc 0 (by omega)
  have c2 := hc 2 (by omega)
  refine ⟨⟨k, a1, BitVec.ofInt 8 a2⟩, ⟨c0, hc 1 (by omega), ?_, by show k ≤ 255; omega, b1, World.block_lt_of_cell? w _ c0⟩⟩
  rw [c2, BitVec.toNat_ofInt]
  simp only [List.getElem?_cons_succ, List.getElem?_cons_zero]
  congr 2
  omega

theorem add_lit (b o k : Nat) : (⟨b, o, none⟩ : Addr).add k = ⟨b, o + k, none⟩ := by
  unfold Addr.add
  by_cases h : k = 0 <;> simp [h]

/-- The items that came in. -/
theorem items_in {a : Option Addr} {len cap : Nat} {d : DataW H} {p : List MemPlace} (h : DataW.Trod enc Try.prog w 0 (fun _ => true) true 22 (.slice a len cap) d p) : ∃ L, Items w a len cap L := by
  obtain ⟨fuel, hf⟩ := h
  rcases open_slice Try.underlying22 hf with ⟨hcs, _⟩ | ⟨x, len', cap', m, n, D, Pl, hcs, _, hl, hm, hmm, _, hi⟩
  · simp [Value.cells] at hcs
    obtain ⟨rfl, rfl, rfl⟩ := hcs
    exact ⟨[], rfl, Nat.le_refl _, by unfold maxLen; omega, fun h => absurd h (by omega)⟩
  · simp [Value.cells] at hcs
    obtain ⟨rfl, rfl, rfl⟩ := hcs
    simp only [if_true] at hmm
    subst hmm
    have key : ∀ i, i < len → ∃ (y : It), ∃ b o, x = ⟨b, o, none⟩ ∧ y.At w b (o + i * 3) := by
      intro i hil
      obtain ⟨cs', hc, ht⟩ := hi i (by omega)
      rw [cells46] at hc
      obtain ⟨_, hcl, hat⟩ := World.cells?_some hc
      obtain ⟨b, o, spot⟩ := x
      have hs : spot = none := by
        obtain ⟨cs0, hc0, _⟩ := hi 0 (by omega)
        rw [cells46] at hc0
        obtain ⟨_, hcl0, hat0⟩ := World.cells?_some hc0
        have h0 := hat0 0 (by omega)
        rw [List.getElem?_eq_getElem (by omega)] at h0
        have := World.cell?_spot h0
        simpa [Addr.add] using this
      subst hs
      obtain ⟨y, hy⟩ := item_in (b := b) (o := o + i * 3) ht (fun j hj => by have := hat j hj; rw [add_lit, add_lit] at this; exact this)
      exact ⟨y, b, o, rfl, hy⟩
    rcases Nat.eq_zero_or_pos len with h0 | h0
    · subst h0
      exact ⟨[], rfl, hl, hm, fun h => absurd h (by omega)⟩
    · obtain ⟨_, b, o, rfl, _⟩ := key 0 h0
      have key2 : ∀ k, k ≤ len → ∃ L : List It, L.length = k ∧ ∀ i (h : i < L.length), L[i].At w b (o + i * 3) := by
        intro k
        induction k with
        | zero => exact fun _ => ⟨[], rfl, fun i h => absurd h (by simp)⟩
        | succ k ih =>
          intro hk
          obtain ⟨L, hL, hat⟩ := ih (by omega)
          obtain ⟨y, b', o', e, hy⟩ := key k (by omega)
          injection e with e1 e2
          subst e1 e2
          refine ⟨L ++ [y], by simp [hL], fun i h => ?_⟩
          rcases Nat.lt_or_ge i L.length with h' | h'
          · rw [List.getElem_append_left h']
            exact hat i h'
          · have e : i = L.length := by simp at h; omega
            subst e
            rw [List.getElem_append_right (Nat.le_refl _)]
            simpa [hL] using hy
      obtain ⟨L, hL, hat⟩ := key2 len (Nat.le_refl _)
      exact ⟨L, hL, hl, hm, fun _ => ⟨b, o, rfl, hat⟩⟩
end
end Go.Proofs.Ytclbiidgggdniaa
