/-
  ACTS THAT CAME IN: what each of their fifteen cells reads as; the root among them.
-/
import Derived.Test.YtolienlbdfbdeaaIn
namespace Go.Proofs.Ytolienlbdfbdeaa
open Go.RowKit
set_option linter.unusedVariables false
set_option maxRecDepth 100000

/-- An act: what is to be done, the kind, the block, the bytes, the stripe, the number, the root. -/
structure Ac where
  d : Nat
  kind : Nat
  lba : Int
  A : Option Addr
  n : Nat
  c : Nat
  l : List (BitVec 8)
  dur : Int
  upTo : Nat
  root : Rt
def Ac.cs (x : Ac) : Array Value := #[.int .u8 (x.d : Int), .int .u8 (x.kind : Int), .int .i64 x.lba, .slice x.A x.n x.c, .int .u64 x.dur, .int .u8 (x.upTo : Int),
  .int .i64 x.root.m, .int .i64 x.root.b, .int .i64 x.root.g, .int .i64 x.root.s, .int .i64 x.root.n, .int .i64 x.root.l, .int .u64 x.root.gen, .int .u64 x.root.dur, .int .i64 x.root.stale]
theorem ac_one (x : Ac) : (x.cs.all (·.oneCell')) = true := by
  unfold Ac.cs
  simp
  exact ⟨rfl, rfl, rfl, rfl, rfl, rfl, rfl, rfl, rfl, rfl, rfl, rfl, rfl, rfl, rfl⟩
/-- The act lies at (b, o). -/
structure Ac.At (x : Ac) (w : World) (b o : Nat) : Prop where
  cell : ∀ j, j < 15 → w.cell? ⟨b, o + j, none⟩ = x.cs[j]?
  has : Has w x.A x.n x.l
  d : x.d ≤ 255
  kind : x.kind ≤ 255
  upTo : x.upTo ≤ 255
  lt : b < w.heap.size
theorem Ac.At.below {x : Ac} {w w' : World} {b o : Nat} (h : x.At w b o) (hb : Below w.heap.size w w') : x.At w' b o :=
  ⟨fun j hj => (hb.cell (p := ⟨b, o + j, none⟩) h.lt).trans (h.cell j hj), h.has.below hb, h.d, h.kind, h.upTo, Nat.lt_of_lt_of_le h.lt hb.size⟩
/-- Acts that came in. -/
def Acts (w : World) (A : Option Addr) (n cap : Nat) (L : List Ac) : Prop :=
  L.length = n ∧ n ≤ cap ∧ cap ≤ maxLen ∧ (0 < n → ∃ b off, A = some ⟨b, off, none⟩ ∧ ∀ i (h : i < L.length), L[i].At w b (off + i * 15))
theorem Acts.below {w w' : World} {A : Option Addr} {n cap : Nat} {L : List Ac} (h : Acts w A n cap L) (hb : Below w.heap.size w w') : Acts w' A n cap L :=
  ⟨h.1, h.2.1, h.2.2.1, fun hn => by
    obtain ⟨b, off, e, hc⟩ := h.2.2.2 hn
    exact ⟨b, off, e, fun i hi => (hc i hi).below hb⟩⟩

section
open Go.ChangeShapes Go.WideShapes Go.Deep
variable {H : Type} {enc : TypeId × Value → H} {w : World}
theorem cells36 : Try.prog.cellsOf 36 = 15 := by kernel_rfl
theorem cells32 : Try.prog.cellsOf 32 = 9 := by kernel_rfl
theorem cells29 : Try.prog.cellsOf 29 = 6 := by kernel_rfl
theorem cells30 : Try.prog.cellsOf 30 = 1 := by kernel_rfl
theorem cells3 : Try.prog.cellsOf 3 = 1 := by kernel_rfl
theorem cells34 : Try.prog.cellsOf 34 = 1 := by kernel_rfl

/-- One field of a struct. -/
theorem field_in {t : TypeId} {fs : Array Field} {fuel : Nat} {cs : List Value} {y : DataW H × List MemPlace} (hs : Try.prog.underlying t = some (.struct fs)) (h : DataW.trod enc Try.prog w 0 (fun _ => true) true fuel t cs = some y)
    (j : Nat) (f : Field) (hj : fs[j]? = some f) (k : Nat) (hk : Try.prog.cellsOf f.type = k) : ∃ n z, DataW.trod enc Try.prog w 0 (fun _ => true) true n f.type ((cs.drop f.offset).take k) = some z := by
  obtain ⟨xs, n, _, _, hlen, hxl, hf⟩ := DataW.trod_struct hs h
  have hjl : j < xs.length := by rw [hxl]; exact (Array.getElem?_eq_some_iff.1 hj).1
  have h1 := hf j f hj
  rw [hk, List.getElem?_eq_getElem hjl] at h1
  exact ⟨n, _, h1⟩
theorem i64_in {n : Nat} {v : Value} {z : DataW H × List MemPlace} (h : DataW.trod enc Try.prog w 0 (fun _ => true) true n 3 [v] = some z) : ∃ a, v = .int .i64 a := by
  obtain ⟨a, e, _⟩ := DataW.trod_int Try.underlying3 h
  injection e with e
  exact ⟨a, e⟩
theorem u64_in {n : Nat} {v : Value} {z : DataW H × List MemPlace} (h : DataW.trod enc Try.prog w 0 (fun _ => true) true n 30 [v] = some z) : ∃ a, v = .int .u64 a := by
  obtain ⟨a, e, _⟩ := DataW.trod_int Try.underlying30 h
  injection e with e
  exact ⟨a, e⟩
theorem u8_in {n : Nat} {v : Value} {z : DataW H × List MemPlace} (h : DataW.trod enc Try.prog w 0 (fun _ => true) true n 5 [v] = some z) : ∃ a : Nat, v = .int .u8 (a : Int) ∧ a ≤ 255 := by
  obtain ⟨a, e, _, wf⟩ := DataW.trod_int Try.underlying5 h
  injection e with e
  have hb : 0 ≤ a ∧ a ≤ 255 := by simpa [Lit.wf, IntKind.min, IntKind.max, IntKind.signed, IntKind.bits] using wf
  exact ⟨a.toNat, by rw [e]; congr 1; omega, by omega⟩

/-- A shape that came in. -/
theorem shape_in {fuel : Nat} {v0 v1 v2 v3 v4 v5 : Value} {y : DataW H × List MemPlace} (h : DataW.trod enc Try.prog w 0 (fun _ => true) true fuel 29 [v0, v1, v2, v3, v4, v5] = some y) :
    ∃ a0 a1 a2 a3 a4 a5, v0 = .int .i64 a0 ∧ v1 = .int .i64 a1 ∧ v2 = .int .i64 a2 ∧ v3 = .int .i64 a3 ∧ v4 = .int .i64 a4 ∧ v5 = .int .i64 a5 := by
  obtain ⟨_, _, t0⟩ := field_in Try.underlying29 h 0 _ rfl 1 cells3
  obtain ⟨_, _, t1⟩ := field_in Try.underlying29 h 1 _ rfl 1 cells3
  obtain ⟨_, _, t2⟩ := field_in Try.underlying29 h 2 _ rfl 1 cells3
  obtain ⟨_, _, t3⟩ := field_in Try.underlying29 h 3 _ rfl 1 cells3
  obtain ⟨_, _, t4⟩ := field_in Try.underlying29 h 4 _ rfl 1 cells3
  obtain ⟨_, _, t5⟩ := field_in Try.underlying29 h 5 _ rfl 1 cells3
  obtain ⟨a0, e0⟩ := i64_in t0
  obtain ⟨a1, e1⟩ := i64_in t1
  obtain ⟨a2, e2⟩ := i64_in t2
  obtain ⟨a3, e3⟩ := i64_in t3
  obtain ⟨a4, e4⟩ := i64_in t4
  obtain ⟨a5, e5⟩ := i64_in t5
  exact ⟨a0, a1, a2, a3, a4, a5, e0, e1, e2, e3, e4, e5⟩
/-- A root that came in. -/
theorem root_in {fuel : Nat} {v0 v1 v2 v3 v4 v5 v6 v7 v8 : Value} {y : DataW H × List MemPlace} (h : DataW.trod enc Try.prog w 0 (fun _ => true) true fuel 32 [v0, v1, v2, v3, v4, v5, v6, v7, v8] = some y) :
    ∃ r : Rt, [v0, v1, v2, v3, v4, v5, v6, v7, v8] = r.cs.toList := by
  obtain ⟨_, _, t0⟩ := field_in Try.underlying32 h 0 _ rfl 6 cells29
  obtain ⟨_, _, t1⟩ := field_in Try.underlying32 h 1 _ rfl 1 cells30
  obtain ⟨_, _, t2⟩ := field_in Try.underlying32 h 2 _ rfl 1 cells30
  obtain ⟨_, _, t3⟩ := field_in Try.underlying32 h 3 _ rfl 1 cells3
  obtain ⟨a0, a1, a2, a3, a4, a5, rfl, rfl, rfl, rfl, rfl, rfl⟩ := shape_in t0
  obtain ⟨a6, e6⟩ := u64_in t1
  obtain ⟨a7, e7⟩ := u64_in t2
  obtain ⟨a8, e8⟩ := i64_in t3
  refine ⟨⟨a0, a1, a2, a3, a4, a5, a6, a7, a8⟩, ?_⟩
  rw [e6, e7, e8]
  rfl

theorem act_in {fuel : Nat} {cs : List Value} {y : DataW H × List MemPlace} {b o : Nat} (h : DataW.trod enc Try.prog w 0 (fun _ => true) true fuel 36 cs = some y)
    (hc : ∀ j, j < 15 → w.cell? ⟨b, o + j, none⟩ = cs[j]?) : ∃ x : Ac, x.At w b o := by
  have hlen : cs.length = 15 := by
    obtain ⟨xs, n, _, _, hlen, _⟩ := DataW.trod_struct Try.underlying36 h
    rw [cells36] at hlen
    exact hlen
  match cs, hlen with
  | [v0, v1, v2, v3, v4, v5, v6, v7, v8, v9, v10, v11, v12, v13, v14], _ =>
    obtain ⟨_, _, t0⟩ := field_in Try.underlying36 h 0 _ rfl 1 cells5
    obtain ⟨_, _, t1⟩ := field_in Try.underlying36 h 1 _ rfl 1 cells5
    obtain ⟨_, _, t2⟩ := field_in Try.underlying36 h 2 _ rfl 1 cells3
    obtain ⟨_, _, t3⟩ := field_in Try.underlying36 h 3 _ rfl 1 cells34
    obtain ⟨_, _, t4⟩ := field_in Try.underlying36 h 4 _ rfl 1 cells30
    obtain ⟨_, _, t5⟩ := field_in Try.underlying36 h 5 _ rfl 1 cells5
    obtain ⟨_, _, t6⟩ := field_in Try.underlying36 h 6 _ rfl 9 cells32
    obtain ⟨a0, e0, b0⟩ := u8_in t0
    obtain ⟨a1, e1, b1⟩ := u8_in t1
    obtain ⟨a2, e2⟩ := i64_in t2
    obtain ⟨A, m, c, l, e3, hh⟩ := bytes_in t3
    obtain ⟨a4, e4⟩ := u64_in t4
    obtain ⟨a5, e5, b5⟩ := u8_in t5
    obtain ⟨r, e6⟩ := root_in t6
    have e3 : v3 = .slice A m c := by injection e3
    have he : [v0, v1, v2, v3, v4, v5, v6, v7, v8, v9, v10, v11, v12, v13, v14] = (Ac.cs ⟨a0, a1, a2, A, m, c, l, a4, a5, r⟩).toList := by
      rw [e0, e1, e2, e3, e4, e5]
      have e7 : [v6, v7, v8, v9, v10, v11, v12, v13, v14] = r.cs.toList := e6
      simp only [Rt.cs, List.cons.injEq] at e7
      obtain ⟨rfl, rfl, rfl, rfl, rfl, rfl, rfl, rfl, rfl, _⟩ := e7
      rfl
    rw [he] at hc
    refine ⟨⟨a0, a1, a2, A, m, c, l, a4, a5, r⟩, ⟨fun j hj => by rw [hc j hj]; simp, hh, b0, b1, b5, ?_⟩⟩
    have h0 := hc 0 (by omega)
    exact World.block_lt_of_cell? w _ (h0.trans rfl)

theorem add_lit (b o k : Nat) : (⟨b, o, none⟩ : Addr).add k = ⟨b, o + k, none⟩ := by
  unfold Addr.add
  by_cases h : k = 0 <;> simp [h]

/-- The acts that came in. -/
theorem acts_in {a : Option Addr} {len cap : Nat} {d : DataW H} {p : List MemPlace} (h : DataW.Trod enc Try.prog w 0 (fun _ => true) true 22 (.slice a len cap) d p) : ∃ L, Acts w a len cap L := by
  obtain ⟨fuel, hf⟩ := h
  rcases open_slice Try.underlying22 hf with ⟨hcs, _⟩ | ⟨x, len', cap', m, n, D, Pl, hcs, _, hl, hm, hmm, _, hi⟩
  · simp [Value.cells] at hcs
    obtain ⟨rfl, rfl, rfl⟩ := hcs
    exact ⟨[], rfl, Nat.le_refl _, by unfold maxLen; omega, fun h => absurd h (by omega)⟩
  · simp [Value.cells] at hcs
    obtain ⟨rfl, rfl, rfl⟩ := hcs
    simp only [if_true] at hmm
    subst hmm
    have key : ∀ i, i < len → ∃ (y : Ac), ∃ b o, x = ⟨b, o, none⟩ ∧ y.At w b (o + i * 15) := by
      intro i hil
      obtain ⟨cs', hc, ht⟩ := hi i (by omega)
      rw [cells36] at hc
      obtain ⟨_, hcl, hat⟩ := World.cells?_some hc
      obtain ⟨b, o, spot⟩ := x
      have hs : spot = none := by
        obtain ⟨cs0, hc0, _⟩ := hi 0 (by omega)
        rw [cells36] at hc0
        obtain ⟨_, hcl0, hat0⟩ := World.cells?_some hc0
        have h0 := hat0 0 (by omega)
        rw [List.getElem?_eq_getElem (by omega)] at h0
        have := World.cell?_spot h0
        simpa [Addr.add] using this
      subst hs
      obtain ⟨y, hy⟩ := act_in (b := b) (o := o + i * 15) ht (fun j hj => by have := hat j hj; rw [add_lit, add_lit] at this; exact this)
      exact ⟨y, b, o, rfl, hy⟩
    rcases Nat.eq_zero_or_pos len with h0 | h0
    · subst h0
      exact ⟨[], rfl, hl, hm, fun h => absurd h (by omega)⟩
    · obtain ⟨_, b, o, rfl, _⟩ := key 0 h0
      have key2 : ∀ k, k ≤ len → ∃ L : List Ac, L.length = k ∧ ∀ i (h : i < L.length), L[i].At w b (o + i * 15) := by
        intro k
        induction k with
        | zero => exact fun _ => ⟨[], rfl, fun i h => absurd h (by simp)⟩
        | succ k ih =>
          intro hk
          obtain ⟨L, hL, hat⟩ := ih (by omega)
          obtain ⟨y, b', o', e, hy⟩ := key k (by omega)
          injection e with e1 e2
          subst e1 e2
          refine ⟨L ++ [y], by simp [hL], fun i h => ?_⟩
          rcases Nat.lt_or_ge i L.length with h' | h'
          · rw [List.getElem_append_left h']
            exact hat i h'
          · have e : i = L.length := by simp at h; omega
            subst e
            rw [List.getElem_append_right (Nat.le_refl _)]
            simpa [hL] using hy
      obtain ⟨L, hL, hat⟩ := key2 len (Nat.le_refl _)
      exact ⟨L, hL, hl, hm, fun _ => ⟨b, o, rfl, hat⟩⟩
end

end Go.Proofs.Ytolienlbdfbdeaa
