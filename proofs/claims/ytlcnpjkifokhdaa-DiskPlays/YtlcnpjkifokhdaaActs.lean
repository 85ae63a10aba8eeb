/-
  ACTS THAT CAME IN; THE WALK OF slices.Equal OF INTS.
-/
import Derived.Test.YtlcnpjkifokhdaaDo
import Derived.Deep.Slices
import Derived.Deep.Fields
import Derived.ChangeSame
import Derived.BigQuiet
import Derived.Deep.QuietTactic
namespace Go.Proofs.Ytlcnpjkifokhdaa
open Go.RowKit Go.Maps Go.Shelf
set_option linter.unusedVariables false
set_option maxRecDepth 100000

/-- The slice (A, n) holds the ints l. -/
def HasI (w : World) (A : Option Addr) (n : Nat) (l : List Int) : Prop :=
  l.length = n ∧ (0 < n → ∃ b off, A = some ⟨b, off, none⟩ ∧ b < w.heap.size ∧ ∀ k (h : k < l.length), w.cell? ⟨b, off + k, none⟩ = some (.int .i64 l[k]))
theorem HasI.below {w w' : World} {A : Option Addr} {n : Nat} {l : List Int} (h : HasI w A n l) (hb : Below w.heap.size w w') : HasI w' A n l :=
  ⟨h.1, fun hn => by
    obtain ⟨b, off, e, hlt, hc⟩ := h.2 hn
    exact ⟨b, off, e, Nat.lt_of_lt_of_le hlt hb.size, fun k hk => (hb.cell (p := ⟨b, off + k, none⟩) hlt).trans (hc k hk)⟩⟩
theorem HasI.of_own {w : World} {base n : Nat} {v : Value} {l : List Int} (h : w.ownsRow base 3 1 v n (l.map encZ)) : ∃ A c, v = .slice A n c ∧ HasI w A n l := by
  have hl : l.length = n := by have := h.1; simpa using this
  rcases h.2 with ⟨rfl, hn0⟩ | ⟨g, cap, cur, rfl, hg, hh, hnc, hcm, hcs, htk⟩
  · subst hn0
    exact ⟨none, 0, rfl, hl, fun h => absurd h (by omega)⟩
  · refine ⟨some ⟨g, 0, none⟩, cap, rfl, hl, fun h0 => ⟨g, 0, rfl, (h.lt g rfl).2, fun k hk => ?_⟩⟩
    have := h.cellAt (g := g) (cap := cap) k (by omega)
    rw [Nat.zero_add, this, List.getElem?_map, List.getElem?_eq_getElem hk]
    rfl


set_option maxHeartbeats 400000 in
theorem equalI_same (A B : Option Addr) (n c d : Nat) (l : List Int) (w : World) (hn : n ≤ 1000000) (h : HasI w A n l) (g : HasI w B n l) :
    Calls Try.prog 19 #[.slice A n c, .slice B n d] w (Quiet (.bool true) w) := by
  have H := Lib.hid h
  have G := Lib.hid g
  clear h g
  go_enter Try.func19, Try.ntmps19
  go_wp2
  go_loopw [13] (fun i wr => ∃ j q : Nat, j ≤ n ∧ i = .int .i64 j ∧ wr = w.drewN q) (fun i _ => n - (intOf i).toNat)
  case atStart => exact ⟨0, 0, Nat.zero_le _, rfl, rfl⟩
  case round =>
    obtain ⟨j, q, hj, rfl, rfl⟩ := hrel
    by_cases hlt : j < n
    · obtain ⟨b, off, rfl, _, hc⟩ := H.out.2 (by omega)
      obtain ⟨b2, off2, rfl, _, hc2⟩ := G.out.2 (by omega)
      have hjl : j < l.length := by rw [H.out.1]; omega
      have hc := hc j hjl
      have hc2 := hc2 j hjl
      generalize l[j] = X at hc hc2
      go_wp2
      go_quiet (fail)
      go_wp2
      go_roundw
      case rel => exact ⟨j + 1, _, by omega, by go_num, rfl⟩
      case measure => simp [intOf]; omega
    · have e : j = n := by omega
      subst e
      go_wp2
      go_ret
      exact ⟨rfl, _, rfl⟩

/-- The act's five cells lie at (b, o). -/
structure Act1.At (x : Act1) (w : World) (b o : Nat) : Prop where
  c0 : w.cell? ⟨b, o, none⟩ = some (.int .u8 (x.d : Int))
  c1 : w.cell? ⟨b, o + 1, none⟩ = some (.int .i8 x.at_)
  c2 : w.cell? ⟨b, o + 2, none⟩ = some (.int .u8 (x.fill.toNat : Int))
  c3 : w.cell? ⟨b, o + 3, none⟩ = some (.bool x.long)
  c4 : w.cell? ⟨b, o + 4, none⟩ = some (.int .u64 (x.keep : Int))
  ok : x.ok
  lt : b < w.heap.size
theorem Act1.At.below {x : Act1} {w w' : World} {b o : Nat} (h : x.At w b o) (hb : Below w.heap.size w w') : x.At w' b o :=
  ⟨(hb.cell (p := ⟨b, o, none⟩) h.lt).trans h.c0, (hb.cell (p := ⟨b, o + 1, none⟩) h.lt).trans h.c1, (hb.cell (p := ⟨b, o + 2, none⟩) h.lt).trans h.c2, (hb.cell (p := ⟨b, o + 3, none⟩) h.lt).trans h.c3, (hb.cell (p := ⟨b, o + 4, none⟩) h.lt).trans h.c4, h.ok, Nat.lt_of_lt_of_le h.lt hb.size⟩
/-- Acts that came in. -/
def Acts (w : World) (A : Option Addr) (n cap : Nat) (L : List Act1) : Prop :=
  L.length = n ∧ n ≤ cap ∧ cap ≤ maxLen ∧ (0 < n → ∃ b off, A = some ⟨b, off, none⟩ ∧ ∀ i (h : i < L.length), L[i].At w b (off + i * 5))
theorem Acts.below {w w' : World} {A : Option Addr} {n cap : Nat} {L : List Act1} (h : Acts w A n cap L) (hb : Below w.heap.size w w') : Acts w' A n cap L :=
  ⟨h.1, h.2.1, h.2.2.1, fun hn => by
    obtain ⟨b, off, e, hc⟩ := h.2.2.2 hn
    exact ⟨b, off, e, fun i hi => (hc i hi).below hb⟩⟩

section
open Go.ChangeShapes Go.WideShapes Go.ChangeAt Go.Deep
variable {H : Type} {enc : TypeId × Value → H} {w : World}
theorem cells37 : Try.prog.cellsOf 37 = 5 := by kernel_rfl
theorem five_in {P : Program} {t : TypeId} {f0 f1 f2 f3 f4 : Field} {fuel : Nat} {cs : List Value} {y : DataW H × List MemPlace} {base : Nat} {spare : Nat → Bool} {held : Bool} (hs : P.underlying t = some (.struct #[f0, f1, f2, f3, f4]))
    (hone : oneCellFields P #[f0, f1, f2, f3, f4] = true) (hC : P.cellsOf t = 5) (h : DataW.trod enc P w base spare held fuel t cs = some y) :
    ∃ v0 v1 v2 v3 v4 n z0 z1 z2 z3 z4, cs = [v0, v1, v2, v3, v4] ∧ DataW.trod enc P w base spare held n f0.type [v0] = some z0 ∧ DataW.trod enc P w base spare held n f1.type [v1] = some z1 ∧
      DataW.trod enc P w base spare held n f2.type [v2] = some z2 ∧ DataW.trod enc P w base spare held n f3.type [v3] = some z3 ∧ DataW.trod enc P w base spare held n f4.type [v4] = some z4 := by
  obtain ⟨xs, n, _, _, hlen, hxl, hf⟩ := DataW.trod_struct hs h
  rw [hC] at hlen
  obtain ⟨o0, k0⟩ := hone_of hone 0 f0 rfl
  obtain ⟨o1, k1⟩ := hone_of hone 1 f1 rfl
  obtain ⟨o2, k2⟩ := hone_of hone 2 f2 rfl
  obtain ⟨o3, k3⟩ := hone_of hone 3 f3 rfl
  obtain ⟨o4, k4⟩ := hone_of hone 4 f4 rfl
  match cs, xs, hlen, hxl with
  | [v0, v1, v2, v3, v4], [z0, z1, z2, z3, z4], _, _ =>
    exact ⟨v0, v1, v2, v3, v4, n, z0, z1, z2, z3, z4, rfl, by simpa [o0, k0] using hf 0 f0 rfl, by simpa [o1, k1] using hf 1 f1 rfl, by simpa [o2, k2] using hf 2 f2 rfl, by simpa [o3, k3] using hf 3 f3 rfl, by simpa [o4, k4] using hf 4 f4 rfl⟩

theorem act_in {fuel : Nat} {cs : List Value} {y : DataW H × List MemPlace} {b o : Nat} (h : DataW.trod enc Try.prog w 0 (fun _ => true) true fuel 37 cs = some y)
    (hc : ∀ j, j < 5 → w.cell? ⟨b, o + j, none⟩ = cs[j]?) : ∃ x : Act1, x.At w b o := by
  obtain ⟨v0, v1, v2, v3, v4, n, z0, z1, z2, z3, z4, rfl, t0, t1, t2, t3, t4⟩ := five_in Try.underlying37 (by kernel_rfl) cells37 h
  obtain ⟨a0, e0, _, w0⟩ := DataW.trod_int Try.underlying5 t0
  obtain ⟨a1, e1, _, w1⟩ := DataW.trod_int Try.underlying34 t1
  obtain ⟨a2, e2, _, w2⟩ := DataW.trod_int Try.underlying5 t2
  obtain ⟨q, e3, _⟩ := DataW.trod_bool Try.underlying4 t3
  obtain ⟨a4, e4, _, w4⟩ := DataW.trod_int Try.underlying35 t4
  injection e0 with e0
  injection e1 with e1
  injection e2 with e2
  injection e3 with e3
  injection e4 with e4
  subst e0 e1 e2 e3 e4
  have b0 : 0 ≤ a0 ∧ a0 ≤ 255 := by simpa [Lit.wf, IntKind.min, IntKind.max, IntKind.signed, IntKind.bits] using w0
  have b1 : -128 ≤ a1 ∧ a1 ≤ 127 := by simpa [Lit.wf, IntKind.min, IntKind.max, IntKind.signed, IntKind.bits] using w1
  have b2 : 0 ≤ a2 ∧ a2 ≤ 255 := by simpa [Lit.wf, IntKind.min, IntKind.max, IntKind.signed, IntKind.bits] using w2
  have b4 : 0 ≤ a4 ∧ a4 ≤ 18446744073709551615 := by simpa [Lit.wf, IntKind.min, IntKind.max, IntKind.signed, IntKind.bits] using w4
  have n0 : ((a0.toNat : Nat) : Int) = a0 := by omega
  have n2 : (((BitVec.ofNat 8 a2.toNat).toNat : Nat) : Int) = a2 := by
    rw [BitVec.toNat_ofNat]
    omega
  have n4 : ((a4.toNat : Nat) : Int) = a4 := by omega
  have c0 := hc 0 (by omega)
  refine ⟨⟨a0.toNat, a1, BitVec.ofNat 8 a2.toNat, q, a4.toNat⟩, ⟨by rw [n0]; exact c0, hc 1 (by omega), by rw [n2]; exact hc 2 (by omega), hc 3 (by omega), by rw [n4]; exact hc 4 (by omega), ⟨by show a0.toNat ≤ 255; omega, b1, by show a4.toNat < _; omega⟩, ?_⟩⟩
  exact World.block_lt_of_cell? w _ c0

theorem add_lit (b o k : Nat) : (⟨b, o, none⟩ : Addr).add k = ⟨b, o + k, none⟩ := by
  unfold Addr.add
  by_cases h : k = 0 <;> simp [h]

/-- The acts that came in. -/
theorem acts_in {a : Option Addr} {len cap : Nat} {d : DataW H} {p : List MemPlace} (h : DataW.Trod enc Try.prog w 0 (fun _ => true) true 22 (.slice a len cap) d p) : ∃ L, Acts w a len cap L := by
  obtain ⟨fuel, hf⟩ := h
  rcases open_slice Try.underlying22 hf with ⟨hcs, _⟩ | ⟨x, len', cap', m, n, D, Pl, hcs, _, hl, hm, hmm, _, hi⟩
  · simp [Value.cells] at hcs
    obtain ⟨rfl, rfl, rfl⟩ := hcs
    exact ⟨[], rfl, Nat.le_refl _, by unfold maxLen; omega, fun h => absurd h (by omega)⟩
  · simp [Value.cells] at hcs
    obtain ⟨rfl, rfl, rfl⟩ := hcs
    simp only [if_true] at hmm
    subst hmm
    have key : ∀ i, i < len → ∃ (y : Act1), ∃ b o, x = ⟨b, o, none⟩ ∧ y.At w b (o + i * 5) := by
      intro i hil
      obtain ⟨cs', hc, ht⟩ := hi i (by omega)
      rw [cells37] at hc
      obtain ⟨_, hcl, hat⟩ := World.cells?_some hc
      obtain ⟨b, o, spot⟩ := x
      have hs : spot = none := by
        obtain ⟨cs0, hc0, _⟩ := hi 0 (by omega)
        rw [cells37] at hc0
        obtain ⟨_, hcl0, hat0⟩ := World.cells?_some hc0
        have h0 := hat0 0 (by omega)
        rw [List.getElem?_eq_getElem (by omega)] at h0
        have := World.cell?_spot h0
        simpa [Addr.add] using this
      subst hs
      obtain ⟨y, hy⟩ := act_in (b := b) (o := o + i * 5) ht (fun j hj => by have := hat j hj; rw [add_lit, add_lit] at this; exact this)
      exact ⟨y, b, o, rfl, hy⟩
    rcases Nat.eq_zero_or_pos len with h0 | h0
    · subst h0
      exact ⟨[], rfl, hl, hm, fun h => absurd h (by omega)⟩
    · obtain ⟨_, b, o, rfl, _⟩ := key 0 h0
      have key2 : ∀ k, k ≤ len → ∃ L : List Act1, L.length = k ∧ ∀ i (h : i < L.length), L[i].At w b (o + i * 5) := by
        intro k
        induction k with
        | zero => exact fun _ => ⟨[], rfl, fun i h => absurd h (by simp)⟩
        | succ k ih =>
          intro hk
          obtain ⟨L, hL, hat⟩ := ih (by omega)
          obtain ⟨y, b', o', e, hy⟩ := key k (by omega)
          injection e with e1 e2
          subst e1 e2
          refine ⟨L ++ [y], by simp [hL], fun i h => ?_⟩
          rcases Nat.lt_or_ge i L.length with h' | h'
          · rw [List.getElem_append_left h']
            exact hat i h'
          · have e : i = L.length := by simp at h; omega
            subst e
            rw [List.getElem_append_right (Nat.le_refl _)]
            simpa [hL] using hy
      obtain ⟨L, hL, hat⟩ := key2 len (Nat.le_refl _)
      exact ⟨L, hL, hl, hm, fun _ => ⟨b, o, rfl, hat⟩⟩
end

end Go.Proofs.Ytlcnpjkifokhdaa
