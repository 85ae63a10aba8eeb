/-
  THE WALK OF Awake.
-/
import Derived.Test.YtcekcbheajcfpaaLists
import Derived.Deep.CutRange
import Derived.Deep.Slices
import Derived.Deep.Fields
import Derived.ChangeSame
namespace Go.Proofs.Ytcekcbheajcfpaa
open Go.RowKit
set_option linter.unusedVariables false
set_option maxRecDepth 100000


set_option maxHeartbeats 800000 in
theorem awake_any (w : World) : Calls Try.prog 7 #[] w fun e w' => e = .returned (.bool true) ∧ Below w.heap.size w w' := by
  go_enter Try.func7, Try.ntmps7
  go_wp2_with fail
  refine (new_any 20 20 w (by omega)).mono ?_
  rintro e w1 ⟨g, rfl, hL, hb⟩
  have L1 := Lib.hid hL
  have B1 := Lib.hid hb
  clear hL hb
  go_wp2_with fail
  refine (set_any 17 5 (by omega) L1.out).mono ?_
  rintro e w2 ⟨rfl, T2, hT, hL, hb⟩
  have L2 := Lib.hid hL
  have B2 := Lib.hid (show Below w.heap.size w w2 from B1.out.trans (hb.below (fun k e => e) B1.out.size))
  clear hL hb hT
  go_wp2_with fail
  refine (pages_any L2.out).mono ?_
  rintro e w3 ⟨rfl, hw⟩
  subst hw
  have PE := Lib.hid (show pages (setP 20 (fun _ => false) 17 5) ((20 + 15) / 16) = 1 by decide)
  rw [PE.out]
  go_wp2_with fail
  refine (within_any 5 6 L2.out).mono ?_
  have WE := Lib.hid (show within 20 (setI 20 (fun _ => -1) 17 5) 5 6 = [17] by decide)
  rw [WE.out]
  rintro e w4 ⟨A, c, rfl, ho, hb⟩
  have O4 := Lib.hid ho
  have B4 := Lib.hid (B2.out.trans (hb.mono B2.out.size))
  clear ho hb
  go_wp2_with fail
  have hI : HasI (w4.alloc (.cells #[.int .i64 17] 3)) A 1 [17] := by
    obtain ⟨A2, c2, e2, h2, _⟩ := HasI.of_own O4.out
    injection e2 with e2 _ e3
    subst e2 e3
    exact h2.below ((Below.refl _ _).alloc (Nat.le_refl _) _)
  refine (equalI_yes A (some ⟨w4.heap.size, 0, none⟩) 1 c 1 [17] _ (by omega) hI (HasI.one (At.new _ 3 rfl))).mono ?_
  rintro e w5 ⟨rfl, q, rfl⟩
  have B5 := Lib.hid (below_drewN (B4.out.alloc B4.out.size (.cells #[.int .i64 17] 3)) q)
  clear hI
  go_wp2
  go_ret
  exact ⟨rfl, B5.out⟩

/-- An act that came in. -/
structure Ac where
  lba : Int
  pl : Int
/-- The act's two cells lie at (b, o). -/
structure Ac.At (x : Ac) (w : World) (b o : Nat) : Prop where
  c0 : w.cell? ⟨b, o, none⟩ = some (.int .i8 x.lba)
  c1 : w.cell? ⟨b, o + 1, none⟩ = some (.int .i16 x.pl)
  hl : -128 ≤ x.lba ∧ x.lba ≤ 127
  hp : -32768 ≤ x.pl ∧ x.pl ≤ 32767
  lt : b < w.heap.size
theorem Ac.At.but {S : Nat → Prop} {x : Ac} {w w' : World} {b o : Nat} (h : x.At w b o) (hb : But S w w') (hn : ¬ S b) : x.At w' b o :=
  ⟨(hb.cell (p := ⟨b, o, none⟩) h.lt hn).trans h.c0, (hb.cell (p := ⟨b, o + 1, none⟩) h.lt hn).trans h.c1, h.hl, h.hp, Nat.lt_of_lt_of_le h.lt hb.size⟩
theorem Ac.At.below {x : Ac} {w w' : World} {b o : Nat} (h : x.At w b o) (hb : Below w.heap.size w w') : x.At w' b o := h.but (S := fun _ => False) (But.of_below hb) (fun h => h)
/-- Acts that came in. -/
def Acts (w : World) (A : Option Addr) (n cap : Nat) (L : List Ac) : Prop :=
  L.length = n ∧ n ≤ cap ∧ cap ≤ maxLen ∧ (0 < n → ∃ b off, A = some ⟨b, off, none⟩ ∧ ∀ i (h : i < L.length), L[i].At w b (off + i * 2))
theorem Acts.below {w w' : World} {A : Option Addr} {n cap : Nat} {L : List Ac} (h : Acts w A n cap L) (hb : Below w.heap.size w w') : Acts w' A n cap L :=
  ⟨h.1, h.2.1, h.2.2.1, fun hn => by
    obtain ⟨b, off, e, hc⟩ := h.2.2.2 hn
    exact ⟨b, off, e, fun i hi => (hc i hi).below hb⟩⟩

section
open Go.ChangeShapes Go.WideShapes Go.ChangeAt Go.Deep
variable {H : Type} {enc : TypeId × Value → H} {w : World}
theorem cells32 : Try.prog.cellsOf 32 = 2 := by kernel_rfl
theorem two_in {P : Program} {t : TypeId} {f0 f1 : Field} {fuel : Nat} {cs : List Value} {y : DataW H × List MemPlace} {base : Nat} {spare : Nat → Bool} {held : Bool} (hs : P.underlying t = some (.struct #[f0, f1]))
    (hone : oneCellFields P #[f0, f1] = true) (hC : P.cellsOf t = 2) (h : DataW.trod enc P w base spare held fuel t cs = some y) :
    ∃ v0 v1 n z0 z1, cs = [v0, v1] ∧ DataW.trod enc P w base spare held n f0.type [v0] = some z0 ∧ DataW.trod enc P w base spare held n f1.type [v1] = some z1 := by
  obtain ⟨xs, n, _, _, hlen, hxl, hf⟩ := DataW.trod_struct hs h
  rw [hC] at hlen
  obtain ⟨o0, k0⟩ := hone_of hone 0 f0 rfl
  obtain ⟨o1, k1⟩ := hone_of hone 1 f1 rfl
  match cs, xs, hlen, hxl with
  | [v0, v1], [z0, z1], _, _ =>
    exact ⟨v0, v1, n, z0, z1, rfl, by simpa [o0, k0] using hf 0 f0 rfl, by simpa [o1, k1] using hf 1 f1 rfl⟩

theorem act_in {fuel : Nat} {cs : List Value} {y : DataW H × List MemPlace} {b o : Nat} (h : DataW.trod enc Try.prog w 0 (fun _ => true) true fuel 32 cs = some y)
    (hc : ∀ j, j < 2 → w.cell? ⟨b, o + j, none⟩ = cs[j]?) : ∃ x : Ac, x.At w b o := by
  obtain ⟨v0, v1, n, z0, z1, rfl, t0, t1⟩ := two_in Try.underlying32 (by kernel_rfl) cells32 h
  obtain ⟨a0, e0, _, w0⟩ := DataW.trod_int Try.underlying29 t0
  obtain ⟨a1, e1, _, w1⟩ := DataW.trod_int Try.underlying30 t1
  injection e0 with e0
  injection e1 with e1
  subst e0 e1
  have b0 : -128 ≤ a0 ∧ a0 ≤ 127 := by simpa [Lit.wf, IntKind.min, IntKind.max, IntKind.signed, IntKind.bits] using w0
  have b1 : -32768 ≤ a1 ∧ a1 ≤ 32767 := by simpa [Lit.wf, IntKind.min, IntKind.max, IntKind.signed, IntKind.bits] using w1
  have c0 := hc 0 (by omega)
  exact ⟨⟨a0, a1⟩, ⟨c0, hc 1 (by omega), b0, b1, World.block_lt_of_cell? w _ c0⟩⟩

theorem add_lit (b o k : Nat) : (⟨b, o, none⟩ : Addr).add k = ⟨b, o + k, none⟩ := by
  unfold Addr.add
  by_cases h : k = 0 <;> simp [h]

/-- The acts that came in. -/
theorem acts_in {a : Option Addr} {len cap : Nat} {d : DataW H} {p : List MemPlace} (h : DataW.Trod enc Try.prog w 0 (fun _ => true) true 22 (.slice a len cap) d p) : ∃ L, Acts w a len cap L := by
  obtain ⟨fuel, hf⟩ := h
  rcases open_slice Try.underlying22 hf with ⟨hcs, _⟩ | ⟨x, len', cap', m, n, D, Pl, hcs, _, hl, hm, hmm, _, hi⟩
  · simp [Value.cells] at hcs
    obtain ⟨rfl, rfl, rfl⟩ := hcs
    exact ⟨[], rfl, Nat.le_refl _, by unfold maxLen; omega, fun h => absurd h (by omega)⟩
  · simp [Value.cells] at hcs
    obtain ⟨rfl, rfl, rfl⟩ := hcs
    simp only [if_true] at hmm
    subst hmm
    have key : ∀ i, i < len → ∃ (y : Ac), ∃ b o, x = ⟨b, o, none⟩ ∧ y.At w b (o + i * 2) := by
      intro i hil
      obtain ⟨cs', hc, ht⟩ := hi i (by omega)
      rw [cells32] at hc
      obtain ⟨_, hcl, hat⟩ := World.cells?_some hc
      obtain ⟨b, o, spot⟩ := x
      have hs : spot = none := by
        obtain ⟨cs0, hc0, _⟩ := hi 0 (by omega)
        rw [cells32] at hc0
        obtain ⟨_, hcl0, hat0⟩ := World.cells?_some hc0
        have h0 := hat0 0 (by omega)
        rw [List.getElem?_eq_getElem (by omega)] at h0
        have := World.cell?_spot h0
        simpa [Addr.add] using this
      subst hs
      obtain ⟨y, hy⟩ := act_in (b := b) (o := o + i * 2) ht (fun j hj => by have := hat j hj; rw [add_lit, add_lit] at this; exact this)
      exact ⟨y, b, o, rfl, hy⟩
    rcases Nat.eq_zero_or_pos len with h0 | h0
    · subst h0
      exact ⟨[], rfl, hl, hm, fun h => absurd h (by omega)⟩
    · obtain ⟨_, b, o, rfl, _⟩ := key 0 h0
      have key2 : ∀ k, k ≤ len → ∃ L : List Ac, L.length = k ∧ ∀ i (h : i < L.length), L[i].At w b (o + i * 2) := by
        intro k
        induction k with
        | zero => exact fun _ => ⟨[], rfl, fun i h => absurd h (by simp)⟩
        | succ k ih =>
          intro hk
          obtain ⟨L, hL, hat⟩ := ih (by omega)
          obtain ⟨y, b', o', e, hy⟩ := key k (by omega)
          injection e with e1 e2
          subst e1 e2
          refine ⟨L ++ [y], by simp [hL], fun i h => ?_⟩
          rcases Nat.lt_or_ge i L.length with h' | h'
          · rw [List.getElem_append_left h']
            exact hat i h'
          · have e : i = L.length := by simp at h; omega
            subst e
            rw [List.getElem_append_right (Nat.le_refl _)]
            simpa [hL] using hy
      obtain ⟨L, hL, hat⟩ := key2 len (Nat.le_refl _)
      exact ⟨L, hL, hl, hm, fun _ => ⟨b, o, rfl, hat⟩⟩
end
end Go.Proofs.Ytcekcbheajcfpaa
