/-
  THE WALKS OF All AND Awake; ACTS THAT CAME IN.
-/
import Derived.Test.YtpijapnidnkknaaDead
import Derived.Deep.CutRange
import Derived.Deep.Slices
import Derived.Deep.Fields
import Derived.ChangeSame
namespace Go.Proofs.Ytpijapnidnkknaa
open Go.RowKit
set_option linter.unusedVariables false
set_option maxRecDepth 100000


section
variable {w : World} {g r : Nat} {T : List Sg}
set_option maxHeartbeats 800000 in
theorem all_any (h : Tb w g r T) : Calls Try.prog 16 #[.pointer (some ⟨g, 0, none⟩)] w fun e w' => ∃ A c, e = .returned (.slice A T.length c) ∧ w'.ownsRow w.heap.size 33 3 (.slice A T.length c) T.length (flat T) ∧ Below w.heap.size w w' := by
  have H := Lib.hid h
  have c0 := h.box.cell 0
  clear h
  go_enter Try.func16, Try.ntmps16
  go_wp2_with fail
  refine (clone_any H.out.few H.out.row T.length).mono ?_
  rintro e w1 ⟨A, c, rfl, ho, hb⟩
  have OW := Lib.hid ho
  have BB := Lib.hid hb
  clear ho hb
  go_wp2
  go_ret
  exact ⟨A, c, rfl, OW.out, BB.out⟩
set_option maxHeartbeats 800000 in
theorem awake_any (w : World) : Calls Try.prog 6 #[] w fun e w' => e = .returned (.bool true) ∧ Below w.heap.size w w' := by
  go_enter Try.func6, Try.ntmps6
  go_wp2_with fail
  refine (new_any 2 w (by omega)).mono ?_
  rintro e w1 ⟨g, r, rfl, hT, hg, hr, hb⟩
  have T1 := Lib.hid hT
  have B1 := Lib.hid hb
  clear hT hb
  go_wp2_with fail
  refine (open_any 0 T1.out).mono ?_
  rintro e w2 ⟨rfl, hT, hb⟩
  have T2 := Lib.hid hT
  have B2 := Lib.hid (show Below w.heap.size w w2 from B1.out.trans (hb.below (fun k e => by omega) B1.out.size))
  clear hT hb
  go_wp2_with fail
  refine (first_any T2.out).mono ?_
  rintro e w3 ⟨rfl, hb⟩
  have F3 := Lib.hid (show first (put (List.replicate 2 Sg.zero) 0 fun x => ⟨1, x.lv, x.bo⟩) = 1 by decide)
  rw [F3.out]
  have B3 := Lib.hid (B2.out.trans (hb.mono B2.out.size))
  have T3 := Lib.hid (T2.out.below hb)
  clear hb
  go_wp2_with fail
  refine (len_any T3.out).mono ?_
  rintro e w4 ⟨rfl, hw⟩
  rw [hw]
  rw [put_len]
  clear hw
  go_wp2
  go_ret
  exact ⟨rfl, B3.out⟩
end

/-- An act that came in. -/
structure Ac where
  d : Int
  at_ : Int
  st : Nat
  lv : Int
  bo : Int
/-- The act's five cells lie at (b, o). -/
structure Ac.At (x : Ac) (w : World) (b o : Nat) : Prop where
  c0 : w.cell? ⟨b, o, none⟩ = some (.int .i8 x.d)
  c1 : w.cell? ⟨b, o + 1, none⟩ = some (.int .i8 x.at_)
  c2 : w.cell? ⟨b, o + 2, none⟩ = some (.int .u8 (x.st : Int))
  c3 : w.cell? ⟨b, o + 3, none⟩ = some (.int .i8 x.lv)
  c4 : w.cell? ⟨b, o + 4, none⟩ = some (.int .u64 x.bo)
  hd : -128 ≤ x.d ∧ x.d ≤ 127
  hat : -128 ≤ x.at_ ∧ x.at_ ≤ 127
  hst : x.st ≤ 255
  hlv : -128 ≤ x.lv ∧ x.lv ≤ 127
  hbo : 0 ≤ x.bo ∧ x.bo ≤ 18446744073709551615
  lt : b < w.heap.size
theorem Ac.At.below {x : Ac} {w w' : World} {b o : Nat} (h : x.At w b o) (hb : Below w.heap.size w w') : x.At w' b o :=
  ⟨(hb.cell (p := ⟨b, o, none⟩) h.lt).trans h.c0, (hb.cell (p := ⟨b, o + 1, none⟩) h.lt).trans h.c1, (hb.cell (p := ⟨b, o + 2, none⟩) h.lt).trans h.c2, (hb.cell (p := ⟨b, o + 3, none⟩) h.lt).trans h.c3, (hb.cell (p := ⟨b, o + 4, none⟩) h.lt).trans h.c4, h.hd, h.hat, h.hst, h.hlv, h.hbo, Nat.lt_of_lt_of_le h.lt hb.size⟩
/-- Acts that came in. -/
def Acts (w : World) (A : Option Addr) (n cap : Nat) (L : List Ac) : Prop :=
  L.length = n ∧ n ≤ cap ∧ cap ≤ maxLen ∧ (0 < n → ∃ b off, A = some ⟨b, off, none⟩ ∧ ∀ i (h : i < L.length), L[i].At w b (off + i * 5))
theorem Acts.below {w w' : World} {A : Option Addr} {n cap : Nat} {L : List Ac} (h : Acts w A n cap L) (hb : Below w.heap.size w w') : Acts w' A n cap L :=
  ⟨h.1, h.2.1, h.2.2.1, fun hn => by
    obtain ⟨b, off, e, hc⟩ := h.2.2.2 hn
    exact ⟨b, off, e, fun i hi => (hc i hi).below hb⟩⟩

section
open Go.ChangeShapes Go.WideShapes Go.ChangeAt Go.Deep
variable {H : Type} {enc : TypeId × Value → H} {w : World}
theorem cells30 : Try.prog.cellsOf 30 = 5 := by kernel_rfl
theorem five_in {P : Program} {t : TypeId} {f0 f1 f2 f3 f4 : Field} {fuel : Nat} {cs : List Value} {y : DataW H × List MemPlace} {base : Nat} {spare : Nat → Bool} {held : Bool} (hs : P.underlying t = some (.struct #[f0, f1, f2, f3, f4]))
    (hone : oneCellFields P #[f0, f1, f2, f3, f4] = true) (hC : P.cellsOf t = 5) (h : DataW.trod enc P w base spare held fuel t cs = some y) :
    ∃ v0 v1 v2 v3 v4 n z0 z1 z2 z3 z4, cs = [v0, v1, v2, v3, v4] ∧ DataW.trod enc P w base spare held n f0.type [v0] = some z0 ∧ DataW.trod enc P w base spare held n f1.type [v1] = some z1 ∧
      DataW.trod enc P w base spare held n f2.type [v2] = some z2 ∧ DataW.trod enc P w base spare held n f3.type [v3] = some z3 ∧ DataW.trod enc P w base spare held n f4.type [v4] = some z4 := by
  obtain ⟨xs, n, _, _, hlen, hxl, hf⟩ := DataW.trod_struct hs h
  rw [hC] at hlen
  obtain ⟨o0, k0⟩ := hone_of hone 0 f0 rfl
  obtain ⟨o1, k1⟩ := hone_of hone 1 f1 rfl
  obtain ⟨o2, k2⟩ := hone_of hone 2 f2 rfl
  obtain ⟨o3, k3⟩ := hone_of hone 3 f3 rfl
  obtain ⟨o4, k4⟩ := hone_of hone 4 f4 rfl
  match cs, xs, hlen, hxl with
  | [v0, v1, v2, v3, v4], [z0, z1, z2, z3, z4], _, _ =>
    exact ⟨v0, v1, v2, v3, v4, n, z0, z1, z2, z3, z4, rfl, by simpa [o0, k0] using hf 0 f0 rfl, by simpa [o1, k1] using hf 1 f1 rfl, by simpa [o2, k2] using hf 2 f2 rfl, by simpa [o3, k3] using hf 3 f3 rfl, by simpa [o4, k4] using hf 4 f4 rfl⟩

theorem act_in {fuel : Nat} {cs : List Value} {y : DataW H × List MemPlace} {b o : Nat} (h : DataW.trod enc Try.prog w 0 (fun _ => true) true fuel 30 cs = some y)
    (hc : ∀ j, j < 5 → w.cell? ⟨b, o + j, none⟩ = cs[j]?) : ∃ x : Ac, x.At w b o := by
  obtain ⟨v0, v1, v2, v3, v4, n, z0, z1, z2, z3, z4, rfl, t0, t1, t2, t3, t4⟩ := five_in Try.underlying30 (by kernel_rfl) cells30 h
  obtain ⟨a0, e0, _, w0⟩ := DataW.trod_int Try.underlying27 t0
  obtain ⟨a1, e1, _, w1⟩ := DataW.trod_int Try.underlying27 t1
  obtain ⟨a2, e2, _, w2⟩ := DataW.trod_int Try.underlying5 t2
  obtain ⟨a3, e3, _, w3⟩ := DataW.trod_int Try.underlying27 t3
  obtain ⟨a4, e4, _, w4⟩ := DataW.trod_int Try.underlying28 t4
  injection e0 with e0
  injection e1 with e1
  injection e2 with e2
  injection e3 with e3
  injection e4 with e4
  subst e0 e1 e2 e3 e4
  have b0 : -128 ≤ a0 ∧ a0 ≤ 127 := by simpa [Lit.wf, IntKind.min, IntKind.max, IntKind.signed, IntKind.bits] using w0
  have b1 : -128 ≤ a1 ∧ a1 ≤ 127 := by simpa [Lit.wf, IntKind.min, IntKind.max, IntKind.signed, IntKind.bits] using w1
  have b2 : 0 ≤ a2 ∧ a2 ≤ 255 := by simpa [Lit.wf, IntKind.min, IntKind.max, IntKind.signed, IntKind.bits] using w2
  have b3 : -128 ≤ a3 ∧ a3 ≤ 127 := by simpa [Lit.wf, IntKind.min, IntKind.max, IntKind.signed, IntKind.bits] using w3
  have b4 : 0 ≤ a4 ∧ a4 ≤ 18446744073709551615 := by simpa [Lit.wf, IntKind.min, IntKind.max, IntKind.signed, IntKind.bits] using w4
  have n2 : ((a2.toNat : Nat) : Int) = a2 := by omega
  have c0 := hc 0 (by omega)
  refine ⟨⟨a0, a1, a2.toNat, a3, a4⟩, ⟨c0, hc 1 (by omega), by rw [n2]; exact hc 2 (by omega), hc 3 (by omega), hc 4 (by omega), b0, b1, by show a2.toNat ≤ 255; omega, b3, b4, ?_⟩⟩
  exact World.block_lt_of_cell? w _ c0

theorem add_lit (b o k : Nat) : (⟨b, o, none⟩ : Addr).add k = ⟨b, o + k, none⟩ := by
  unfold Addr.add
  by_cases h : k = 0 <;> simp [h]

/-- The acts that came in. -/
theorem acts_in {a : Option Addr} {len cap : Nat} {d : DataW H} {p : List MemPlace} (h : DataW.Trod enc Try.prog w 0 (fun _ => true) true 22 (.slice a len cap) d p) : ∃ L, Acts w a len cap L := by
  obtain ⟨fuel, hf⟩ := h
  rcases open_slice Try.underlying22 hf with ⟨hcs, _⟩ | ⟨x, len', cap', m, n, D, Pl, hcs, _, hl, hm, hmm, _, hi⟩
  · simp [Value.cells] at hcs
    obtain ⟨rfl, rfl, rfl⟩ := hcs
    exact ⟨[], rfl, Nat.le_refl _, by unfold maxLen; omega, fun h => absurd h (by omega)⟩
  · simp [Value.cells] at hcs
    obtain ⟨rfl, rfl, rfl⟩ := hcs
    simp only [if_true] at hmm
    subst hmm
    have key : ∀ i, i < len → ∃ (y : Ac), ∃ b o, x = ⟨b, o, none⟩ ∧ y.At w b (o + i * 5) := by
      intro i hil
      obtain ⟨cs', hc, ht⟩ := hi i (by omega)
      rw [cells30] at hc
      obtain ⟨_, hcl, hat⟩ := World.cells?_some hc
      obtain ⟨b, o, spot⟩ := x
      have hs : spot = none := by
        obtain ⟨cs0, hc0, _⟩ := hi 0 (by omega)
        rw [cells30] at hc0
        obtain ⟨_, hcl0, hat0⟩ := World.cells?_some hc0
        have h0 := hat0 0 (by omega)
        rw [List.getElem?_eq_getElem (by omega)] at h0
        have := World.cell?_spot h0
        simpa [Addr.add] using this
      subst hs
      obtain ⟨y, hy⟩ := act_in (b := b) (o := o + i * 5) ht (fun j hj => by have := hat j hj; rw [add_lit, add_lit] at this; exact this)
      exact ⟨y, b, o, rfl, hy⟩
    rcases Nat.eq_zero_or_pos len with h0 | h0
    · subst h0
      exact ⟨[], rfl, hl, hm, fun h => absurd h (by omega)⟩
    · obtain ⟨_, b, o, rfl, _⟩ := key 0 h0
      have key2 : ∀ k, k ≤ len → ∃ L : List Ac, L.length = k ∧ ∀ i (h : i < L.length), L[i].At w b (o + i * 5) := by
        intro k
        induction k with
        | zero => exact fun _ => ⟨[], rfl, fun i h => absurd h (by simp)⟩
        | succ k ih =>
          intro hk
          obtain ⟨L, hL, hat⟩ := ih (by omega)
          obtain ⟨y, b', o', e, hy⟩ := key k (by omega)
          injection e with e1 e2
          subst e1 e2
          refine ⟨L ++ [y], by simp [hL], fun i h => ?_⟩
          rcases Nat.lt_or_ge i L.length with h' | h'
          · rw [List.getElem_append_left h']
            exact hat i h'
          · have e : i = L.length := by simp at h; omega
            subst e
            rw [List.getElem_append_right (Nat.le_refl _)]
            simpa [hL] using hy
      obtain ⟨L, hL, hat⟩ := key2 len (Nat.le_refl _)
      exact ⟨L, hL, hl, hm, fun _ => ⟨b, o, rfl, hat⟩⟩
end

end Go.Proofs.Ytpijapnidnkknaa
