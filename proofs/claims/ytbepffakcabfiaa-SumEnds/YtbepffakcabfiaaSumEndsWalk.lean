/-
  THE WALK OF SumEnds.
-/
import Derived.Test.YtbepffakcabfiaaSumOpensWalk
namespace Go.Proofs.Ytbepffakcabfiaa
open Go.RowKit
set_option linter.unusedVariables false

/-- Whatever is opened: nothing, or all but the last four bytes. -/
def SomeOpened (w : World) (n : Nat) (e : Ending) (w' : World) : Prop :=
  ∃ A k c en, e = .returned (.tuple #[.slice A k c, .int .i64 en]) ∧ (k = 0 ∨ k + 4 = n) ∧ Below w.heap.size w w'

theorem open_some (A : Option Addr) (n cap : Nat) (l : List (BitVec 8)) (w : World) (hc : n ≤ cap) (hm : cap ≤ maxLen) (h6 : n ≤ 1000000) (h : Has w A n l) :
    Calls Try.prog 13 #[.slice A n cap] w (SomeOpened w n) := by
  by_cases h4 : n < 4
  · refine (open_short A n cap w h4).mono ?_
    rintro e w' ⟨rfl, rfl⟩
    exact ⟨_, _, _, _, rfl, .inl rfl, Below.refl _ _⟩
  obtain ⟨m, rfl⟩ : ∃ m, n = m + 4 := ⟨n - 4, by omega⟩
  by_cases hs : Crc.held (l.drop m) 4 = Crc.sum (l.take m)
  · refine (open_right A m cap l w hc hm (by omega) h hs).mono ?_
    rintro e w' ⟨v, rfl, hf⟩
    obtain ⟨a1, c1, rfl, _⟩ := Has.of_own hf.1
    exact ⟨_, _, _, _, rfl, .inr rfl, hf.2⟩
  · refine (open_wrong A m cap l w hc hm h hs).mono ?_
    rintro e w' ⟨rfl, q, rfl⟩
    exact ⟨_, _, _, _, rfl, .inl rfl, below_drewN (Below.refl _ _) _⟩

theorem zero_sum : Crc.sum [0#8] = 0xD202EF8D#32 := by decide +kernel
theorem none_sum : Crc.low (Crc.sum []) 4 = [0#8, 0#8, 0#8, 0#8] := by decide +kernel
theorem one_more (y : BitVec 8) : ¬ Crc.held ((([] ++ Crc.low (Crc.sum []) 4) ++ [y]).drop 1) 4 = Crc.sum ((([] ++ Crc.low (Crc.sum []) 4) ++ [y]).take 1) := by
  rw [none_sum]
  show ¬ Crc.held [0#8, 0#8, 0#8, y] 4 = Crc.sum [0#8]
  rw [zero_sum]
  intro e
  have h := held4 0#8 0#8 0#8 y
  rw [e] at h
  have h0 : (0#8).toNat = 0 := rfl
  have h1 : (0xD202EF8D#32).toNat = 3523407757 := rfl
  rw [h0, h1] at h
  omega

theorem byte_of {a : Int} (h : (Lit.int .u8 a).wf = true) : ∃ y : BitVec 8, a = (y.toNat : Int) := by
  have hb : 0 ≤ a ∧ a ≤ 255 := by simpa [Lit.wf, IntKind.min, IntKind.max, IntKind.signed, IntKind.bits] using h
  exact ⟨BitVec.ofInt 8 a, by rw [BitVec.toNat_ofInt]; omega⟩

theorem one_cell {w2 : World} (y : BitVec 8) : ∀ j u, ([y].map val)[j]? = some u → (w2.alloc (.cells #[.int .u8 (y.toNat : Int)] 5)).cell? ((⟨w2.heap.size, 0, none⟩ : Addr).add j) = some u := by
  intro j u hu
  have e1 : (⟨w2.heap.size, 0, none⟩ : Addr).add j = ⟨w2.heap.size, j, none⟩ := by
    unfold Addr.add
    by_cases h : j = 0 <;> simp [h]
  rw [e1, cell_of_row _ _ j _ 5 (0, 0) (heap_alloc_new w2 _), ← hu]
  simp [val]

set_option maxRecDepth 100000 in
set_option maxHeartbeats 400000 in
theorem ends_walk (a0 : Option Addr) (len0 cap0 : Nat) (a1 : Int) (l : List (BitVec 8)) (w : World) (hm : cap0 ≤ maxLen) (hc : len0 ≤ cap0) (h0 : a0 = none → len0 = 0 ∧ cap0 = 0) (h : Has w a0 len0 l) (w1 : (Lit.int .u8 a1).wf = true) :
    Calls Try.prog 8 #[.slice a0 len0 cap0, .int .u8 a1] w fun e w' => e = .returned (.bool true) ∧ Below w.heap.size w w' := by
  have H00 := Lib.hid h0
  clear h0
  unfold maxLen at hm
  obtain ⟨y, rfl⟩ := byte_of w1
  clear w1
  by_cases h6 : 600 < len0
  · go_enter Try.func8, Try.ntmps8
    go_wp2_with (go_at_call 9; refine (awake_any _).mono ?_; rintro e w' ⟨rfl, hb⟩)
    go_ret
    exact ⟨rfl, hb⟩
  obtain ⟨i0, hi, hz0, hz1, hz2⟩ := info_parts byte_info
  by_cases hz : len0 = 0
  · subst hz
    obtain rfl := List.eq_nil_of_length_eq_zero h.1
    go_enter Try.func8, Try.ntmps8
    go_wp2_with fail
    refine (awake_any _).mono ?_
    rintro e w1 ⟨rfl, hb1⟩
    have H1 := Lib.hid (h.below hb1)
    clear h
    go_wp2_with fail
    refine (seal_any _ _ _ [] _ (by omega) (fun e => ⟨rfl, (H00.out e).2⟩) H1.out).mono ?_
    rintro e w2 ⟨v2, rfl, hf2⟩
    obtain ⟨a2, c2, rfl, hc2, hm2, hv2, _⟩ := Has.of_own hf2.1
    have HM2 := Lib.hid hm2
    have V2 := Lib.hid hv2
    have B2 := Lib.hid (hb1.trans (hf2.2.mono hb1.size))
    clear hf2 hv2 hb1 H1 hm2
    go_wp2_with fail
    refine (clone_any _ _ _ _ _ (by omega) V2.out).mono ?_
    rintro e w3 ⟨v3, rfl, hf3⟩
    have F3 := Lib.hid hf3
    clear hf3
    go_wp2_with (at_builtin; refine wpList_append_own _ rfl (.tmp 25) (.tmp 27) 22 rfl w2.heap.size 5 i0 (.int .u8 0) 1 1 Try.underlying22 hi hz0 hz1 hz2 rfl (by decide) v3 (0 + 4) _ rfl (F3.out.1.alloc _) ⟨w3.heap.size, 0, none⟩ 1 1 ([y].map val) rfl rfl (one_cell y) (val_one _) (by unfold maxLen; omega) (by omega) (by have := F3.out.2.size; simp; omega) ?_; intro v4 w4 hown4 hg4 _)
    have hb4 : Below w2.heap.size w2 w4 := (F3.out.2.alloc F3.out.2.size _).grown hg4 (by have := F3.out.2.size; simp; omega) (fun g hg => (F3.out.1.lt g hg).1)
    rw [← List.map_append] at hown4
    obtain ⟨a4, c4, rfl, hc4, hm4, hv4, _⟩ := Has.of_own hown4
    have V4 := Lib.hid hv4
    have V24 := Lib.hid (V2.out.below hb4)
    have HM4 := Lib.hid hm4
    have B4 := Lib.hid (B2.out.trans (hb4.mono B2.out.size))
    clear hv4 hown4 hg4 hb4 F3 V2 B2 hm4
    go_wp2_with fail
    refine (open_wrong _ 1 _ _ _ hc4 HM4.out V4.out (one_more y)).mono ?_
    rintro e w5 ⟨rfl, q, rfl⟩
    go_wp2_with fail
    refine (open_short _ _ _ _ (by omega)).mono ?_
    rintro e w6 ⟨rfl, rfl⟩
    go_wp2
    go_ret
    exact ⟨rfl, below_drewN B4.out _⟩
  · go_enter Try.func8, Try.ntmps8
    go_wp2_with fail
    refine (awake_any _).mono ?_
    rintro e w1 ⟨rfl, hb1⟩
    have H1 := Lib.hid (h.below hb1)
    clear h
    go_wp2_with fail
    refine (seal_any _ _ _ l _ (by omega) H00.out H1.out).mono ?_
    rintro e w2 ⟨v2, rfl, hf2⟩
    obtain ⟨a2, c2, rfl, hc2, hm2, hv2, _⟩ := Has.of_own hf2.1
    have HM2 := Lib.hid hm2
    have V2 := Lib.hid hv2
    have B2 := Lib.hid (hb1.trans (hf2.2.mono hb1.size))
    clear hf2 hv2 hb1 H1 hm2
    go_wp2_with fail
    refine (clone_any _ _ _ _ _ (by omega) V2.out).mono ?_
    rintro e w3 ⟨v3, rfl, hf3⟩
    have F3 := Lib.hid hf3
    clear hf3
    go_wp2_with (at_builtin; refine wpList_append_own _ rfl (.tmp 25) (.tmp 27) 22 rfl w2.heap.size 5 i0 (.int .u8 0) 1 1 Try.underlying22 hi hz0 hz1 hz2 rfl (by decide) v3 (len0 + 4) _ rfl (F3.out.1.alloc _) ⟨w3.heap.size, 0, none⟩ 1 1 ([y].map val) rfl rfl (one_cell y) (val_one _) (by unfold maxLen; omega) (by omega) (by have := F3.out.2.size; simp; omega) ?_; intro v4 w4 hown4 hg4 _)
    have hb4 : Below w2.heap.size w2 w4 := (F3.out.2.alloc F3.out.2.size _).grown hg4 (by have := F3.out.2.size; simp; omega) (fun g hg => (F3.out.1.lt g hg).1)
    rw [← List.map_append] at hown4
    obtain ⟨a4, c4, rfl, hc4, hm4, hv4, _⟩ := Has.of_own hown4
    have V4 := Lib.hid hv4
    have V24 := Lib.hid (V2.out.below hb4)
    have HM4 := Lib.hid hm4
    have B4 := Lib.hid (B2.out.trans (hb4.mono B2.out.size))
    clear hv4 hown4 hg4 hb4 F3 V2 B2 hm4
    go_wp2_with fail
    refine (open_some _ _ _ _ _ hc4 HM4.out (by omega) V4.out).mono ?_
    rintro e w5 ⟨a5, k5, c5, e5, rfl, hk5, hb5⟩
    have d5 : ((k5 : Int) != (len0 : Int)) = true := by simp only [bne_iff_ne, ne_eq]; omega
    have V25 := Lib.hid (V24.out.below hb5)
    have B5 := Lib.hid (B4.out.trans (hb5.mono B4.out.size))
    clear hk5 hb5 V24 B4 V4
    go_wp2_with fail
    refine (open_some _ _ _ _ _ (by omega) HM2.out (by omega) (V25.out.take (len0 + 3) (by omega))).mono ?_
    rintro e w6 ⟨a6, k6, c6, e6, rfl, hk6, hb6⟩
    have d6 : ((k6 : Int) != (len0 : Int)) = true := by simp only [bne_iff_ne, ne_eq]; omega
    have B6 := Lib.hid (B5.out.trans (hb6.mono B5.out.size))
    clear hk6 hb6 V25 B5
    go_wp2
    go_ret
    exact ⟨rfl, B6.out⟩

end Go.Proofs.Ytbepffakcabfiaa
