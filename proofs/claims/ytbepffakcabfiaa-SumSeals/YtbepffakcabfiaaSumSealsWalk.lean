/-
  THE WALK OF SumSeals.
-/
import Derived.Test.YtbepffakcabfiaaWalkD
namespace Go.Proofs.Ytbepffakcabfiaa
open Go.RowKit
set_option linter.unusedVariables false

theorem held_low (c : BitVec 32) : Crc.held (Crc.low c 4) 4 = c := by
  apply BitVec.eq_of_getLsbD_eq
  intro i hi
  have e : ∀ k, (Crc.byteAt c k).setWidth 32 <<< (8 * k) = (((c >>> (8 * k)).setWidth 8).setWidth 32) <<< (8 * k) := fun k => rfl
  have hb : ∀ k, ((Crc.byteAt c k).setWidth 32 <<< (8 * k)).getLsbD i = (decide (8 * k ≤ i) && decide (i < 8 * k + 8) && c.getLsbD i) := by
    intro k
    unfold Crc.byteAt
    rw [BitVec.getLsbD_shiftLeft, BitVec.getLsbD_setWidth, BitVec.getLsbD_setWidth, BitVec.getLsbD_ushiftRight]
    by_cases h1 : 8 * k ≤ i
    · rw [show 8 * k + (i - 8 * k) = i by omega]
      by_cases h2 : i < 8 * k + 8
      · have h3 : i - 8 * k < 32 := by omega
        have h4 : i - 8 * k < 8 := by omega
        have h5 : ¬ i < 8 * k := by omega
        simp [h1, h2, h3, h4, h5, hi]
      · have h4 : ¬ i - 8 * k < 8 := by omega
        simp [h2, h4]
    · have h5 : i < 8 * k := by omega
      simp [h1, h5]
  show (((((0#32 ||| (Crc.byteAt c 0).setWidth 32 <<< (8 * 0)) ||| (Crc.byteAt c 1).setWidth 32 <<< (8 * 1)) ||| (Crc.byteAt c 2).setWidth 32 <<< (8 * 2)) ||| (Crc.byteAt c 3).setWidth 32 <<< (8 * 3))).getLsbD i = _
  rw [BitVec.getLsbD_or, BitVec.getLsbD_or, BitVec.getLsbD_or, BitVec.getLsbD_or, hb 0, hb 1, hb 2, hb 3]
  cases c.getLsbD i
  · simp
  · simp
    omega

theorem low_cells (c : BitVec 32) : (Crc.low c 4).map val = [.int .u8 ((c.toNat : Int) % (256 : Int)), .int .u8 ((c.toNat : Int) / (256 : Int) % (256 : Int)), .int .u8 ((c.toNat : Int) / (65536 : Int) % (256 : Int)), .int .u8 ((c.toNat : Int) / (16777216 : Int))] := by
  have hc := lt32 c
  have e0 := byte_val c 0
  have e1 := byte_val c 1
  have e2 := byte_val c 2
  have e3 := byte_val c 3
  simp only [Nat.mul_zero, Int.pow_zero, Int.ediv_one] at e0
  rw [show (2 : Int) ^ (8 * 1) = 256 from rfl] at e1
  rw [show (2 : Int) ^ (8 * 2) = 65536 from rfl] at e2
  rw [show (2 : Int) ^ (8 * 3) = 16777216 from rfl] at e3
  have e3' : (c.toNat : Int) / (16777216 : Int) = ((Crc.byteAt c 3).toNat : Int) := by rw [← e3]; omega
  rw [e0, e1, e2, e3']
  rfl

theorem four_new {w2 : World} (c : BitVec 32) : ∀ j u, ((Crc.low c 4).map val)[j]? = some u →
    (w2.alloc (.cells #[.int .u8 ((c.toNat : Int) % (256 : Int)), .int .u8 ((c.toNat : Int) / (256 : Int) % (256 : Int)), .int .u8 ((c.toNat : Int) / (65536 : Int) % (256 : Int)), .int .u8 ((c.toNat : Int) / (16777216 : Int))] 5)).cell? ((⟨w2.heap.size, 0, none⟩ : Addr).add j) = some u := by
  intro j u hu
  have e1 : (⟨w2.heap.size, 0, none⟩ : Addr).add j = ⟨w2.heap.size, j, none⟩ := by
    unfold Addr.add
    by_cases h : j = 0 <;> simp [h]
  rw [e1, cell_of_row _ _ j _ 5 (0, 0) (heap_alloc_new w2 _), ← hu, low_cells]
  simp

set_option maxRecDepth 100000 in
set_option maxHeartbeats 400000 in
theorem seals_walk (a0 : Option Addr) (len0 cap0 : Nat) (l : List (BitVec 8)) (w : World) (hm : cap0 ≤ maxLen) (hc : len0 ≤ cap0) (h0 : a0 = none → len0 = 0 ∧ cap0 = 0) (h : Has w a0 len0 l) :
    Calls Try.prog 4 #[.slice a0 len0 cap0] w fun e w' => e = .returned (.bool true) ∧ Below w.heap.size w w' := by
  have H00 := Lib.hid h0
  clear h0
  unfold maxLen at hm
  by_cases h6 : 600 < len0
  · go_enter Try.func4, Try.ntmps4
    go_wp2_with (go_at_call 9; refine (awake_any _).mono ?_; rintro e w' ⟨rfl, hb⟩)
    go_ret
    exact ⟨rfl, hb⟩
  obtain ⟨i0, hi, hz0, hz1, hz2⟩ := info_parts byte_info
  have hlen := h.1
  obtain ⟨c, hcs⟩ : ∃ c, Crc.sum l = c := ⟨_, rfl⟩
  have HC := Lib.hid hcs
  have HL := Lib.hid hlen
  clear hcs hlen
  have hcl := lt32 c
  go_enter Try.func4, Try.ntmps4
  go_wp2_with fail
  refine (awake_any _).mono ?_
  rintro e w1 ⟨rfl, hb1⟩
  have H1 := Lib.hid (h.below hb1)
  clear h
  go_wp2_with fail
  refine (ref_any _ _ _ l _ (by omega) H1.out).mono ?_
  rintro e w2 ⟨rfl, rfl⟩
  rw [HC.out]
  go_wp2_with fail
  refine (clone_any _ _ _ l _ (by omega) H1.out).mono ?_
  rintro e w2 ⟨v, rfl, hf2⟩
  have F2 := Lib.hid hf2
  clear hf2
  go_wp2_with (at_builtin; refine wpList_append_own _ rfl (.tmp 15) (.tmp 30) 22 rfl w1.heap.size 5 i0 (.int .u8 0) 1 1 Try.underlying22 hi hz0 hz1 hz2 rfl (by decide) v len0 (l.map val) rfl (F2.out.1.alloc _) ⟨w2.heap.size, 0, none⟩ 4 4 ((Crc.low c 4).map val) rfl rfl (four_new c) (val_one _) (by unfold maxLen; omega) (by omega) (by have := F2.out.2.size; simp; omega) ?_; intro v3 w3 hown3 hg3 _)
  have hb3 : Below w1.heap.size w1 w3 := (F2.out.2.alloc F2.out.2.size _).grown hg3 (by have := F2.out.2.size; simp; omega) (fun g hg => (F2.out.1.lt g hg).1)
  rw [← List.map_append] at hown3
  obtain ⟨a3, c3, rfl, hc3, hm3, hv3, _⟩ := Has.of_own hown3
  have V3 := Lib.hid hv3
  have H3 := Lib.hid (H1.out.below hb3)
  have HM3 := Lib.hid hm3
  have B3 := Lib.hid (hb1.trans (hb3.mono hb1.size))
  clear hv3 hown3 hg3 hb3 F2 H1 hb1 hm3
  go_wp2_with fail
  refine (open_right _ len0 _ (l ++ Crc.low c 4) _ hc3 HM3.out (by omega) V3.out ?_).mono ?_
  · rw [List.drop_left' HL.out, List.take_left' HL.out, HC.out, held_low]
  rw [List.take_left' HL.out]
  rintro e w4 ⟨v4, rfl, hf4⟩
  obtain ⟨a4, c4, rfl, _, _, hv4, _⟩ := Has.of_own hf4.1
  have V4 := Lib.hid hv4
  have H4 := Lib.hid (H3.out.below hf4.2)
  have V34 := Lib.hid (V3.out.below hf4.2)
  have B4 := Lib.hid (B3.out.trans (hf4.2.mono B3.out.size))
  clear hv4 hf4 H3 V3 B3
  go_wp2_with fail
  refine (seal_any _ _ _ l _ (by omega) H00.out H4.out).mono ?_
  rw [HC.out]
  rintro e w5 ⟨v5, rfl, hf5⟩
  obtain ⟨a5, c5, rfl, _, _, hv5, _⟩ := Has.of_own hf5.1
  have V5 := Lib.hid hv5
  have H5 := Lib.hid (H4.out.below hf5.2)
  have V35 := Lib.hid (V34.out.below hf5.2)
  have V45 := Lib.hid (V4.out.below hf5.2)
  have B5 := Lib.hid (B4.out.trans (hf5.2.mono B4.out.size))
  clear hv5 hf5 H4 V34 V4 B4
  go_wp2_with fail
  refine (equal_any _ _ _ _ _ _ (l ++ Crc.low c 4) (l ++ Crc.low c 4) _ (by omega) (by omega) V5.out V35.out).mono ?_
  rintro e w6 ⟨rfl, q, rfl⟩
  rw [decide_eq_true rfl]
  go_wp2_with fail
  refine (equal_any _ _ _ _ _ _ l l _ (by omega) (by omega) (V45.out.drewN _) (H5.out.drewN _)).mono ?_
  rintro e w7 ⟨rfl, q2, rfl⟩
  rw [decide_eq_true rfl]
  go_wp2
  go_ret
  exact ⟨rfl, below_drewN B5.out _⟩

end Go.Proofs.Ytbepffakcabfiaa
