/-
  THE WALK OF SumFlips.
-/
import Derived.Test.YtbepffakcabfiaaSumOpensWalk
import Derived.Test.YtbepffakcabfiaaSumSealsWalk
namespace Go.Proofs.Ytbepffakcabfiaa
open Go.RowKit
set_option linter.unusedVariables false

theorem held_inj (a b : List (BitVec 8)) (ha : a.length = 4) (hb : b.length = 4) (h : Crc.held a 4 = Crc.held b 4) : a = b := by
  match a, b, ha, hb with
  | [p0, p1, p2, p3], [q0, q1, q2, q3], _, _ =>
    have e1 := held4 p0 p1 p2 p3
    have e2 := held4 q0 q1 q2 q3
    rw [h, e2] at e1
    have a0 := lt8 p0
    have a1 := lt8 p1
    have a2 := lt8 p2
    have a3 := lt8 p3
    have b0 := lt8 q0
    have b1 := lt8 q1
    have b2 := lt8 q2
    have b3 := lt8 q3
    have r0 : p0 = q0 := BitVec.eq_of_toNat_eq (by omega)
    have r1 : p1 = q1 := BitVec.eq_of_toNat_eq (by omega)
    have r2 : p2 = q2 := BitVec.eq_of_toNat_eq (by omega)
    have r3 : p3 = q3 := BitVec.eq_of_toNat_eq (by omega)
    rw [r0, r1, r2, r3]

theorem flip_wrong (l : List (BitVec 8)) (n : Nat) (hn : l.length = n) (j : Nat) (hj : j < (l ++ Crc.low (Crc.sum l) 4).length) (y : BitVec 8) (hy : (l ++ Crc.low (Crc.sum l) 4)[j] ≠ y) :
    ¬ Crc.held (((l ++ Crc.low (Crc.sum l) 4).set j y).drop n) 4 = Crc.sum (((l ++ Crc.low (Crc.sum l) 4).set j y).take n) := by
  have hl4 := low_len (Crc.sum l) 4
  rw [List.length_append, hl4] at hj
  rw [List.set_append]
  by_cases h : j < l.length
  · rw [if_pos h, List.drop_left' (by simpa using hn), List.take_left' (by simpa using hn), held_low]
    rw [List.getElem_append_left h] at hy
    intro e
    exact Crc.sum_set_ne l j h y hy e.symm
  · rw [if_neg h, List.drop_left' hn, List.take_left' hn]
    rw [List.getElem_append_right (by omega)] at hy
    intro e
    have e2 : (Crc.low (Crc.sum l) 4).set (j - l.length) y = Crc.low (Crc.sum l) 4 := held_inj _ _ (by simpa using hl4) hl4 (by rw [e, held_low])
    have hjl : j - l.length < (Crc.low (Crc.sum l) 4).length := by rw [hl4]; omega
    have e3 : ((Crc.low (Crc.sum l) 4).set (j - l.length) y)[j - l.length]'(by simpa using hjl) = (Crc.low (Crc.sum l) 4)[j - l.length] := by
      simp only [e2]
    rw [List.getElem_set_self] at e3
    exact hy e3.symm

theorem flip_val (x : BitVec 8) (t : Nat) : bits BinOp.xor IntKind.u8 (x.toNat : Int) ((2 : Int) ^ t % (256 : Int)) = ((x ^^^ (1#8 <<< t)).toNat : Int) := by
  have e : (2 : Int) ^ t % (256 : Int) = ((1#8 <<< t).toNat : Int) := by
    rw [BitVec.toNat_shiftLeft, Nat.shiftLeft_eq, Int.natCast_emod, Int.natCast_mul, Int.natCast_pow]
    show _ = ((1 : Int) * _) % 256
    rw [Int.one_mul]
    rfl
  rw [e, xor8]
theorem flip_ne (x : BitVec 8) (t : Nat) (ht : t < 8) : x ≠ x ^^^ (1#8 <<< t) := by
  intro e
  have h : x.getLsbD t = (x ^^^ (1#8 <<< t)).getLsbD t := by rw [← e]
  rw [BitVec.getLsbD_xor, BitVec.getLsbD_shiftLeft] at h
  simp [ht] at h

set_option maxRecDepth 100000 in
set_option maxHeartbeats 400000 in
theorem flips_walk (a0 : Option Addr) (len0 cap0 : Nat) (a1 : Int) (l : List (BitVec 8)) (w : World) (hm : cap0 ≤ maxLen) (hc : len0 ≤ cap0) (h0 : a0 = none → len0 = 0 ∧ cap0 = 0) (h : Has w a0 len0 l) (w1 : (Lit.int .u16 a1).wf = true) :
    Calls Try.prog 6 #[.slice a0 len0 cap0, .int .u16 a1] w fun e w' => e = .returned (.bool true) ∧ Below w.heap.size w w' := by
  have H00 := Lib.hid h0
  clear h0
  unfold maxLen at hm
  have hb : 0 ≤ a1 ∧ a1 ≤ 65535 := by simpa [Lit.wf, IntKind.min, IntKind.max, IntKind.signed, IntKind.bits] using w1
  obtain ⟨a1lo, a1hi⟩ := hb
  clear w1
  by_cases h6 : 600 < len0
  · go_enter Try.func6, Try.ntmps6
    go_wp2_with (go_at_call 9; refine (awake_any _).mono ?_; rintro e w' ⟨rfl, hb⟩)
    go_ret
    exact ⟨rfl, hb⟩
  go_enter Try.func6, Try.ntmps6
  go_wp2_with fail
  refine (awake_any _).mono ?_
  rintro e w1 ⟨rfl, hb1⟩
  have H1 := Lib.hid (h.below hb1)
  have HL := Lib.hid h.1
  clear h
  go_wp2_with fail
  refine (seal_any _ _ _ l _ (by omega) H00.out H1.out).mono ?_
  rintro e w2 ⟨v2, rfl, hf2⟩
  obtain ⟨a2, c2, rfl, hc2, hm2, hv2, hg2⟩ := Has.of_own hf2.1
  obtain ⟨b, off, rfl⟩ := hv2.some_ (by omega)
  obtain ⟨g, hgg, hgb⟩ := hg2 _ rfl
  injection hgg with hgg1 hgg2
  subst hgg1 hgg2
  have F2 := Lib.hid hf2
  have HM2 := Lib.hid hm2
  have HG := Lib.hid hgb
  have V2 := Lib.hid hv2
  clear hf2 hv2 hm2 hg2 hgb
  go_wp2
  have hr0 : 0 ≤ a1 % (8 * ((len0 : Int) + 4)) := Int.emod_nonneg _ (by omega)
  have hr1 : a1 % (8 * ((len0 : Int) + 4)) < 8 * ((len0 : Int) + 4) := Int.emod_lt_of_pos _ (by omega)
  obtain ⟨K, hK⟩ := Int.eq_ofNat_of_zero_le hr0
  rw [hK] at hr1 ⊢
  clear hr0 hK a1lo a1hi
  have hKn : K < 8 * (len0 + 4) := by omega
  have hj : K / 8 < (l ++ Crc.low (Crc.sum l) 4).length := by rw [V2.out.1]; omega
  have hcell := V2.out.cell (K / 8) (by omega)
  rw [Nat.zero_add] at hcell
  have hfr : w2.frozen? ⟨b, K / 8, none⟩ = false := F2.out.1.frozenAt (K / 8)
  obtain ⟨x, hx⟩ : ∃ x, (l ++ Crc.low (Crc.sum l) 4)[K / 8] = x := ⟨_, rfl⟩
  rw [hx] at hcell
  have HX := Lib.hid hx
  clear hx
  have hxb := lt8 x
  have i1 : (0 : Int) ≤ (K : Int) / 8 := by omega
  have i2 : (K : Int) / 8 < (len0 : Int) + 4 := by omega
  have i3 : ((K : Int) / 8).toNat = K / 8 := by omega
  go_region
  rw [flip_val]
  have hy : x ≠ x ^^^ (1#8 <<< (K % 8)) := flip_ne x (K % 8) (by omega)
  rw [← HX.out] at hy
  have HW := Lib.hid (flip_wrong l len0 HL.out (K / 8) hj _ hy)
  rw [HX.out] at HW
  clear hy hcell hfr
  generalize x ^^^ (1#8 <<< (K % 8)) = y at *
  have hown := (F2.out.1.stored (K / 8) (.int .u8 (y.toNat : Int))).1
  have e2 : ((l ++ Crc.low (Crc.sum l) 4).map val).set (K / 8) (.int .u8 (y.toNat : Int)) = ((l ++ Crc.low (Crc.sum l) 4).set (K / 8) y).map val := by
    rw [List.map_set]; rfl
  rw [e2] at hown
  obtain ⟨a3, c3, h3, _, _, hv3, _⟩ := Has.of_own hown
  injection h3 with h31 h32 h33
  subst h31 h33
  have V3 := Lib.hid hv3
  have B3 := Lib.hid ((hb1.trans (F2.out.2.mono hb1.size)).setCell (p := ⟨b, K / 8, none⟩) (by have := HG.out; have := hb1.size; show _ ≤ b; omega) (.int .u8 (y.toNat : Int)))
  clear hown e2 hv3 F2 V2 HX
  generalize w2.setCell ⟨b, K / 8, none⟩ (.int .u8 (y.toNat : Int)) = w3 at *
  go_wp2_with fail
  refine (open_wrong _ len0 _ _ w3.drew hc2 HM2.out (by exact V3.out) HW.out).mono ?_
  rintro e w4 ⟨rfl, q, rfl⟩
  go_wp2
  go_ret
  exact ⟨rfl, below_drewN B3.out _⟩

end Go.Proofs.Ytbepffakcabfiaa
