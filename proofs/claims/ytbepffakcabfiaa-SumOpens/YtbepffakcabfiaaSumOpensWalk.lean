/-
  THE WALK OF SumOpens.
-/
import Derived.Test.YtbepffakcabfiaaWalkD
namespace Go.Proofs.Ytbepffakcabfiaa
open Go.RowKit
set_option linter.unusedVariables false

theorem four {w : World} {b off m : Nat} {l : List (BitVec 8)} (h : Has w (some ⟨b, off, none⟩) (m + 4) l) : ∃ y0 y1 y2 y3 : BitVec 8, l.drop m = [y0, y1, y2, y3] ∧
    w.cell? ⟨b, off + m, none⟩ = some (.int .u8 (y0.toNat : Int)) ∧ w.cell? ⟨b, off + (m + 1), none⟩ = some (.int .u8 (y1.toNat : Int)) ∧
    w.cell? ⟨b, off + (m + 2), none⟩ = some (.int .u8 (y2.toNat : Int)) ∧ w.cell? ⟨b, off + (m + 3), none⟩ = some (.int .u8 (y3.toNat : Int)) := by
  have hl := h.1
  refine ⟨l[m], l[m + 1], l[m + 2], l[m + 3], ?_, h.cell m (by omega), h.cell (m + 1) (by omega), h.cell (m + 2) (by omega), h.cell (m + 3) (by omega)⟩
  rw [List.drop_eq_getElem_cons (by omega), List.drop_eq_getElem_cons (by omega), List.drop_eq_getElem_cons (by omega), List.drop_eq_getElem_cons (by omega), List.drop_eq_nil_of_le (by omega)]

theorem held4 (y0 y1 y2 y3 : BitVec 8) : ((Crc.held [y0, y1, y2, y3] 4).toNat : Int) = (y0.toNat : Int) + (y1.toNat : Int) * (256 : Int) + (y2.toNat : Int) * (65536 : Int) + (y3.toNat : Int) * (16777216 : Int) := by
  have b0 := lt8 y0
  have b1 := lt8 y1
  have b2 := lt8 y2
  have b3 := lt8 y3
  have step : ∀ (d : BitVec 32) (y : BitVec 8) (k : Nat), k ≤ 24 → d.toNat < 2 ^ k → (d ||| (y.setWidth 32 <<< k)).toNat = y.toNat * 2 ^ k + d.toNat := by
    intro d y k hk hd
    have hyb := lt8 y
    have e2 : 2 ^ k * 256 ≤ 2 ^ 32 := by
      rw [show (256 : Nat) = 2 ^ 8 from rfl, ← Nat.pow_add]
      exact Nat.pow_le_pow_right (by omega) (by omega)
    have e3 : y.toNat * 2 ^ k < 2 ^ 32 := Nat.lt_of_lt_of_le (by rw [Nat.mul_comm]; exact Nat.mul_lt_mul_of_pos_left hyb (Nat.two_pow_pos k)) e2
    rw [BitVec.toNat_or, BitVec.toNat_shiftLeft, BitVec.toNat_setWidth, Nat.mod_eq_of_lt (a := y.toNat) (by omega), Nat.shiftLeft_eq, Nat.mod_eq_of_lt e3, ← Nat.shiftLeft_eq, Nat.or_comm, ← Nat.shiftLeft_add_eq_or_of_lt hd]
  have s0 := step (Crc.held [y0, y1, y2, y3] 0) y0 0 (by omega) (by show 0 < 1; omega)
  have s1 := step (Crc.held [y0, y1, y2, y3] 1) y1 8 (by omega) (by show (Crc.held [y0, y1, y2, y3] 0 ||| (y0.setWidth 32 <<< 0)).toNat < _; rw [s0]; show y0.toNat * 1 + 0 < 256; omega)
  have r1 : (Crc.held [y0, y1, y2, y3] 1).toNat = y0.toNat := by show (Crc.held [y0, y1, y2, y3] 0 ||| (y0.setWidth 32 <<< 0)).toNat = _; rw [s0]; show y0.toNat * 1 + 0 = _; omega
  have r2 : (Crc.held [y0, y1, y2, y3] 2).toNat = y1.toNat * 256 + y0.toNat := by show (Crc.held [y0, y1, y2, y3] 1 ||| (y1.setWidth 32 <<< 8)).toNat = _; rw [s1, r1]
  have s2 := step (Crc.held [y0, y1, y2, y3] 2) y2 16 (by omega) (by rw [r2]; omega)
  have r3 : (Crc.held [y0, y1, y2, y3] 3).toNat = y2.toNat * 65536 + (y1.toNat * 256 + y0.toNat) := by show (Crc.held [y0, y1, y2, y3] 2 ||| (y2.setWidth 32 <<< 16)).toNat = _; rw [s2, r2]
  have s3 := step (Crc.held [y0, y1, y2, y3] 3) y3 24 (by omega) (by rw [r3]; omega)
  have r4 : (Crc.held [y0, y1, y2, y3] 4).toNat = y3.toNat * 16777216 + (y2.toNat * 65536 + (y1.toNat * 256 + y0.toNat)) := by show (Crc.held [y0, y1, y2, y3] 3 ||| (y3.setWidth 32 <<< 24)).toNat = _; rw [s3, r3]
  rw [r4]
  omega

theorem test_wrong {l : List (BitVec 8)} {m : Nat} {y0 y1 y2 y3 : BitVec 8} (hy : l.drop m = [y0, y1, y2, y3]) (hs : ¬ Crc.held (l.drop m) 4 = Crc.sum (l.take m)) :
    ((y0.toNat : Int) + (y1.toNat : Int) * (256 : Int) + (y2.toNat : Int) * (65536 : Int) + (y3.toNat : Int) * (16777216 : Int) != ((Crc.sum (l.take m)).toNat : Int)) = true := by
  rw [← held4, ← hy]
  simp only [bne_iff_ne, ne_eq]
  intro e
  exact hs (BitVec.eq_of_toNat_eq (by omega))
theorem test_right {l : List (BitVec 8)} {m : Nat} {y0 y1 y2 y3 : BitVec 8} (hy : l.drop m = [y0, y1, y2, y3]) (hs : Crc.held (l.drop m) 4 = Crc.sum (l.take m)) :
    ((y0.toNat : Int) + (y1.toNat : Int) * (256 : Int) + (y2.toNat : Int) * (65536 : Int) + (y3.toNat : Int) * (16777216 : Int) != ((Crc.sum (l.take m)).toNat : Int)) = false := by
  rw [← held4, ← hy, hs]
  simp

set_option maxRecDepth 100000 in
set_option maxHeartbeats 400000 in
theorem opens_walk (a0 : Option Addr) (len0 cap0 : Nat) (l : List (BitVec 8)) (w : World) (hm : cap0 ≤ maxLen) (hc : len0 ≤ cap0) (h0 : a0 = none → len0 = 0 ∧ cap0 = 0) (h : Has w a0 len0 l) :
    Calls Try.prog 5 #[.slice a0 len0 cap0] w fun e w' => e = .returned (.bool true) ∧ Below w.heap.size w w' := by
  have HM := Lib.hid hm
  unfold maxLen at hm
  by_cases h6 : 600 < len0
  · clear h0
    go_enter Try.func5, Try.ntmps5
    go_wp2_with (go_at_call 9; refine (awake_any _).mono ?_; rintro e w' ⟨rfl, hb⟩)
    go_ret
    exact ⟨rfl, hb⟩
  by_cases h4 : len0 < 4
  · clear h0
    go_enter Try.func5, Try.ntmps5
    go_wp2_with fail
    refine (awake_any _).mono ?_
    rintro e w' ⟨rfl, hb⟩
    go_wp2_with fail
    refine (open_short _ _ _ _ h4).mono ?_
    rintro e w'' ⟨rfl, rfl⟩
    go_wp2
    go_ret
    exact ⟨rfl, hb⟩
  obtain ⟨m, rfl⟩ : ∃ m, len0 = m + 4 := ⟨len0 - 4, by omega⟩
  obtain ⟨b, off, rfl⟩ := h.some_ (by omega)
  clear h0
  by_cases hs : Crc.held (l.drop m) 4 = Crc.sum (l.take m)
  · have HS := Lib.hid hs
    clear hs
    go_enter Try.func5, Try.ntmps5
    go_wp2_with fail
    refine (awake_any _).mono ?_
    rintro e w0 ⟨rfl, hb0⟩
    have H0 := Lib.hid (h.below hb0)
    clear h
    go_wp2_with fail
    refine (open_right _ m _ l _ hc HM.out (by omega) H0.out HS.out).mono ?_
    rintro e w1 ⟨v, rfl, hf⟩
    have H := Lib.hid (H0.out.below hf.2)
    have hb := (hb0.trans (hf.2.mono hb0.size))
    obtain ⟨a1, c1, rfl, _, _, hv, _⟩ := Has.of_own hf.1
    have V := Lib.hid hv
    clear hf H0 hb0 hv
    obtain ⟨y0, y1, y2, y3, hy, hx0, hx1, hx2, hx3⟩ := four H.out
    have HY := Lib.hid hy
    clear hy
    have b0 := lt8 y0
    have b1 := lt8 y1
    have b2 := lt8 y2
    have b3 := lt8 y3
    go_wp2
    have m1 : IntKind.i64.wrap ((m : Int) + 1) = (m : Int) + 1 := IntWalk.i64_in _ (by omega)
    have m2 : IntKind.i64.wrap ((m : Int) + 2) = (m : Int) + 2 := IntWalk.i64_in _ (by omega)
    have m3 : IntKind.i64.wrap ((m : Int) + 3) = (m : Int) + 3 := IntWalk.i64_in _ (by omega)
    have t1 : ((m : Int) + 1).toNat = m + 1 := by omega
    have t2 : ((m : Int) + 2).toNat = m + 2 := by omega
    have t3 : ((m : Int) + 3).toNat = m + 3 := by omega
    have p1 : (0 : Int) ≤ (m : Int) + 1 := by clear m1 m2 m3; omega
    have p2 : (0 : Int) ≤ (m : Int) + 2 := by clear m1 m2 m3; omega
    have p3 : (0 : Int) ≤ (m : Int) + 3 := by clear m1 m2 m3; omega
    go_quiet (fail)
    clear m1 m2 m3 t1 t2 t3 p1 p2 p3
    have ht := test_right HY.out HS.out
    go_wp2_with fail
    refine (ref_any _ _ _ (l.take m) _ (by omega) ((H.out.take m (by omega)).drewN _)).mono ?_
    rintro e w2 ⟨rfl, rfl⟩
    go_wp2_with fail
    refine (equal_any _ _ _ _ _ _ (l.take m) (l.take m) _ (by omega) (by omega) (V.out.drewN _) ((H.out.take m (by omega)).drewN _)).mono ?_
    rintro e w2 ⟨rfl, q2, rfl⟩
    rw [decide_eq_true rfl]
    go_wp2
    go_ret
    exact ⟨rfl, below_drewN hb _⟩
  · have HS := Lib.hid hs
    clear hs
    go_enter Try.func5, Try.ntmps5
    go_wp2_with fail
    refine (awake_any _).mono ?_
    rintro e w1 ⟨rfl, hb⟩
    have H := Lib.hid (h.below hb)
    clear h
    go_wp2_with fail
    refine (open_wrong _ m _ l _ hc HM.out H.out HS.out).mono ?_
    rintro e w'' ⟨rfl, q, rfl⟩
    obtain ⟨y0, y1, y2, y3, hy, hx0, hx1, hx2, hx3⟩ := four H.out
    have HY := Lib.hid hy
    clear hy
    have b0 := lt8 y0
    have b1 := lt8 y1
    have b2 := lt8 y2
    have b3 := lt8 y3
    go_wp2
    have m1 : IntKind.i64.wrap ((m : Int) + 1) = (m : Int) + 1 := IntWalk.i64_in _ (by omega)
    have m2 : IntKind.i64.wrap ((m : Int) + 2) = (m : Int) + 2 := IntWalk.i64_in _ (by omega)
    have m3 : IntKind.i64.wrap ((m : Int) + 3) = (m : Int) + 3 := IntWalk.i64_in _ (by omega)
    have t1 : ((m : Int) + 1).toNat = m + 1 := by omega
    have t2 : ((m : Int) + 2).toNat = m + 2 := by omega
    have t3 : ((m : Int) + 3).toNat = m + 3 := by omega
    have p1 : (0 : Int) ≤ (m : Int) + 1 := by clear m1 m2 m3; omega
    have p2 : (0 : Int) ≤ (m : Int) + 2 := by clear m1 m2 m3; omega
    have p3 : (0 : Int) ≤ (m : Int) + 3 := by clear m1 m2 m3; omega
    go_quiet (fail)
    clear m1 m2 m3 t1 t2 t3 p1 p2 p3
    have ht := test_wrong HY.out HS.out
    go_wp2_with fail
    refine (ref_any _ _ _ (l.take m) _ (by omega) ((H.out.take m (by omega)).drewN _)).mono ?_
    rintro e w2 ⟨rfl, rfl⟩
    go_wp2
    go_ret
    exact ⟨rfl, below_drewN hb _⟩

end Go.Proofs.Ytbepffakcabfiaa
