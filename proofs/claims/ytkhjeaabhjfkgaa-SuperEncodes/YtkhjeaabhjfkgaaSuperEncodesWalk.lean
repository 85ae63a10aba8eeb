/-
  THE WALK OF SuperEncodes: any small shape, any member.
-/
import Derived.Test.YtkhjeaabhjfkgaaTells
namespace Go.Proofs.Ytkhjeaabhjfkgaa
open Go.RowKit
set_option linter.unusedVariables false
set_option maxRecDepth 100000

theorem zero_cs : Lab.zero.cs = #[.int .i64 0, .int .i64 0, .int .i64 0, .int .i64 0, .int .i64 0, .int .i64 0, .int .i64 0] := rfl
set_option maxHeartbeats 1000000 in
theorem encodes_yes (x0 x1 x2 x3 x4 x5 : Int) (p : Nat) (hp : p < 256) (m b g s n l : Nat) (ok : Hid (Ok (m : Int) b g s n l)) (hk : (p : Int) < (m : Int)) (SHP : Hid (Shaped x0 x1 x2 x3 x4 x5 m b g s n l)) (w : World) :
    Calls Try.prog 3 #[.agg #[.int .u8 x0, .int .u8 x1, .int .u8 x2, .int .u8 x3, .int .u8 x4, .int .u8 x5], .int .u8 (p : Int)] w fun e w' => e = .returned (.bool true) ∧ Below w.heap.size w w' := by
  have OK := Lib.hid (show (Lab.mk m b g s n l p).ok from ok.out)
  have FT := Lib.hid (Lab.ok_fits OK.out hp)
  have BK := Lib.hid (show 32 ≤ b ∧ b ≤ 512 from ok_block OK.out)
  have HK := Lib.hid (show p < m by omega)
  have heq := fun w => (show (binOp .eql 29 (.agg #[.int .i64 (m : Int), .int .i64 (b : Int), .int .i64 (g : Int), .int .i64 (s : Int), .int .i64 (n : Int), .int .i64 (l : Int), .int .i64 (p : Int)]) (.agg #[.int .i64 (m : Int), .int .i64 (b : Int), .int .i64 (g : Int), .int .i64 (s : Int), .int .i64 (n : Int), .int .i64 (l : Int), .int .i64 (p : Int)])).run Try.prog w = .ok (.bool true) w from lab_eql ⟨m, b, g, s, n, l, p⟩ w)
  have hd : decide ((m : Int) ≤ (p : Int)) = false := decide_eq_false (by omega)
  have A := Lib.hid (At.new (w := w) (g := w.heap.size) #[.int .u8 x0, .int .u8 x1, .int .u8 x2, .int .u8 x3, .int .u8 x4, .int .u8 x5] 23 rfl)
  have B0 := Lib.hid ((Below.refl w.heap.size w).alloc (Nat.le_refl _) (.cells #[.int .u8 x0, .int .u8 x1, .int .u8 x2, .int .u8 x3, .int .u8 x4, .int .u8 x5] 23))
  go_enter Try.func3, Try.ntmps3
  go_wp2_with fail
  refine (awake_any _).mono ?_
  rintro e w1 ⟨rfl, hb1⟩
  have A := Lib.hid (A.out.below hb1 A.out.lt)
  have B0 := Lib.hid (B0.out.trans (hb1.mono (up B0.out rfl)))
  have c0 := A.out.cell 0; have c1 := A.out.cell 1; have c2 := A.out.cell 2; have c3 := A.out.cell 3; have c4 := A.out.cell 4; have c5 := A.out.cell 5
  clear hb1
  go_wp2_with fail
  refine (SHP.out _).mono ?_
  rintro e w2 ⟨rfl, hb2⟩
  have B0 := Lib.hid (B0.out.trans (hb2.mono (up B0.out rfl)))
  clear hb2 c0 c1 c2 c3 c4 c5 A
  have A := Lib.hid (At.new (w := w2) (g := w2.heap.size) #[.int .i64 (m : Int), .int .i64 (b : Int), .int .i64 (g : Int), .int .i64 (s : Int), .int .i64 (n : Int), .int .i64 (l : Int), .int .i64 (p : Int)] 29 rfl)
  have B0 := Lib.hid (B0.out.alloc (up B0.out rfl) (.cells #[.int .i64 (m : Int), .int .i64 (b : Int), .int .i64 (g : Int), .int .i64 (s : Int), .int .i64 (n : Int), .int .i64 (l : Int), .int .i64 (p : Int)] 29))
  go_wp2_with fail
  refine (encode_any ⟨m, b, g, s, n, l, p⟩ _ FT.out (show 22 ≤ b by have := BK.out.1; omega)).mono ?_
  rintro e w3 ⟨v3, rfl, hf3⟩
  obtain ⟨A3, c3, rfl, hc3, hm3, _, hh3, _⟩ := own_slice hf3.1
  have A := Lib.hid (A.out.below hf3.2 A.out.lt)
  have B0 := Lib.hid (B0.out.trans (hf3.2.mono (up B0.out rfl)))
  have H3 := Lib.hid (show Has w3 A3 b (sector ⟨m, b, g, s, n, l, p⟩) from hh3)
  have C3 := Lib.hid (And.intro hc3 hm3)
  clear hf3 hh3 hc3 hm3
  go_wp2_with fail
  refine (decode_any A3 b c3 (sector ⟨m, b, g, s, n, l, p⟩) w3 C3.out.1 C3.out.2 (by have := BK.out.2; omega) H3.out).mono ?_
  rintro e w4 ⟨rfl, hb4⟩
  rw [dec_sector OK.out HK.out]
  have A := Lib.hid (A.out.below hb4 A.out.lt)
  have B0 := Lib.hid (B0.out.trans (hb4.mono (up B0.out rfl)))
  have H3 := Lib.hid (H3.out.below hb4)
  have US := Lib.hid (up B0.out rfl)
  clear hb4
  simp only [Lab.cs]
  have A := Lib.hid (A.out.alloc (.cells #[.int .i64 (m : Int), .int .i64 (b : Int), .int .i64 (g : Int), .int .i64 (s : Int), .int .i64 (n : Int), .int .i64 (l : Int), .int .i64 (p : Int)] 29))
  have H3 := Lib.hid (H3.out.below ((Below.refl _ _).alloc (Nat.le_refl _) (.cells #[.int .i64 (m : Int), .int .i64 (b : Int), .int .i64 (g : Int), .int .i64 (s : Int), .int .i64 (n : Int), .int .i64 (l : Int), .int .i64 (p : Int)] 29)))
  have Zt := Lib.hid (At.new (w := w4) (g := w4.heap.size) #[.int .i64 (m : Int), .int .i64 (b : Int), .int .i64 (g : Int), .int .i64 (s : Int), .int .i64 (n : Int), .int .i64 (l : Int), .int .i64 (p : Int)] 29 rfl)
  have B0 := Lib.hid (B0.out.alloc US.out (.cells #[.int .i64 (m : Int), .int .i64 (b : Int), .int .i64 (g : Int), .int .i64 (s : Int), .int .i64 (n : Int), .int .i64 (l : Int), .int .i64 (p : Int)] 29))
  have c0 := A.out.cell 0; have c1 := A.out.cell 1; have c2 := A.out.cell 2; have c3' := A.out.cell 3; have c4 := A.out.cell 4; have c5 := A.out.cell 5; have c6 := A.out.cell 6
  go_wp2_with fail
  refine (tells_any ⟨m, b, g, s, n, l, p⟩ _ FT.out ⟨show 22 ≤ b by have := BK.out.1; omega, BK.out.2⟩).mono ?_
  rintro e w5 ⟨v5, rfl, hf5⟩
  obtain ⟨A5, c5', rfl, _, _, _, hh5, _⟩ := own_slice hf5.1
  have A := Lib.hid (A.out.below hf5.2 A.out.lt)
  have Zt := Lib.hid (Zt.out.below hf5.2 Zt.out.lt)
  have B0 := Lib.hid (B0.out.trans (hf5.2.mono (up B0.out rfl)))
  have H3 := Lib.hid (H3.out.below hf5.2)
  have H5 := Lib.hid hh5
  clear hf5 hh5 c0 c1 c2 c3' c4 c5 c6
  go_wp2_with fail
  refine (equal_any A3 A5 b b c3 c5' (sector ⟨m, b, g, s, n, l, p⟩) (sector ⟨m, b, g, s, n, l, p⟩) _ (by have := BK.out.2; omega) (by have := BK.out.2; omega) H3.out H5.out).mono ?_
  rintro e w6 ⟨rfl, k6, hw6⟩
  rw [decide_eq_true rfl]
  have A := Lib.hid (show At w6 w2.heap.size #[.int .i64 (m : Int), .int .i64 (b : Int), .int .i64 (g : Int), .int .i64 (s : Int), .int .i64 (n : Int), .int .i64 (l : Int), .int .i64 (p : Int)] 29 by rw [hw6]; exact A.out)
  have Zt := Lib.hid (show At w6 w4.heap.size #[.int .i64 (m : Int), .int .i64 (b : Int), .int .i64 (g : Int), .int .i64 (s : Int), .int .i64 (n : Int), .int .i64 (l : Int), .int .i64 (p : Int)] 29 by rw [hw6]; exact Zt.out)
  have B0 := Lib.hid (show Below w.heap.size w w6 by rw [hw6]; exact below_drewN B0.out k6)
  clear hw6
  have c0 := A.out.cell 0; have c1 := A.out.cell 1; have c2 := A.out.cell 2; have c3' := A.out.cell 3; have c4 := A.out.cell 4; have c5 := A.out.cell 5; have c6 := A.out.cell 6
  have z0 := Zt.out.cell 0; have z1 := Zt.out.cell 1; have z2 := Zt.out.cell 2; have z3 := Zt.out.cell 3; have z4 := Zt.out.cell 4; have z5 := Zt.out.cell 5; have z6 := Zt.out.cell 6
  go_wp2
  go_ret
  exact ⟨rfl, B0.out⟩
set_option maxHeartbeats 1000000 in
theorem encodes_no (x0 x1 x2 x3 x4 x5 : Int) (p : Nat) (hp : p < 256) (m b g s n l : Nat) (ok : Hid (Ok (m : Int) b g s n l)) (hk : (m : Int) ≤ (p : Int)) (SHP : Hid (Shaped x0 x1 x2 x3 x4 x5 m b g s n l)) (w : World) :
    Calls Try.prog 3 #[.agg #[.int .u8 x0, .int .u8 x1, .int .u8 x2, .int .u8 x3, .int .u8 x4, .int .u8 x5], .int .u8 (p : Int)] w fun e w' => e = .returned (.bool true) ∧ Below w.heap.size w w' := by
  have OK := Lib.hid (show (Lab.mk m b g s n l p).ok from ok.out)
  have FT := Lib.hid (Lab.ok_fits OK.out hp)
  have BK := Lib.hid (show 32 ≤ b ∧ b ≤ 512 from ok_block OK.out)
  have HK := Lib.hid (show ¬ p < m by omega)
  have heq := fun w => (show (binOp .eql 29 (.agg #[.int .i64 0, .int .i64 0, .int .i64 0, .int .i64 0, .int .i64 0, .int .i64 0, .int .i64 0]) (.agg #[.int .i64 0, .int .i64 0, .int .i64 0, .int .i64 0, .int .i64 0, .int .i64 0, .int .i64 0])).run Try.prog w = .ok (.bool true) w from lab_eql Lab.zero w)
  have hd : decide ((m : Int) ≤ (p : Int)) = true := decide_eq_true hk
  have A := Lib.hid (At.new (w := w) (g := w.heap.size) #[.int .u8 x0, .int .u8 x1, .int .u8 x2, .int .u8 x3, .int .u8 x4, .int .u8 x5] 23 rfl)
  have B0 := Lib.hid ((Below.refl w.heap.size w).alloc (Nat.le_refl _) (.cells #[.int .u8 x0, .int .u8 x1, .int .u8 x2, .int .u8 x3, .int .u8 x4, .int .u8 x5] 23))
  go_enter Try.func3, Try.ntmps3
  go_wp2_with fail
  refine (awake_any _).mono ?_
  rintro e w1 ⟨rfl, hb1⟩
  have A := Lib.hid (A.out.below hb1 A.out.lt)
  have B0 := Lib.hid (B0.out.trans (hb1.mono (up B0.out rfl)))
  have c0 := A.out.cell 0; have c1 := A.out.cell 1; have c2 := A.out.cell 2; have c3 := A.out.cell 3; have c4 := A.out.cell 4; have c5 := A.out.cell 5
  clear hb1
  go_wp2_with fail
  refine (SHP.out _).mono ?_
  rintro e w2 ⟨rfl, hb2⟩
  have B0 := Lib.hid (B0.out.trans (hb2.mono (up B0.out rfl)))
  clear hb2 c0 c1 c2 c3 c4 c5 A
  have A := Lib.hid (At.new (w := w2) (g := w2.heap.size) #[.int .i64 (m : Int), .int .i64 (b : Int), .int .i64 (g : Int), .int .i64 (s : Int), .int .i64 (n : Int), .int .i64 (l : Int), .int .i64 (p : Int)] 29 rfl)
  have B0 := Lib.hid (B0.out.alloc (up B0.out rfl) (.cells #[.int .i64 (m : Int), .int .i64 (b : Int), .int .i64 (g : Int), .int .i64 (s : Int), .int .i64 (n : Int), .int .i64 (l : Int), .int .i64 (p : Int)] 29))
  go_wp2_with fail
  refine (encode_any ⟨m, b, g, s, n, l, p⟩ _ FT.out (show 22 ≤ b by have := BK.out.1; omega)).mono ?_
  rintro e w3 ⟨v3, rfl, hf3⟩
  obtain ⟨A3, c3, rfl, hc3, hm3, _, hh3, _⟩ := own_slice hf3.1
  have A := Lib.hid (A.out.below hf3.2 A.out.lt)
  have B0 := Lib.hid (B0.out.trans (hf3.2.mono (up B0.out rfl)))
  have H3 := Lib.hid (show Has w3 A3 b (sector ⟨m, b, g, s, n, l, p⟩) from hh3)
  have C3 := Lib.hid (And.intro hc3 hm3)
  clear hf3 hh3 hc3 hm3
  go_wp2_with fail
  refine (decode_any A3 b c3 (sector ⟨m, b, g, s, n, l, p⟩) w3 C3.out.1 C3.out.2 (by have := BK.out.2; omega) H3.out).mono ?_
  rintro e w4 ⟨rfl, hb4⟩
  rw [dec_sector_none OK.out hp HK.out, zero_cs]
  have A := Lib.hid (A.out.below hb4 A.out.lt)
  have B0 := Lib.hid (B0.out.trans (hb4.mono (up B0.out rfl)))
  have H3 := Lib.hid (H3.out.below hb4)
  have US := Lib.hid (up B0.out rfl)
  clear hb4
  simp only []
  have A := Lib.hid (A.out.alloc (.cells #[.int .i64 0, .int .i64 0, .int .i64 0, .int .i64 0, .int .i64 0, .int .i64 0, .int .i64 0] 29))
  have H3 := Lib.hid (H3.out.below ((Below.refl _ _).alloc (Nat.le_refl _) (.cells #[.int .i64 0, .int .i64 0, .int .i64 0, .int .i64 0, .int .i64 0, .int .i64 0, .int .i64 0] 29)))
  have Zt := Lib.hid (At.new (w := w4) (g := w4.heap.size) #[.int .i64 0, .int .i64 0, .int .i64 0, .int .i64 0, .int .i64 0, .int .i64 0, .int .i64 0] 29 rfl)
  have B0 := Lib.hid (B0.out.alloc US.out (.cells #[.int .i64 0, .int .i64 0, .int .i64 0, .int .i64 0, .int .i64 0, .int .i64 0, .int .i64 0] 29))
  have c0 := A.out.cell 0; have c1 := A.out.cell 1; have c2 := A.out.cell 2; have c3' := A.out.cell 3; have c4 := A.out.cell 4; have c5 := A.out.cell 5; have c6 := A.out.cell 6
  go_wp2_with fail
  refine (tells_any ⟨m, b, g, s, n, l, p⟩ _ FT.out ⟨show 22 ≤ b by have := BK.out.1; omega, BK.out.2⟩).mono ?_
  rintro e w5 ⟨v5, rfl, hf5⟩
  obtain ⟨A5, c5', rfl, _, _, _, hh5, _⟩ := own_slice hf5.1
  have A := Lib.hid (A.out.below hf5.2 A.out.lt)
  have Zt := Lib.hid (Zt.out.below hf5.2 Zt.out.lt)
  have B0 := Lib.hid (B0.out.trans (hf5.2.mono (up B0.out rfl)))
  have H3 := Lib.hid (H3.out.below hf5.2)
  have H5 := Lib.hid hh5
  clear hf5 hh5 c0 c1 c2 c3' c4 c5 c6
  go_wp2_with fail
  refine (equal_any A3 A5 b b c3 c5' (sector ⟨m, b, g, s, n, l, p⟩) (sector ⟨m, b, g, s, n, l, p⟩) _ (by have := BK.out.2; omega) (by have := BK.out.2; omega) H3.out H5.out).mono ?_
  rintro e w6 ⟨rfl, k6, hw6⟩
  rw [decide_eq_true rfl]
  have A := Lib.hid (show At w6 w2.heap.size #[.int .i64 (m : Int), .int .i64 (b : Int), .int .i64 (g : Int), .int .i64 (s : Int), .int .i64 (n : Int), .int .i64 (l : Int), .int .i64 (p : Int)] 29 by rw [hw6]; exact A.out)
  have Zt := Lib.hid (show At w6 w4.heap.size #[.int .i64 0, .int .i64 0, .int .i64 0, .int .i64 0, .int .i64 0, .int .i64 0, .int .i64 0] 29 by rw [hw6]; exact Zt.out)
  have B0 := Lib.hid (show Below w.heap.size w w6 by rw [hw6]; exact below_drewN B0.out k6)
  clear hw6
  have c0 := A.out.cell 0; have c1 := A.out.cell 1; have c2 := A.out.cell 2; have c3' := A.out.cell 3; have c4 := A.out.cell 4; have c5 := A.out.cell 5; have c6 := A.out.cell 6
  have z0 := Zt.out.cell 0; have z1 := Zt.out.cell 1; have z2 := Zt.out.cell 2; have z3 := Zt.out.cell 3; have z4 := Zt.out.cell 4; have z5 := Zt.out.cell 5; have z6 := Zt.out.cell 6
  go_wp2
  go_ret
  exact ⟨rfl, B0.out⟩

theorem encodes_walk (x0 x1 x2 x3 x4 x5 : Int) (h0 : Byte x0) (h1 : Byte x1) (h2 : Byte x2) (h3 : Byte x3) (h4 : Byte x4) (h5 : Byte x5) (p : Int) (hp : Byte p) (w : World) :
    Calls Try.prog 3 #[.agg #[.int .u8 x0, .int .u8 x1, .int .u8 x2, .int .u8 x3, .int .u8 x4, .int .u8 x5], .int .u8 p] w fun e w' => e = .returned (.bool true) ∧ Below w.heap.size w w' := by
  obtain ⟨m, b, g, s, n, l, ok, _, _, hs⟩ := shape_nat x0 x1 x2 x3 x4 x5 h0 h1 h2 h3 h4 h5
  unfold Byte at hp
  obtain ⟨p', rfl⟩ := Int.eq_ofNat_of_zero_le hp.1
  by_cases hk : (p' : Int) < (m : Int)
  · exact encodes_yes x0 x1 x2 x3 x4 x5 p' (by omega) m b g s n l ok hk hs w
  · exact encodes_no x0 x1 x2 x3 x4 x5 p' (by omega) m b g s n l ok (by omega) hs w

end Go.Proofs.Ytkhjeaabhjfkgaa
