/-
  THE EXAMPLE THAT EVERY LAW ASKS FIRST: a label is found again.
-/
import Derived.Test.YtkhjeaabhjfkgaaEncode
import Derived.Test.YtkhjeaabhjfkgaaDecode
import Derived.Test.YtkhjeaabhjfkgaaShp
import Derived.Test.YtkhjeaabhjfkgaaIn
namespace Go.Proofs.Ytkhjeaabhjfkgaa
open Go.RowKit
set_option linter.unusedVariables false
set_option maxRecDepth 100000

theorem shape_eql (m b g s n l : Int) (w : World) : (binOp .eql 26 (.agg #[.int .i64 m, .int .i64 b, .int .i64 g, .int .i64 s, .int .i64 n, .int .i64 l]) (.agg #[.int .i64 m, .int .i64 b, .int .i64 g, .int .i64 s, .int .i64 n, .int .i64 l])).run Try.prog w = .ok (.bool true) w := by
  simp [go_sem, Try.underlying26]

/-- A shape by small numbers. -/
def Shaped (x0 x1 x2 x3 x4 x5 : Int) (m b g s n l : Nat) : Prop := ∀ w, Calls Try.prog 8 #[.agg #[.int .u8 x0, .int .u8 x1, .int .u8 x2, .int .u8 x3, .int .u8 x4, .int .u8 x5]] w fun e w' => e = .returned (sv m b g s n l) ∧ Below w.heap.size w w'
theorem shape_nat (x0 x1 x2 x3 x4 x5 : Int) (h0 : Byte x0) (h1 : Byte x1) (h2 : Byte x2) (h3 : Byte x3) (h4 : Byte x4) (h5 : Byte x5) :
    ∃ m b g s n l : Nat, Ok (m : Int) b g s n l ∧ m ≤ 5 ∧ b ≤ 48 ∧ Shaped x0 x1 x2 x3 x4 x5 m b g s n l := by
  obtain ⟨m, b, g, s, n, l, hS, hsh⟩ := shape_small x0 x1 x2 x3 x4 x5 h0 h1 h2 h3 h4 h5
  obtain ⟨hm, hb, hg, hs, hl, ok⟩ := hS
  have hn := ok.2.2.1.1
  obtain ⟨m', rfl⟩ := Int.eq_ofNat_of_zero_le (show 0 ≤ m by omega)
  obtain ⟨b', rfl⟩ := Int.eq_ofNat_of_zero_le (show 0 ≤ b by omega)
  obtain ⟨g', rfl⟩ := Int.eq_ofNat_of_zero_le (show 0 ≤ g by omega)
  obtain ⟨s', rfl⟩ := Int.eq_ofNat_of_zero_le (show 0 ≤ s by omega)
  obtain ⟨n', rfl⟩ := Int.eq_ofNat_of_zero_le (show 0 ≤ n by omega)
  obtain ⟨l', rfl⟩ := Int.eq_ofNat_of_zero_le (show 0 ≤ l by omega)
  exact ⟨m', b', g', s', n', l', ok, by omega, by omega, hsh⟩

set_option maxHeartbeats 400000 in
theorem awake_of (m b g s n l : Nat) (ok : Hid (Ok (m : Int) b g s n l)) (SHP : Hid (Shaped 0 0 0 0 0 0 m b g s n l)) (w : World) : Calls Try.prog 7 #[] w fun e w' => e = .returned (.bool true) ∧ Below w.heap.size w w' := by
  have OK := Lib.hid (show (Lab.mk m b g s n l 2).ok from ok.out)
  have FT := Lib.hid (Lab.ok_fits OK.out (show 2 < 256 by omega))
  have BK := Lib.hid (show 32 ≤ b ∧ b ≤ 512 from ok_block OK.out)
  have MM := Lib.hid (show 2 < m by have := ok.out.1.1.1; omega)
  have heq := shape_eql m b g s n l
  go_enter Try.func7, Try.ntmps7
  go_wp2_with fail
  refine (SHP.out w).mono ?_
  rintro e w1 ⟨rfl, hb1⟩
  have A := Lib.hid (At.new (w := w1) (g := w1.heap.size) #[.int .i64 (m : Int), .int .i64 (b : Int), .int .i64 (g : Int), .int .i64 (s : Int), .int .i64 (n : Int), .int .i64 (l : Int)] 26 rfl)
  have B0 := Lib.hid (hb1.alloc hb1.size (.cells #[.int .i64 (m : Int), .int .i64 (b : Int), .int .i64 (g : Int), .int .i64 (s : Int), .int .i64 (n : Int), .int .i64 (l : Int)] 26))
  clear hb1
  go_wp2_with fail
  refine (encode_any ⟨m, b, g, s, n, l, 2⟩ _ FT.out (show 22 ≤ b by have := BK.out.1; omega)).mono ?_
  rintro e w2 ⟨v2, rfl, hf2⟩
  obtain ⟨A2, c2, rfl, hc2, hm2, _, hh2, _⟩ := own_slice hf2.1
  have A := Lib.hid (A.out.below hf2.2 A.out.lt)
  have B0 := Lib.hid (B0.out.trans (hf2.2.mono (up B0.out rfl)))
  have H2 := Lib.hid hh2
  have C2 := Lib.hid (And.intro hc2 hm2)
  clear hf2 hh2 hc2 hm2
  go_wp2_with fail
  refine (decode_any A2 b c2 (sector ⟨m, b, g, s, n, l, 2⟩) w2 C2.out.1 C2.out.2 (by have := BK.out.2; omega) H2.out).mono ?_
  rintro e w3 ⟨rfl, hb3⟩
  rw [dec_sector OK.out MM.out]
  have A := Lib.hid (A.out.below hb3 A.out.lt)
  have B0 := Lib.hid (B0.out.trans (hb3.mono (up B0.out rfl)))
  have US := Lib.hid (up B0.out rfl)
  clear hb3
  have A := Lib.hid (A.out.alloc (.cells #[.int .i64 (m : Int), .int .i64 (b : Int), .int .i64 (g : Int), .int .i64 (s : Int), .int .i64 (n : Int), .int .i64 (l : Int), .int .i64 2] 29))
  have c0 := A.out.cell 0; have c1 := A.out.cell 1; have c2 := A.out.cell 2; have c3 := A.out.cell 3; have c4 := A.out.cell 4; have c5 := A.out.cell 5
  simp only [Lab.cs]
  go_wp2
  go_ret
  exact ⟨rfl, B0.out.alloc US.out _⟩
theorem awake_any (w : World) : Calls Try.prog 7 #[] w fun e w' => e = .returned (.bool true) ∧ Below w.heap.size w w' := by
  obtain ⟨m, b, g, s, n, l, ok, _, _, hs⟩ := shape_nat 0 0 0 0 0 0 (by unfold Byte; omega) (by unfold Byte; omega) (by unfold Byte; omega) (by unfold Byte; omega) (by unfold Byte; omega) (by unfold Byte; omega)
  exact awake_of m b g s n l ok hs w
end Go.Proofs.Ytkhjeaabhjfkgaa
