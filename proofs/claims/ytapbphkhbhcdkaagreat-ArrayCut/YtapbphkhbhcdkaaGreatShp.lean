/-
  THE EXAMPLE THAT EVERY LAW ASKS FIRST; THE SHAPES BY SMALL NUMBERS; the spot of a place.
-/
import Derived.Test.YtapbphkhbhcdkaaGreatCheck
import Derived.Deep.RegionHeld3
namespace Go.Proofs.YtapbphkhbhcdkaaGreat
open Go.RowKit Go.Sort
set_option linter.unusedVariables false
set_option maxRecDepth 100000

theorem info30 : (Tryz.prog.info? 33).map (·.size) = some 6 := by kernel_rfl
theorem ok_example : Ok 3 32 4 2 2 1 := by unfold Ok Three Blk Nvs Lgs; omega

theorem geomAwake_any (w : World) : Calls Tryz.prog 16 #[] w fun e w' => e = .returned (.bool true) ∧ Below w.heap.size w w' := by
  go_enter Tryz.func16, Tryz.ntmps16
  go_wp2_with fail
  have A := Lib.hid (At.new (w := w) (g := w.heap.size) #[.int .i64 3, .int .i64 32, .int .i64 4, .int .i64 2, .int .i64 2, .int .i64 1] 33 rfl)
  have B0 := Lib.hid ((Below.refl w.heap.size w).alloc (Nat.le_refl _) (.cells #[.int .i64 3, .int .i64 32, .int .i64 4, .int .i64 2, .int .i64 2, .int .i64 1] 33))
  refine (check_ok 3 32 4 2 2 1 ok_example _).mono ?_
  rintro e w' ⟨rfl, hb'⟩
  have A := Lib.hid (A.out.below hb' A.out.lt)
  have B0 := Lib.hid (B0.out.trans (hb'.mono (up B0.out rfl)))
  have k0 := A.out.cell 0; have k1 := A.out.cell 1; have k2 := A.out.cell 2; have k3 := A.out.cell 3; have k4 := A.out.cell 4; have k5 := A.out.cell 5
  clear hb'
  go_wp2_with fail
  refine (parity_any 3 32 4 2 2 1 1 (by omega) (by omega) _).mono ?_
  rintro e w' ⟨rfl, hb'⟩
  have A := Lib.hid (A.out.below hb' A.out.lt)
  have B0 := Lib.hid (B0.out.trans (hb'.mono (up B0.out rfl)))
  have k0 := A.out.cell 0; have k1 := A.out.cell 1; have k2 := A.out.cell 2; have k3 := A.out.cell 3; have k4 := A.out.cell 4; have k5 := A.out.cell 5
  clear hb'
  go_wp2_with fail
  refine (member_any 3 32 4 2 2 1 1 (by omega) 0 (by omega) (by omega) _).mono ?_
  rintro e w' ⟨rfl, hb'⟩
  have A := Lib.hid (A.out.below hb' A.out.lt)
  have B0 := Lib.hid (B0.out.trans (hb'.mono (up B0.out rfl)))
  have k0 := A.out.cell 0; have k1 := A.out.cell 1; have k2 := A.out.cell 2; have k3 := A.out.cell 3; have k4 := A.out.cell 4; have k5 := A.out.cell 5
  clear hb'
  go_wp2_with fail
  refine (member_any 3 32 4 2 2 1 1 (by omega) 1 (by omega) (by omega) _).mono ?_
  rintro e w' ⟨rfl, hb'⟩
  have A := Lib.hid (A.out.below hb' A.out.lt)
  have B0 := Lib.hid (B0.out.trans (hb'.mono (up B0.out rfl)))
  have k0 := A.out.cell 0; have k1 := A.out.cell 1; have k2 := A.out.cell 2; have k3 := A.out.cell 3; have k4 := A.out.cell 4; have k5 := A.out.cell 5
  clear hb'
  go_wp2_with fail
  go_ret
  exact ⟨rfl, B0.out⟩

theorem shape_any (x0 x1 x2 x3 x4 x5 : Int) (h0 : 0 ≤ x0 ∧ x0 ≤ 255) (h1 : 0 ≤ x1 ∧ x1 ≤ 255) (h2 : 0 ≤ x2 ∧ x2 ≤ 255) (h3 : 0 ≤ x3 ∧ x3 ≤ 255) (h4 : 0 ≤ x4 ∧ x4 ≤ 255) (h5 : 0 ≤ x5 ∧ x5 ≤ 255)
    (m g s X D L : Int) (hm : 3 + x0 % 3 = m) (hg : 4 + x2 % 3 = g) (hs : 2 + x3 % 2 = s) (hX : Hid (X = max (15 + 5 * (m - 2)) 32)) (hX1 : 32 ≤ X ∧ X ≤ 40) (bm : 3 ≤ m ∧ m ≤ 5) (bg : 4 ≤ g ∧ g ≤ 6) (bs : 2 ≤ s ∧ s ≤ 3)
    (hD : s * (m - 2) - (m - 2) + 1 = D) (bD : 1 ≤ D ∧ D ≤ 10) (hsm : 2 ≤ s * (m - 2) ∧ s * (m - 2) ≤ 9) (hL : (g - 3) * (s - 1) * (m - 2) = L) (bL : 1 ≤ L ∧ L ≤ 18) (hgs : 1 ≤ (g - 3) * (s - 1) ∧ (g - 3) * (s - 1) ≤ 6)
    (hrD : 0 ≤ x4 % D ∧ x4 % D < D) (hrL : 0 ≤ x5 % L ∧ x5 % L < L) (w : World) :
    Calls Tryz.prog 6 #[.agg #[.int .u8 x0, .int .u8 x1, .int .u8 x2, .int .u8 x3, .int .u8 x4, .int .u8 x5]] w fun e w' => e = .returned (sv m (X + x1 % 9) g s (m - 2 + x4 % D) (1 + x5 % L)) ∧ Below w.heap.size w w' := by
  unfold sv
  have hmax := fun (w : World) => run_max2 (P := Tryz.prog) w #[3, 3] 3 (15 + 5 * (m - 2)) 32 X hX.out
  go_enter Tryz.func6, Tryz.ntmps6
  go_wp2
  refine bodyPost_ret (results_cell_row (p := 2) (ty := 33) rfl _ _ (w.heap.size + 1) 33 #[.int .i64 m, .int .i64 (X + x1 % 9), .int .i64 g, .int .i64 s, .int .i64 (m - 2 + x4 % D), .int .i64 (1 + x5 % L)] (0, 0) _ rfl ((At.new _ 33 (by simp)).alloc _) Tryz.underlying33 rfl info30) rfl ?_
  exact ⟨rfl, (((Below.refl _ _).alloc (Nat.le_refl _) _).alloc (by simp) _).alloc (by simp; omega) _⟩

theorem wrap_of {x : Int} (h1 : -9223372036854775808 ≤ x) (h2 : x ≤ 9223372036854775807) : IntKind.i64.wrap x = x := by
  simp [IntKind.wrap, IntKind.signed, IntKind.bits]
  omega
/-- What a shape by small numbers is. -/
structure Small (m b g s n l : Int) : Prop where
  hm : 3 ≤ m ∧ m ≤ 5
  hb : 32 ≤ b ∧ b ≤ 48
  hg : 4 ≤ g ∧ g ≤ 6
  hs : 2 ≤ s ∧ s ≤ 3
  hl : 1 ≤ l ∧ l ≤ 18
  ok : Ok m b g s n l

theorem shape_small (x0 x1 x2 x3 x4 x5 : Int) (h0 : 0 ≤ x0 ∧ x0 ≤ 255) (h1 : 0 ≤ x1 ∧ x1 ≤ 255) (h2 : 0 ≤ x2 ∧ x2 ≤ 255) (h3 : 0 ≤ x3 ∧ x3 ≤ 255) (h4 : 0 ≤ x4 ∧ x4 ≤ 255) (h5 : 0 ≤ x5 ∧ x5 ≤ 255) :
    ∃ m b g s n l : Int, Small m b g s n l ∧ ∀ w, Calls Tryz.prog 6 #[.agg #[.int .u8 x0, .int .u8 x1, .int .u8 x2, .int .u8 x3, .int .u8 x4, .int .u8 x5]] w fun e w' => e = .returned (sv m b g s n l) ∧ Below w.heap.size w w' := by
  obtain ⟨m, hm⟩ : ∃ m, m = 3 + x0 % 3 := ⟨_, rfl⟩
  obtain ⟨g, hg⟩ : ∃ g, g = 4 + x2 % 3 := ⟨_, rfl⟩
  obtain ⟨s, hs⟩ : ∃ s, s = 2 + x3 % 2 := ⟨_, rfl⟩
  have bm : 3 ≤ m ∧ m ≤ 5 := by omega
  have bg : 4 ≤ g ∧ g ≤ 6 := by omega
  have bs : 2 ≤ s ∧ s ≤ 3 := by omega
  obtain ⟨X, hX⟩ : ∃ X, X = max (15 + 5 * (m - 2)) 32 := ⟨_, rfl⟩
  obtain ⟨D, hD⟩ : ∃ D, s * (m - 2) - (m - 2) + 1 = D := ⟨_, rfl⟩
  obtain ⟨L, hL⟩ : ∃ L, (g - 3) * (s - 1) * (m - 2) = L := ⟨_, rfl⟩
  have hsm : m - 2 ≤ s * (m - 2) ∧ 2 ≤ s * (m - 2) ∧ s * (m - 2) ≤ 9 := by
    rcases (show s = 2 ∨ s = 3 by omega) with e | e <;> rw [e] <;> omega
  have hgs : 1 ≤ (g - 3) * (s - 1) ∧ (g - 3) * (s - 1) ≤ 6 := by
    rcases (show s = 2 ∨ s = 3 by omega) with e | e <;> rw [e] <;> omega
  have bL : 1 ≤ L ∧ L ≤ 18 := by
    rw [← hL]
    rcases (show m = 3 ∨ m = 4 ∨ m = 5 by omega) with e | e | e <;> rw [e] <;> omega
  have bD : 1 ≤ D ∧ D ≤ 10 := by omega
  have hrD : 0 ≤ x4 % D ∧ x4 % D < D := ⟨Int.emod_nonneg _ (by omega), Int.emod_lt_of_pos _ (by omega)⟩
  have hrL : 0 ≤ x5 % L ∧ x5 % L < L := ⟨Int.emod_nonneg _ (by omega), Int.emod_lt_of_pos _ (by omega)⟩
  refine ⟨m, X + x1 % 9, g, s, m - 2 + x4 % D, 1 + x5 % L, ⟨bm, by omega, bg, bs, by omega, ⟨⟨by omega, by omega, by omega⟩, ⟨by omega, by omega, by omega⟩, ⟨by omega, by omega⟩, ⟨by omega, by rw [hL]; omega⟩⟩⟩, fun w => ?_⟩
  exact shape_any x0 x1 x2 x3 x4 x5 h0 h1 h2 h3 h4 h5 m g s X D L hm.symm hg.symm hs.symm hX (by omega) bm bg bs hD bD (by omega) hL bL hgs hrD hrL w

end Go.Proofs.YtapbphkhbhcdkaaGreat
