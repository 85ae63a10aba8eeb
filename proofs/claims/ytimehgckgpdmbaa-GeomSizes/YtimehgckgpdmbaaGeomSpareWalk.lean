/-
  THE WALK OF GeomSpare: any six numbers.
-/
import Derived.Test.YtimehgckgpdmbaaAwake
namespace Go.Proofs.Ytimehgckgpdmbaa
open Go.RowKit Go.Sort
set_option linter.unusedVariables false
set_option maxRecDepth 100000

theorem spare_sum {m g s l : Int} (h : l ≤ (g - 3) * (s - 1) * (m - 2)) : l + 3 * s * (m - 2) + (g - 3) * (m - 2) ≤ g * s * (m - 2) := by
  have e1 : (g - 3) * (s - 1) * (m - 2) + (g - 3) * (m - 2) = (g - 3) * s * (m - 2) := by
    rw [← Int.add_mul, show (g - 3) * (s - 1) + (g - 3) = (g - 3) * s by rw [Int.mul_sub (g - 3) s 1, Int.mul_one, Int.sub_add_cancel]]
  have e2 : (g - 3) * s * (m - 2) + 3 * s * (m - 2) = g * s * (m - 2) := by
    rw [← Int.add_mul, ← Int.add_mul, Int.sub_add_cancel]
  omega

theorem pgs_enough {b g l P : Int} (hP : pgs b g l = P) (hb : 32 ≤ b ∧ b ≤ 512) (hg : 4 ≤ g ∧ g ≤ 64) (hl : 1 ≤ l ∧ l ≤ 100000) : 12 + 9 * g + 4 * l ≤ P * (b - 15) ∧ (P - 1) * (b - 15) < 12 + 9 * g + 4 * l ∧ P * (b - 15) ≤ 1000000 := by
  subst hP
  unfold pgs
  have h1 := Int.lt_ediv_add_one_mul_self (12 + 9 * g + 4 * l + (b - 15) - 1) (show 0 < b - 15 by omega)
  have h2 := Int.ediv_mul_le (12 + 9 * g + 4 * l + (b - 15) - 1) (show b - 15 ≠ 0 by omega)
  generalize (12 + 9 * g + 4 * l + (b - 15) - 1) / (b - 15) = q at *
  rw [Int.add_mul, Int.one_mul] at h1
  rw [Int.sub_mul, Int.one_mul]
  omega

theorem spare_bad (m b g s n l : Int) (h : ¬ Ok m b g s n l) (w : World) : Calls Try.prog 8 #[sv m b g s n l] w fun e w' => e = .returned (.bool true) ∧ Below w.heap.size w w' := by
  have HO := Lib.hid h
  clear h
  unfold sv
  go_enter Try.func8, Try.ntmps8
  go_wp2_with fail
  have A := Lib.hid (At.new (w := w) (g := w.heap.size) #[.int .i64 m, .int .i64 b, .int .i64 g, .int .i64 s, .int .i64 n, .int .i64 l] 23 rfl)
  have B0 := Lib.hid ((Below.refl w.heap.size w).alloc (Nat.le_refl _) (.cells #[.int .i64 m, .int .i64 b, .int .i64 g, .int .i64 s, .int .i64 n, .int .i64 l] 23))
  refine (awake_any _).mono ?_
  rintro e w1 ⟨rfl, hb'⟩
  have A := Lib.hid (A.out.below hb' A.out.lt)
  have B0 := Lib.hid (B0.out.trans (hb'.mono (up B0.out rfl)))
  have c0 := A.out.cell 0; have c1 := A.out.cell 1; have c2 := A.out.cell 2; have c3 := A.out.cell 3; have c4 := A.out.cell 4; have c5 := A.out.cell 5
  clear hb'
  go_wp2_with fail
  refine (check_bad m b g s n l HO.out _).mono ?_
  rintro e w2 ⟨rfl, hb'⟩
  have B0 := Lib.hid (B0.out.trans (hb'.mono (up B0.out rfl)))
  clear hb'
  go_wp2
  go_ret
  exact ⟨rfl, B0.out⟩

theorem spare_ok (m b g s n l : Int) (h : Ok m b g s n l) (w : World) : Calls Try.prog 8 #[sv m b g s n l] w fun e w' => e = .returned (.bool true) ∧ Below w.heap.size w w' := by
  have HO := Lib.hid h
  have h1 := three_l h.1
  have i1 := spare_sum h.2.2.2.2
  obtain ⟨⟨hm, hg, hs⟩, ⟨hb1, hb2, hb3⟩, ⟨hn1, hn2⟩, ⟨hl1, hl2⟩⟩ := h
  have hb : 32 ≤ b ∧ b ≤ 512 := ⟨hb1, hb3⟩
  have hl : 1 ≤ l ∧ l ≤ 100000 := ⟨hl1, by omega⟩
  have p1 : 0 ≤ 3 * s * (m - 2) ∧ 3 * s * (m - 2) ≤ 48 * 14 := mul_bounds (by omega) (by omega) (by omega) (by omega)
  have p2 : 0 ≤ (g - 3) * (m - 2) ∧ (g - 3) * (m - 2) ≤ 61 * 14 := mul_bounds (by omega) (by omega) (by omega) (by omega)
  have p3 : 0 ≤ g * s ∧ g * s ≤ 64 * 16 := mul_bounds (by omega) (by omega) (by omega) (by omega)
  have p4 : 0 ≤ g * s * (m - 2) ∧ g * s * (m - 2) ≤ 1024 * 14 := mul_bounds (by omega) (by omega) (by omega) (by omega)
  obtain ⟨P, hP⟩ : ∃ P, pgs b g l = P := ⟨_, rfl⟩
  have i2 := (pgs_enough hP hb hg hl).1
  have p5 : 0 ≤ P * (b - 15) ∧ P * (b - 15) ≤ 1000000 := ⟨by omega, (pgs_enough hP hb hg hl).2.2⟩
  have hP := Lib.hid hP
  have hn2 := Lib.hid hn2
  have hl2 := Lib.hid hl2
  clear h1
  unfold sv
  go_enter Try.func8, Try.ntmps8
  go_wp2_with fail
  have A := Lib.hid (At.new (w := w) (g := w.heap.size) #[.int .i64 m, .int .i64 b, .int .i64 g, .int .i64 s, .int .i64 n, .int .i64 l] 23 rfl)
  have B0 := Lib.hid ((Below.refl w.heap.size w).alloc (Nat.le_refl _) (.cells #[.int .i64 m, .int .i64 b, .int .i64 g, .int .i64 s, .int .i64 n, .int .i64 l] 23))
  refine (awake_any _).mono ?_
  rintro e w1 ⟨rfl, hb'⟩
  have A := Lib.hid (A.out.below hb' A.out.lt)
  have B0 := Lib.hid (B0.out.trans (hb'.mono (up B0.out rfl)))
  have c0 := A.out.cell 0; have c1 := A.out.cell 1; have c2 := A.out.cell 2; have c3 := A.out.cell 3; have c4 := A.out.cell 4; have c5 := A.out.cell 5
  clear hb'
  go_wp2_with fail
  refine (check_ok m b g s n l HO.out _).mono ?_
  rintro e W ⟨rfl, hb'⟩
  have A := A.out.below hb' A.out.lt
  have B0 := Lib.hid (B0.out.trans (hb'.mono (up B0.out rfl)))
  have U := Lib.hid (up B0.out rfl)
  clear hb' c0 c1 c2 c3 c4 c5
  generalize hH : w.heap.size = H at *
  have k0 := cell_regrown (w := W) (a := ⟨H, 0, none⟩) (v := .int .i64 m) (A.cell 0)
  have k1 := cell_regrown (w := W) (a := ⟨H, 1, none⟩) (v := .int .i64 b) (A.cell 1)
  have k2 := cell_regrown (w := W) (a := ⟨H, 2, none⟩) (v := .int .i64 g) (A.cell 2)
  have k3 := cell_regrown (w := W) (a := ⟨H, 3, none⟩) (v := .int .i64 s) (A.cell 3)
  have k4 := cell_regrown (w := W) (a := ⟨H, 4, none⟩) (v := .int .i64 n) (A.cell 4)
  have k5 := cell_regrown (w := W) (a := ⟨H, 5, none⟩) (v := .int .i64 l) (A.cell 5)
  clear A
  go_wp2_with fail
  refine wp_region_quiet_below (by kernel_rfl) (by kernel_rfl) ?_
  repeat (go_big_quiet_step ((first | (with_reducible exact Calls.regrown_of (slots_any m b g s n l hm _)) | (with_reducible exact Calls.regrown_of (all_any m b g s n l hg hs _)) | (with_reducible exact Calls.regrown_of (note_any m b g s n l hm _)) | (with_reducible exact Calls.regrown_of (pages_P m b g s n l P hP.out hb hg hl _)) | (with_reducible exact Calls.regrown_of (page_any m b g s n l hb _)) | (with_reducible exact Calls.regrown_of (image_any m b g s n l hg hl _)) )))
  refine wpQuiet_nil ?_
  intro _ hw'
  obtain ⟨⟨dq, osq⟩, hw''⟩ := hw'
  subst hw''
  go_wp2
  go_ret
  exact ⟨rfl, by rw [hH]; exact fin B0.out U.out dq osq⟩

theorem spare_walk (m b g s n l : Int) (w : World) : Calls Try.prog 8 #[sv m b g s n l] w fun e w' => e = .returned (.bool true) ∧ Below w.heap.size w w' := by
  by_cases h : Ok m b g s n l
  · exact spare_ok m b g s n l h w
  · exact spare_bad m b g s n l h w

end Go.Proofs.Ytimehgckgpdmbaa
