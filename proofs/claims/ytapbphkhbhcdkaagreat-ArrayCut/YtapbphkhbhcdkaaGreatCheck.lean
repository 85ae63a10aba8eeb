/-
  CHECK AND MAY: what they return, whatever the numbers; and the example that every law asks first.
-/
import Derived.Test.YtapbphkhbhcdkaaGreatBase
import Derived.Test.YtapbphkhbhcdkaaGreatRuns
namespace Go.Proofs.YtapbphkhbhcdkaaGreat
open Go.RowKit Go.Sort
set_option linter.unusedVariables false
set_option maxRecDepth 100000

theorem mul_bounds {a b A B : Int} (ha : 0 ≤ a) (hb : 0 ≤ b) (hA : a ≤ A) (hB : b ≤ B) : 0 ≤ a * b ∧ a * b ≤ A * B := ⟨Int.mul_nonneg ha hb, Int.mul_le_mul hA hB hb (Int.le_trans ha hA)⟩

/-- The three that bound the others. -/
def Three (m g s : Int) : Prop := (3 ≤ m ∧ m ≤ 16) ∧ (4 ≤ g ∧ g ≤ 64) ∧ (2 ≤ s ∧ s ≤ 16)
/-- The block's bounds. -/
def Blk (m b : Int) : Prop := 32 ≤ b ∧ 15 + 5 * (m - 2) ≤ b ∧ b ≤ 512
def Nvs (m s n : Int) : Prop := m - 2 ≤ n ∧ n ≤ s * (m - 2)
def Lgs (m g s l : Int) : Prop := 1 ≤ l ∧ l ≤ (g - 3) * (s - 1) * (m - 2)
/-- May it be? -/
def Ok (m b g s n l : Int) : Prop := Three m g s ∧ Blk m b ∧ Nvs m s n ∧ Lgs m g s l

theorem three_s {m g s : Int} (h : Three m g s) : 0 ≤ s * (m - 2) ∧ s * (m - 2) ≤ 224 := by
  obtain ⟨hm, hg, hs⟩ := h
  exact mul_bounds (A := 16) (B := 14) (by omega) (by omega) (by omega) (by omega)
theorem three_g {m g s : Int} (h : Three m g s) : 0 ≤ (g - 3) * (s - 1) ∧ (g - 3) * (s - 1) ≤ 915 := by
  obtain ⟨hm, hg, hs⟩ := h
  exact mul_bounds (A := 61) (B := 15) (by omega) (by omega) (by omega) (by omega)
theorem three_l {m g s : Int} (h : Three m g s) : 0 ≤ (g - 3) * (s - 1) * (m - 2) ∧ (g - 3) * (s - 1) * (m - 2) ≤ 12810 := by
  have h1 := three_g h
  obtain ⟨hm, hg, hs⟩ := h
  exact mul_bounds (A := 915) (B := 14) (by omega) (by omega) (by omega) (by omega)

theorem check_1 (m b g s n l : Int) (hbad : Hid (¬ (3 ≤ m ∧ m ≤ 16))) (w : World) : Calls Tryz.prog 43 #[sv m b g s n l] w fun e w' => e = .returned (.int .i64 1) ∧ Below w.heap.size w w' := by
  unfold sv
  go_enter Tryz.func43, Tryz.ntmps43
  go_wp2_with fail
  have A := At.new (w := w) (g := w.heap.size) #[.int .i64 m, .int .i64 b, .int .i64 g, .int .i64 s, .int .i64 n, .int .i64 l] 33 rfl
  have B0 := Lib.hid ((Below.refl w.heap.size w).alloc (Nat.le_refl _) (.cells #[.int .i64 m, .int .i64 b, .int .i64 g, .int .i64 s, .int .i64 n, .int .i64 l] 33))
  have U := Lib.hid (up B0.out rfl)
  generalize w.alloc (.cells #[.int .i64 m, .int .i64 b, .int .i64 g, .int .i64 s, .int .i64 n, .int .i64 l] 33) = W at *
  generalize hH : w.heap.size = H at *
  have k0 := cell_regrown (w := W) (a := ⟨H, 0, none⟩) (v := .int .i64 m) (A.cell 0)
  have k1 := cell_regrown (w := W) (a := ⟨H, 1, none⟩) (v := .int .i64 b) (A.cell 1)
  have k2 := cell_regrown (w := W) (a := ⟨H, 2, none⟩) (v := .int .i64 g) (A.cell 2)
  have k3 := cell_regrown (w := W) (a := ⟨H, 3, none⟩) (v := .int .i64 s) (A.cell 3)
  have k4 := cell_regrown (w := W) (a := ⟨H, 4, none⟩) (v := .int .i64 n) (A.cell 4)
  have k5 := cell_regrown (w := W) (a := ⟨H, 5, none⟩) (v := .int .i64 l) (A.cell 5)
  clear A
  refine wp_region_quiet_below (by kernel_rfl) (by kernel_rfl) ?_
  repeat (go_big_quiet_step ((first | (with_reducible exact Calls.regrown_of (within_false m 3 16 hbad.out _)) )))
  refine wpQuiet_nil ?_
  intro _ hw'
  obtain ⟨⟨dq, osq⟩, hw''⟩ := hw'
  subst hw''
  go_wp2
  go_ret
  exact ⟨rfl, by rw [hH]; exact fin B0.out U.out dq osq⟩
theorem check_2 (m b g s n l : Int) (hm : 3 ≤ m ∧ m ≤ 16) (hbad : Hid (¬ (4 ≤ g ∧ g ≤ 64))) (w : World) : Calls Tryz.prog 43 #[sv m b g s n l] w fun e w' => e = .returned (.int .i64 1) ∧ Below w.heap.size w w' := by
  unfold sv
  go_enter Tryz.func43, Tryz.ntmps43
  go_wp2_with fail
  have A := At.new (w := w) (g := w.heap.size) #[.int .i64 m, .int .i64 b, .int .i64 g, .int .i64 s, .int .i64 n, .int .i64 l] 33 rfl
  have B0 := Lib.hid ((Below.refl w.heap.size w).alloc (Nat.le_refl _) (.cells #[.int .i64 m, .int .i64 b, .int .i64 g, .int .i64 s, .int .i64 n, .int .i64 l] 33))
  have U := Lib.hid (up B0.out rfl)
  generalize w.alloc (.cells #[.int .i64 m, .int .i64 b, .int .i64 g, .int .i64 s, .int .i64 n, .int .i64 l] 33) = W at *
  generalize hH : w.heap.size = H at *
  have k0 := cell_regrown (w := W) (a := ⟨H, 0, none⟩) (v := .int .i64 m) (A.cell 0)
  have k1 := cell_regrown (w := W) (a := ⟨H, 1, none⟩) (v := .int .i64 b) (A.cell 1)
  have k2 := cell_regrown (w := W) (a := ⟨H, 2, none⟩) (v := .int .i64 g) (A.cell 2)
  have k3 := cell_regrown (w := W) (a := ⟨H, 3, none⟩) (v := .int .i64 s) (A.cell 3)
  have k4 := cell_regrown (w := W) (a := ⟨H, 4, none⟩) (v := .int .i64 n) (A.cell 4)
  have k5 := cell_regrown (w := W) (a := ⟨H, 5, none⟩) (v := .int .i64 l) (A.cell 5)
  clear A
  refine wp_region_quiet_below (by kernel_rfl) (by kernel_rfl) ?_
  repeat (go_big_quiet_step ((first | (with_reducible exact Calls.regrown_of (within_true m 3 16 hm.1 hm.2 _)) | (with_reducible exact Calls.regrown_of (within_false g 4 64 hbad.out _)) )))
  refine wpQuiet_nil ?_
  intro _ hw'
  obtain ⟨⟨dq, osq⟩, hw''⟩ := hw'
  subst hw''
  go_wp2
  go_ret
  exact ⟨rfl, by rw [hH]; exact fin B0.out U.out dq osq⟩
theorem check_3 (m b g s n l : Int) (hm : 3 ≤ m ∧ m ≤ 16) (hg : 4 ≤ g ∧ g ≤ 64) (hbad : Hid (¬ (2 ≤ s ∧ s ≤ 16))) (w : World) : Calls Tryz.prog 43 #[sv m b g s n l] w fun e w' => e = .returned (.int .i64 1) ∧ Below w.heap.size w w' := by
  unfold sv
  go_enter Tryz.func43, Tryz.ntmps43
  go_wp2_with fail
  have A := At.new (w := w) (g := w.heap.size) #[.int .i64 m, .int .i64 b, .int .i64 g, .int .i64 s, .int .i64 n, .int .i64 l] 33 rfl
  have B0 := Lib.hid ((Below.refl w.heap.size w).alloc (Nat.le_refl _) (.cells #[.int .i64 m, .int .i64 b, .int .i64 g, .int .i64 s, .int .i64 n, .int .i64 l] 33))
  have U := Lib.hid (up B0.out rfl)
  generalize w.alloc (.cells #[.int .i64 m, .int .i64 b, .int .i64 g, .int .i64 s, .int .i64 n, .int .i64 l] 33) = W at *
  generalize hH : w.heap.size = H at *
  have k0 := cell_regrown (w := W) (a := ⟨H, 0, none⟩) (v := .int .i64 m) (A.cell 0)
  have k1 := cell_regrown (w := W) (a := ⟨H, 1, none⟩) (v := .int .i64 b) (A.cell 1)
  have k2 := cell_regrown (w := W) (a := ⟨H, 2, none⟩) (v := .int .i64 g) (A.cell 2)
  have k3 := cell_regrown (w := W) (a := ⟨H, 3, none⟩) (v := .int .i64 s) (A.cell 3)
  have k4 := cell_regrown (w := W) (a := ⟨H, 4, none⟩) (v := .int .i64 n) (A.cell 4)
  have k5 := cell_regrown (w := W) (a := ⟨H, 5, none⟩) (v := .int .i64 l) (A.cell 5)
  clear A
  refine wp_region_quiet_below (by kernel_rfl) (by kernel_rfl) ?_
  repeat (go_big_quiet_step ((first | (with_reducible exact Calls.regrown_of (within_true m 3 16 hm.1 hm.2 _)) | (with_reducible exact Calls.regrown_of (within_true g 4 64 hg.1 hg.2 _)) | (with_reducible exact Calls.regrown_of (within_false s 2 16 hbad.out _)) )))
  refine wpQuiet_nil ?_
  intro _ hw'
  obtain ⟨⟨dq, osq⟩, hw''⟩ := hw'
  subst hw''
  go_wp2
  go_ret
  exact ⟨rfl, by rw [hH]; exact fin B0.out U.out dq osq⟩
theorem check_4 (m b g s n l : Int) (hm : 3 ≤ m ∧ m ≤ 16) (hg : 4 ≤ g ∧ g ≤ 64) (hs : 2 ≤ s ∧ s ≤ 16) (X : Int) (hX : Hid (X = max 32 (15 + 5 * (m - 2)))) (hbad : Hid (¬ (X ≤ b ∧ b ≤ 512))) (w : World) : Calls Tryz.prog 43 #[sv m b g s n l] w fun e w' => e = .returned (.int .i64 1) ∧ Below w.heap.size w w' := by
  unfold sv
  have hmax := fun (w : World) => run_max2 (P := Tryz.prog) w #[3, 3] 3 32 (15 + 5 * (m - 2)) X hX.out
  go_enter Tryz.func43, Tryz.ntmps43
  go_wp2_with fail
  have A := At.new (w := w) (g := w.heap.size) #[.int .i64 m, .int .i64 b, .int .i64 g, .int .i64 s, .int .i64 n, .int .i64 l] 33 rfl
  have B0 := Lib.hid ((Below.refl w.heap.size w).alloc (Nat.le_refl _) (.cells #[.int .i64 m, .int .i64 b, .int .i64 g, .int .i64 s, .int .i64 n, .int .i64 l] 33))
  have U := Lib.hid (up B0.out rfl)
  generalize w.alloc (.cells #[.int .i64 m, .int .i64 b, .int .i64 g, .int .i64 s, .int .i64 n, .int .i64 l] 33) = W at *
  generalize hH : w.heap.size = H at *
  have k0 := cell_regrown (w := W) (a := ⟨H, 0, none⟩) (v := .int .i64 m) (A.cell 0)
  have k1 := cell_regrown (w := W) (a := ⟨H, 1, none⟩) (v := .int .i64 b) (A.cell 1)
  have k2 := cell_regrown (w := W) (a := ⟨H, 2, none⟩) (v := .int .i64 g) (A.cell 2)
  have k3 := cell_regrown (w := W) (a := ⟨H, 3, none⟩) (v := .int .i64 s) (A.cell 3)
  have k4 := cell_regrown (w := W) (a := ⟨H, 4, none⟩) (v := .int .i64 n) (A.cell 4)
  have k5 := cell_regrown (w := W) (a := ⟨H, 5, none⟩) (v := .int .i64 l) (A.cell 5)
  clear A
  refine wp_region_quiet_below (by kernel_rfl) (by kernel_rfl) ?_
  repeat (go_big_quiet_step ((first | (with_reducible exact Calls.regrown_of (within_true m 3 16 hm.1 hm.2 _)) | (with_reducible exact Calls.regrown_of (within_true g 4 64 hg.1 hg.2 _)) | (with_reducible exact Calls.regrown_of (within_true s 2 16 hs.1 hs.2 _)) | (with_reducible exact Calls.regrown_of (note_any m b g s n l hm _)) | (with_reducible exact Calls.regrown_of (within_false b X 512 hbad.out _)) )))
  refine wpQuiet_nil ?_
  intro _ hw'
  obtain ⟨⟨dq, osq⟩, hw''⟩ := hw'
  subst hw''
  go_wp2
  go_ret
  exact ⟨rfl, by rw [hH]; exact fin B0.out U.out dq osq⟩
theorem check_5 (m b g s n l : Int) (hm : 3 ≤ m ∧ m ≤ 16) (hg : 4 ≤ g ∧ g ≤ 64) (hs : 2 ≤ s ∧ s ≤ 16) (X : Int) (hX : Hid (X = max 32 (15 + 5 * (m - 2)))) (hb : X ≤ b ∧ b ≤ 512) (hbad : Hid (¬ (m - 2 ≤ n ∧ n ≤ s * (m - 2)))) (w : World) : Calls Tryz.prog 43 #[sv m b g s n l] w fun e w' => e = .returned (.int .i64 1) ∧ Below w.heap.size w w' := by
  unfold sv
  have hmax := fun (w : World) => run_max2 (P := Tryz.prog) w #[3, 3] 3 32 (15 + 5 * (m - 2)) X hX.out
  have hsm := three_s ⟨hm, hg, hs⟩
  have hmin := fun (w : World) => run_min2 (P := Tryz.prog) w #[3, 3] 3 (s * (m - 2)) 256 (s * (m - 2)) (by omega)
  go_enter Tryz.func43, Tryz.ntmps43
  go_wp2_with fail
  have A := At.new (w := w) (g := w.heap.size) #[.int .i64 m, .int .i64 b, .int .i64 g, .int .i64 s, .int .i64 n, .int .i64 l] 33 rfl
  have B0 := Lib.hid ((Below.refl w.heap.size w).alloc (Nat.le_refl _) (.cells #[.int .i64 m, .int .i64 b, .int .i64 g, .int .i64 s, .int .i64 n, .int .i64 l] 33))
  have U := Lib.hid (up B0.out rfl)
  generalize w.alloc (.cells #[.int .i64 m, .int .i64 b, .int .i64 g, .int .i64 s, .int .i64 n, .int .i64 l] 33) = W at *
  generalize hH : w.heap.size = H at *
  have k0 := cell_regrown (w := W) (a := ⟨H, 0, none⟩) (v := .int .i64 m) (A.cell 0)
  have k1 := cell_regrown (w := W) (a := ⟨H, 1, none⟩) (v := .int .i64 b) (A.cell 1)
  have k2 := cell_regrown (w := W) (a := ⟨H, 2, none⟩) (v := .int .i64 g) (A.cell 2)
  have k3 := cell_regrown (w := W) (a := ⟨H, 3, none⟩) (v := .int .i64 s) (A.cell 3)
  have k4 := cell_regrown (w := W) (a := ⟨H, 4, none⟩) (v := .int .i64 n) (A.cell 4)
  have k5 := cell_regrown (w := W) (a := ⟨H, 5, none⟩) (v := .int .i64 l) (A.cell 5)
  clear A
  refine wp_region_quiet_below (by kernel_rfl) (by kernel_rfl) ?_
  repeat (go_big_quiet_step ((first | (with_reducible exact Calls.regrown_of (within_true m 3 16 hm.1 hm.2 _)) | (with_reducible exact Calls.regrown_of (within_true g 4 64 hg.1 hg.2 _)) | (with_reducible exact Calls.regrown_of (within_true s 2 16 hs.1 hs.2 _)) | (with_reducible exact Calls.regrown_of (note_any m b g s n l hm _)) | (with_reducible exact Calls.regrown_of (within_true b X 512 hb.1 hb.2 _)) | (with_reducible exact Calls.regrown_of (slots_any m b g s n l hm _)) | (with_reducible exact Calls.regrown_of (within_false n (m - 2) (s * (m - 2)) hbad.out _)) )))
  refine wpQuiet_nil ?_
  intro _ hw'
  obtain ⟨⟨dq, osq⟩, hw''⟩ := hw'
  subst hw''
  go_wp2
  go_ret
  exact ⟨rfl, by rw [hH]; exact fin B0.out U.out dq osq⟩
theorem check_6 (m b g s n l : Int) (hm : 3 ≤ m ∧ m ≤ 16) (hg : 4 ≤ g ∧ g ≤ 64) (hs : 2 ≤ s ∧ s ≤ 16) (X : Int) (hX : Hid (X = max 32 (15 + 5 * (m - 2)))) (hb : X ≤ b ∧ b ≤ 512) (hn : m - 2 ≤ n ∧ n ≤ s * (m - 2)) (hbad : Hid (¬ (1 ≤ l ∧ l ≤ (g - 3) * (s - 1) * (m - 2)))) (w : World) : Calls Tryz.prog 43 #[sv m b g s n l] w fun e w' => e = .returned (.int .i64 1) ∧ Below w.heap.size w w' := by
  unfold sv
  have hmax := fun (w : World) => run_max2 (P := Tryz.prog) w #[3, 3] 3 32 (15 + 5 * (m - 2)) X hX.out
  have hsm := three_s ⟨hm, hg, hs⟩
  have hmin := fun (w : World) => run_min2 (P := Tryz.prog) w #[3, 3] 3 (s * (m - 2)) 256 (s * (m - 2)) (by omega)
  go_enter Tryz.func43, Tryz.ntmps43
  go_wp2_with fail
  have A := At.new (w := w) (g := w.heap.size) #[.int .i64 m, .int .i64 b, .int .i64 g, .int .i64 s, .int .i64 n, .int .i64 l] 33 rfl
  have B0 := Lib.hid ((Below.refl w.heap.size w).alloc (Nat.le_refl _) (.cells #[.int .i64 m, .int .i64 b, .int .i64 g, .int .i64 s, .int .i64 n, .int .i64 l] 33))
  have U := Lib.hid (up B0.out rfl)
  generalize w.alloc (.cells #[.int .i64 m, .int .i64 b, .int .i64 g, .int .i64 s, .int .i64 n, .int .i64 l] 33) = W at *
  generalize hH : w.heap.size = H at *
  have k0 := cell_regrown (w := W) (a := ⟨H, 0, none⟩) (v := .int .i64 m) (A.cell 0)
  have k1 := cell_regrown (w := W) (a := ⟨H, 1, none⟩) (v := .int .i64 b) (A.cell 1)
  have k2 := cell_regrown (w := W) (a := ⟨H, 2, none⟩) (v := .int .i64 g) (A.cell 2)
  have k3 := cell_regrown (w := W) (a := ⟨H, 3, none⟩) (v := .int .i64 s) (A.cell 3)
  have k4 := cell_regrown (w := W) (a := ⟨H, 4, none⟩) (v := .int .i64 n) (A.cell 4)
  have k5 := cell_regrown (w := W) (a := ⟨H, 5, none⟩) (v := .int .i64 l) (A.cell 5)
  clear A
  refine wp_region_quiet_below (by kernel_rfl) (by kernel_rfl) ?_
  repeat (go_big_quiet_step ((first | (with_reducible exact Calls.regrown_of (within_true m 3 16 hm.1 hm.2 _)) | (with_reducible exact Calls.regrown_of (within_true g 4 64 hg.1 hg.2 _)) | (with_reducible exact Calls.regrown_of (within_true s 2 16 hs.1 hs.2 _)) | (with_reducible exact Calls.regrown_of (note_any m b g s n l hm _)) | (with_reducible exact Calls.regrown_of (within_true b X 512 hb.1 hb.2 _)) | (with_reducible exact Calls.regrown_of (slots_any m b g s n l hm _)) | (with_reducible exact Calls.regrown_of (within_true n (m - 2) (s * (m - 2)) hn.1 hn.2 _)) | (with_reducible exact Calls.regrown_of (most_any m b g s n l hm hg hs _)) | (with_reducible exact Calls.regrown_of (within_false l 1 ((g - 3) * (s - 1) * (m - 2)) hbad.out _)) )))
  refine wpQuiet_nil ?_
  intro _ hw'
  obtain ⟨⟨dq, osq⟩, hw''⟩ := hw'
  subst hw''
  go_wp2
  go_ret
  exact ⟨rfl, by rw [hH]; exact fin B0.out U.out dq osq⟩
theorem check_7 (m b g s n l : Int) (hm : 3 ≤ m ∧ m ≤ 16) (hg : 4 ≤ g ∧ g ≤ 64) (hs : 2 ≤ s ∧ s ≤ 16) (X : Int) (hX : Hid (X = max 32 (15 + 5 * (m - 2)))) (hb : X ≤ b ∧ b ≤ 512) (hn : m - 2 ≤ n ∧ n ≤ s * (m - 2)) (hl : 1 ≤ l ∧ l ≤ (g - 3) * (s - 1) * (m - 2)) (w : World) : Calls Tryz.prog 43 #[sv m b g s n l] w fun e w' => e = .returned (.int .i64 0) ∧ Below w.heap.size w w' := by
  unfold sv
  have hmax := fun (w : World) => run_max2 (P := Tryz.prog) w #[3, 3] 3 32 (15 + 5 * (m - 2)) X hX.out
  have hsm := three_s ⟨hm, hg, hs⟩
  have hmin := fun (w : World) => run_min2 (P := Tryz.prog) w #[3, 3] 3 (s * (m - 2)) 256 (s * (m - 2)) (by omega)
  go_enter Tryz.func43, Tryz.ntmps43
  go_wp2_with fail
  have A := At.new (w := w) (g := w.heap.size) #[.int .i64 m, .int .i64 b, .int .i64 g, .int .i64 s, .int .i64 n, .int .i64 l] 33 rfl
  have B0 := Lib.hid ((Below.refl w.heap.size w).alloc (Nat.le_refl _) (.cells #[.int .i64 m, .int .i64 b, .int .i64 g, .int .i64 s, .int .i64 n, .int .i64 l] 33))
  have U := Lib.hid (up B0.out rfl)
  generalize w.alloc (.cells #[.int .i64 m, .int .i64 b, .int .i64 g, .int .i64 s, .int .i64 n, .int .i64 l] 33) = W at *
  generalize hH : w.heap.size = H at *
  have k0 := cell_regrown (w := W) (a := ⟨H, 0, none⟩) (v := .int .i64 m) (A.cell 0)
  have k1 := cell_regrown (w := W) (a := ⟨H, 1, none⟩) (v := .int .i64 b) (A.cell 1)
  have k2 := cell_regrown (w := W) (a := ⟨H, 2, none⟩) (v := .int .i64 g) (A.cell 2)
  have k3 := cell_regrown (w := W) (a := ⟨H, 3, none⟩) (v := .int .i64 s) (A.cell 3)
  have k4 := cell_regrown (w := W) (a := ⟨H, 4, none⟩) (v := .int .i64 n) (A.cell 4)
  have k5 := cell_regrown (w := W) (a := ⟨H, 5, none⟩) (v := .int .i64 l) (A.cell 5)
  clear A
  refine wp_region_quiet_below (by kernel_rfl) (by kernel_rfl) ?_
  repeat (go_big_quiet_step ((first | (with_reducible exact Calls.regrown_of (within_true m 3 16 hm.1 hm.2 _)) | (with_reducible exact Calls.regrown_of (within_true g 4 64 hg.1 hg.2 _)) | (with_reducible exact Calls.regrown_of (within_true s 2 16 hs.1 hs.2 _)) | (with_reducible exact Calls.regrown_of (note_any m b g s n l hm _)) | (with_reducible exact Calls.regrown_of (within_true b X 512 hb.1 hb.2 _)) | (with_reducible exact Calls.regrown_of (slots_any m b g s n l hm _)) | (with_reducible exact Calls.regrown_of (within_true n (m - 2) (s * (m - 2)) hn.1 hn.2 _)) | (with_reducible exact Calls.regrown_of (most_any m b g s n l hm hg hs _)) | (with_reducible exact Calls.regrown_of (within_true l 1 ((g - 3) * (s - 1) * (m - 2)) hl.1 hl.2 _)) )))
  refine wpQuiet_nil ?_
  intro _ hw'
  obtain ⟨⟨dq, osq⟩, hw''⟩ := hw'
  subst hw''
  go_wp2
  go_ret
  exact ⟨rfl, by rw [hH]; exact fin B0.out U.out dq osq⟩

theorem check_ok (m b g s n l : Int) (h : Ok m b g s n l) (w : World) : Calls Tryz.prog 43 #[sv m b g s n l] w fun e w' => e = .returned (.int .i64 0) ∧ Below w.heap.size w w' := by
  obtain ⟨⟨hm, hg, hs⟩, hb, hn, hl⟩ := h
  exact check_7 m b g s n l hm hg hs _ rfl (by unfold Blk at hb; omega) hn hl w
theorem check_bad (m b g s n l : Int) (h : ¬ Ok m b g s n l) (w : World) : Calls Tryz.prog 43 #[sv m b g s n l] w fun e w' => e = .returned (.int .i64 1) ∧ Below w.heap.size w w' := by
  by_cases hm : 3 ≤ m ∧ m ≤ 16
  · by_cases hg : 4 ≤ g ∧ g ≤ 64
    · by_cases hs : 2 ≤ s ∧ s ≤ 16
      · by_cases hb : max 32 (15 + 5 * (m - 2)) ≤ b ∧ b ≤ 512
        · by_cases hn : m - 2 ≤ n ∧ n ≤ s * (m - 2)
          · exact check_6 m b g s n l hm hg hs _ rfl hb hn (fun hl => h ⟨⟨hm, hg, hs⟩, by unfold Blk; omega, hn, hl⟩) w
          · exact check_5 m b g s n l hm hg hs _ rfl hb hn w
        · exact check_4 m b g s n l hm hg hs _ rfl hb w
      · exact check_3 m b g s n l hm hg hs w
    · exact check_2 m b g s n l hm hg w
  · exact check_1 m b g s n l hm w

end Go.Proofs.YtapbphkhbhcdkaaGreat
