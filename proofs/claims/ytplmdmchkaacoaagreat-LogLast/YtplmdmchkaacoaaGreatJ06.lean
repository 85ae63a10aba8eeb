/-
  TEXTS JOINED: Check, Shp.
-/
import Derived.Test.YtplmdmchkaacoaaGreatJ05
import Derived.Test.YtplmdmchkaacoaaGreatJ02
import Derived.Deep.RegionHeld3

/-
  CHECK AND MAY: what they return, whatever the numbers; and the example that every law asks first.
-/
namespace Go.Proofs.YtplmdmchkaacoaaGreat
open Go.RowKit Go.Sort
set_option linter.unusedVariables false
set_option maxRecDepth 100000

theorem mul_bounds {a b A B : Int} (ha : 0 ≤ a) (hb : 0 ≤ b) (hA : a ≤ A) (hB : b ≤ B) : 0 ≤ a * b ∧ a * b ≤ A * B := ⟨Int.mul_nonneg ha hb, Int.mul_le_mul hA hB hb (Int.le_trans ha hA)⟩

/-- The three that bound the others. -/
def Three (m g s : Int) : Prop := (3 ≤ m ∧ m ≤ 16) ∧ (4 ≤ g ∧ g ≤ 64) ∧ (2 ≤ s ∧ s ≤ 16)
/-- The block's bounds. -/
def Blk (m b : Int) : Prop := 32 ≤ b ∧ 15 + 5 * (m - 2) ≤ b ∧ b ≤ 512
def Nvs (m s n : Int) : Prop := m - 2 ≤ n ∧ n ≤ s * (m - 2)
def Lgs (m g s l : Int) : Prop := 1 ≤ l ∧ l ≤ (g - 3) * (s - 1) * (m - 2)
/-- May it be? -/
def Ok (m b g s n l : Int) : Prop := Three m g s ∧ Blk m b ∧ Nvs m s n ∧ Lgs m g s l

theorem three_s {m g s : Int} (h : Three m g s) : 0 ≤ s * (m - 2) ∧ s * (m - 2) ≤ 224 := by
  obtain ⟨hm, hg, hs⟩ := h
  exact mul_bounds (A := 16) (B := 14) (by omega) (by omega) (by omega) (by omega)
theorem three_g {m g s : Int} (h : Three m g s) : 0 ≤ (g - 3) * (s - 1) ∧ (g - 3) * (s - 1) ≤ 915 := by
  obtain ⟨hm, hg, hs⟩ := h
  exact mul_bounds (A := 61) (B := 15) (by omega) (by omega) (by omega) (by omega)
theorem three_l {m g s : Int} (h : Three m g s) : 0 ≤ (g - 3) * (s - 1) * (m - 2) ∧ (g - 3) * (s - 1) * (m - 2) ≤ 12810 := by
  have h1 := three_g h
  obtain ⟨hm, hg, hs⟩ := h
  exact mul_bounds (A := 915) (B := 14) (by omega) (by omega) (by omega) (by omega)

theorem check_1 (m b g s n l : Int) (hbad : Hid (¬ (3 ≤ m ∧ m ≤ 16))) (w : World) : Calls Tryz.prog 104 #[sv m b g s n l] w fun e w' => e = .returned (.int .i64 1) ∧ Below w.heap.size w w' := by
  unfold sv
  go_enter Tryz.func104, Tryz.ntmps104
  go_wp2_with fail
  have A := At.new (w := w) (g := w.heap.size) #[.int .i64 m, .int .i64 b, .int .i64 g, .int .i64 s, .int .i64 n, .int .i64 l] 27 rfl
  have B0 := Lib.hid ((Below.refl w.heap.size w).alloc (Nat.le_refl _) (.cells #[.int .i64 m, .int .i64 b, .int .i64 g, .int .i64 s, .int .i64 n, .int .i64 l] 27))
  have U := Lib.hid (up B0.out rfl)
  generalize w.alloc (.cells #[.int .i64 m, .int .i64 b, .int .i64 g, .int .i64 s, .int .i64 n, .int .i64 l] 27) = W at *
  generalize hH : w.heap.size = H at *
  have k0 := cell_regrown (w := W) (a := ⟨H, 0, none⟩) (v := .int .i64 m) (A.cell 0)
  have k1 := cell_regrown (w := W) (a := ⟨H, 1, none⟩) (v := .int .i64 b) (A.cell 1)
  have k2 := cell_regrown (w := W) (a := ⟨H, 2, none⟩) (v := .int .i64 g) (A.cell 2)
  have k3 := cell_regrown (w := W) (a := ⟨H, 3, none⟩) (v := .int .i64 s) (A.cell 3)
  have k4 := cell_regrown (w := W) (a := ⟨H, 4, none⟩) (v := .int .i64 n) (A.cell 4)
  have k5 := cell_regrown (w := W) (a := ⟨H, 5, none⟩) (v := .int .i64 l) (A.cell 5)
  clear A
  refine wp_region_quiet_below (by kernel_rfl) (by kernel_rfl) ?_
  repeat (go_big_quiet_step ((first | (with_reducible exact Calls.regrown_of (within_false m 3 16 hbad.out _)) )))
  refine wpQuiet_nil ?_
  intro _ hw'
  obtain ⟨⟨dq, osq⟩, hw''⟩ := hw'
  subst hw''
  go_wp2
  go_ret
  exact ⟨rfl, by rw [hH]; exact fin B0.out U.out dq osq⟩
theorem check_2 (m b g s n l : Int) (hm : 3 ≤ m ∧ m ≤ 16) (hbad : Hid (¬ (4 ≤ g ∧ g ≤ 64))) (w : World) : Calls Tryz.prog 104 #[sv m b g s n l] w fun e w' => e = .returned (.int .i64 1) ∧ Below w.heap.size w w' := by
  unfold sv
  go_enter Tryz.func104, Tryz.ntmps104
  go_wp2_with fail
  have A := At.new (w := w) (g := w.heap.size) #[.int .i64 m, .int .i64 b, .int .i64 g, .int .i64 s, .int .i64 n, .int .i64 l] 27 rfl
  have B0 := Lib.hid ((Below.refl w.heap.size w).alloc (Nat.le_refl _) (.cells #[.int .i64 m, .int .i64 b, .int .i64 g, .int .i64 s, .int .i64 n, .int .i64 l] 27))
  have U := Lib.hid (up B0.out rfl)
  generalize w.alloc (.cells #[.int .i64 m, .int .i64 b, .int .i64 g, .int .i64 s, .int .i64 n, .int .i64 l] 27) = W at *
  generalize hH : w.heap.size = H at *
  have k0 := cell_regrown (w := W) (a := ⟨H, 0, none⟩) (v := .int .i64 m) (A.cell 0)
  have k1 := cell_regrown (w := W) (a := ⟨H, 1, none⟩) (v := .int .i64 b) (A.cell 1)
  have k2 := cell_regrown (w := W) (a := ⟨H, 2, none⟩) (v := .int .i64 g) (A.cell 2)
  have k3 := cell_regrown (w := W) (a := ⟨H, 3, none⟩) (v := .int .i64 s) (A.cell 3)
  have k4 := cell_regrown (w := W) (a := ⟨H, 4, none⟩) (v := .int .i64 n) (A.cell 4)
  have k5 := cell_regrown (w := W) (a := ⟨H, 5, none⟩) (v := .int .i64 l) (A.cell 5)
  clear A
  refine wp_region_quiet_below (by kernel_rfl) (by kernel_rfl) ?_
  repeat (go_big_quiet_step ((first | (with_reducible exact Calls.regrown_of (within_true m 3 16 hm.1 hm.2 _)) | (with_reducible exact Calls.regrown_of (within_false g 4 64 hbad.out _)) )))
  refine wpQuiet_nil ?_
  intro _ hw'
  obtain ⟨⟨dq, osq⟩, hw''⟩ := hw'
  subst hw''
  go_wp2
  go_ret
  exact ⟨rfl, by rw [hH]; exact fin B0.out U.out dq osq⟩
theorem check_3 (m b g s n l : Int) (hm : 3 ≤ m ∧ m ≤ 16) (hg : 4 ≤ g ∧ g ≤ 64) (hbad : Hid (¬ (2 ≤ s ∧ s ≤ 16))) (w : World) : Calls Tryz.prog 104 #[sv m b g s n l] w fun e w' => e = .returned (.int .i64 1) ∧ Below w.heap.size w w' := by
  unfold sv
  go_enter Tryz.func104, Tryz.ntmps104
  go_wp2_with fail
  have A := At.new (w := w) (g := w.heap.size) #[.int .i64 m, .int .i64 b, .int .i64 g, .int .i64 s, .int .i64 n, .int .i64 l] 27 rfl
  have B0 := Lib.hid ((Below.refl w.heap.size w).alloc (Nat.le_refl _) (.cells #[.int .i64 m, .int .i64 b, .int .i64 g, .int .i64 s, .int .i64 n, .int .i64 l] 27))
  have U := Lib.hid (up B0.out rfl)
  generalize w.alloc (.cells #[.int .i64 m, .int .i64 b, .int .i64 g, .int .i64 s, .int .i64 n, .int .i64 l] 27) = W at *
  generalize hH : w.heap.size = H at *
  have k0 := cell_regrown (w := W) (a := ⟨H, 0, none⟩) (v := .int .i64 m) (A.cell 0)
  have k1 := cell_regrown (w := W) (a := ⟨H, 1, none⟩) (v := .int .i64 b) (A.cell 1)
  have k2 := cell_regrown (w := W) (a := ⟨H, 2, none⟩) (v := .int .i64 g) (A.cell 2)
  have k3 := cell_regrown (w := W) (a := ⟨H, 3, none⟩) (v := .int .i64 s) (A.cell 3)
  have k4 := cell_regrown (w := W) (a := ⟨H, 4, none⟩) (v := .int .i64 n) (A.cell 4)
  have k5 := cell_regrown (w := W) (a := ⟨H, 5, none⟩) (v := .int .i64 l) (A.cell 5)
  clear A
  refine wp_region_quiet_below (by kernel_rfl) (by kernel_rfl) ?_
  repeat (go_big_quiet_step ((first | (with_reducible exact Calls.regrown_of (within_true m 3 16 hm.1 hm.2 _)) | (with_reducible exact Calls.regrown_of (within_true g 4 64 hg.1 hg.2 _)) | (with_reducible exact Calls.regrown_of (within_false s 2 16 hbad.out _)) )))
  refine wpQuiet_nil ?_
  intro _ hw'
  obtain ⟨⟨dq, osq⟩, hw''⟩ := hw'
  subst hw''
  go_wp2
  go_ret
  exact ⟨rfl, by rw [hH]; exact fin B0.out U.out dq osq⟩
theorem check_4 (m b g s n l : Int) (hm : 3 ≤ m ∧ m ≤ 16) (hg : 4 ≤ g ∧ g ≤ 64) (hs : 2 ≤ s ∧ s ≤ 16) (X : Int) (hX : Hid (X = max 32 (15 + 5 * (m - 2)))) (hbad : Hid (¬ (X ≤ b ∧ b ≤ 512))) (w : World) : Calls Tryz.prog 104 #[sv m b g s n l] w fun e w' => e = .returned (.int .i64 1) ∧ Below w.heap.size w w' := by
  unfold sv
  have hmax := fun (w : World) => run_max2 (P := Tryz.prog) w #[3, 3] 3 32 (15 + 5 * (m - 2)) X hX.out
  go_enter Tryz.func104, Tryz.ntmps104
  go_wp2_with fail
  have A := At.new (w := w) (g := w.heap.size) #[.int .i64 m, .int .i64 b, .int .i64 g, .int .i64 s, .int .i64 n, .int .i64 l] 27 rfl
  have B0 := Lib.hid ((Below.refl w.heap.size w).alloc (Nat.le_refl _) (.cells #[.int .i64 m, .int .i64 b, .int .i64 g, .int .i64 s, .int .i64 n, .int .i64 l] 27))
  have U := Lib.hid (up B0.out rfl)
  generalize w.alloc (.cells #[.int .i64 m, .int .i64 b, .int .i64 g, .int .i64 s, .int .i64 n, .int .i64 l] 27) = W at *
  generalize hH : w.heap.size = H at *
  have k0 := cell_regrown (w := W) (a := ⟨H, 0, none⟩) (v := .int .i64 m) (A.cell 0)
  have k1 := cell_regrown (w := W) (a := ⟨H, 1, none⟩) (v := .int .i64 b) (A.cell 1)
  have k2 := cell_regrown (w := W) (a := ⟨H, 2, none⟩) (v := .int .i64 g) (A.cell 2)
  have k3 := cell_regrown (w := W) (a := ⟨H, 3, none⟩) (v := .int .i64 s) (A.cell 3)
  have k4 := cell_regrown (w := W) (a := ⟨H, 4, none⟩) (v := .int .i64 n) (A.cell 4)
  have k5 := cell_regrown (w := W) (a := ⟨H, 5, none⟩) (v := .int .i64 l) (A.cell 5)
  clear A
  refine wp_region_quiet_below (by kernel_rfl) (by kernel_rfl) ?_
  repeat (go_big_quiet_step ((first | (with_reducible exact Calls.regrown_of (within_true m 3 16 hm.1 hm.2 _)) | (with_reducible exact Calls.regrown_of (within_true g 4 64 hg.1 hg.2 _)) | (with_reducible exact Calls.regrown_of (within_true s 2 16 hs.1 hs.2 _)) | (with_reducible exact Calls.regrown_of (note_any m b g s n l hm _)) | (with_reducible exact Calls.regrown_of (within_false b X 512 hbad.out _)) )))
  refine wpQuiet_nil ?_
  intro _ hw'
  obtain ⟨⟨dq, osq⟩, hw''⟩ := hw'
  subst hw''
  go_wp2
  go_ret
  exact ⟨rfl, by rw [hH]; exact fin B0.out U.out dq osq⟩
theorem check_5 (m b g s n l : Int) (hm : 3 ≤ m ∧ m ≤ 16) (hg : 4 ≤ g ∧ g ≤ 64) (hs : 2 ≤ s ∧ s ≤ 16) (X : Int) (hX : Hid (X = max 32 (15 + 5 * (m - 2)))) (hb : X ≤ b ∧ b ≤ 512) (hbad : Hid (¬ (m - 2 ≤ n ∧ n ≤ s * (m - 2)))) (w : World) : Calls Tryz.prog 104 #[sv m b g s n l] w fun e w' => e = .returned (.int .i64 1) ∧ Below w.heap.size w w' := by
  unfold sv
  have hmax := fun (w : World) => run_max2 (P := Tryz.prog) w #[3, 3] 3 32 (15 + 5 * (m - 2)) X hX.out
  have hsm := three_s ⟨hm, hg, hs⟩
  have hmin := fun (w : World) => run_min2 (P := Tryz.prog) w #[3, 3] 3 (s * (m - 2)) 256 (s * (m - 2)) (by omega)
  go_enter Tryz.func104, Tryz.ntmps104
  go_wp2_with fail
  have A := At.new (w := w) (g := w.heap.size) #[.int .i64 m, .int .i64 b, .int .i64 g, .int .i64 s, .int .i64 n, .int .i64 l] 27 rfl
  have B0 := Lib.hid ((Below.refl w.heap.size w).alloc (Nat.le_refl _) (.cells #[.int .i64 m, .int .i64 b, .int .i64 g, .int .i64 s, .int .i64 n, .int .i64 l] 27))
  have U := Lib.hid (up B0.out rfl)
  generalize w.alloc (.cells #[.int .i64 m, .int .i64 b, .int .i64 g, .int .i64 s, .int .i64 n, .int .i64 l] 27) = W at *
  generalize hH : w.heap.size = H at *
  have k0 := cell_regrown (w := W) (a := ⟨H, 0, none⟩) (v := .int .i64 m) (A.cell 0)
  have k1 := cell_regrown (w := W) (a := ⟨H, 1, none⟩) (v := .int .i64 b) (A.cell 1)
  have k2 := cell_regrown (w := W) (a := ⟨H, 2, none⟩) (v := .int .i64 g) (A.cell 2)
  have k3 := cell_regrown (w := W) (a := ⟨H, 3, none⟩) (v := .int .i64 s) (A.cell 3)
  have k4 := cell_regrown (w := W) (a := ⟨H, 4, none⟩) (v := .int .i64 n) (A.cell 4)
  have k5 := cell_regrown (w := W) (a := ⟨H, 5, none⟩) (v := .int .i64 l) (A.cell 5)
  clear A
  refine wp_region_quiet_below (by kernel_rfl) (by kernel_rfl) ?_
  repeat (go_big_quiet_step ((first | (with_reducible exact Calls.regrown_of (within_true m 3 16 hm.1 hm.2 _)) | (with_reducible exact Calls.regrown_of (within_true g 4 64 hg.1 hg.2 _)) | (with_reducible exact Calls.regrown_of (within_true s 2 16 hs.1 hs.2 _)) | (with_reducible exact Calls.regrown_of (note_any m b g s n l hm _)) | (with_reducible exact Calls.regrown_of (within_true b X 512 hb.1 hb.2 _)) | (with_reducible exact Calls.regrown_of (slots_any m b g s n l hm _)) | (with_reducible exact Calls.regrown_of (within_false n (m - 2) (s * (m - 2)) hbad.out _)) )))
  refine wpQuiet_nil ?_
  intro _ hw'
  obtain ⟨⟨dq, osq⟩, hw''⟩ := hw'
  subst hw''
  go_wp2
  go_ret
  exact ⟨rfl, by rw [hH]; exact fin B0.out U.out dq osq⟩
theorem check_6 (m b g s n l : Int) (hm : 3 ≤ m ∧ m ≤ 16) (hg : 4 ≤ g ∧ g ≤ 64) (hs : 2 ≤ s ∧ s ≤ 16) (X : Int) (hX : Hid (X = max 32 (15 + 5 * (m - 2)))) (hb : X ≤ b ∧ b ≤ 512) (hn : m - 2 ≤ n ∧ n ≤ s * (m - 2)) (hbad : Hid (¬ (1 ≤ l ∧ l ≤ (g - 3) * (s - 1) * (m - 2)))) (w : World) : Calls Tryz.prog 104 #[sv m b g s n l] w fun e w' => e = .returned (.int .i64 1) ∧ Below w.heap.size w w' := by
  unfold sv
  have hmax := fun (w : World) => run_max2 (P := Tryz.prog) w #[3, 3] 3 32 (15 + 5 * (m - 2)) X hX.out
  have hsm := three_s ⟨hm, hg, hs⟩
  have hmin := fun (w : World) => run_min2 (P := Tryz.prog) w #[3, 3] 3 (s * (m - 2)) 256 (s * (m - 2)) (by omega)
  go_enter Tryz.func104, Tryz.ntmps104
  go_wp2_with fail
  have A := At.new (w := w) (g := w.heap.size) #[.int .i64 m, .int .i64 b, .int .i64 g, .int .i64 s, .int .i64 n, .int .i64 l] 27 rfl
  have B0 := Lib.hid ((Below.refl w.heap.size w).alloc (Nat.le_refl _) (.cells #[.int .i64 m, .int .i64 b, .int .i64 g, .int .i64 s, .int .i64 n, .int .i64 l] 27))
  have U := Lib.hid (up B0.out rfl)
  generalize w.alloc (.cells #[.int .i64 m, .int .i64 b, .int .i64 g, .int .i64 s, .int .i64 n, .int .i64 l] 27) = W at *
  generalize hH : w.heap.size = H at *
  have k0 := cell_regrown (w := W) (a := ⟨H, 0, none⟩) (v := .int .i64 m) (A.cell 0)
  have k1 := cell_regrown (w := W) (a := ⟨H, 1, none⟩) (v := .int .i64 b) (A.cell 1)
  have k2 := cell_regrown (w := W) (a := ⟨H, 2, none⟩) (v := .int .i64 g) (A.cell 2)
  have k3 := cell_regrown (w := W) (a := ⟨H, 3, none⟩) (v := .int .i64 s) (A.cell 3)
  have k4 := cell_regrown (w := W) (a := ⟨H, 4, none⟩) (v := .int .i64 n) (A.cell 4)
  have k5 := cell_regrown (w := W) (a := ⟨H, 5, none⟩) (v := .int .i64 l) (A.cell 5)
  clear A
  refine wp_region_quiet_below (by kernel_rfl) (by kernel_rfl) ?_
  repeat (go_big_quiet_step ((first | (with_reducible exact Calls.regrown_of (within_true m 3 16 hm.1 hm.2 _)) | (with_reducible exact Calls.regrown_of (within_true g 4 64 hg.1 hg.2 _)) | (with_reducible exact Calls.regrown_of (within_true s 2 16 hs.1 hs.2 _)) | (with_reducible exact Calls.regrown_of (note_any m b g s n l hm _)) | (with_reducible exact Calls.regrown_of (within_true b X 512 hb.1 hb.2 _)) | (with_reducible exact Calls.regrown_of (slots_any m b g s n l hm _)) | (with_reducible exact Calls.regrown_of (within_true n (m - 2) (s * (m - 2)) hn.1 hn.2 _)) | (with_reducible exact Calls.regrown_of (most_any m b g s n l hm hg hs _)) | (with_reducible exact Calls.regrown_of (within_false l 1 ((g - 3) * (s - 1) * (m - 2)) hbad.out _)) )))
  refine wpQuiet_nil ?_
  intro _ hw'
  obtain ⟨⟨dq, osq⟩, hw''⟩ := hw'
  subst hw''
  go_wp2
  go_ret
  exact ⟨rfl, by rw [hH]; exact fin B0.out U.out dq osq⟩
theorem check_7 (m b g s n l : Int) (hm : 3 ≤ m ∧ m ≤ 16) (hg : 4 ≤ g ∧ g ≤ 64) (hs : 2 ≤ s ∧ s ≤ 16) (X : Int) (hX : Hid (X = max 32 (15 + 5 * (m - 2)))) (hb : X ≤ b ∧ b ≤ 512) (hn : m - 2 ≤ n ∧ n ≤ s * (m - 2)) (hl : 1 ≤ l ∧ l ≤ (g - 3) * (s - 1) * (m - 2)) (w : World) : Calls Tryz.prog 104 #[sv m b g s n l] w fun e w' => e = .returned (.int .i64 0) ∧ Below w.heap.size w w' := by
  unfold sv
  have hmax := fun (w : World) => run_max2 (P := Tryz.prog) w #[3, 3] 3 32 (15 + 5 * (m - 2)) X hX.out
  have hsm := three_s ⟨hm, hg, hs⟩
  have hmin := fun (w : World) => run_min2 (P := Tryz.prog) w #[3, 3] 3 (s * (m - 2)) 256 (s * (m - 2)) (by omega)
  go_enter Tryz.func104, Tryz.ntmps104
  go_wp2_with fail
  have A := At.new (w := w) (g := w.heap.size) #[.int .i64 m, .int .i64 b, .int .i64 g, .int .i64 s, .int .i64 n, .int .i64 l] 27 rfl
  have B0 := Lib.hid ((Below.refl w.heap.size w).alloc (Nat.le_refl _) (.cells #[.int .i64 m, .int .i64 b, .int .i64 g, .int .i64 s, .int .i64 n, .int .i64 l] 27))
  have U := Lib.hid (up B0.out rfl)
  generalize w.alloc (.cells #[.int .i64 m, .int .i64 b, .int .i64 g, .int .i64 s, .int .i64 n, .int .i64 l] 27) = W at *
  generalize hH : w.heap.size = H at *
  have k0 := cell_regrown (w := W) (a := ⟨H, 0, none⟩) (v := .int .i64 m) (A.cell 0)
  have k1 := cell_regrown (w := W) (a := ⟨H, 1, none⟩) (v := .int .i64 b) (A.cell 1)
  have k2 := cell_regrown (w := W) (a := ⟨H, 2, none⟩) (v := .int .i64 g) (A.cell 2)
  have k3 := cell_regrown (w := W) (a := ⟨H, 3, none⟩) (v := .int .i64 s) (A.cell 3)
  have k4 := cell_regrown (w := W) (a := ⟨H, 4, none⟩) (v := .int .i64 n) (A.cell 4)
  have k5 := cell_regrown (w := W) (a := ⟨H, 5, none⟩) (v := .int .i64 l) (A.cell 5)
  clear A
  refine wp_region_quiet_below (by kernel_rfl) (by kernel_rfl) ?_
  repeat (go_big_quiet_step ((first | (with_reducible exact Calls.regrown_of (within_true m 3 16 hm.1 hm.2 _)) | (with_reducible exact Calls.regrown_of (within_true g 4 64 hg.1 hg.2 _)) | (with_reducible exact Calls.regrown_of (within_true s 2 16 hs.1 hs.2 _)) | (with_reducible exact Calls.regrown_of (note_any m b g s n l hm _)) | (with_reducible exact Calls.regrown_of (within_true b X 512 hb.1 hb.2 _)) | (with_reducible exact Calls.regrown_of (slots_any m b g s n l hm _)) | (with_reducible exact Calls.regrown_of (within_true n (m - 2) (s * (m - 2)) hn.1 hn.2 _)) | (with_reducible exact Calls.regrown_of (most_any m b g s n l hm hg hs _)) | (with_reducible exact Calls.regrown_of (within_true l 1 ((g - 3) * (s - 1) * (m - 2)) hl.1 hl.2 _)) )))
  refine wpQuiet_nil ?_
  intro _ hw'
  obtain ⟨⟨dq, osq⟩, hw''⟩ := hw'
  subst hw''
  go_wp2
  go_ret
  exact ⟨rfl, by rw [hH]; exact fin B0.out U.out dq osq⟩

theorem check_ok (m b g s n l : Int) (h : Ok m b g s n l) (w : World) : Calls Tryz.prog 104 #[sv m b g s n l] w fun e w' => e = .returned (.int .i64 0) ∧ Below w.heap.size w w' := by
  obtain ⟨⟨hm, hg, hs⟩, hb, hn, hl⟩ := h
  exact check_7 m b g s n l hm hg hs _ rfl (by unfold Blk at hb; omega) hn hl w
theorem check_bad (m b g s n l : Int) (h : ¬ Ok m b g s n l) (w : World) : Calls Tryz.prog 104 #[sv m b g s n l] w fun e w' => e = .returned (.int .i64 1) ∧ Below w.heap.size w w' := by
  by_cases hm : 3 ≤ m ∧ m ≤ 16
  · by_cases hg : 4 ≤ g ∧ g ≤ 64
    · by_cases hs : 2 ≤ s ∧ s ≤ 16
      · by_cases hb : max 32 (15 + 5 * (m - 2)) ≤ b ∧ b ≤ 512
        · by_cases hn : m - 2 ≤ n ∧ n ≤ s * (m - 2)
          · exact check_6 m b g s n l hm hg hs _ rfl hb hn (fun hl => h ⟨⟨hm, hg, hs⟩, by unfold Blk; omega, hn, hl⟩) w
          · exact check_5 m b g s n l hm hg hs _ rfl hb hn w
        · exact check_4 m b g s n l hm hg hs _ rfl hb w
      · exact check_3 m b g s n l hm hg hs w
    · exact check_2 m b g s n l hm hg w
  · exact check_1 m b g s n l hm w

end Go.Proofs.YtplmdmchkaacoaaGreat

/-
  THE EXAMPLE THAT EVERY LAW ASKS FIRST; THE SHAPES BY SMALL NUMBERS; the spot of a place.
-/
namespace Go.Proofs.YtplmdmchkaacoaaGreat
open Go.RowKit Go.Sort
set_option linter.unusedVariables false
set_option maxRecDepth 100000

theorem info30 : (Tryz.prog.info? 27).map (·.size) = some 6 := by kernel_rfl
theorem ok_example : Ok 3 32 4 2 2 1 := by unfold Ok Three Blk Nvs Lgs; omega

theorem geomAwake_any (w : World) : Calls Tryz.prog 92 #[] w fun e w' => e = .returned (.bool true) ∧ Below w.heap.size w w' := by
  go_enter Tryz.func92, Tryz.ntmps92
  go_wp2_with fail
  have A := Lib.hid (At.new (w := w) (g := w.heap.size) #[.int .i64 3, .int .i64 32, .int .i64 4, .int .i64 2, .int .i64 2, .int .i64 1] 27 rfl)
  have B0 := Lib.hid ((Below.refl w.heap.size w).alloc (Nat.le_refl _) (.cells #[.int .i64 3, .int .i64 32, .int .i64 4, .int .i64 2, .int .i64 2, .int .i64 1] 27))
  refine (check_ok 3 32 4 2 2 1 ok_example _).mono ?_
  rintro e w' ⟨rfl, hb'⟩
  have A := Lib.hid (A.out.below hb' A.out.lt)
  have B0 := Lib.hid (B0.out.trans (hb'.mono (up B0.out rfl)))
  have k0 := A.out.cell 0; have k1 := A.out.cell 1; have k2 := A.out.cell 2; have k3 := A.out.cell 3; have k4 := A.out.cell 4; have k5 := A.out.cell 5
  clear hb'
  go_wp2_with fail
  refine (parity_any 3 32 4 2 2 1 1 (by omega) (by omega) _).mono ?_
  rintro e w' ⟨rfl, hb'⟩
  have A := Lib.hid (A.out.below hb' A.out.lt)
  have B0 := Lib.hid (B0.out.trans (hb'.mono (up B0.out rfl)))
  have k0 := A.out.cell 0; have k1 := A.out.cell 1; have k2 := A.out.cell 2; have k3 := A.out.cell 3; have k4 := A.out.cell 4; have k5 := A.out.cell 5
  clear hb'
  go_wp2_with fail
  refine (member_any 3 32 4 2 2 1 1 (by omega) 0 (by omega) (by omega) _).mono ?_
  rintro e w' ⟨rfl, hb'⟩
  have A := Lib.hid (A.out.below hb' A.out.lt)
  have B0 := Lib.hid (B0.out.trans (hb'.mono (up B0.out rfl)))
  have k0 := A.out.cell 0; have k1 := A.out.cell 1; have k2 := A.out.cell 2; have k3 := A.out.cell 3; have k4 := A.out.cell 4; have k5 := A.out.cell 5
  clear hb'
  go_wp2_with fail
  refine (member_any 3 32 4 2 2 1 1 (by omega) 1 (by omega) (by omega) _).mono ?_
  rintro e w' ⟨rfl, hb'⟩
  have A := Lib.hid (A.out.below hb' A.out.lt)
  have B0 := Lib.hid (B0.out.trans (hb'.mono (up B0.out rfl)))
  have k0 := A.out.cell 0; have k1 := A.out.cell 1; have k2 := A.out.cell 2; have k3 := A.out.cell 3; have k4 := A.out.cell 4; have k5 := A.out.cell 5
  clear hb'
  go_wp2_with fail
  go_ret
  exact ⟨rfl, B0.out⟩

theorem shape_any (x0 x1 x2 x3 x4 x5 : Int) (h0 : 0 ≤ x0 ∧ x0 ≤ 255) (h1 : 0 ≤ x1 ∧ x1 ≤ 255) (h2 : 0 ≤ x2 ∧ x2 ≤ 255) (h3 : 0 ≤ x3 ∧ x3 ≤ 255) (h4 : 0 ≤ x4 ∧ x4 ≤ 255) (h5 : 0 ≤ x5 ∧ x5 ≤ 255)
    (m g s X D L : Int) (hm : 3 + x0 % 3 = m) (hg : 4 + x2 % 3 = g) (hs : 2 + x3 % 2 = s) (hX : Hid (X = max (15 + 5 * (m - 2)) 32)) (hX1 : 32 ≤ X ∧ X ≤ 40) (bm : 3 ≤ m ∧ m ≤ 5) (bg : 4 ≤ g ∧ g ≤ 6) (bs : 2 ≤ s ∧ s ≤ 3)
    (hD : s * (m - 2) - (m - 2) + 1 = D) (bD : 1 ≤ D ∧ D ≤ 10) (hsm : 2 ≤ s * (m - 2) ∧ s * (m - 2) ≤ 9) (hL : (g - 3) * (s - 1) * (m - 2) = L) (bL : 1 ≤ L ∧ L ≤ 18) (hgs : 1 ≤ (g - 3) * (s - 1) ∧ (g - 3) * (s - 1) ≤ 6)
    (hrD : 0 ≤ x4 % D ∧ x4 % D < D) (hrL : 0 ≤ x5 % L ∧ x5 % L < L) (w : World) :
    Calls Tryz.prog 41 #[.agg #[.int .u8 x0, .int .u8 x1, .int .u8 x2, .int .u8 x3, .int .u8 x4, .int .u8 x5]] w fun e w' => e = .returned (sv m (X + x1 % 9) g s (m - 2 + x4 % D) (1 + x5 % L)) ∧ Below w.heap.size w w' := by
  unfold sv
  have hmax := fun (w : World) => run_max2 (P := Tryz.prog) w #[3, 3] 3 (15 + 5 * (m - 2)) 32 X hX.out
  go_enter Tryz.func41, Tryz.ntmps41
  go_wp2
  refine bodyPost_ret (results_cell_row (p := 2) (ty := 27) rfl _ _ (w.heap.size + 1) 27 #[.int .i64 m, .int .i64 (X + x1 % 9), .int .i64 g, .int .i64 s, .int .i64 (m - 2 + x4 % D), .int .i64 (1 + x5 % L)] (0, 0) _ rfl ((At.new _ 27 (by simp)).alloc _) Tryz.underlying27 rfl info30) rfl ?_
  exact ⟨rfl, (((Below.refl _ _).alloc (Nat.le_refl _) _).alloc (by simp) _).alloc (by simp; omega) _⟩

theorem wrap_of {x : Int} (h1 : -9223372036854775808 ≤ x) (h2 : x ≤ 9223372036854775807) : IntKind.i64.wrap x = x := by
  simp [IntKind.wrap, IntKind.signed, IntKind.bits]
  omega
/-- What a shape by small numbers is. -/
structure Small (m b g s n l : Int) : Prop where
  hm : 3 ≤ m ∧ m ≤ 5
  hb : 32 ≤ b ∧ b ≤ 48
  hg : 4 ≤ g ∧ g ≤ 6
  hs : 2 ≤ s ∧ s ≤ 3
  hl : 1 ≤ l ∧ l ≤ 18
  ok : Ok m b g s n l

theorem shape_small (x0 x1 x2 x3 x4 x5 : Int) (h0 : 0 ≤ x0 ∧ x0 ≤ 255) (h1 : 0 ≤ x1 ∧ x1 ≤ 255) (h2 : 0 ≤ x2 ∧ x2 ≤ 255) (h3 : 0 ≤ x3 ∧ x3 ≤ 255) (h4 : 0 ≤ x4 ∧ x4 ≤ 255) (h5 : 0 ≤ x5 ∧ x5 ≤ 255) :
    ∃ m b g s n l : Int, Small m b g s n l ∧ ∀ w, Calls Tryz.prog 41 #[.agg #[.int .u8 x0, .int .u8 x1, .int .u8 x2, .int .u8 x3, .int .u8 x4, .int .u8 x5]] w fun e w' => e = .returned (sv m b g s n l) ∧ Below w.heap.size w w' := by
  obtain ⟨m, hm⟩ : ∃ m, m = 3 + x0 % 3 := ⟨_, rfl⟩
  obtain ⟨g, hg⟩ : ∃ g, g = 4 + x2 % 3 := ⟨_, rfl⟩
  obtain ⟨s, hs⟩ : ∃ s, s = 2 + x3 % 2 := ⟨_, rfl⟩
  have bm : 3 ≤ m ∧ m ≤ 5 := by omega
  have bg : 4 ≤ g ∧ g ≤ 6 := by omega
  have bs : 2 ≤ s ∧ s ≤ 3 := by omega
  obtain ⟨X, hX⟩ : ∃ X, X = max (15 + 5 * (m - 2)) 32 := ⟨_, rfl⟩
  obtain ⟨D, hD⟩ : ∃ D, s * (m - 2) - (m - 2) + 1 = D := ⟨_, rfl⟩
  obtain ⟨L, hL⟩ : ∃ L, (g - 3) * (s - 1) * (m - 2) = L := ⟨_, rfl⟩
  have hsm : m - 2 ≤ s * (m - 2) ∧ 2 ≤ s * (m - 2) ∧ s * (m - 2) ≤ 9 := by
    rcases (show s = 2 ∨ s = 3 by omega) with e | e <;> rw [e] <;> omega
  have hgs : 1 ≤ (g - 3) * (s - 1) ∧ (g - 3) * (s - 1) ≤ 6 := by
    rcases (show s = 2 ∨ s = 3 by omega) with e | e <;> rw [e] <;> omega
  have bL : 1 ≤ L ∧ L ≤ 18 := by
    rw [← hL]
    rcases (show m = 3 ∨ m = 4 ∨ m = 5 by omega) with e | e | e <;> rw [e] <;> omega
  have bD : 1 ≤ D ∧ D ≤ 10 := by omega
  have hrD : 0 ≤ x4 % D ∧ x4 % D < D := ⟨Int.emod_nonneg _ (by omega), Int.emod_lt_of_pos _ (by omega)⟩
  have hrL : 0 ≤ x5 % L ∧ x5 % L < L := ⟨Int.emod_nonneg _ (by omega), Int.emod_lt_of_pos _ (by omega)⟩
  refine ⟨m, X + x1 % 9, g, s, m - 2 + x4 % D, 1 + x5 % L, ⟨bm, by omega, bg, bs, by omega, ⟨⟨by omega, by omega, by omega⟩, ⟨by omega, by omega, by omega⟩, ⟨by omega, by omega⟩, ⟨by omega, by rw [hL]; omega⟩⟩⟩, fun w => ?_⟩
  exact shape_any x0 x1 x2 x3 x4 x5 h0 h1 h2 h3 h4 h5 m g s X D L hm.symm hg.symm hs.symm hX (by omega) bm bg bs hD bD (by omega) hL bL hgs hrD hrL w

end Go.Proofs.YtplmdmchkaacoaaGreat
