/-
  TEXTS JOINED: Base.
-/
import Derived.Test.YtplmdmchkaacoaaGreatJ01
import Derived.WalkKit
import Derived.ProofKit
import Derived.Below
import Derived.Lib.QuietBelow
import Derived.Lib.Hide
import Derived.BigQuiet
import Derived.Deep.QuietTactic

/-
  THE CALLS OF GEOM, ONE BY ONE, at a shape whose members, segments and stripes lie within their bounds: what each returns; nothing that was there is turned.
-/
namespace Go.Proofs.YtplmdmchkaacoaaGreat
open Go.RowKit Go.Sort
set_option linter.unusedVariables false
set_option maxRecDepth 100000

/-- A shape as the model holds it. -/
abbrev sv (m b g s n l : Int) : Value := .agg #[.int .i64 m, .int .i64 b, .int .i64 g, .int .i64 s, .int .i64 n, .int .i64 l]

theorem fin {B : Nat} {w W : World} (h : Below B w W) (hB : B ≤ W.heap.size) (d : Nat) (os : Array Obj) : Below B w (grow (redrawn W d) os) := h.trans ((below_regrown W d os).mono hB)
theorem up {B : Nat} {w W : World} (h : Below B w W) (hs : w.heap.size = B) : B ≤ W.heap.size := by have := h.size; omega

theorem within_true (n a b : Int) (h1 : a ≤ n) (h2 : n ≤ b) (w : World) : Calls Tryz.prog 137 #[.int .i64 n, .int .i64 a, .int .i64 b] w fun e w' => e = .returned (.bool true) ∧ Below w.heap.size w w' := by
  go_enter Tryz.func137, Tryz.ntmps137
  go_wp2
  go_ret
  exact ⟨by simp_all, Below.refl _ _⟩
theorem within_false (n a b : Int) (h : ¬ (a ≤ n ∧ n ≤ b)) (w : World) : Calls Tryz.prog 137 #[.int .i64 n, .int .i64 a, .int .i64 b] w fun e w' => e = .returned (.bool false) ∧ Below w.heap.size w w' := by
  by_cases h1 : a ≤ n
  · have h2 : ¬ n ≤ b := fun x => h ⟨h1, x⟩
    clear h
    go_enter Tryz.func137, Tryz.ntmps137
    go_wp2
    go_ret
    exact ⟨by simp_all, Below.refl _ _⟩
  · clear h
    go_enter Tryz.func137, Tryz.ntmps137
    go_wp2
    go_ret
    exact ⟨by simp_all, Below.refl _ _⟩
theorem quot_any (a b : Int) (ha : 0 ≤ a) (hb : 0 < b) (ha2 : a ≤ 9223372036854775807) (w : World) : Calls Tryz.prog 110 #[.int .i64 a, .int .i64 b] w fun e w' => e = .returned (.int .i64 (a / b)) ∧ Below w.heap.size w w' := by
  go_enter Tryz.func110, Tryz.ntmps110
  go_wp2
  go_ret
  exact ⟨rfl, Below.refl _ _⟩
theorem rem_any (a b : Int) (ha : 0 ≤ a) (hb : 0 < b) (ha2 : a ≤ 9223372036854775807) (w : World) : Calls Tryz.prog 111 #[.int .i64 a, .int .i64 b] w fun e w' => e = .returned (.int .i64 (a % b)) ∧ Below w.heap.size w w' := by
  go_enter Tryz.func111, Tryz.ntmps111
  go_wp2
  go_ret
  exact ⟨rfl, Below.refl _ _⟩

theorem slots_any (m b g s n l : Int) (hm : 3 ≤ m ∧ m ≤ 16) (w : World) : Calls Tryz.prog 56 #[sv m b g s n l] w fun e w' => e = .returned (.int .i64 (m - 2)) ∧ Below w.heap.size w w' := by
  unfold sv
  go_enter Tryz.func56, Tryz.ntmps56
  go_wp2
  go_ret
  exact ⟨rfl, (Below.refl _ _).alloc (Nat.le_refl _) _⟩
theorem note_any (m b g s n l : Int) (hm : 3 ≤ m ∧ m ≤ 16) (w : World) : Calls Tryz.prog 138 #[sv m b g s n l] w fun e w' => e = .returned (.int .i64 (15 + 5 * (m - 2))) ∧ Below w.heap.size w w' := by
  unfold sv
  go_enter Tryz.func138, Tryz.ntmps138
  go_wp2_with fail
  refine (slots_any m b g s n l hm _).mono ?_
  rintro e w' ⟨rfl, hb'⟩
  have HB := Lib.hid (((Below.refl w.heap.size w).alloc (Nat.le_refl _) _).trans (hb'.mono (by simp)))
  clear hb'
  go_wp2_with fail
  go_ret
  exact ⟨rfl, HB.out⟩
theorem most_any (m b g s n l : Int) (hm : 3 ≤ m ∧ m ≤ 16) (hg : 4 ≤ g ∧ g ≤ 64) (hs : 2 ≤ s ∧ s ≤ 16) (w : World) : Calls Tryz.prog 139 #[sv m b g s n l] w fun e w' => e = .returned (.int .i64 ((g - 3) * (s - 1) * (m - 2))) ∧ Below w.heap.size w w' := by
  unfold sv
  have hp1 : 0 ≤ (g - 3) * (s - 1) ∧ (g - 3) * (s - 1) ≤ 1000 := ⟨Int.mul_nonneg (by omega) (by omega), Int.le_trans (Int.mul_le_mul (show g - 3 ≤ 61 by omega) (show s - 1 ≤ 15 by omega) (by omega) (by omega)) (by omega)⟩
  have hp2 : 0 ≤ (g - 3) * (s - 1) * (m - 2) ∧ (g - 3) * (s - 1) * (m - 2) ≤ 14000 := ⟨Int.mul_nonneg (by omega) (by omega), Int.le_trans (Int.mul_le_mul (show (g - 3) * (s - 1) ≤ 1000 by omega) (show m - 2 ≤ 14 by omega) (by omega) (by omega)) (by omega)⟩
  go_enter Tryz.func139, Tryz.ntmps139
  go_wp2_with fail
  have A := At.new (w := w) (g := w.heap.size) #[.int .i64 m, .int .i64 b, .int .i64 g, .int .i64 s, .int .i64 n, .int .i64 l] 27 rfl
  have B0 := Lib.hid ((Below.refl w.heap.size w).alloc (Nat.le_refl _) (.cells #[.int .i64 m, .int .i64 b, .int .i64 g, .int .i64 s, .int .i64 n, .int .i64 l] 27))
  have U := Lib.hid (up B0.out rfl)
  generalize w.alloc (.cells #[.int .i64 m, .int .i64 b, .int .i64 g, .int .i64 s, .int .i64 n, .int .i64 l] 27) = W at *
  generalize hH : w.heap.size = H at *
  have k0 := cell_regrown (w := W) (a := ⟨H, 0, none⟩) (v := .int .i64 m) (A.cell 0)
  have k1 := cell_regrown (w := W) (a := ⟨H, 1, none⟩) (v := .int .i64 b) (A.cell 1)
  have k2 := cell_regrown (w := W) (a := ⟨H, 2, none⟩) (v := .int .i64 g) (A.cell 2)
  have k3 := cell_regrown (w := W) (a := ⟨H, 3, none⟩) (v := .int .i64 s) (A.cell 3)
  have k4 := cell_regrown (w := W) (a := ⟨H, 4, none⟩) (v := .int .i64 n) (A.cell 4)
  have k5 := cell_regrown (w := W) (a := ⟨H, 5, none⟩) (v := .int .i64 l) (A.cell 5)
  clear A
  refine wp_region_quiet_below (by kernel_rfl) (by kernel_rfl) ?_
  repeat (go_big_quiet_step ((first | (exact Calls.regrown_of (slots_any m b g s n l hm _)) )))
  refine wpQuiet_nil ?_
  intro _ hw'
  obtain ⟨⟨dq, osq⟩, hw''⟩ := hw'
  subst hw''
  go_wp2
  go_ret
  exact ⟨rfl, by rw [hH]; exact fin B0.out U.out dq osq⟩
theorem all_any (m b g s n l : Int) (hg : 4 ≤ g ∧ g ≤ 64) (hs : 2 ≤ s ∧ s ≤ 16) (w : World) : Calls Tryz.prog 65 #[sv m b g s n l] w fun e w' => e = .returned (.int .i64 (g * s)) ∧ Below w.heap.size w w' := by
  unfold sv
  have hp : 0 ≤ g * s ∧ g * s ≤ 1024 := ⟨Int.mul_nonneg (by omega) (by omega), Int.le_trans (Int.mul_le_mul (show g ≤ 64 by omega) (show s ≤ 16 by omega) (by omega) (by omega)) (by omega)⟩
  go_enter Tryz.func65, Tryz.ntmps65
  go_wp2
  go_ret
  exact ⟨rfl, (Below.refl _ _).alloc (Nat.le_refl _) _⟩
theorem image_any (m b g s n l : Int) (hg : 4 ≤ g ∧ g ≤ 64) (hl : 1 ≤ l ∧ l ≤ 100000) (w : World) : Calls Tryz.prog 140 #[sv m b g s n l] w fun e w' => e = .returned (.int .i64 (12 + 9 * g + 4 * l)) ∧ Below w.heap.size w w' := by
  unfold sv
  go_enter Tryz.func140, Tryz.ntmps140
  go_wp2
  go_ret
  exact ⟨rfl, (Below.refl _ _).alloc (Nat.le_refl _) _⟩
theorem page_any (m b g s n l : Int) (hb : 32 ≤ b ∧ b ≤ 512) (w : World) : Calls Tryz.prog 141 #[sv m b g s n l] w fun e w' => e = .returned (.int .i64 (b - 15)) ∧ Below w.heap.size w w' := by
  unfold sv
  go_enter Tryz.func141, Tryz.ntmps141
  go_wp2
  go_ret
  exact ⟨rfl, (Below.refl _ _).alloc (Nat.le_refl _) _⟩
theorem pages_any (m b g s n l : Int) (hb : 32 ≤ b ∧ b ≤ 512) (hg : 4 ≤ g ∧ g ≤ 64) (hl : 1 ≤ l ∧ l ≤ 100000) (w : World) : Calls Tryz.prog 112 #[sv m b g s n l] w fun e w' => e = .returned (.int .i64 ((12 + 9 * g + 4 * l + (b - 15) - 1) / (b - 15))) ∧ Below w.heap.size w w' := by
  unfold sv
  go_enter Tryz.func112, Tryz.ntmps112
  go_wp2_with fail
  have A := At.new (w := w) (g := w.heap.size) #[.int .i64 m, .int .i64 b, .int .i64 g, .int .i64 s, .int .i64 n, .int .i64 l] 27 rfl
  have B0 := Lib.hid ((Below.refl w.heap.size w).alloc (Nat.le_refl _) (.cells #[.int .i64 m, .int .i64 b, .int .i64 g, .int .i64 s, .int .i64 n, .int .i64 l] 27))
  have U := Lib.hid (up B0.out rfl)
  generalize w.alloc (.cells #[.int .i64 m, .int .i64 b, .int .i64 g, .int .i64 s, .int .i64 n, .int .i64 l] 27) = W at *
  generalize hH : w.heap.size = H at *
  have k0 := cell_regrown (w := W) (a := ⟨H, 0, none⟩) (v := .int .i64 m) (A.cell 0)
  have k1 := cell_regrown (w := W) (a := ⟨H, 1, none⟩) (v := .int .i64 b) (A.cell 1)
  have k2 := cell_regrown (w := W) (a := ⟨H, 2, none⟩) (v := .int .i64 g) (A.cell 2)
  have k3 := cell_regrown (w := W) (a := ⟨H, 3, none⟩) (v := .int .i64 s) (A.cell 3)
  have k4 := cell_regrown (w := W) (a := ⟨H, 4, none⟩) (v := .int .i64 n) (A.cell 4)
  have k5 := cell_regrown (w := W) (a := ⟨H, 5, none⟩) (v := .int .i64 l) (A.cell 5)
  clear A
  refine wp_region_quiet_below (by kernel_rfl) (by kernel_rfl) ?_
  repeat (go_big_quiet_step ((first | (exact Calls.regrown_of (image_any m b g s n l hg hl _)) | (exact Calls.regrown_of (page_any m b g s n l hb _)) | (exact Calls.regrown_of (quot_any _ _ (by omega) (by omega) (by omega) _)) )))
  refine wpQuiet_nil ?_
  intro _ hw'
  obtain ⟨⟨dq, osq⟩, hw''⟩ := hw'
  subst hw''
  go_wp2
  go_ret
  exact ⟨rfl, by rw [hH]; exact fin B0.out U.out dq osq⟩

/-- How many sectors a checkpoint has. -/
def pgs (b g l : Int) : Int := (12 + 9 * g + 4 * l + (b - 15) - 1) / (b - 15)
theorem pgs_bounds (b g l : Int) (hb : 32 ≤ b ∧ b ≤ 512) (hg : 4 ≤ g ∧ g ≤ 64) (hl : 1 ≤ l ∧ l ≤ 100000) : 0 < pgs b g l ∧ pgs b g l ≤ 500000 := by
  unfold pgs
  refine ⟨(Int.le_ediv_iff_mul_le (by omega)).2 (by omega), ?_⟩
  refine Int.le_trans (Int.ediv_le_self _ (by omega)) (by omega)
theorem pages_P (m b g s n l P : Int) (hP : pgs b g l = P) (hb : 32 ≤ b ∧ b ≤ 512) (hg : 4 ≤ g ∧ g ≤ 64) (hl : 1 ≤ l ∧ l ≤ 100000) (w : World) : Calls Tryz.prog 112 #[sv m b g s n l] w fun e w' => e = .returned (.int .i64 P) ∧ Below w.heap.size w w' := by
  subst hP
  exact pages_any m b g s n l hb hg hl w

theorem stripeAt_any (m b g s n l : Int) (P : Int) (hP : Hid (pgs b g l = P)) (h0 : 0 < P ∧ P ≤ 500000) (t : Int) (ht : 0 ≤ t ∧ t ≤ 1000000) (hb : 32 ≤ b ∧ b ≤ 512) (hg : 4 ≤ g ∧ g ≤ 64) (hl : 1 ≤ l ∧ l ≤ 100000) (w : World) : Calls Tryz.prog 68 #[sv m b g s n l, .int .i64 t] w fun e w' => e = .returned (.int .i64 (1 + 2 * P + t)) ∧ Below w.heap.size w w' := by
  unfold sv
  go_enter Tryz.func68, Tryz.ntmps68
  go_wp2_with fail
  refine (pages_P m b g s n l P hP.out hb hg hl _).mono ?_
  rintro e w' ⟨rfl, hb'⟩
  have HB := Lib.hid (((Below.refl w.heap.size w).alloc (Nat.le_refl _) _).trans (hb'.mono (by simp)))
  clear hb'
  go_wp2_with fail
  go_ret
  exact ⟨rfl, HB.out⟩
theorem sectors_any (m b g s n l : Int) (P : Int) (hP : Hid (pgs b g l = P)) (h0 : 0 < P ∧ P ≤ 500000) (hb : 32 ≤ b ∧ b ≤ 512) (hg : 4 ≤ g ∧ g ≤ 64) (hs : 2 ≤ s ∧ s ≤ 16) (hl : 1 ≤ l ∧ l ≤ 100000) (w : World) : Calls Tryz.prog 101 #[sv m b g s n l] w fun e w' => e = .returned (.int .i64 (1 + 2 * P + g * s)) ∧ Below w.heap.size w w' := by
  unfold sv
  have hgs : 0 ≤ g * s ∧ g * s ≤ 1024 := ⟨Int.mul_nonneg (by omega) (by omega), Int.le_trans (Int.mul_le_mul (show g ≤ 64 by omega) (show s ≤ 16 by omega) (by omega) (by omega)) (by omega)⟩
  go_enter Tryz.func101, Tryz.ntmps101
  go_wp2_with fail
  have A := At.new (w := w) (g := w.heap.size) #[.int .i64 m, .int .i64 b, .int .i64 g, .int .i64 s, .int .i64 n, .int .i64 l] 27 rfl
  have B0 := Lib.hid ((Below.refl w.heap.size w).alloc (Nat.le_refl _) (.cells #[.int .i64 m, .int .i64 b, .int .i64 g, .int .i64 s, .int .i64 n, .int .i64 l] 27))
  have U := Lib.hid (up B0.out rfl)
  generalize w.alloc (.cells #[.int .i64 m, .int .i64 b, .int .i64 g, .int .i64 s, .int .i64 n, .int .i64 l] 27) = W at *
  generalize hH : w.heap.size = H at *
  have k0 := cell_regrown (w := W) (a := ⟨H, 0, none⟩) (v := .int .i64 m) (A.cell 0)
  have k1 := cell_regrown (w := W) (a := ⟨H, 1, none⟩) (v := .int .i64 b) (A.cell 1)
  have k2 := cell_regrown (w := W) (a := ⟨H, 2, none⟩) (v := .int .i64 g) (A.cell 2)
  have k3 := cell_regrown (w := W) (a := ⟨H, 3, none⟩) (v := .int .i64 s) (A.cell 3)
  have k4 := cell_regrown (w := W) (a := ⟨H, 4, none⟩) (v := .int .i64 n) (A.cell 4)
  have k5 := cell_regrown (w := W) (a := ⟨H, 5, none⟩) (v := .int .i64 l) (A.cell 5)
  clear A
  refine wp_region_quiet_below (by kernel_rfl) (by kernel_rfl) ?_
  repeat (go_big_quiet_step ((first | (exact Calls.regrown_of (all_any m b g s n l hg hs _)) | (exact Calls.regrown_of (stripeAt_any m b g s n l P hP h0 (g * s) (by omega) hb hg hl _)) )))
  refine wpQuiet_nil ?_
  intro _ hw'
  obtain ⟨⟨dq, osq⟩, hw''⟩ := hw'
  subst hw''
  go_wp2
  go_ret
  exact ⟨rfl, by rw [hH]; exact fin B0.out U.out dq osq⟩
theorem parity_any (m b g s n l : Int) (t : Int) (ht : 0 ≤ t ∧ t ≤ 1000000) (hm : 3 ≤ m ∧ m ≤ 16) (w : World) : Calls Tryz.prog 126 #[sv m b g s n l, .int .i64 t] w fun e w' => e = .returned (.int .i64 (t % m)) ∧ Below w.heap.size w w' := by
  unfold sv
  go_enter Tryz.func126, Tryz.ntmps126
  go_wp2_with fail
  refine (rem_any _ _ (by omega) (by omega) (by omega) _).mono ?_
  rintro e w' ⟨rfl, hb'⟩
  have HB := Lib.hid (((Below.refl w.heap.size w).alloc (Nat.le_refl _) _).trans (hb'.mono (by simp)))
  clear hb'
  go_wp2_with fail
  go_ret
  exact ⟨rfl, HB.out⟩
theorem member_any (m b g s n l : Int) (t : Int) (ht : 0 ≤ t ∧ t ≤ 1000000) (k : Int) (hk : 0 ≤ k ∧ k ≤ 1000000) (hm : 3 ≤ m ∧ m ≤ 16) (w : World) : Calls Tryz.prog 67 #[sv m b g s n l, .int .i64 t, .int .i64 k] w fun e w' => e = .returned (.int .i64 ((t + 1 + k) % m)) ∧ Below w.heap.size w w' := by
  unfold sv
  go_enter Tryz.func67, Tryz.ntmps67
  go_wp2_with fail
  refine (rem_any _ _ (by omega) (by omega) (by omega) _).mono ?_
  rintro e w' ⟨rfl, hb'⟩
  have HB := Lib.hid (((Below.refl w.heap.size w).alloc (Nat.le_refl _) _).trans (hb'.mono (by simp)))
  clear hb'
  go_wp2_with fail
  go_ret
  exact ⟨rfl, HB.out⟩
end Go.Proofs.YtplmdmchkaacoaaGreat
