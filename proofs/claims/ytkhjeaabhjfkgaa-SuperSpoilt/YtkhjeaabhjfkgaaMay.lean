/-
  MAY: what the law's own definition returns, whatever the numbers.
-/
import Derived.Test.YtkhjeaabhjfkgaaCheck
namespace Go.Proofs.Ytkhjeaabhjfkgaa
open Go.RowKit Go.Sort
set_option linter.unusedVariables false
set_option maxRecDepth 100000

theorem may_1 (m b g s n l : Int) (hbad : m < 3) (w : World) : Calls Try.prog 27 #[sv m b g s n l] w fun e w' => e = .returned (.bool false) ∧ Below w.heap.size w w' := by
  unfold sv
  have e0 : decide (m < 3) = true := decide_eq_true hbad
  go_enter Try.func27, Try.ntmps27
  go_wp2
  go_ret
  exact ⟨rfl, (Below.refl _ _).alloc (Nat.le_refl _) _⟩
theorem may_2 (m b g s n l : Int) (h0 : 3 ≤ m) (hbad : 16 < m) (w : World) : Calls Try.prog 27 #[sv m b g s n l] w fun e w' => e = .returned (.bool false) ∧ Below w.heap.size w w' := by
  unfold sv
  have d0 : decide (m < 3) = false := decide_eq_false (by omega)
  have e1 : decide (16 < m) = true := decide_eq_true hbad
  go_enter Try.func27, Try.ntmps27
  go_wp2
  go_ret
  exact ⟨rfl, (Below.refl _ _).alloc (Nat.le_refl _) _⟩
theorem may_3 (m b g s n l : Int) (h0 : 3 ≤ m) (h1 : m ≤ 16) (hbad : g < 4) (w : World) : Calls Try.prog 27 #[sv m b g s n l] w fun e w' => e = .returned (.bool false) ∧ Below w.heap.size w w' := by
  unfold sv
  have d0 : decide (m < 3) = false := decide_eq_false (by omega)
  have d1 : decide (16 < m) = false := decide_eq_false (by omega)
  have e2 : decide (g < 4) = true := decide_eq_true hbad
  go_enter Try.func27, Try.ntmps27
  go_wp2
  go_ret
  exact ⟨rfl, (Below.refl _ _).alloc (Nat.le_refl _) _⟩
theorem may_4 (m b g s n l : Int) (h0 : 3 ≤ m) (h1 : m ≤ 16) (h2 : 4 ≤ g) (hbad : 64 < g) (w : World) : Calls Try.prog 27 #[sv m b g s n l] w fun e w' => e = .returned (.bool false) ∧ Below w.heap.size w w' := by
  unfold sv
  have d0 : decide (m < 3) = false := decide_eq_false (by omega)
  have d1 : decide (16 < m) = false := decide_eq_false (by omega)
  have d2 : decide (g < 4) = false := decide_eq_false (by omega)
  have e3 : decide (64 < g) = true := decide_eq_true hbad
  go_enter Try.func27, Try.ntmps27
  go_wp2
  go_ret
  exact ⟨rfl, (Below.refl _ _).alloc (Nat.le_refl _) _⟩
theorem may_5 (m b g s n l : Int) (h0 : 3 ≤ m) (h1 : m ≤ 16) (h2 : 4 ≤ g) (h3 : g ≤ 64) (hbad : s < 2) (w : World) : Calls Try.prog 27 #[sv m b g s n l] w fun e w' => e = .returned (.bool false) ∧ Below w.heap.size w w' := by
  unfold sv
  have d0 : decide (m < 3) = false := decide_eq_false (by omega)
  have d1 : decide (16 < m) = false := decide_eq_false (by omega)
  have d2 : decide (g < 4) = false := decide_eq_false (by omega)
  have d3 : decide (64 < g) = false := decide_eq_false (by omega)
  have e4 : decide (s < 2) = true := decide_eq_true hbad
  go_enter Try.func27, Try.ntmps27
  go_wp2
  go_ret
  exact ⟨rfl, (Below.refl _ _).alloc (Nat.le_refl _) _⟩
theorem may_6 (m b g s n l : Int) (h0 : 3 ≤ m) (h1 : m ≤ 16) (h2 : 4 ≤ g) (h3 : g ≤ 64) (h4 : 2 ≤ s) (hbad : 16 < s) (w : World) : Calls Try.prog 27 #[sv m b g s n l] w fun e w' => e = .returned (.bool false) ∧ Below w.heap.size w w' := by
  unfold sv
  have d0 : decide (m < 3) = false := decide_eq_false (by omega)
  have d1 : decide (16 < m) = false := decide_eq_false (by omega)
  have d2 : decide (g < 4) = false := decide_eq_false (by omega)
  have d3 : decide (64 < g) = false := decide_eq_false (by omega)
  have d4 : decide (s < 2) = false := decide_eq_false (by omega)
  have e5 : decide (16 < s) = true := decide_eq_true hbad
  go_enter Try.func27, Try.ntmps27
  go_wp2
  go_ret
  exact ⟨rfl, (Below.refl _ _).alloc (Nat.le_refl _) _⟩
theorem mayb_1 (m b g s n l : Int) (h0 : 3 ≤ m) (h1 : m ≤ 16) (h2 : 4 ≤ g) (h3 : g ≤ 64) (h4 : 2 ≤ s) (h5 : s ≤ 16) (hbad : ¬ (32 ≤ b)) (w : World) : Calls Try.prog 27 #[sv m b g s n l] w fun e w' => e = .returned (.bool false) ∧ Below w.heap.size w w' := by
  unfold sv
  have d0 : decide (m < 3) = false := decide_eq_false (by omega)
  have d1 : decide (16 < m) = false := decide_eq_false (by omega)
  have d2 : decide (g < 4) = false := decide_eq_false (by omega)
  have d3 : decide (64 < g) = false := decide_eq_false (by omega)
  have d4 : decide (s < 2) = false := decide_eq_false (by omega)
  have d5 : decide (16 < s) = false := decide_eq_false (by omega)
  have hsm := three_s (m := m) (g := g) (s := s) ⟨⟨h0, h1⟩, ⟨h2, h3⟩, ⟨h4, h5⟩⟩
  have hgg := three_g (m := m) (g := g) (s := s) ⟨⟨h0, h1⟩, ⟨h2, h3⟩, ⟨h4, h5⟩⟩
  have hll := three_l (m := m) (g := g) (s := s) ⟨⟨h0, h1⟩, ⟨h2, h3⟩, ⟨h4, h5⟩⟩
  rw [Int.mul_comm s (m - 2)] at hsm
  have q0 : decide (32 ≤ b) = false := decide_eq_false hbad
  clear hbad
  go_enter Try.func27, Try.ntmps27
  go_wp2
  go_ret
  exact ⟨rfl, (Below.refl _ _).alloc (Nat.le_refl _) _⟩
theorem mayb_2 (m b g s n l : Int) (h0 : 3 ≤ m) (h1 : m ≤ 16) (h2 : 4 ≤ g) (h3 : g ≤ 64) (h4 : 2 ≤ s) (h5 : s ≤ 16) (t0 : 32 ≤ b) (hbad : ¬ (15 + 5 * (m - 2) ≤ b)) (w : World) : Calls Try.prog 27 #[sv m b g s n l] w fun e w' => e = .returned (.bool false) ∧ Below w.heap.size w w' := by
  unfold sv
  have d0 : decide (m < 3) = false := decide_eq_false (by omega)
  have d1 : decide (16 < m) = false := decide_eq_false (by omega)
  have d2 : decide (g < 4) = false := decide_eq_false (by omega)
  have d3 : decide (64 < g) = false := decide_eq_false (by omega)
  have d4 : decide (s < 2) = false := decide_eq_false (by omega)
  have d5 : decide (16 < s) = false := decide_eq_false (by omega)
  have hsm := three_s (m := m) (g := g) (s := s) ⟨⟨h0, h1⟩, ⟨h2, h3⟩, ⟨h4, h5⟩⟩
  have hgg := three_g (m := m) (g := g) (s := s) ⟨⟨h0, h1⟩, ⟨h2, h3⟩, ⟨h4, h5⟩⟩
  have hll := three_l (m := m) (g := g) (s := s) ⟨⟨h0, h1⟩, ⟨h2, h3⟩, ⟨h4, h5⟩⟩
  rw [Int.mul_comm s (m - 2)] at hsm
  have q0 : decide (32 ≤ b) = true := decide_eq_true t0
  have q1 : decide (15 + 5 * (m - 2) ≤ b) = false := decide_eq_false hbad
  clear hbad
  go_enter Try.func27, Try.ntmps27
  go_wp2
  go_ret
  exact ⟨rfl, (Below.refl _ _).alloc (Nat.le_refl _) _⟩
theorem mayb_3 (m b g s n l : Int) (h0 : 3 ≤ m) (h1 : m ≤ 16) (h2 : 4 ≤ g) (h3 : g ≤ 64) (h4 : 2 ≤ s) (h5 : s ≤ 16) (t0 : 32 ≤ b) (t1 : 15 + 5 * (m - 2) ≤ b) (hbad : ¬ (b ≤ 512)) (w : World) : Calls Try.prog 27 #[sv m b g s n l] w fun e w' => e = .returned (.bool false) ∧ Below w.heap.size w w' := by
  unfold sv
  have d0 : decide (m < 3) = false := decide_eq_false (by omega)
  have d1 : decide (16 < m) = false := decide_eq_false (by omega)
  have d2 : decide (g < 4) = false := decide_eq_false (by omega)
  have d3 : decide (64 < g) = false := decide_eq_false (by omega)
  have d4 : decide (s < 2) = false := decide_eq_false (by omega)
  have d5 : decide (16 < s) = false := decide_eq_false (by omega)
  have hsm := three_s (m := m) (g := g) (s := s) ⟨⟨h0, h1⟩, ⟨h2, h3⟩, ⟨h4, h5⟩⟩
  have hgg := three_g (m := m) (g := g) (s := s) ⟨⟨h0, h1⟩, ⟨h2, h3⟩, ⟨h4, h5⟩⟩
  have hll := three_l (m := m) (g := g) (s := s) ⟨⟨h0, h1⟩, ⟨h2, h3⟩, ⟨h4, h5⟩⟩
  rw [Int.mul_comm s (m - 2)] at hsm
  have q0 : decide (32 ≤ b) = true := decide_eq_true t0
  have q1 : decide (15 + 5 * (m - 2) ≤ b) = true := decide_eq_true t1
  have q2 : decide (b ≤ 512) = false := decide_eq_false hbad
  clear hbad
  go_enter Try.func27, Try.ntmps27
  go_wp2
  go_ret
  exact ⟨rfl, (Below.refl _ _).alloc (Nat.le_refl _) _⟩
theorem mayb_4 (m b g s n l : Int) (h0 : 3 ≤ m) (h1 : m ≤ 16) (h2 : 4 ≤ g) (h3 : g ≤ 64) (h4 : 2 ≤ s) (h5 : s ≤ 16) (t0 : 32 ≤ b) (t1 : 15 + 5 * (m - 2) ≤ b) (t2 : b ≤ 512) (hbad : ¬ (m - 2 ≤ n)) (w : World) : Calls Try.prog 27 #[sv m b g s n l] w fun e w' => e = .returned (.bool false) ∧ Below w.heap.size w w' := by
  unfold sv
  have d0 : decide (m < 3) = false := decide_eq_false (by omega)
  have d1 : decide (16 < m) = false := decide_eq_false (by omega)
  have d2 : decide (g < 4) = false := decide_eq_false (by omega)
  have d3 : decide (64 < g) = false := decide_eq_false (by omega)
  have d4 : decide (s < 2) = false := decide_eq_false (by omega)
  have d5 : decide (16 < s) = false := decide_eq_false (by omega)
  have hsm := three_s (m := m) (g := g) (s := s) ⟨⟨h0, h1⟩, ⟨h2, h3⟩, ⟨h4, h5⟩⟩
  have hgg := three_g (m := m) (g := g) (s := s) ⟨⟨h0, h1⟩, ⟨h2, h3⟩, ⟨h4, h5⟩⟩
  have hll := three_l (m := m) (g := g) (s := s) ⟨⟨h0, h1⟩, ⟨h2, h3⟩, ⟨h4, h5⟩⟩
  rw [Int.mul_comm s (m - 2)] at hsm
  have q0 : decide (32 ≤ b) = true := decide_eq_true t0
  have q1 : decide (15 + 5 * (m - 2) ≤ b) = true := decide_eq_true t1
  have q2 : decide (b ≤ 512) = true := decide_eq_true t2
  have q3 : decide (m - 2 ≤ n) = false := decide_eq_false hbad
  clear hbad
  go_enter Try.func27, Try.ntmps27
  go_wp2
  go_ret
  exact ⟨rfl, (Below.refl _ _).alloc (Nat.le_refl _) _⟩
theorem mayb_5 (m b g s n l : Int) (h0 : 3 ≤ m) (h1 : m ≤ 16) (h2 : 4 ≤ g) (h3 : g ≤ 64) (h4 : 2 ≤ s) (h5 : s ≤ 16) (t0 : 32 ≤ b) (t1 : 15 + 5 * (m - 2) ≤ b) (t2 : b ≤ 512) (t3 : m - 2 ≤ n) (hbad : ¬ (n ≤ (m - 2) * s)) (w : World) : Calls Try.prog 27 #[sv m b g s n l] w fun e w' => e = .returned (.bool false) ∧ Below w.heap.size w w' := by
  unfold sv
  have d0 : decide (m < 3) = false := decide_eq_false (by omega)
  have d1 : decide (16 < m) = false := decide_eq_false (by omega)
  have d2 : decide (g < 4) = false := decide_eq_false (by omega)
  have d3 : decide (64 < g) = false := decide_eq_false (by omega)
  have d4 : decide (s < 2) = false := decide_eq_false (by omega)
  have d5 : decide (16 < s) = false := decide_eq_false (by omega)
  have hsm := three_s (m := m) (g := g) (s := s) ⟨⟨h0, h1⟩, ⟨h2, h3⟩, ⟨h4, h5⟩⟩
  have hgg := three_g (m := m) (g := g) (s := s) ⟨⟨h0, h1⟩, ⟨h2, h3⟩, ⟨h4, h5⟩⟩
  have hll := three_l (m := m) (g := g) (s := s) ⟨⟨h0, h1⟩, ⟨h2, h3⟩, ⟨h4, h5⟩⟩
  rw [Int.mul_comm s (m - 2)] at hsm
  have q0 : decide (32 ≤ b) = true := decide_eq_true t0
  have q1 : decide (15 + 5 * (m - 2) ≤ b) = true := decide_eq_true t1
  have q2 : decide (b ≤ 512) = true := decide_eq_true t2
  have q3 : decide (m - 2 ≤ n) = true := decide_eq_true t3
  have q4 : decide (n ≤ (m - 2) * s) = false := decide_eq_false hbad
  clear hbad
  go_enter Try.func27, Try.ntmps27
  go_wp2
  go_ret
  exact ⟨rfl, (Below.refl _ _).alloc (Nat.le_refl _) _⟩
theorem mayb_6 (m b g s n l : Int) (h0 : 3 ≤ m) (h1 : m ≤ 16) (h2 : 4 ≤ g) (h3 : g ≤ 64) (h4 : 2 ≤ s) (h5 : s ≤ 16) (t0 : 32 ≤ b) (t1 : 15 + 5 * (m - 2) ≤ b) (t2 : b ≤ 512) (t3 : m - 2 ≤ n) (t4 : n ≤ (m - 2) * s) (hbad : ¬ (n ≤ 256)) (w : World) : Calls Try.prog 27 #[sv m b g s n l] w fun e w' => e = .returned (.bool false) ∧ Below w.heap.size w w' := by
  unfold sv
  have d0 : decide (m < 3) = false := decide_eq_false (by omega)
  have d1 : decide (16 < m) = false := decide_eq_false (by omega)
  have d2 : decide (g < 4) = false := decide_eq_false (by omega)
  have d3 : decide (64 < g) = false := decide_eq_false (by omega)
  have d4 : decide (s < 2) = false := decide_eq_false (by omega)
  have d5 : decide (16 < s) = false := decide_eq_false (by omega)
  have hsm := three_s (m := m) (g := g) (s := s) ⟨⟨h0, h1⟩, ⟨h2, h3⟩, ⟨h4, h5⟩⟩
  have hgg := three_g (m := m) (g := g) (s := s) ⟨⟨h0, h1⟩, ⟨h2, h3⟩, ⟨h4, h5⟩⟩
  have hll := three_l (m := m) (g := g) (s := s) ⟨⟨h0, h1⟩, ⟨h2, h3⟩, ⟨h4, h5⟩⟩
  rw [Int.mul_comm s (m - 2)] at hsm
  have q0 : decide (32 ≤ b) = true := decide_eq_true t0
  have q1 : decide (15 + 5 * (m - 2) ≤ b) = true := decide_eq_true t1
  have q2 : decide (b ≤ 512) = true := decide_eq_true t2
  have q3 : decide (m - 2 ≤ n) = true := decide_eq_true t3
  have q4 : decide (n ≤ (m - 2) * s) = true := decide_eq_true t4
  have q5 : decide (n ≤ 256) = false := decide_eq_false hbad
  clear hbad
  go_enter Try.func27, Try.ntmps27
  go_wp2
  go_ret
  exact ⟨rfl, (Below.refl _ _).alloc (Nat.le_refl _) _⟩
theorem mayb_7 (m b g s n l : Int) (h0 : 3 ≤ m) (h1 : m ≤ 16) (h2 : 4 ≤ g) (h3 : g ≤ 64) (h4 : 2 ≤ s) (h5 : s ≤ 16) (t0 : 32 ≤ b) (t1 : 15 + 5 * (m - 2) ≤ b) (t2 : b ≤ 512) (t3 : m - 2 ≤ n) (t4 : n ≤ (m - 2) * s) (t5 : n ≤ 256) (hbad : ¬ (1 ≤ l)) (w : World) : Calls Try.prog 27 #[sv m b g s n l] w fun e w' => e = .returned (.bool false) ∧ Below w.heap.size w w' := by
  unfold sv
  have d0 : decide (m < 3) = false := decide_eq_false (by omega)
  have d1 : decide (16 < m) = false := decide_eq_false (by omega)
  have d2 : decide (g < 4) = false := decide_eq_false (by omega)
  have d3 : decide (64 < g) = false := decide_eq_false (by omega)
  have d4 : decide (s < 2) = false := decide_eq_false (by omega)
  have d5 : decide (16 < s) = false := decide_eq_false (by omega)
  have hsm := three_s (m := m) (g := g) (s := s) ⟨⟨h0, h1⟩, ⟨h2, h3⟩, ⟨h4, h5⟩⟩
  have hgg := three_g (m := m) (g := g) (s := s) ⟨⟨h0, h1⟩, ⟨h2, h3⟩, ⟨h4, h5⟩⟩
  have hll := three_l (m := m) (g := g) (s := s) ⟨⟨h0, h1⟩, ⟨h2, h3⟩, ⟨h4, h5⟩⟩
  rw [Int.mul_comm s (m - 2)] at hsm
  have q0 : decide (32 ≤ b) = true := decide_eq_true t0
  have q1 : decide (15 + 5 * (m - 2) ≤ b) = true := decide_eq_true t1
  have q2 : decide (b ≤ 512) = true := decide_eq_true t2
  have q3 : decide (m - 2 ≤ n) = true := decide_eq_true t3
  have q4 : decide (n ≤ (m - 2) * s) = true := decide_eq_true t4
  have q5 : decide (n ≤ 256) = true := decide_eq_true t5
  have q6 : decide (1 ≤ l) = false := decide_eq_false hbad
  clear hbad
  go_enter Try.func27, Try.ntmps27
  go_wp2
  go_ret
  exact ⟨rfl, (Below.refl _ _).alloc (Nat.le_refl _) _⟩
theorem mayb_8 (m b g s n l : Int) (h0 : 3 ≤ m) (h1 : m ≤ 16) (h2 : 4 ≤ g) (h3 : g ≤ 64) (h4 : 2 ≤ s) (h5 : s ≤ 16) (t0 : 32 ≤ b) (t1 : 15 + 5 * (m - 2) ≤ b) (t2 : b ≤ 512) (t3 : m - 2 ≤ n) (t4 : n ≤ (m - 2) * s) (t5 : n ≤ 256) (t6 : 1 ≤ l) (hbad : ¬ (l ≤ (g - 3) * (s - 1) * (m - 2))) (w : World) : Calls Try.prog 27 #[sv m b g s n l] w fun e w' => e = .returned (.bool false) ∧ Below w.heap.size w w' := by
  unfold sv
  have d0 : decide (m < 3) = false := decide_eq_false (by omega)
  have d1 : decide (16 < m) = false := decide_eq_false (by omega)
  have d2 : decide (g < 4) = false := decide_eq_false (by omega)
  have d3 : decide (64 < g) = false := decide_eq_false (by omega)
  have d4 : decide (s < 2) = false := decide_eq_false (by omega)
  have d5 : decide (16 < s) = false := decide_eq_false (by omega)
  have hsm := three_s (m := m) (g := g) (s := s) ⟨⟨h0, h1⟩, ⟨h2, h3⟩, ⟨h4, h5⟩⟩
  have hgg := three_g (m := m) (g := g) (s := s) ⟨⟨h0, h1⟩, ⟨h2, h3⟩, ⟨h4, h5⟩⟩
  have hll := three_l (m := m) (g := g) (s := s) ⟨⟨h0, h1⟩, ⟨h2, h3⟩, ⟨h4, h5⟩⟩
  rw [Int.mul_comm s (m - 2)] at hsm
  have q0 : decide (32 ≤ b) = true := decide_eq_true t0
  have q1 : decide (15 + 5 * (m - 2) ≤ b) = true := decide_eq_true t1
  have q2 : decide (b ≤ 512) = true := decide_eq_true t2
  have q3 : decide (m - 2 ≤ n) = true := decide_eq_true t3
  have q4 : decide (n ≤ (m - 2) * s) = true := decide_eq_true t4
  have q5 : decide (n ≤ 256) = true := decide_eq_true t5
  have q6 : decide (1 ≤ l) = true := decide_eq_true t6
  have q7 : decide (l ≤ (g - 3) * (s - 1) * (m - 2)) = false := decide_eq_false hbad
  clear hbad
  go_enter Try.func27, Try.ntmps27
  go_wp2
  go_ret
  exact ⟨rfl, (Below.refl _ _).alloc (Nat.le_refl _) _⟩
theorem mayb_9 (m b g s n l : Int) (h0 : 3 ≤ m) (h1 : m ≤ 16) (h2 : 4 ≤ g) (h3 : g ≤ 64) (h4 : 2 ≤ s) (h5 : s ≤ 16) (t0 : 32 ≤ b) (t1 : 15 + 5 * (m - 2) ≤ b) (t2 : b ≤ 512) (t3 : m - 2 ≤ n) (t4 : n ≤ (m - 2) * s) (t5 : n ≤ 256) (t6 : 1 ≤ l) (t7 : l ≤ (g - 3) * (s - 1) * (m - 2)) (w : World) : Calls Try.prog 27 #[sv m b g s n l] w fun e w' => e = .returned (.bool true) ∧ Below w.heap.size w w' := by
  unfold sv
  have d0 : decide (m < 3) = false := decide_eq_false (by omega)
  have d1 : decide (16 < m) = false := decide_eq_false (by omega)
  have d2 : decide (g < 4) = false := decide_eq_false (by omega)
  have d3 : decide (64 < g) = false := decide_eq_false (by omega)
  have d4 : decide (s < 2) = false := decide_eq_false (by omega)
  have d5 : decide (16 < s) = false := decide_eq_false (by omega)
  have hsm := three_s (m := m) (g := g) (s := s) ⟨⟨h0, h1⟩, ⟨h2, h3⟩, ⟨h4, h5⟩⟩
  have hgg := three_g (m := m) (g := g) (s := s) ⟨⟨h0, h1⟩, ⟨h2, h3⟩, ⟨h4, h5⟩⟩
  have hll := three_l (m := m) (g := g) (s := s) ⟨⟨h0, h1⟩, ⟨h2, h3⟩, ⟨h4, h5⟩⟩
  rw [Int.mul_comm s (m - 2)] at hsm
  have q0 : decide (32 ≤ b) = true := decide_eq_true t0
  have q1 : decide (15 + 5 * (m - 2) ≤ b) = true := decide_eq_true t1
  have q2 : decide (b ≤ 512) = true := decide_eq_true t2
  have q3 : decide (m - 2 ≤ n) = true := decide_eq_true t3
  have q4 : decide (n ≤ (m - 2) * s) = true := decide_eq_true t4
  have q5 : decide (n ≤ 256) = true := decide_eq_true t5
  have q6 : decide (1 ≤ l) = true := decide_eq_true t6
  have q7 : decide (l ≤ (g - 3) * (s - 1) * (m - 2)) = true := decide_eq_true t7
  go_enter Try.func27, Try.ntmps27
  go_wp2
  go_ret
  exact ⟨rfl, (Below.refl _ _).alloc (Nat.le_refl _) _⟩

theorem may_ok (m b g s n l : Int) (h : Ok m b g s n l) (w : World) : Calls Try.prog 27 #[sv m b g s n l] w fun e w' => e = .returned (.bool true) ∧ Below w.heap.size w w' := by
  have hsm := three_s h.1
  obtain ⟨⟨⟨h0, h1⟩, ⟨h2, h3⟩, ⟨h4, h5⟩⟩, ⟨t0, t1, t2⟩, ⟨t3, t4⟩, ⟨t6, t7⟩⟩ := h
  exact mayb_9 m b g s n l h0 h1 h2 h3 h4 h5 t0 t1 t2 t3 (by rw [Int.mul_comm]; exact t4) (by omega) t6 t7 w
theorem may_bad (m b g s n l : Int) (h : ¬ Ok m b g s n l) (w : World) : Calls Try.prog 27 #[sv m b g s n l] w fun e w' => e = .returned (.bool false) ∧ Below w.heap.size w w' := by
  by_cases h0 : 3 ≤ m
  · by_cases h1 : m ≤ 16
    · by_cases h2 : 4 ≤ g
      · by_cases h3 : g ≤ 64
        · by_cases h4 : 2 ≤ s
          · by_cases h5 : s ≤ 16
            · by_cases t0 : 32 ≤ b
              · by_cases t1 : 15 + 5 * (m - 2) ≤ b
                · by_cases t2 : b ≤ 512
                  · by_cases t3 : m - 2 ≤ n
                    · by_cases t4 : n ≤ (m - 2) * s
                      · by_cases t5 : n ≤ 256
                        · by_cases t6 : 1 ≤ l
                          · by_cases t7 : l ≤ (g - 3) * (s - 1) * (m - 2)
                            · exact absurd ⟨⟨⟨h0, h1⟩, ⟨h2, h3⟩, ⟨h4, h5⟩⟩, ⟨t0, t1, t2⟩, ⟨t3, by rw [Int.mul_comm]; exact t4⟩, ⟨t6, t7⟩⟩ h
                            · exact mayb_8 m b g s n l h0 h1 h2 h3 h4 h5 t0 t1 t2 t3 t4 t5 t6 t7 w
                          · exact mayb_7 m b g s n l h0 h1 h2 h3 h4 h5 t0 t1 t2 t3 t4 t5 t6 w
                        · exact mayb_6 m b g s n l h0 h1 h2 h3 h4 h5 t0 t1 t2 t3 t4 t5 w
                      · exact mayb_5 m b g s n l h0 h1 h2 h3 h4 h5 t0 t1 t2 t3 t4 w
                    · exact mayb_4 m b g s n l h0 h1 h2 h3 h4 h5 t0 t1 t2 t3 w
                  · exact mayb_3 m b g s n l h0 h1 h2 h3 h4 h5 t0 t1 t2 w
                · exact mayb_2 m b g s n l h0 h1 h2 h3 h4 h5 t0 t1 w
              · exact mayb_1 m b g s n l h0 h1 h2 h3 h4 h5 t0 w
            · exact may_6 m b g s n l h0 h1 h2 h3 h4 (by omega) w
          · exact may_5 m b g s n l h0 h1 h2 h3 (by omega) w
        · exact may_4 m b g s n l h0 h1 h2 (by omega) w
      · exact may_3 m b g s n l h0 h1 (by omega) w
    · exact may_2 m b g s n l h0 (by omega) w
  · exact may_1 m b g s n l (by omega) w

end Go.Proofs.Ytkhjeaabhjfkgaa
