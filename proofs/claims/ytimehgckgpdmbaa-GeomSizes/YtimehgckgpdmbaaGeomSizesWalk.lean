/-
  THE WALK OF GeomSizes: any small shape, any stripe, any page.
-/
import Derived.Test.YtimehgckgpdmbaaGeomSpareWalk
import Derived.Test.YtimehgckgpdmbaaIn
import Derived.Test.YtimehgckgpdmbaaLex
import Derived.Deep.CutRange
import Derived.Deep.CutBlock
import Derived.Deep.DeepCutAuto
namespace Go.Proofs.Ytimehgckgpdmbaa
open Go.RowKit Go.Sort
set_option linter.unusedVariables false
set_option maxRecDepth 100000

theorem pageAt_0 (m b g s n l P : Int) (hP : Hid (pgs b g l = P)) (h0 : 0 < P ∧ P ≤ 500000) (i : Int) (hi : 0 ≤ i ∧ i ≤ 1000000) (hb : 32 ≤ b ∧ b ≤ 512) (hg : 4 ≤ g ∧ g ≤ 64) (hl : 1 ≤ l ∧ l ≤ 100000) (w : World) :
    Calls Try.prog 22 #[sv m b g s n l, .int .i64 0, .int .i64 i] w fun e w' => e = .returned (.int .i64 (1 + i)) ∧ Below w.heap.size w w' := by
  have := pageAt_any m b g s n l P hP h0 0 i (by omega) hi hb hg hl w
  rw [Int.zero_mul, Int.add_zero] at this
  exact this
theorem pageAt_1 (m b g s n l P : Int) (hP : Hid (pgs b g l = P)) (h0 : 0 < P ∧ P ≤ 500000) (i : Int) (hi : 0 ≤ i ∧ i ≤ 1000000) (hb : 32 ≤ b ∧ b ≤ 512) (hg : 4 ≤ g ∧ g ≤ 64) (hl : 1 ≤ l ∧ l ≤ 100000) (w : World) :
    Calls Try.prog 22 #[sv m b g s n l, .int .i64 1, .int .i64 i] w fun e w' => e = .returned (.int .i64 (1 + P + i)) ∧ Below w.heap.size w w' := by
  have := pageAt_any m b g s n l P hP h0 1 i (by omega) hi hb hg hl w
  rw [Int.one_mul] at this
  exact this

theorem At.regrown {w : World} {g : Nat} {cs : Array Value} {t : TypeId} (h : At w g cs t) (d : Nat) (os : Array Obj) : At (grow (redrawn w d) os) g cs t := h.below (below_regrown w d os) h.lt

theorem less_iff {j P b I : Int} (hb : 0 < b) (h1 : I ≤ P * b) (h2 : (P - 1) * b < I) (h : ¬ j * b < I) (hj : j ≤ P) : j = P := by
  rcases Int.lt_or_le j P with h3 | h3
  · have := Int.mul_le_mul_of_nonneg_right (show j ≤ P - 1 by omega) (Int.le_of_lt hb)
    omega
  · omega
theorem less_of {j P b I : Int} (hb : 0 < b) (h1 : I ≤ P * b) (h : j * b < I) (hj : j ≤ P) : j < P := by
  rcases Int.lt_or_le j P with h3 | h3
  · exact h3
  · obtain rfl : j = P := by omega
    omega

theorem sizes_of (x0 x1 x2 x3 x4 x5 m b g s n l : Int) (hS : Hid (Small m b g s n l)) (SHP : Hid (∀ w, Calls Try.prog 13 #[.agg #[.int .u8 x0, .int .u8 x1, .int .u8 x2, .int .u8 x3, .int .u8 x4, .int .u8 x5]] w fun e w' => e = .returned (sv m b g s n l) ∧ Below w.heap.size w w')) (t i : Int) (ht : 0 ≤ t ∧ t ≤ 255) (hi : 0 ≤ i ∧ i ≤ 255) (Pn : Nat) (hP : Hid (pgs b g l = Pn)) (hm : 3 ≤ m ∧ m ≤ 16) (hb : 32 ≤ b ∧ b ≤ 512) (hg : 4 ≤ g ∧ g ≤ 64) (hs : 2 ≤ s ∧ s ≤ 16) (hl : 1 ≤ l ∧ l ≤ 100000) (h0 : 0 < (Pn : Int) ∧ (Pn : Int) ≤ 500000) (T K : Int) (hT : t % (g * s) = T) (hT2 : 0 ≤ T ∧ T ≤ 1000000) (hK : i % (Pn : Int) = K) (hK2 : 0 ≤ K ∧ K ≤ 1000000) (w : World) :
    Calls Try.prog 5 #[.agg #[.int .u8 x0, .int .u8 x1, .int .u8 x2, .int .u8 x3, .int .u8 x4, .int .u8 x5], .int .u8 t, .int .u8 i] w fun e w' => e = .returned (.bool true) ∧ Below w.heap.size w w' := by
  have p3 : 1 ≤ g * s ∧ g * s ≤ 1024 := ⟨Int.mul_pos (by omega) (by omega), (mul_bounds (A := 64) (B := 16) (by omega) (by omega) (by omega) (by omega)).2⟩
  have p1 := three_g (m := m) (g := g) (s := s) ⟨hm, hg, hs⟩
  have p2 := three_l (m := m) (g := g) (s := s) ⟨hm, hg, hs⟩
  go_enter Try.func5, Try.ntmps5
  go_wp2_with fail
  have A := Lib.hid (At.new (w := w) (g := w.heap.size) #[.int .u8 x0, .int .u8 x1, .int .u8 x2, .int .u8 x3, .int .u8 x4, .int .u8 x5] 29 rfl)
  have B0 := Lib.hid ((Below.refl w.heap.size w).alloc (Nat.le_refl _) (.cells #[.int .u8 x0, .int .u8 x1, .int .u8 x2, .int .u8 x3, .int .u8 x4, .int .u8 x5] 29))
  refine (awake_any _).mono ?_
  rintro e w1 ⟨rfl, hb'⟩
  have A := Lib.hid (A.out.below hb' A.out.lt)
  have B0 := Lib.hid (B0.out.trans (hb'.mono (up B0.out rfl)))
  have c0 := A.out.cell 0; have c1 := A.out.cell 1; have c2 := A.out.cell 2; have c3 := A.out.cell 3; have c4 := A.out.cell 4; have c5 := A.out.cell 5
  clear hb'
  go_wp2_with fail
  refine (SHP.out _).mono ?_
  rintro e w2 ⟨rfl, hb'⟩
  have B0 := Lib.hid (B0.out.trans (hb'.mono (up B0.out rfl)))
  clear hb' c0 c1 c2 c3 c4 c5 A
  go_upto_region 6 with (fail)
  have A := Lib.hid (At.new (w := w2) (g := w2.heap.size) #[.int .i64 m, .int .i64 b, .int .i64 g, .int .i64 s, .int .i64 n, .int .i64 l] 23 rfl)
  have U := Lib.hid (up B0.out rfl)
  have B0 := Lib.hid (B0.out.alloc (up B0.out rfl) (.cells #[.int .i64 m, .int .i64 b, .int .i64 g, .int .i64 s, .int .i64 n, .int .i64 l] 23))
  generalize w2.alloc (.cells #[.int .i64 m, .int .i64 b, .int .i64 g, .int .i64 s, .int .i64 n, .int .i64 l] 23) = W at *
  generalize hG : w2.heap.size = G at *
  have UG := Lib.hid (show w.heap.size ≤ G from U.out)
  clear hG U
  have c0 := A.out.cell 0; have c1 := A.out.cell 1; have c2 := A.out.cell 2; have c3 := A.out.cell 3; have c4 := A.out.cell 4; have c5 := A.out.cell 5
  go_wp2_with fail
  go_loopw [10] (fun i wr => ∃ j : Nat, j ≤ Pn ∧ i = .int .i64 j ∧ wr = W) (fun i _ => Pn - (intOf i).toNat)
  case atStart => exact ⟨0, Nat.zero_le _, rfl, rfl⟩
  case round =>
    obtain ⟨j, hj, rfl, rfl⟩ := hrel
    obtain ⟨q1, q2, q3⟩ := pgs_enough hP.out hb hg hl
    have hjb : 0 ≤ (j : Int) * (b - 15) ∧ (j : Int) * (b - 15) ≤ 1000000 := ⟨Int.mul_nonneg (by omega) (by omega), Int.le_trans (Int.mul_le_mul_of_nonneg_right (show (j : Int) ≤ Pn by omega) (by omega)) q3⟩
    by_cases hlt : (j : Int) * (b - 15) < 12 + 9 * g + 4 * l
    · have hjP := less_of (show 0 < b - 15 by omega) q1 hlt (show (j : Int) ≤ Pn by omega)
      have Q := Lib.hid (And.intro q1 (And.intro q2 q3))
      clear q1 q2 q3
      go_wp2
      go_roundw
      case rel => exact ⟨j + 1, by omega, by go_num, trivial⟩
      case measure => simp [intOf]; omega
    · obtain rfl : j = Pn := by have := less_iff (show 0 < b - 15 by omega) q1 q2 hlt (show (j : Int) ≤ Pn by omega); omega
      clear q1 q2 q3
      go_wp2_with fail
      clear hlt hjb
      have k0 := cell_regrown (w := wr) (a := ⟨G, 0, none⟩) (v := .int .i64 m) (A.out.cell 0)
      have k1 := cell_regrown (w := wr) (a := ⟨G, 1, none⟩) (v := .int .i64 b) (A.out.cell 1)
      have k2 := cell_regrown (w := wr) (a := ⟨G, 2, none⟩) (v := .int .i64 g) (A.out.cell 2)
      have k3 := cell_regrown (w := wr) (a := ⟨G, 3, none⟩) (v := .int .i64 s) (A.out.cell 3)
      have k4 := cell_regrown (w := wr) (a := ⟨G, 4, none⟩) (v := .int .i64 n) (A.out.cell 4)
      have k5 := cell_regrown (w := wr) (a := ⟨G, 5, none⟩) (v := .int .i64 l) (A.out.cell 5)
      refine wp_region_quiet_below (by kernel_rfl) (by kernel_rfl) ?_
      repeat (go_big_quiet_step (fail))
      refine wpQuiet_nil ?_
      intro _ hw'
      obtain ⟨⟨dq, osq⟩, hw''⟩ := hw'
      subst hw''
      have A := Lib.hid (A.out.regrown dq osq)
      have B0 := Lib.hid (fin B0.out (up B0.out rfl) dq osq)
      clear k0 k1 k2 k3 k4 k5
      generalize grow (redrawn wr dq) osq = V at *
      go_wp2_with fail
      have k0 := cell_regrown (w := V) (a := ⟨G, 0, none⟩) (v := .int .i64 m) (A.out.cell 0)
      have k1 := cell_regrown (w := V) (a := ⟨G, 1, none⟩) (v := .int .i64 b) (A.out.cell 1)
      have k2 := cell_regrown (w := V) (a := ⟨G, 2, none⟩) (v := .int .i64 g) (A.out.cell 2)
      have k3 := cell_regrown (w := V) (a := ⟨G, 3, none⟩) (v := .int .i64 s) (A.out.cell 3)
      have k4 := cell_regrown (w := V) (a := ⟨G, 4, none⟩) (v := .int .i64 n) (A.out.cell 4)
      have k5 := cell_regrown (w := V) (a := ⟨G, 5, none⟩) (v := .int .i64 l) (A.out.cell 5)
      simp only [List.append_eq, List.cons_append, List.nil_append]
      refine wp_region_great (by kernel_rfl) (by kernel_rfl) (by kernel_rfl) ?_
      repeat (go_big_quiet_step ((first | (with_reducible exact Calls.regrown_of (slots_any m b g s n l hm _)) | (with_reducible exact Calls.regrown_of (note_any m b g s n l hm _)) | (with_reducible exact Calls.regrown_of (most_any m b g s n l hm hg hs _)) | (with_reducible exact Calls.regrown_of (all_any m b g s n l hg hs _)) | (with_reducible exact Calls.regrown_of (image_any m b g s n l hg hl _)) | (with_reducible exact Calls.regrown_of (page_any m b g s n l hb _)) | (with_reducible exact Calls.regrown_of (pages_P m b g s n l _ hP.out hb hg hl _)) | (with_reducible exact Calls.regrown_of (sectors_any m b g s n l _ hP h0 hb hg hs hl _)) | (with_reducible exact Calls.regrown_of (pageAt_0 m b g s n l _ hP h0 K hK2 hb hg hl _)) | (with_reducible exact Calls.regrown_of (pageAt_1 m b g s n l _ hP h0 K hK2 hb hg hl _)) | (with_reducible exact Calls.regrown_of (stripeAt_any m b g s n l _ hP h0 T hT2 hb hg hl _)) | (with_reducible exact Calls.regrown_of (segment_any m b g s n l T hT2 hs _)) )))
      refine wpQuiet_nil ?_
      intro _ hw'
      obtain ⟨⟨dq, osq⟩, hw''⟩ := hw'
      subst hw''
      go_wp2
      go_ret
      exact ⟨rfl, fin B0.out (up B0.out rfl) dq osq⟩

theorem sizes_walk (x0 x1 x2 x3 x4 x5 : Int) (y0 : Byte x0) (y1 : Byte x1) (y2 : Byte x2) (y3 : Byte x3) (y4 : Byte x4) (y5 : Byte x5) (t : Int) (ht : Byte t) (i : Int) (hi : Byte i) (w : World) :
    Calls Try.prog 5 #[.agg #[.int .u8 x0, .int .u8 x1, .int .u8 x2, .int .u8 x3, .int .u8 x4, .int .u8 x5], .int .u8 t, .int .u8 i] w fun e w' => e = .returned (.bool true) ∧ Below w.heap.size w w' := by
  obtain ⟨m, b, g, s, n, l, hS, hsh⟩ := shape_small x0 x1 x2 x3 x4 x5 y0 y1 y2 y3 y4 y5
  obtain ⟨hm, hb, hg, hs, hl, hok⟩ := hS
  have hS : Small m b g s n l := ⟨hm, hb, hg, hs, hl, hok⟩
  have p0 := pgs_bounds b g l (by omega) (by omega) (by omega)
  have p3 : 1 ≤ g * s ∧ g * s ≤ 1024 := ⟨Int.mul_pos (by omega) (by omega), (mul_bounds (A := 64) (B := 16) (by omega) (by omega) (by omega) (by omega)).2⟩
  have r1 := Int.emod_nonneg t (show g * s ≠ 0 by omega)
  have r2 := Int.emod_lt_of_pos t (show 0 < g * s by omega)
  have r3 := Int.emod_nonneg i (show pgs b g l ≠ 0 by omega)
  have r4 := Int.emod_lt_of_pos i (show 0 < pgs b g l by omega)
  have e : ((pgs b g l).toNat : Int) = pgs b g l := by omega
  exact sizes_of x0 x1 x2 x3 x4 x5 m b g s n l hS hsh t i ht hi (pgs b g l).toNat e.symm (by omega) (by omega) (by omega) (by omega) (by omega) (by omega) _ _ rfl (by omega) rfl (by rw [e]; omega) w

end Go.Proofs.Ytimehgckgpdmbaa
