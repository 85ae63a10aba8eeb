/-
  THE WALK OF GeomChecks: any six numbers.
-/
import Derived.Test.YtimehgckgpdmbaaMay
import Derived.Test.YtimehgckgpdmbaaAwake
namespace Go.Proofs.Ytimehgckgpdmbaa
open Go.RowKit Go.Sort
set_option linter.unusedVariables false
set_option maxRecDepth 100000

theorem checks_of (m b g s n l : Int) (v : Bool) (E : Int) (hE : E = if v then 0 else 1) (hc : ∀ w, Calls Try.prog 11 #[sv m b g s n l] w fun e w' => e = .returned (.int .i64 E) ∧ Below w.heap.size w w')
    (hm : ∀ w, Calls Try.prog 12 #[sv m b g s n l] w fun e w' => e = .returned (.bool v) ∧ Below w.heap.size w w') (w : World) :
    Calls Try.prog 3 #[sv m b g s n l] w fun e w' => e = .returned (.bool true) ∧ Below w.heap.size w w' := by
  unfold sv at *
  have HC := Lib.hid hc
  have HM := Lib.hid hm
  clear hc hm
  go_enter Try.func3, Try.ntmps3
  go_wp2_with fail
  have A := Lib.hid (At.new (w := w) (g := w.heap.size) #[.int .i64 m, .int .i64 b, .int .i64 g, .int .i64 s, .int .i64 n, .int .i64 l] 23 rfl)
  have B0 := Lib.hid ((Below.refl w.heap.size w).alloc (Nat.le_refl _) (.cells #[.int .i64 m, .int .i64 b, .int .i64 g, .int .i64 s, .int .i64 n, .int .i64 l] 23))
  refine (awake_any _).mono ?_
  rintro e W ⟨rfl, hb'⟩
  have A := A.out.below hb' A.out.lt
  have B0 := Lib.hid (B0.out.trans (hb'.mono (up B0.out rfl)))
  have U := Lib.hid (up B0.out rfl)
  clear hb'
  generalize hH : w.heap.size = H at *
  have k0 := cell_regrown (w := W) (a := ⟨H, 0, none⟩) (v := .int .i64 m) (A.cell 0)
  have k1 := cell_regrown (w := W) (a := ⟨H, 1, none⟩) (v := .int .i64 b) (A.cell 1)
  have k2 := cell_regrown (w := W) (a := ⟨H, 2, none⟩) (v := .int .i64 g) (A.cell 2)
  have k3 := cell_regrown (w := W) (a := ⟨H, 3, none⟩) (v := .int .i64 s) (A.cell 3)
  have k4 := cell_regrown (w := W) (a := ⟨H, 4, none⟩) (v := .int .i64 n) (A.cell 4)
  have k5 := cell_regrown (w := W) (a := ⟨H, 5, none⟩) (v := .int .i64 l) (A.cell 5)
  clear A
  go_wp2_with fail
  cases v
  all_goals
    simp only [if_true, Bool.false_eq_true, if_false] at hE
    subst hE
    refine wp_region_quiet_below (by kernel_rfl) (by kernel_rfl) ?_
    repeat (go_big_quiet_step ((first | (with_reducible exact Calls.regrown_of (HC.out _)) | (with_reducible exact Calls.regrown_of (HM.out _)))))
    refine wpQuiet_nil ?_
    intro _ hw'
    obtain ⟨⟨dq, osq⟩, hw''⟩ := hw'
    subst hw''
    go_wp2
    go_ret
    exact ⟨rfl, by rw [hH]; exact fin B0.out U.out dq osq⟩

theorem checks_walk (m b g s n l : Int) (w : World) : Calls Try.prog 3 #[sv m b g s n l] w fun e w' => e = .returned (.bool true) ∧ Below w.heap.size w w' := by
  by_cases h : Ok m b g s n l
  · exact checks_of m b g s n l true 0 rfl (check_ok m b g s n l h) (may_ok m b g s n l h) w
  · exact checks_of m b g s n l false 1 rfl (check_bad m b g s n l h) (may_bad m b g s n l h) w

end Go.Proofs.Ytimehgckgpdmbaa
