/-
  A FLUSH WHEN THE POWER IS OUT; LIMITS; THE SAME CALLS UNDER ANY LIMIT.
-/
import Derived.Test.YtapbphkhbhcdkaaGreatDisk3
namespace Go.Proofs.YtapbphkhbhcdkaaGreat
open Go.RowKit Go.Maps Go.Shelf
set_option linter.unusedVariables false
set_option maxRecDepth 100000

section
variable {w : World} {g p : Nat} {T : Nat → Prop} {s : DS}

theorem flush_out (u : Int) (h : Dk w g p T s) (hp : Pw w p u 0) :
    Calls Tryz.prog 120 #[.pointer (some ⟨g, 0, none⟩)] w fun e w' => e = .panicked out ∧ w' = w := by
  have HD := Lib.hid h
  have HP := Lib.hid hp
  clear h hp
  go_enter Tryz.func120, Tryz.ntmps120
  go_wp2_with fail
  refine (operate_out u HD.out HP.out).mono ?_
  rintro e w' ⟨rfl, rfl⟩
  unfold out
  go_wp2
  exact ⟨rfl, rfl, rfl⟩
end

/-- A limit is set. -/
theorem limit_any (g : Nat) (u l m : Int) (w : World) (h : Pw w g u l) : Calls Tryz.prog 9 #[.pointer (some ⟨g, 0, none⟩), .int .i64 m] w fun e w' => e = .returned (.tuple #[]) ∧ Pw w' g u m ∧ w' = w.setCell ⟨g, 1, none⟩ (.int .i64 m) := by
  have f1 := h.frozen 1
  have h1 := h.cell 1
  simp at h1
  go_enter Tryz.func9, Tryz.ntmps9
  go_wp2
  go_end0
  exact ⟨rfl, At.set h 1 _, rfl⟩

end Go.Proofs.YtapbphkhbhcdkaaGreat
