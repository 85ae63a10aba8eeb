/-
  THE WALKS OF New, Tick, Used AND Limit.
-/
import Derived.Test.YtapbphkhbhcdkaaGreatFoot
import Derived.Defers
import Derived.Recover
import Derived.WalkLawsBesides
namespace Go.Proofs.YtapbphkhbhcdkaaGreat
open Go.RowKit
set_option linter.unusedVariables false
set_option maxRecDepth 100000

/-- What Tick throws. -/
def out : List PanicEntry := [{ v := .iface 73 (.agg #[]), recovered := false }]

theorem But.own (w : World) (g j : Nat) (v : Value) : But (fun k => k = g) w (w.setCell ⟨g, j, none⟩ v) := (But.refl (fun k => k = g) w).setCell (p := ⟨g, j, none⟩) (fun _ => rfl) v

theorem new_any (l : Int) (w : World) : Calls Tryz.prog 23 #[.int .i64 l] w fun e w' => e = .returned (.pointer (some ⟨w.heap.size, 0, none⟩)) ∧ w' = w.alloc (.cells #[.int .i64 0, .int .i64 l] 71) := by
  go_enter Tryz.func23, Tryz.ntmps23
  go_wp2
  go_ret
  exact ⟨rfl, rfl⟩

theorem tick_out (g : Nat) (u : Int) (w : World) (h : Pw w g u 0) : Calls Tryz.prog 49 #[.pointer (some ⟨g, 0, none⟩)] w fun e w' => e = .panicked out ∧ w' = w := by
  have h1 := h.cell 1
  have h0 := h.cell 0
  have f0 := h.frozen 0
  have f1 := h.frozen 1
  simp at h0 h1
  go_enter Tryz.func49, Tryz.ntmps49
  go_wp2
  exact ⟨rfl, rfl, rfl⟩

theorem used_any (g : Nat) (u l : Int) (w : World) (h : Pw w g u l) : Calls Tryz.prog 127 #[.pointer (some ⟨g, 0, none⟩)] w fun e w' => e = .returned (.int .i64 u) ∧ w' = w := by
  have h0 := h.cell 0
  simp at h0
  go_enter Tryz.func127, Tryz.ntmps127
  go_wp2
  go_ret
  exact ⟨rfl, rfl⟩

theorem tick_pos (g : Nat) (u l : Int) (w : World) (h : Pw w g u l) (hu : 0 ≤ u ∧ u ≤ 1000000) (hl : 0 < l ∧ l ≤ 9223372036854775807) :
    Calls Tryz.prog 49 #[.pointer (some ⟨g, 0, none⟩)] w fun e w' => e = .returned (.tuple #[]) ∧ Pw w' g (u + 1) (l - 1) ∧ But (fun k => k = g) w w' := by
  have h1 := h.cell 1
  have h0 := h.cell 0
  have f0 := h.frozen 0
  have f1 := h.frozen 1
  simp at h0 h1
  have e1 : wrap64 (u + 1) = u + 1 := by unfold wrap64; omega
  have e2 : wrap64 (l - 1) = l - 1 := by unfold wrap64; omega
  have hl1 := hl.1
  have hl0 : ¬ l = 0 := by omega
  go_enter Tryz.func49, Tryz.ntmps49
  go_wp2
  go_end0
  exact ⟨rfl, At.set (At.set h 1 _) 0 _, (But.own _ _ _ _).trans (But.own _ _ _ _) (fun _ h _ => h)⟩

theorem tick_neg (g : Nat) (u l : Int) (w : World) (h : Pw w g u l) (hu : 0 ≤ u ∧ u ≤ 1000000) (hl : l < 0) :
    Calls Tryz.prog 49 #[.pointer (some ⟨g, 0, none⟩)] w fun e w' => e = .returned (.tuple #[]) ∧ Pw w' g (u + 1) l ∧ But (fun k => k = g) w w' := by
  have h1 := h.cell 1
  have h0 := h.cell 0
  have f0 := h.frozen 0
  have f1 := h.frozen 1
  simp at h0 h1
  have e1 : wrap64 (u + 1) = u + 1 := by unfold wrap64; omega
  have hl1 : ¬ 0 < l := by omega
  have hl0 : ¬ l = 0 := by omega
  go_enter Tryz.func49, Tryz.ntmps49
  go_wp2
  go_end0
  exact ⟨rfl, At.set h 0 _, But.own _ _ _ _⟩

/-- How many more may be done, behind one. -/
def less (l : Int) : Int := if 0 < l then l - 1 else l
theorem tick_go (g : Nat) (u l : Int) (w : World) (h : Pw w g u l) (hu : 0 ≤ u ∧ u ≤ 1000000) (hl : ¬ l = 0) (hm : l ≤ 9223372036854775807) :
    Calls Tryz.prog 49 #[.pointer (some ⟨g, 0, none⟩)] w fun e w' => e = .returned (.tuple #[]) ∧ Pw w' g (u + 1) (less l) ∧ But (fun k => k = g) w w' := by
  unfold less
  by_cases h0 : 0 < l
  · rw [if_pos h0]
    exact tick_pos g u l w h hu ⟨h0, hm⟩
  · rw [if_neg h0]
    exact tick_neg g u l w h hu (by omega)

end Go.Proofs.YtapbphkhbhcdkaaGreat
