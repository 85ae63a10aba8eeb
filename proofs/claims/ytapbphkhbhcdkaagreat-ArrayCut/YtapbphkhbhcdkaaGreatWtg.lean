/-
  THE WALK OF Waiting.
-/
import Derived.Test.YtapbphkhbhcdkaaGreatWait
import Derived.Test.YtapbphkhbhcdkaaGreatDisk3
namespace Go.Proofs.YtapbphkhbhcdkaaGreat
open Go.RowKit Go.Maps Go.Shelf
set_option linter.unusedVariables false
set_option maxRecDepth 100000

section
variable {w w' : World} {g p : Nat} {T : Nat → Prop} {s : DS}
/-- The sectors that wait, ascending. -/
def Waits (s : DS) (ss : List Int) : Prop := ss.Pairwise (fun x y => x < y) ∧ ∀ x, x ∈ ss ↔ (s.wait x).isSome = true
theorem sect_some {w : World} {T Z : Nat → Prop} {size : Nat} {f : Int → Option Value} {c : Int → Option Bytes} (h : Sect w T Z size f c) (i : Int) : (f i).isSome = (c i).isSome := by
  rcases h i with ⟨h1, h2⟩ | ⟨A, cap, l, h1, h2, _⟩
  · rw [h1, h2]; rfl
  · rw [h1, h2]; rfl

theorem keys_call (b : Nat) (w : World) : Calls Tryz.prog 61 #[.map (some b)] w fun e w' => e = .returned (.func (.func 78) #[] #[.pointer (some ⟨w.heap.size, 0, none⟩)]) ∧ w' = w.alloc (.cells #[.map (some b)] 87) := by
  have h : CallsIn Fence.wide 5 Tryz.prog 61 #[.map (some b)] w fun e w' => e = .returned (.func (.func 78) #[] #[.pointer (some ⟨w.heap.size, 0, none⟩)]) ∧ w' = w.alloc (.cells #[.map (some b)] 87) := AnyZI.keys_in keysA Fence.wide 5 trivial rfl (some b) w
  exact callsIn_wide.1 h

set_option maxHeartbeats 400000 in
theorem waiting_any (h : Dk w g p T s) : Calls Tryz.prog 42 #[.pointer (some ⟨g, 0, none⟩)] w fun e w' => ∃ v ss, e = .returned v ∧ Waits s ss ∧ w'.ownsRow w.heap.size 3 1 v ss.length (ss.map encZ) ∧ Below w.heap.size w w' := by
  obtain ⟨bd, bw, bn, fd, fw, fn, h⟩ := h
  obtain ⟨c0, c1, c2, c3, c4, c5, c6, c7⟩ := h.cell
  have H := Lib.hid h
  clear h c0 c1 c2 c3 c5 c6 c7
  go_enter Tryz.func42, Tryz.ntmps42
  go_wp2_with fail
  refine (keys_call bw w).mono ?_
  rintro e w' ⟨rfl, rfl⟩
  go_wp2_with fail
  refine (callsIn_wide.1 (sorted_keys bw fw s.sectors w H.out.wait H.out.underWait H.out.small.1 (fun e w' => ∃ v ss, e = .returned v ∧ Keys fw ss ∧ w'.ownsRow w.heap.size 3 1 v ss.length (ss.map encZ) ∧ Below w.heap.size w w') (fun v ss w' h1 h2 h3 => ⟨v, ss, rfl, h1, h2, h3⟩))).mono ?_
  rintro e w' ⟨v, ss, rfl, hK, hrow, hb⟩
  go_wp2
  go_ret
  refine ⟨v, ss, rfl, ⟨hK.1, fun x => ?_⟩, hrow, hb⟩
  rw [hK.2 x, sect_some H.out.rowsWait x]

end
end Go.Proofs.YtapbphkhbhcdkaaGreat
