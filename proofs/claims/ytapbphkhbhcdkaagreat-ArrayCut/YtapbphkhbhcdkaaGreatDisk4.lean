/-
  THE WALKS OF Blank AND Cycle.
-/
import Derived.Test.YtapbphkhbhcdkaaGreatDisk3
import Derived.Laws.ShiftsVarLaws
import Derived.Laws.Bits64b
import Derived.BigRegion
namespace Go.Proofs.YtapbphkhbhcdkaaGreat
open Go.RowKit Go.Maps Go.Shelf
set_option linter.unusedVariables false
set_option maxRecDepth 100000

section
variable {w : World} {g p : Nat} {T : Nat → Prop} {s : DS}

theorem Lies.blank {w w1 w2 w3 : World} {bd bw bn : Nat} {fd fw fn : Int → Option Value} (h : Lies w g p T s bd bw bn fd fw fn) (m1 : Mp w1 bd (fun _ => none)) (b1 : But (fun k => k = bd) w w1) (m2 : Mp w2 bw (fun _ => none)) (b2 : But (fun k => k = bw) w1 w2)
    (m3 : Mp w3 bn (fun _ => none)) (b3 : But (fun k => k = bn) w2 w3) : Lies w3 g p T { s with on := fun _ => none, wait := fun _ => none, writes := fun _ => 0 } bd bw bn (fun _ => none) (fun _ => none) (fun _ => none) := by
  obtain ⟨a1, a2, a3, a4, a5, a6⟩ := h.apart
  have b23 : But (fun k => k = bw ∨ k = bn) w1 w3 := (b2.mono (fun _ h _ => .inl h)).trans b3 (fun _ h _ => .inr h)
  have b13 : But (fun k => k = bd ∨ k = bw ∨ k = bn) w w3 := (b1.mono (fun _ h _ => .inl h)).trans b23 (fun _ h _ => .inr h)
  exact
    { h with
      at_ := h.at_.but b13 (fun h => h.elim a4 (fun h => h.elim a5 a6))
      on := m1.but b23 (fun h => h.elim a1 a2)
      wait := m2.but b3 a3
      writes := m3
      rowsOn := Sect.none _ _ _ _
      rowsWait := Sect.none _ _ _ _
      counts := fun _ => rfl
      lt := fun k hk => Nat.lt_of_lt_of_le (h.lt k hk) b13.size
      underOn := fun _ h => absurd rfl h
      underWait := fun _ h => absurd rfl h
      underWrites := fun _ h => absurd rfl h }

end

end Go.Proofs.YtapbphkhbhcdkaaGreat
