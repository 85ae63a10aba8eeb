/-
  THE WALKS OF Blank AND Cycle.
-/
import Derived.Test.YtapbphkhbhcdkaaDisk3
import Derived.Laws.ShiftsVarLaws
import Derived.Laws.Bits64b
import Derived.BigRegion
namespace Go.Proofs.Ytapbphkhbhcdkaa
open Go.RowKit Go.Maps Go.Shelf
set_option linter.unusedVariables false
set_option maxRecDepth 100000

section
variable {w : World} {g p : Nat} {T : Nat → Prop} {s : DS}

theorem Lies.blank {w w1 w2 w3 : World} {bd bw bn : Nat} {fd fw fn : Int → Option Value} (h : Lies w g p T s bd bw bn fd fw fn) (m1 : Mp w1 bd (fun _ => none)) (b1 : But (fun k => k = bd) w w1) (m2 : Mp w2 bw (fun _ => none)) (b2 : But (fun k => k = bw) w1 w2)
    (m3 : Mp w3 bn (fun _ => none)) (b3 : But (fun k => k = bn) w2 w3) : Lies w3 g p T { s with on := fun _ => none, wait := fun _ => none, writes := fun _ => 0 } bd bw bn (fun _ => none) (fun _ => none) (fun _ => none) := by
  obtain ⟨a1, a2, a3, a4, a5, a6⟩ := h.apart
  have b23 : But (fun k => k = bw ∨ k = bn) w1 w3 := (b2.mono (fun _ h _ => .inl h)).trans b3 (fun _ h _ => .inr h)
  have b13 : But (fun k => k = bd ∨ k = bw ∨ k = bn) w w3 := (b1.mono (fun _ h _ => .inl h)).trans b23 (fun _ h _ => .inr h)
  exact
    { h with
      at_ := h.at_.but b13 (fun h => h.elim a4 (fun h => h.elim a5 a6))
      on := m1.but b23 (fun h => h.elim a1 a2)
      wait := m2.but b3 a3
      writes := m3
      rowsOn := Sect.none _ _ _ _
      rowsWait := Sect.none _ _ _ _
      counts := fun _ => rfl
      lt := fun k hk => Nat.lt_of_lt_of_le (h.lt k hk) b13.size
      underOn := fun _ h => absurd rfl h
      underWait := fun _ h => absurd rfl h
      underWrites := fun _ h => absurd rfl h }

set_option maxHeartbeats 800000 in
theorem blank_any (h : Dk w g p T s) : Calls Try.prog 109 #[.pointer (some ⟨g, 0, none⟩)] w fun e w' => e = .returned (.tuple #[]) ∧ Dk w' g p T (blank s.sectors s.size) ∧ But T w w' := by
  obtain ⟨bd, bw, bn, fd, fw, fn, h⟩ := h
  obtain ⟨a1, a2, a3, a4, a5, a6⟩ := h.apart
  obtain ⟨w1, r1, m1, b1⟩ := h.on.clear Try.underlying82
  obtain ⟨w2, r2, m2, b2⟩ := (h.wait.but b1 (fun e => a1 e.symm)).clear Try.underlying82
  obtain ⟨w3, r3, m3, b3⟩ := ((h.writes.but b1 (fun e => a2 e.symm)).but b2 (fun e => a3 e.symm)).clear Try.underlying83
  have hl := h.blank m1 b1 m2 b2 m3 b3
  have c3 := h.cell.2.2.2.1
  have c4 : w1.cell? ⟨g, 4, none⟩ = some (.map (some bw)) := (h.at_.but b1 a4).cell 4
  have c5 : w2.cell? ⟨g, 5, none⟩ = some (.map (some bn)) := ((h.at_.but b1 a4).but b2 a5).cell 5
  have c6 : w3.cell? ⟨g, 6, none⟩ = some (.bool s.dead) := hl.at_.cell 6
  have f6 := hl.at_.frozen 6
  have hl2 := hl.put (j := 6) (v := .bool false) (s' := { s with on := fun _ => none, wait := fun _ => none, writes := fun _ => 0, dead := false }) rfl rfl rfl rfl rfl rfl
  have c7 : (w3.setCell ⟨g, 6, none⟩ (.bool false)).cell? ⟨g, 7, none⟩ = some (.int .i64 s.failAt) := hl2.at_.cell 7
  have f7 := hl2.at_.frozen 7
  have hl3 := hl2.put (j := 7) (v := .int .i64 (-1)) (s' := Ytapbphkhbhcdkaa.blank s.sectors s.size) rfl rfl rfl rfl rfl rfl
  have L3 := Lib.hid hl3
  have b123 : But T w ((w3.setCell ⟨g, 6, none⟩ (.bool false)).setCell ⟨g, 7, none⟩ (.int .i64 (-1))) := by
    have ho := h.own
    refine ((((b1.mono (T := T) ?_).trans b2 ?_).trans b3 ?_).setCell (p := ⟨g, 6, none⟩) (fun _ => ho.1) _).setCell (p := ⟨g, 7, none⟩) (fun _ => ho.1) _
    · rintro k rfl _; exact ho.2.1
    · rintro k rfl _; exact ho.2.2.1
    · rintro k rfl _; exact ho.2.2.2
  have BB := Lib.hid b123
  clear h hl hl2 hl3 m1 m2 m3 b1 b2 b3 b123
  go_enter Try.func109, Try.ntmps109
  go_wp2
  go_end0
  exact ⟨rfl, ⟨_, _, _, _, _, _, L3.out⟩, BB.out⟩
end

end Go.Proofs.Ytapbphkhbhcdkaa
