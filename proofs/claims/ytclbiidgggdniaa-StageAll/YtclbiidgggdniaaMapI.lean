/-
  A MAP OF INTS KEYED BY INT, AS A FUNCTION: made, read, written, carried.
-/
import Derived.Test.YtclbiidgggdniaaSmall
import Derived.Maps.OwnSet
import Derived.Maps.Ext
import Derived.MapFrom
namespace Go.Proofs.Ytclbiidgggdniaa
open Go.RowKit Go.Maps Go.MapKept Go.ChangeMaps
set_option linter.unusedVariables false
set_option maxRecDepth 100000

/-- An element reads as itself. -/
def raw (v : Value) : Option (DataW Value × List MemPlace) := some (.held v, [])
theorem raw_inv {v : Value} {d : DataW Value} {ps : List MemPlace} (h : raw v = some (d, ps)) : d = .held v := by
  unfold raw at h
  injection h with h
  injection h with h1 h2
  exact h1.symm
theorem keyed : Keyed Try.prog 3 := int_keyed Try.underlying3
abbrev key (i : Int) : Lit := .int .i64 i
def InU (i : Int) : Prop := -9223372036854775808 ≤ i ∧ i ≤ 9223372036854775807
theorem key_of {i : Int} (h : InU i) : keyOf Try.prog 3 (.int .i64 i) = some (key i) :=
  keyOf_int_mk Try.underlying3 (by unfold InU at h; simp [Lit.wf, IntKind.min, IntKind.max, IntKind.signed, IntKind.bits]; omega)
theorem key_lit (i : Int) : WideAt.IsKeyLit (key i) := by trivial
theorem key_ne {i j : Int} (h : ¬ i = j) : key i ≠ key j := by
  intro e
  injection e with _ e
  exact h e

/-- What stands at key i of the datum. -/
def valAt (D : DataW Value) (i : Int) : Option Value := match D.atKey (key i) .nil with | .held v => some v | _ => none
def iv (x : Int) : Value := .int .i64 x

/-- Block b is a map that holds f; it has at most m entries. -/
def Mu (w : World) (b : Nat) (f : Int → Option Int) (m : Nat) : Prop := ∃ D : DataW Value, w.ownsMap Try.prog 3 raw b m D ∧ ∀ i, InU i → valAt D i = (f i).map iv

theorem Mu.lt {w : World} {b m : Nat} {f : Int → Option Int} (h : Mu w b f m) : b < w.heap.size := by
  obtain ⟨D, h, _⟩ := h
  exact h.lt
theorem Mu.but {w w' : World} {S : Nat → Prop} {b m : Nat} {f : Int → Option Int} (h : Mu w b f m) (hb : But S w w') (hn : ¬ S b) : Mu w' b f m := by
  have hlt := h.lt
  obtain ⟨D, ⟨es, clock, h1, h2⟩, hf⟩ := h
  exact ⟨D, ⟨es, clock, (hb.block b hlt hn).trans h1, h2⟩, hf⟩
theorem Mu.made (w : World) : Mu (w.alloc (.map #[] 0)) w.heap.size (fun _ => none) 0 :=
  ⟨.map [], World.ownsMap_made w Try.prog 3 raw, fun _ _ => rfl⟩

theorem zero3 (w : World) : (zeroValue 3).run Try.prog w = .ok (.int .i64 0) w := by kernel_rfl
/-- The datum's own entry, where there is one. -/
theorem at_some {w : World} {b n : Nat} {D : DataW Value} (h : w.ownsMap Try.prog 3 raw b n D) {i : Int} (hi : InU i) :
    (Maps.has D (key i) = false ∧ valAt D i = none) ∨ ∃ v, Maps.has D (key i) = true ∧ valAt D i = some v ∧ ∀ z, D.atKey (key i) z = .held v := by
  cases hh : Maps.has D (key i)
  · refine .inl ⟨rfl, ?_⟩
    unfold valAt
    rw [atKey_of_not_has hh]
  · refine .inr ?_
    obtain ⟨es, clock, hb, F, _, rfl⟩ := h
    have : ∃ v, ∀ z, (DataW.map ((es.toList.map (WideElems.rg Try.prog 3 raw)).foldr DataW.insert [])).atKey (key i) z = .held v := by
      rcases Maps.fit_look true keyed Try.underlying48 (zero3 w) hb F (key_of hi) with ⟨_, _, hat⟩ | ⟨e0, y, _, _, _, hRv, hat, _⟩
      · rw [Maps.has_false_of_atKey hat] at hh
        cases hh
      · have e := raw_inv hRv
        exact ⟨e0.val, fun z => by rw [hat z, e]⟩
    obtain ⟨v, hv⟩ := this
    exact ⟨v, rfl, by unfold valAt; rw [hv], hv⟩
theorem has_iff {w : World} {b n : Nat} {D : DataW Value} (h : w.ownsMap Try.prog 3 raw b n D) {i : Int} (hi : InU i) : Maps.has D (key i) = (valAt D i).isSome := by
  rcases at_some h hi with ⟨h1, h2⟩ | ⟨v, h1, h2, _⟩
  · rw [h1, h2]; rfl
  · rw [h1, h2]; rfl

section
variable {w : World} {b m : Nat} {f : Int → Option Int}
theorem got {n : Nat} {D : DataW Value} (h : w.ownsMap Try.prog 3 raw b n D) {i : Int} (hi : InU i) {z v : Value} {ps : List MemPlace} (hv : raw v = some (D.atKey (key i) (.held z), ps)) : v = (valAt D i).getD z := by
  have e0 := raw_inv hv
  rcases at_some h hi with ⟨h1, h2⟩ | ⟨u, h1, h2, h3⟩
  · rw [atKey_of_not_has h1] at e0
    injection e0 with e0
    rw [h2]
    exact e0.symm
  · rw [h3] at e0
    injection e0 with e0
    rw [h2]
    exact e0.symm
theorem Mu.look_ok (h : Mu w b f m) {i : Int} (hi : InU i) : (Instr.lookup 48 (.map (some b)) (.int .i64 i) true).run Try.prog w = .ok (.tuple #[.int .i64 ((f i).getD 0), .bool (f i).isSome]) w := by
  obtain ⟨D, h, hf⟩ := h
  obtain ⟨v, ps, hrun, hv⟩ := h.look_ok keyed Try.underlying48 (zero3 w) (show raw (.int .i64 0) = some (.held (.int .i64 0), []) from rfl) (key_of hi)
  have e1 : v = .int .i64 ((f i).getD 0) := by
    rw [got h hi hv, hf i hi]
    cases f i <;> rfl
  have e2 : Maps.has D (key i) = (f i).isSome := by
    rw [has_iff h hi, hf i hi]
    cases f i <;> rfl
  subst e1
  rw [e2] at hrun
  exact hrun

theorem Mu.look (h : Mu w b f m) {i : Int} (hi : InU i) : (Instr.lookup 48 (.map (some b)) (.int .i64 i) false).run Try.prog w = .ok (.int .i64 ((f i).getD 0)) w := by
  obtain ⟨D, h, hf⟩ := h
  obtain ⟨v, ps, hrun, hv⟩ := h.lookup keyed Try.underlying48 (zero3 w) (show raw (.int .i64 0) = some (.held (.int .i64 0), []) from rfl) (key_of hi)
  have e1 : v = .int .i64 ((f i).getD 0) := by
    rw [got h hi hv, hf i hi]
    cases f i <;> rfl
  subst e1
  exact hrun

theorem but_turned {w' : World} (h : w.mapTurned w' b) : But (fun k => k = b) w w' := by
  have g := h.grown
  exact ⟨g.os, g.tape, g.output, g.size, fun k hk hn => g.block k hk (fun e => hn (by injection e))⟩
theorem valAt_put {D : DataW Value} (hD : IsMap D) (i : Int) (v : Value) (j : Int) : valAt (D.put (key i) (.held v)) j = if j = i then some v else valAt D j := by
  unfold valAt
  by_cases e : j = i
  · subst e
    rw [atKey_put_same hD (key_lit _), if_pos rfl]
  · rw [atKey_put_other (key_ne e), if_neg e]
theorem Mu.store (h : Mu w b f m) (hm : m < 1000000) {i : Int} (hi : InU i) (v : Int) :
    ∃ w', (Instr.mapUpdate 48 (.map (some b)) (.int .i64 i) (.int .i64 v)).run Try.prog w = .ok () w' ∧ Mu w' b (updI f i v) (m + 1) ∧ But (fun k => k = b) w w' := by
  obtain ⟨D, h, hf⟩ := h
  obtain ⟨w', hrun, hown, ht'⟩ := h.store keyed Try.underlying48 (show m < maxLen by unfold maxLen; omega) (key_of hi) (show raw (.int .i64 v) = some (.held (.int .i64 v), []) from rfl)
  refine ⟨w', hrun, ⟨D.put (key i) (.held (.int .i64 v)), hown, fun j hj => ?_⟩, but_turned ht'⟩
  rw [valAt_put h.isMap, hf j hj]
  unfold updI
  split <;> rfl
end
end Go.Proofs.Ytclbiidgggdniaa
