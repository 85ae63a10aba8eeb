/-
  A MAP KEYED BY uint64 WITH INTS, AS A FUNCTION: made, read, written, carried.
-/
import Derived.Test.YtolienlbdfbdeaaAwake
import Derived.Maps.OwnSet
import Derived.Maps.Ext
import Derived.MapFrom
namespace Go.Proofs.Ytolienlbdfbdeaa
open Go.RowKit Go.Maps Go.MapKept Go.ChangeMaps
set_option linter.unusedVariables false

/-- An element reads as itself. -/
def raw (v : Value) : Option (DataW Value × List MemPlace) := some (.held v, [])
theorem raw_inv {v : Value} {d : DataW Value} {ps : List MemPlace} (h : raw v = some (d, ps)) : d = .held v := by
  unfold raw at h
  injection h with h
  injection h with h1 h2
  exact h1.symm
theorem keyed : Keyed Try.prog 30 := int_keyed Try.underlying30
abbrev key (i : Nat) : Lit := .int .u64 (i : Int)
def InU (i : Nat) : Prop := i ≤ 1000000
theorem key_of {i : Nat} (h : InU i) : keyOf Try.prog 30 (.int .u64 (i : Int)) = some (key i) :=
  keyOf_int_mk Try.underlying30 (by unfold InU at h; simp [Lit.wf, IntKind.min, IntKind.max, IntKind.signed, IntKind.bits]; omega)
theorem key_lit (i : Nat) : WideAt.IsKeyLit (key i) := by trivial
theorem key_ne {i j : Nat} (h : ¬ i = j) : key i ≠ key j := by
  intro e
  injection e with _ e
  exact h (by omega)

/-- What stands at key i of the datum. -/
def valAt (D : DataW Value) (i : Nat) : Option Value := match D.atKey (key i) .nil with | .held v => some v | _ => none
def iv (x : Int) : Value := .int .i64 x

/-- Block b is a map that holds f; it has at most m entries. -/
def Mu (w : World) (b : Nat) (f : Nat → Option Int) (m : Nat) : Prop := ∃ D : DataW Value, w.ownsMap Try.prog 30 raw b m D ∧ ∀ i, InU i → valAt D i = (f i).map iv

theorem Mu.lt {w : World} {b m : Nat} {f : Nat → Option Int} (h : Mu w b f m) : b < w.heap.size := by
  obtain ⟨D, h, _⟩ := h
  exact h.lt
theorem Mu.but {w w' : World} {S : Nat → Prop} {b m : Nat} {f : Nat → Option Int} (h : Mu w b f m) (hb : But S w w') (hn : ¬ S b) : Mu w' b f m := by
  have hlt := h.lt
  obtain ⟨D, ⟨es, clock, h1, h2⟩, hf⟩ := h
  exact ⟨D, ⟨es, clock, (hb.block b hlt hn).trans h1, h2⟩, hf⟩
theorem Mu.made (w : World) : Mu (w.alloc (.map #[] 0)) w.heap.size (fun _ => none) 0 :=
  ⟨.map [], World.ownsMap_made w Try.prog 30 raw, fun _ _ => rfl⟩

theorem zero3 (w : World) : (zeroValue 3).run Try.prog w = .ok (.int .i64 0) w := by kernel_rfl
/-- The datum's own entry, where there is one. -/
theorem at_some {w : World} {b n : Nat} {D : DataW Value} (h : w.ownsMap Try.prog 30 raw b n D) {i : Nat} (hi : InU i) :
    (Maps.has D (key i) = false ∧ valAt D i = none) ∨ ∃ v, Maps.has D (key i) = true ∧ valAt D i = some v ∧ ∀ z, D.atKey (key i) z = .held v := by
  cases hh : Maps.has D (key i)
  · refine .inl ⟨rfl, ?_⟩
    unfold valAt
    rw [atKey_of_not_has hh]
  · refine .inr ?_
    obtain ⟨es, clock, hb, F, _, rfl⟩ := h
    have : ∃ v, ∀ z, (DataW.map ((es.toList.map (WideElems.rg Try.prog 30 raw)).foldr DataW.insert [])).atKey (key i) z = .held v := by
      rcases Maps.fit_look true keyed Try.underlying55 (zero3 w) hb F (key_of hi) with ⟨_, _, hat⟩ | ⟨e0, y, _, _, _, hRv, hat, _⟩
      · rw [Maps.has_false_of_atKey hat] at hh
        cases hh
      · have e := raw_inv hRv
        exact ⟨e0.val, fun z => by rw [hat z, e]⟩
    obtain ⟨v, hv⟩ := this
    exact ⟨v, rfl, by unfold valAt; rw [hv], hv⟩
theorem has_iff {w : World} {b n : Nat} {D : DataW Value} (h : w.ownsMap Try.prog 30 raw b n D) {i : Nat} (hi : InU i) : Maps.has D (key i) = (valAt D i).isSome := by
  rcases at_some h hi with ⟨h1, h2⟩ | ⟨v, h1, h2, _⟩
  · rw [h1, h2]; rfl
  · rw [h1, h2]; rfl

section
variable {w : World} {b m : Nat} {f : Nat → Option Int}
theorem got {n : Nat} {D : DataW Value} (h : w.ownsMap Try.prog 30 raw b n D) {i : Nat} (hi : InU i) {z v : Value} {ps : List MemPlace} (hv : raw v = some (D.atKey (key i) (.held z), ps)) : v = (valAt D i).getD z := by
  have e0 := raw_inv hv
  rcases at_some h hi with ⟨h1, h2⟩ | ⟨u, h1, h2, h3⟩
  · rw [atKey_of_not_has h1] at e0
    injection e0 with e0
    rw [h2]
    exact e0.symm
  · rw [h3] at e0
    injection e0 with e0
    rw [h2]
    exact e0.symm
theorem Mu.look_ok (h : Mu w b f m) {i : Nat} (hi : InU i) : (Instr.lookup 55 (.map (some b)) (.int .u64 (i : Int)) true).run Try.prog w = .ok (.tuple #[.int .i64 ((f i).getD 0), .bool (f i).isSome]) w := by
  obtain ⟨D, h, hf⟩ := h
  obtain ⟨v, ps, hrun, hv⟩ := h.look_ok keyed Try.underlying55 (zero3 w) (show raw (.int .i64 0) = some (.held (.int .i64 0), []) from rfl) (key_of hi)
  have e1 : v = .int .i64 ((f i).getD 0) := by
    rw [got h hi hv, hf i hi]
    cases f i <;> rfl
  have e2 : Maps.has D (key i) = (f i).isSome := by
    rw [has_iff h hi, hf i hi]
    cases f i <;> rfl
  subst e1
  rw [e2] at hrun
  exact hrun

theorem but_turned {w' : World} (h : w.mapTurned w' b) : But (fun k => k = b) w w' := by
  have g := h.grown
  exact ⟨g.os, g.tape, g.output, g.size, fun k hk hn => g.block k hk (fun e => hn (by injection e))⟩
def upd (f : Nat → Option Int) (i : Nat) (v : Int) : Nat → Option Int := fun j => if j = i then some v else f j
theorem valAt_put {D : DataW Value} (hD : IsMap D) (i : Nat) (v : Value) (j : Nat) : valAt (D.put (key i) (.held v)) j = if j = i then some v else valAt D j := by
  unfold valAt
  by_cases e : j = i
  · subst e
    rw [atKey_put_same hD (key_lit _), if_pos rfl]
  · rw [atKey_put_other (key_ne e), if_neg e]
theorem Mu.store (h : Mu w b f m) (hm : m < 1000000) {i : Nat} (hi : InU i) (v : Int) :
    ∃ w', (Instr.mapUpdate 55 (.map (some b)) (.int .u64 (i : Int)) (.int .i64 v)).run Try.prog w = .ok () w' ∧ Mu w' b (upd f i v) (m + 1) ∧ But (fun k => k = b) w w' := by
  obtain ⟨D, h, hf⟩ := h
  obtain ⟨w', hrun, hown, ht'⟩ := h.store keyed Try.underlying55 (show m < maxLen by unfold maxLen; omega) (key_of hi) (show raw (.int .i64 v) = some (.held (.int .i64 v), []) from rfl)
  refine ⟨w', hrun, ⟨D.put (key i) (.held (.int .i64 v)), hown, fun j hj => ?_⟩, but_turned ht'⟩
  rw [valAt_put h.isMap, hf j hj]
  unfold upd
  split <;> rfl
end

/-- The numbers rise; none is nought; none is beyond the last. -/
structure Good (s : NS) : Prop where
  root : s.root.n = 7
  len : s.recs.length ≤ 7
  rise : s.recs.Pairwise (fun a b => a.seq < b.seq)
  pos : ∀ r ∈ s.recs, 1 ≤ r.seq ∧ r.seq ≤ s.last
/-- What was seen is what is. -/
def Seen (f : Nat → Option Int) (s : NS) : Prop := ∀ i v, f i = some v → i ≤ s.last ∧ ∀ r ∈ s.recs, r.seq = i → r.lba = v

theorem Good.add {s : NS} (h : Good s) (hl : s.recs.length < 7) (k lba : Int) (d : List (BitVec 8)) : Good (s.add k lba d) := by
  refine ⟨h.root, by show (s.recs ++ [_]).length ≤ 7; simp; omega, ?_, fun r hr => ?_⟩
  · show (s.recs ++ [_]).Pairwise _
    refine List.pairwise_append.2 ⟨h.rise, List.pairwise_singleton _ _, fun a ha b hb => ?_⟩
    simp at hb; subst hb
    have := (h.pos a ha).2
    show a.seq < s.last + 1
    omega
  · rcases List.mem_append.1 hr with hr | hr
    · have := h.pos r hr
      exact ⟨this.1, by show r.seq ≤ s.last + 1; omega⟩
    · simp at hr; subst hr
      exact ⟨by show 1 ≤ s.last + 1; omega, Nat.le_refl _⟩
theorem Seen.add {f : Nat → Option Int} {s : NS} (h : Seen f s) (k lba : Int) (d : List (BitVec 8)) : Seen f (s.add k lba d) := by
  intro i v hi
  have h1 := h i v hi
  refine ⟨by show i ≤ s.last + 1; omega, fun r hr e => ?_⟩
  rcases List.mem_append.1 hr with hr | hr
  · exact h1.2 r hr e
  · simp at hr; subst hr
    have : s.last + 1 = i := e
    omega
theorem Good.commit {s : NS} (h : Good s) (d : Int) (q : Nat) : Good (s.commit d q) :=
  ⟨h.root, Nat.le_trans (List.length_filter_le _ _) h.len, h.rise.filter _, fun r hr => h.pos r (List.mem_filter.1 hr).1⟩
theorem Seen.commit {f : Nat → Option Int} {s : NS} (h : Seen f s) (d : Int) (q : Nat) : Seen f (s.commit d q) := fun i v hi => ⟨(h i v hi).1, fun r hr => (h i v hi).2 r (List.mem_filter.1 hr).1⟩
theorem Good.once {s : NS} (h : Good s) {a b : Rr} (ha : a ∈ s.recs) (hb : b ∈ s.recs) (e : a.seq = b.seq) : a = b := by
  obtain ⟨i, hi, rfl⟩ := List.mem_iff_getElem.1 ha
  obtain ⟨j, hj, rfl⟩ := List.mem_iff_getElem.1 hb
  have hp := List.pairwise_iff_getElem.1 h.rise
  rcases Nat.lt_trichotomy i j with hij | hij | hij
  · have := hp i j hi hj hij; omega
  · subst hij; rfl
  · have := hp j i hj hi hij; omega
theorem Seen.upd {f : Nat → Option Int} {s : NS} (h : Seen f s) (hg : Good s) {r : Rr} (hr : r ∈ s.recs) : Seen (upd f r.seq r.lba) s := by
  intro i v hi
  unfold Ytolienlbdfbdeaa.upd at hi
  split at hi
  · rename_i e
    subst e
    injection hi with hi
    subst hi
    exact ⟨(hg.pos r hr).2, fun q hq e => by rw [hg.once hq hr e]⟩
  · exact h i v hi
theorem Good.next {s : NS} (h : Good s) {j : Nat} (hj : j < s.recs.length) : ∀ r ∈ s.recs.drop (j + 1), s.recs[j].seq < r.seq := by
  intro r hr
  obtain ⟨i, hi, rfl⟩ := List.mem_iff_getElem.1 hr
  rw [List.getElem_drop]
  rw [List.length_drop] at hi
  exact List.pairwise_iff_getElem.1 h.rise j (j + 1 + i) hj (by omega) (by omega)

/-- The memory, and the map of what was seen. -/
structure Rise (B : Nat) (w0 w : World) (g : Nat) (T : Nat → Prop) (s : NS) (u : Int) (sb : Nat) (f : Nat → Option Int) (m k : Nat) : Prop where
  sys : Sys B w0 w g B T s u (-1)
  good : Good s
  mp : Mu w sb f m
  sbo : ¬ T sb ∧ ¬ sb = B ∧ B ≤ sb
  seen : Seen f s
  last : s.last ≤ k
  ub : 0 ≤ u ∧ u ≤ k + 1
  mb : m ≤ 7 * k

section
variable {B : Nat} {w0 w w' : World} {g : Nat} {T T' : Nat → Prop} {s s' : NS} {u u' : Int} {sb m k : Nat} {f : Nat → Option Int}
theorem Rise.up (h : Rise B w0 w g T s u sb f m k) (hb : Below w.heap.size w w') : Rise B w0 w' g T s u sb f m k :=
  { h with sys := h.sys.up hb, mp := h.mp.but (S := fun _ => False) (But.of_below hb) (fun h => h) }
theorem Rise.drewN (h : Rise B w0 w g T s u sb f m k) (n : Nat) : Rise B w0 (w.drewN n) g T s u sb f m k :=
  h.up ⟨rfl, rfl, rfl, Nat.le_refl _, fun _ _ => rfl⟩
/-- Behind an operation of the memory. -/
theorem Rise.go (h : Rise B w0 w g T s u sb f m k) (hs : Sys B w0 w' g B T' s' u' (-1)) (hT : ∀ j, T' j → T j ∨ w.heap.size ≤ j) (hb : But (fun j => T j ∨ j = B) w w') (hg : Good s') (hf : Seen f s') (hl : s'.last ≤ k + 1) (hu : 0 ≤ u' ∧ u' ≤ k + 1 + 1) : Rise B w0 w' g T' s' u' sb f m (k + 1) :=
  ⟨hs, hg, h.mp.but hb (fun e => e.elim h.sbo.1 h.sbo.2.1), ⟨fun ht => (hT sb ht).elim h.sbo.1 (fun h' => by have := h.mp.lt; omega), h.sbo.2⟩, hf, hl, by have := hu; omega, by have := h.mb; omega⟩
end

end Go.Proofs.Ytolienlbdfbdeaa
