/-
  TEXTS JOINED: Map, Runs, Disk.
-/
import Derived.Test.YtplmdmchkaacoaaGreatJ01
import Derived.Maps.OwnSet
import Derived.Maps.Ext
import Derived.Lib.SlKeysI
import Derived.MapFrom

/-
  A MAP KEYED BY int AS A FUNCTION: what stands at each key, as the model holds it. Made, read, written, emptied; carried; how many entries it can have.
-/
namespace Go.Proofs.YtplmdmchkaacoaaGreat
open Go.RowKit Go.Maps Go.MapKept Go.ChangeMaps
set_option linter.unusedVariables false
set_option maxRecDepth 100000

/-- An element reads as itself. -/
def raw (v : Value) : Option (DataW Value × List MemPlace) := some (.held v, [])
theorem raw_inv {v : Value} {d : DataW Value} {ps : List MemPlace} (h : raw v = some (d, ps)) : d = .held v := by
  unfold raw at h
  injection h with h
  injection h with h1 h2
  exact h1.symm
theorem keyed : Keyed Tryz.prog 3 := int_keyed Tryz.underlying3
/-- What reads as this key. -/
abbrev key (i : Int) : Lit := .int .i64 i
def In64 (i : Int) : Prop := -9223372036854775808 ≤ i ∧ i ≤ 9223372036854775807
theorem key_of {i : Int} (h : In64 i) : keyOf Tryz.prog 3 (.int .i64 i) = some (key i) :=
  keyOf_int_mk Tryz.underlying3 (by unfold In64 at h; simp [Lit.wf, IntKind.min, IntKind.max, IntKind.signed, IntKind.bits]; omega)
theorem key_lit (i : Int) : WideAt.IsKeyLit (key i) := by trivial
theorem key_ne {i j : Int} (h : ¬ i = j) : key i ≠ key j := by
  intro e
  injection e with _ e
  exact h e

/-- What stands at key i of the datum. -/
def valAt (D : DataW Value) (i : Int) : Option Value := match D.atKey (key i) .nil with | .held v => some v | _ => none

/-- Block b is a map that holds f. -/
def Mp (w : World) (b : Nat) (f : Int → Option Value) : Prop :=
  ∃ D : DataW Value, w.ownsMap Tryz.prog 3 raw b (Maps.size D) D ∧ (∀ i, f i = valAt D i) ∧ (∀ i, f i ≠ none → In64 i)

theorem Mp.lt {w : World} {b : Nat} {f : Int → Option Value} (h : Mp w b f) : b < w.heap.size := by
  obtain ⟨D, h, _⟩ := h
  exact h.lt
theorem Mp.block {w w' : World} {b : Nat} {f : Int → Option Value} (h : Mp w b f) (hb : w'.heap[b]? = w.heap[b]?) : Mp w' b f := by
  obtain ⟨D, ⟨es, clock, h1, h2⟩, hf⟩ := h
  exact ⟨D, ⟨es, clock, hb.trans h1, h2⟩, hf⟩
theorem Mp.but {w w' : World} {S : Nat → Prop} {b : Nat} {f : Int → Option Value} (h : Mp w b f) (hb : But S w w') (hn : ¬ S b) : Mp w' b f := h.block (hb.block b h.lt hn)
theorem Mp.made (w : World) : Mp (w.alloc (.map #[] 0)) w.heap.size (fun _ => none) :=
  ⟨.map [], World.ownsMap_made w Tryz.prog 3 raw, fun _ => rfl, fun _ h => absurd rfl h⟩
theorem Mp.in64 {w : World} {b : Nat} {f : Int → Option Value} (h : Mp w b f) {i : Int} (hi : f i ≠ none) : In64 i := by
  obtain ⟨D, _, _, h⟩ := h
  exact h i hi

/-- The datum's own entry, where there is one. -/
theorem at_some {w : World} {b n : Nat} {D : DataW Value} (h : w.ownsMap Tryz.prog 3 raw b n D) {i : Int} (hi : In64 i) :
    (Maps.has D (key i) = false ∧ valAt D i = none) ∨ ∃ v, Maps.has D (key i) = true ∧ valAt D i = some v ∧ ∀ z, D.atKey (key i) z = .held v := by
  have hz : (zeroValue 3).run Tryz.prog w = .ok (.int .i64 0) w := by kernel_rfl
  cases hh : Maps.has D (key i)
  · refine .inl ⟨rfl, ?_⟩
    unfold valAt
    rw [atKey_of_not_has hh]
  · refine .inr ?_
    obtain ⟨es, clock, hb, F, _, rfl⟩ := h
    obtain ⟨p, hp, hpk⟩ := List.any_eq_true.1 hh
    have : ∃ v, ∀ z, (DataW.map ((es.toList.map (WideElems.rg Tryz.prog 3 raw)).foldr DataW.insert [])).atKey (key i) z = .held v := by
      have hz : (zeroValue 57).run Tryz.prog w = .ok (.slice none 0 0) w := by kernel_rfl
      rcases Maps.fit_look true keyed Tryz.underlying52 hz hb F (key_of hi) with ⟨_, _, hat⟩ | ⟨e0, y, _, _, _, hRv, hat, _⟩
      · rw [Maps.has_false_of_atKey hat] at hh
        cases hh
      · have e := raw_inv hRv
        exact ⟨e0.val, fun z => by rw [hat z, e]⟩
    obtain ⟨v, hv⟩ := this
    exact ⟨v, rfl, by unfold valAt; rw [hv], hv⟩

theorem has_iff {w : World} {b n : Nat} {D : DataW Value} (h : w.ownsMap Tryz.prog 3 raw b n D) {i : Int} (hi : In64 i) : Maps.has D (key i) = (valAt D i).isSome := by
  rcases at_some h hi with ⟨h1, h2⟩ | ⟨v, h1, h2, _⟩
  · rw [h1, h2]; rfl
  · rw [h1, h2]; rfl

section
variable {w : World} {b : Nat} {f : Int → Option Value} {t e : TypeId}

theorem got {n : Nat} {D : DataW Value} (h : w.ownsMap Tryz.prog 3 raw b n D) {i : Int} (hi : In64 i) {z v : Value} {ps : List MemPlace} (hv : raw v = some (D.atKey (key i) (.held z), ps)) : v = (valAt D i).getD z := by
  have e0 := raw_inv hv
  rcases at_some h hi with ⟨h1, h2⟩ | ⟨u, h1, h2, h3⟩
  · rw [atKey_of_not_has h1] at e0
    injection e0 with e0
    rw [h2]
    exact e0.symm
  · rw [h3] at e0
    injection e0 with e0
    rw [h2]
    exact e0.symm

theorem Mp.look (h : Mp w b f) (ht : Tryz.prog.underlying t = some (.map 3 e)) {z : Value} (hz : (zeroValue e).run Tryz.prog w = .ok z w) {i : Int} (hi : In64 i) {u : Value} (hu : (f i).getD z = u) :
    (Instr.lookup t (.map (some b)) (.int .i64 i) false).run Tryz.prog w = .ok u w := by
  obtain ⟨D, h, hf, _⟩ := h
  obtain ⟨v, ps, hrun, hv⟩ := h.lookup keyed ht hz (show raw z = some (.held z, []) from rfl) (key_of hi)
  have e1 : v = u := by rw [got h hi hv, ← hf i]; exact hu
  subst e1
  exact hrun

theorem Mp.look_ok (h : Mp w b f) (ht : Tryz.prog.underlying t = some (.map 3 e)) {z : Value} (hz : (zeroValue e).run Tryz.prog w = .ok z w) {i : Int} (hi : In64 i) {u : Value} (hu : (f i).getD z = u) {ok : Bool} (hok : (f i).isSome = ok) :
    (Instr.lookup t (.map (some b)) (.int .i64 i) true).run Tryz.prog w = .ok (.tuple #[u, .bool ok]) w := by
  obtain ⟨D, h, hf, _⟩ := h
  obtain ⟨v, ps, hrun, hv⟩ := h.look_ok keyed ht hz (show raw z = some (.held z, []) from rfl) (key_of hi)
  have e1 : v = u := by rw [got h hi hv, ← hf i]; exact hu
  have e2 : Maps.has D (key i) = ok := by rw [has_iff h hi, ← hf i]; exact hok
  subst e1
  subst e2
  exact hrun

/-- Only this block has turned. -/
theorem but_turned {w' : World} (h : w.mapTurned w' b) : But (fun k => k = b) w w' := by
  have g := h.grown
  exact ⟨g.os, g.tape, g.output, g.size, fun k hk hn => g.block k hk (fun e => hn (by injection e))⟩

def upd (f : Int → Option Value) (i : Int) (v : Value) : Int → Option Value := fun j => if j = i then some v else f j

theorem valAt_put {D : DataW Value} (hD : IsMap D) (i : Int) (v : Value) (j : Int) : valAt (D.put (key i) (.held v)) j = if j = i then some v else valAt D j := by
  unfold valAt
  by_cases e : j = i
  · subst e
    rw [atKey_put_same hD (key_lit _), if_pos rfl]
  · rw [atKey_put_other (key_ne e), if_neg e]

/-- No two of the keys are one. -/
theorem keys_nodup {n : Nat} {D : DataW Value} (h : w.ownsMap Tryz.prog 3 raw b n D) : (intKeys D).Nodup ∧ (∀ x, x ∈ intKeys D ↔ (valAt D x).isSome = true ∧ In64 x) ∧ (intKeys D).length = Maps.size D := by
  obtain ⟨es, hD, hpw, _⟩ := h.entries keyed
  obtain ⟨es', hD', hk⟩ := h.keysOf
  obtain rfl : es = es' := by rw [hD] at hD'; simpa using hD'
  subst hD
  have hk' : ∀ p ∈ es, ∃ x, p.1 = key x ∧ In64 x := by
    intro p hp
    obtain ⟨v, hv⟩ := hk p hp
    obtain ⟨x, _, hx, hw⟩ := Maps.keyOf_i64 Tryz.underlying3 hv
    refine ⟨x, hx, ?_⟩
    simp [Lit.wf, IntKind.min, IntKind.max, IntKind.signed, IntKind.bits] at hw
    unfold In64
    omega
  refine ⟨?_, ?_, ?_⟩
  · show (es.map fun p => intOf p.1).Nodup
    refine List.pairwise_map.2 (hpw.imp_of_mem fun {p q} hp' hq' hne e => hne ?_)
    obtain ⟨a, ha, _⟩ := hk' p hp'
    obtain ⟨c, hc, _⟩ := hk' q hq'
    rw [ha, hc] at e ⊢
    exact congrArg _ e
  · intro x
    show x ∈ (es.map fun p => intOf p.1) ↔ _
    rw [List.mem_map]
    constructor
    · rintro ⟨p, hp, rfl⟩
      obtain ⟨a, ha, ha64⟩ := hk' p hp
      have e : intOf p.1 = a := by rw [ha]; rfl
      rw [e]
      refine ⟨?_, ha64⟩
      rw [← has_iff h ha64, has_eq, List.any_eq_true]
      exact ⟨p, hp, by rw [ha]; exact WideAt.sameKey_self (key_lit _)⟩
    · rintro ⟨hx, h64⟩
      rw [← has_iff h h64, has_eq, List.any_eq_true] at hx
      obtain ⟨p, hp, hs⟩ := hx
      refine ⟨p, hp, ?_⟩
      rw [WideAt.sameKey_eq hs]
      rfl
  · show (es.map fun p => intOf p.1).length = es.length
    simp

theorem nodup_le : ∀ (S : Nat) (l : List Int), l.Nodup → (∀ x ∈ l, 0 ≤ x ∧ x < (S : Int)) → l.length ≤ S := by
  intro S
  induction S with
  | zero =>
    intro l _ h
    cases l with
    | nil => simp
    | cons x r =>
      have := h x (by simp)
      omega
  | succ S ih =>
    intro l hn h
    by_cases hm : (S : Int) ∈ l
    · have h1 := ih (l.erase (S : Int)) (hn.erase _) (fun x hx => by
        have h2 := (hn.mem_erase_iff).1 hx
        have := h x h2.2
        have h3 := h2.1
        omega)
      rw [List.length_erase_of_mem hm] at h1
      omega
    · have := ih l hn (fun x hx => by
        have h1 := h x hx
        have h2 : x ≠ (S : Int) := fun e => hm (e ▸ hx)
        omega)
      omega

/-- The keys lie below S. -/
def Under (f : Int → Option Value) (S : Nat) : Prop := ∀ i, f i ≠ none → 0 ≤ i ∧ i < (S : Int)
theorem size_under {n : Nat} {D : DataW Value} (h : w.ownsMap Tryz.prog 3 raw b n D) (hf : ∀ i, f i = valAt D i) {S : Nat} (hu : Under f S) : Maps.size D ≤ S := by
  obtain ⟨h1, h2, h3⟩ := keys_nodup h
  rw [← h3]
  refine nodup_le S _ h1 (fun x hx => hu x ?_)
  rw [hf x]
  have := ((h2 x).1 hx).1
  intro e
  rw [e] at this
  cases this

theorem Mp.store (h : Mp w b f) (ht : Tryz.prog.underlying t = some (.map 3 e)) {S : Nat} (hu : Under f S) (hS : S < maxLen) {i : Int} (hi : In64 i) (v : Value) :
    ∃ w', (Instr.mapUpdate t (.map (some b)) (.int .i64 i) v).run Tryz.prog w = .ok () w' ∧ Mp w' b (upd f i v) ∧ But (fun k => k = b) w w' := by
  obtain ⟨D, h, hf, h64⟩ := h
  have hs := size_under h hf hu
  obtain ⟨w', hrun, hown, ht'⟩ := h.store keyed ht (Nat.lt_of_le_of_lt hs hS) (key_of hi) (show raw v = some (.held v, []) from rfl)
  refine ⟨w', hrun, ⟨D.put (key i) (.held v), ?_, ?_, ?_⟩, but_turned ht'⟩
  · obtain ⟨es, clock, hb, F, _, hD⟩ := hown
    refine ⟨es, clock, hb, F, ?_, hD⟩
    rw [hD]
    simp [Maps.size, length_sorted]
  · intro j
    rw [valAt_put h.isMap, ← hf j]
    rfl
  · intro j hj
    unfold upd at hj
    split at hj
    · rename_i e0; subst e0; exact hi
    · exact h64 j hj

theorem Mp.clear (h : Mp w b f) (ht : Tryz.prog.underlying t = some (.map 3 e)) :
    ∃ w', (∀ ty, (Builtin.clear_ #[t] ty #[.map (some b)]).run Tryz.prog w = .ok (.tuple #[]) w') ∧ Mp w' b (fun _ => none) ∧ But (fun k => k = b) w w' := by
  obtain ⟨D, ⟨es, clock, hb, F, _, _⟩, _⟩ := h
  refine ⟨setBlock w b (.map #[] clock), fun ty => ?_, ⟨.map [], ⟨#[], clock, heap_setBlock_same hb _, ⟨by simp, ?_, by simp⟩, by simp [Maps.size], rfl⟩, fun _ => rfl, fun _ h => absurd rfl h⟩, but_turned ⟨es, clock, #[], clock, hb, rfl⟩⟩
  · simp [Builtin.clear_, run_underlying ht, MapKept.run_getObj_map hb, MapKept.run_setObj_map _ hb, Result.andThen]
    rfl
  · exact stamped_empty clock
end

end Go.Proofs.YtplmdmchkaacoaaGreat

/-
  min AND max OF TWO.
-/
namespace Go.Proofs.YtplmdmchkaacoaaGreat
open Go.RowKit
set_option linter.unusedVariables false

theorem run_min2 {P : Program} (w : World) (ts : Array TypeId) (t : TypeId) (x y X : Int) (h : X = min x y) : (Builtin.min_ ts t #[.int .i64 x, .int .i64 y]).run P w = .ok (.int .i64 X) w := by
  have e : X = if y < x then y else x := by split <;> omega
  rw [e]
  simp [Builtin.min_, Builtin.min2]
theorem run_max2 {P : Program} (w : World) (ts : Array TypeId) (t : TypeId) (x y X : Int) (h : X = max x y) : (Builtin.max_ ts t #[.int .i64 x, .int .i64 y]).run P w = .ok (.int .i64 X) w := by
  have e : X = if x < y then y else x := by split <;> omega
  rw [e]
  simp [Builtin.max_, Builtin.max2]

end Go.Proofs.YtplmdmchkaacoaaGreat

/-
  A DISK AS IT LIES IN MEMORY; THE WALKS OF New, Sectors, Dead, Fail, FailAt, has AND operate.
-/
namespace Go.Proofs.YtplmdmchkaacoaaGreat
open Go.RowKit Go.Maps
set_option linter.unusedVariables false
set_option maxRecDepth 100000

abbrev Bytes := List (BitVec 8)

/-- What a disk is, whatever its place in memory. -/
structure DS where
  sectors : Nat
  size : Nat
  on : Int → Option Bytes
  wait : Int → Option Bytes
  writes : Int → Int
  dead : Bool
  failAt : Int

/-- A map of rows: at each key a slice that holds these bytes; its row is one of T's, and none of Z's. -/
def Sect (w : World) (T Z : Nat → Prop) (size : Nat) (f : Int → Option Value) (c : Int → Option Bytes) : Prop :=
  ∀ i, (f i = none ∧ c i = none) ∨ ∃ A cap l, f i = some (.slice A size cap) ∧ c i = some l ∧ Has w A size l ∧ (A = none → cap = 0) ∧ ∀ x, A = some x → T x.block ∧ ¬ Z x.block

/-- The disk's cells. -/
def cells (p bd bw bn : Nat) (s : DS) : Array Value :=
  #[.pointer (some ⟨p, 0, none⟩), .int .i64 (s.sectors : Int), .int .i64 (s.size : Int), .map (some bd), .map (some bw), .map (some bn), .bool s.dead, .int .i64 s.failAt]

/-- The disk at block g, its maps at bd, bw, bn, its power at p; T: the blocks that are its own. -/
structure Lies (w : World) (g p : Nat) (T : Nat → Prop) (s : DS) (bd bw bn : Nat) (fd fw fn : Int → Option Value) : Prop where
  at_ : At w g (cells p bd bw bn s) 192
  on : Mp w bd fd
  wait : Mp w bw fw
  writes : Mp w bn fn
  rowsOn : Sect w T (fun k => k = g ∨ k = bd ∨ k = bw ∨ k = bn) s.size fd s.on
  rowsWait : Sect w T (fun k => k = g ∨ k = bd ∨ k = bw ∨ k = bn) s.size fw s.wait
  counts : ∀ i, (fn i).getD (.int .i64 0) = .int .i64 (s.writes i)
  apart : bd ≠ bw ∧ bd ≠ bn ∧ bw ≠ bn ∧ g ≠ bd ∧ g ≠ bw ∧ g ≠ bn
  own : T g ∧ T bd ∧ T bw ∧ T bn
  lt : ∀ k, T k → k < w.heap.size
  np : ¬ T p
  underOn : Under fd s.sectors
  underWait : Under fw s.sectors
  underWrites : Under fn s.sectors
  small : s.sectors ≤ 1000000000 ∧ s.size ≤ 1000000

def Dk (w : World) (g p : Nat) (T : Nat → Prop) (s : DS) : Prop := ∃ bd bw bn fd fw fn, Lies w g p T s bd bw bn fd fw fn

theorem Sect.but {w w' : World} {T Z S : Nat → Prop} {size : Nat} {f : Int → Option Value} {c : Int → Option Bytes} (h : Sect w T Z size f c) (hb : But S w w') (hn : ∀ k, T k → ¬ Z k → ¬ S k) : Sect w' T Z size f c := by
  intro i
  rcases h i with h | ⟨A, cap, l, h1, h2, h3, h4, h5⟩
  · exact .inl h
  · exact .inr ⟨A, cap, l, h1, h2, h3.but hb (fun x hx => hn _ (h5 x hx).1 (h5 x hx).2), h4, h5⟩
theorem Sect.mono {w : World} {T T' Z : Nat → Prop} {size : Nat} {f : Int → Option Value} {c : Int → Option Bytes} (h : Sect w T Z size f c) (hT : ∀ k, T k → T' k) : Sect w T' Z size f c := by
  intro i
  rcases h i with h | ⟨A, cap, l, h1, h2, h3, h4, h5⟩
  · exact .inl h
  · exact .inr ⟨A, cap, l, h1, h2, h3, h4, fun x hx => ⟨hT _ (h5 x hx).1, (h5 x hx).2⟩⟩
theorem Sect.none (w : World) (T Z : Nat → Prop) (size : Nat) : Sect w T Z size (fun _ => Option.none) (fun _ => Option.none) := fun _ => .inl ⟨rfl, rfl⟩

theorem Lies.but {w w' : World} {g p : Nat} {T S : Nat → Prop} {s : DS} {bd bw bn : Nat} {fd fw fn : Int → Option Value} (h : Lies w g p T s bd bw bn fd fw fn) (hb : But S w w') (hn : ∀ k, T k → ¬ S k) : Lies w' g p T s bd bw bn fd fw fn :=
  { h with
    at_ := h.at_.but hb (hn _ h.own.1)
    on := h.on.but hb (hn _ h.own.2.1)
    wait := h.wait.but hb (hn _ h.own.2.2.1)
    writes := h.writes.but hb (hn _ h.own.2.2.2)
    rowsOn := h.rowsOn.but hb (fun k hk _ => hn k hk)
    rowsWait := h.rowsWait.but hb (fun k hk _ => hn k hk)
    lt := fun k hk => Nat.lt_of_lt_of_le (h.lt k hk) hb.size }
theorem Dk.but {w w' : World} {g p : Nat} {T S : Nat → Prop} {s : DS} (h : Dk w g p T s) (hb : But S w w') (hn : ∀ k, T k → ¬ S k) : Dk w' g p T s := by
  obtain ⟨bd, bw, bn, fd, fw, fn, h⟩ := h
  exact ⟨bd, bw, bn, fd, fw, fn, h.but hb hn⟩
theorem Dk.lt {w : World} {g p : Nat} {T : Nat → Prop} {s : DS} (h : Dk w g p T s) : ∀ k, T k → k < w.heap.size := by
  obtain ⟨bd, bw, bn, fd, fw, fn, h⟩ := h
  exact h.lt
theorem Dk.np {w : World} {g p : Nat} {T : Nat → Prop} {s : DS} (h : Dk w g p T s) : ¬ T p := by
  obtain ⟨bd, bw, bn, fd, fw, fn, h⟩ := h
  exact h.np
theorem Dk.own {w : World} {g p : Nat} {T : Nat → Prop} {s : DS} (h : Dk w g p T s) : T g := by
  obtain ⟨bd, bw, bn, fd, fw, fn, h⟩ := h
  exact h.own.1
/-- Nothing that was there has turned but what lies above. -/
theorem Dk.below {w w' : World} {g p : Nat} {T : Nat → Prop} {s : DS} (h : Dk w g p T s) (hb : Below w.heap.size w w') : Dk w' g p T s :=
  h.but (S := fun _ => False) (But.of_below hb) (fun _ _ h => h)
theorem Dk.drewN {w : World} {g p : Nat} {T : Nat → Prop} {s : DS} (h : Dk w g p T s) (n : Nat) : Dk (w.drewN n) g p T s :=
  h.but (S := fun _ => False) ((But.refl _ _).drewN n) (fun _ _ h => h)

/-- One of the cells written. -/
theorem Lies.put {w : World} {g p : Nat} {T : Nat → Prop} {s s' : DS} {bd bw bn : Nat} {fd fw fn : Int → Option Value} (h : Lies w g p T s bd bw bn fd fw fn) {j : Nat} {v : Value}
    (hc : (cells p bd bw bn s).setIfInBounds j v = cells p bd bw bn s') (h1 : s'.sectors = s.sectors) (h2 : s'.size = s.size) (h3 : s'.on = s.on) (h4 : s'.wait = s.wait) (h5 : s'.writes = s.writes) :
    Lies (w.setCell ⟨g, j, none⟩ v) g p T s' bd bw bn fd fw fn := by
  have hb : But (fun k => k = g) w (w.setCell ⟨g, j, none⟩ v) := But.own w g j v
  obtain ⟨a1, a2, a3, a4, a5, a6⟩ := h.apart
  refine { h with at_ := ?_, on := h.on.but hb (fun e => a4 e.symm), wait := h.wait.but hb (fun e => a5 e.symm), writes := h.writes.but hb (fun e => a6 e.symm), rowsOn := ?_, rowsWait := ?_, counts := ?_, lt := ?_, underOn := ?_, underWait := ?_, underWrites := ?_, small := ?_ }
  · rw [← hc]
    exact h.at_.set j v
  · rw [h2, h3]
    exact h.rowsOn.but hb (fun k _ hk e => hk (.inl e))
  · rw [h2, h4]
    exact h.rowsWait.but hb (fun k _ hk e => hk (.inl e))
  · rw [h5]; exact h.counts
  · intro k hk
    exact Nat.lt_of_lt_of_le (h.lt k hk) hb.size
  · rw [h1]; exact h.underOn
  · rw [h1]; exact h.underWait
  · rw [h1]; exact h.underWrites
  · rw [h1, h2]; exact h.small

def blank (S z : Nat) : DS := ⟨S, z, fun _ => none, fun _ => none, fun _ => 0, false, -1⟩

theorem new_lies (w : World) (p S z : Nat) (X Y : Int) (hp : p < w.heap.size) (hX : X = S) (hY : Y = z) (hsm : S ≤ 1000000000 ∧ z ≤ 1000000) (B : Nat) (hB : w.heap.size = B) :
    ∃ T, Dk ((((w.alloc (.map #[] 0)).alloc (.map #[] 0)).alloc (.map #[] 0)).alloc (.cells #[.pointer (some ⟨p, 0, none⟩), .int .i64 X, .int .i64 Y, .map (some B), .map (some (B + 1)), .map (some (B + 1 + 1)), .bool false, .int .i64 (-1)] 192)) (B + 1 + 1 + 1) p T (blank S z) ∧ (∀ k, T k → B ≤ k) := by
  subst hX hY
  have s1 : (w.alloc (.map #[] 0)).heap.size = B + 1 := by simp [hB]
  have s2 : ((w.alloc (.map #[] 0)).alloc (.map #[] 0)).heap.size = B + 1 + 1 := by simp [hB]
  have s3 : (((w.alloc (.map #[] 0)).alloc (.map #[] 0)).alloc (.map #[] 0)).heap.size = B + 1 + 1 + 1 := by simp [hB]
  have m1 := Mp.made w
  have m2 := Mp.made (w.alloc (.map #[] 0))
  have m3 := Mp.made ((w.alloc (.map #[] 0)).alloc (.map #[] 0))
  rw [hB] at m1
  rw [s1] at m2
  rw [s2] at m3
  have up : ∀ {w : World} {b : Nat} {f : Int → Option Value} (o : Obj), Mp w b f → Mp (w.alloc o) b f := fun o h => h.but (S := fun _ => False) ((But.refl _ _).alloc o) (fun h => h)
  refine ⟨fun k => k = B ∨ k = B + 1 ∨ k = B + 1 + 1 ∨ k = B + 1 + 1 + 1, ⟨B, B + 1, B + 1 + 1, fun _ => none, fun _ => none, fun _ => none, ?_⟩, fun k hk => by omega⟩
  exact
    { at_ := At.new _ 192 s3
      on := up _ (up _ (up _ m1))
      wait := up _ (up _ m2)
      writes := up _ m3
      rowsOn := Sect.none _ _ _ _
      rowsWait := Sect.none _ _ _ _
      counts := fun _ => rfl
      apart := ⟨by omega, by omega, by omega, by omega, by omega, by omega⟩
      own := ⟨by simp, by simp, by simp, by simp⟩
      lt := fun k hk => by simp [hB]; omega
      np := fun h => by omega
      underOn := fun _ h => absurd rfl h
      underWait := fun _ h => absurd rfl h
      underWrites := fun _ h => absurd rfl h
      small := hsm }

set_option maxHeartbeats 400000 in
theorem new_disk (p : Nat) (x y : Int) (S z : Nat) (w : World) (hp : p < w.heap.size) (hS : max x 0 = (S : Int)) (hz : max y 0 = (z : Int)) (hsm : S ≤ 1000000000 ∧ z ≤ 1000000) :
    Calls Tryz.prog 100 #[.pointer (some ⟨p, 0, none⟩), .int .i64 x, .int .i64 y] w fun e w' => ∃ g T, e = .returned (.pointer (some ⟨g, 0, none⟩)) ∧ Dk w' g p T (blank S z) ∧ (∀ k, T k → w.heap.size ≤ k) ∧ Below w.heap.size w w' := by
  have m1 := fun (w : World) => run_max2 (P := Tryz.prog) w #[3, 3] 3 x 0 S hS.symm
  have m2 := fun (w : World) => run_max2 (P := Tryz.prog) w #[3, 3] 3 y 0 z hz.symm
  clear hS hz
  have hmm := @run_makeMap Tryz.prog
  go_enter Tryz.func100, Tryz.ntmps100
  go_wp2
  go_ret
  obtain ⟨T, h1, h2⟩ := new_lies w p S z _ _ hp rfl rfl hsm _ rfl
  exact ⟨_, T, rfl, h1, h2, ((((Below.refl _ _).alloc (Nat.le_refl _) _).alloc (by simp) _).alloc (by simp; omega) _).alloc (by simp; omega) _⟩

section
variable {w : World} {g p : Nat} {T : Nat → Prop} {s : DS}

theorem Lies.cell {bd bw bn : Nat} {fd fw fn : Int → Option Value} (h : Lies w g p T s bd bw bn fd fw fn) :
    w.cell? ⟨g, 0, none⟩ = some (.pointer (some ⟨p, 0, none⟩)) ∧ w.cell? ⟨g, 1, none⟩ = some (.int .i64 (s.sectors : Int)) ∧ w.cell? ⟨g, 2, none⟩ = some (.int .i64 (s.size : Int)) ∧
    w.cell? ⟨g, 3, none⟩ = some (.map (some bd)) ∧ w.cell? ⟨g, 4, none⟩ = some (.map (some bw)) ∧ w.cell? ⟨g, 5, none⟩ = some (.map (some bn)) ∧ w.cell? ⟨g, 6, none⟩ = some (.bool s.dead) ∧ w.cell? ⟨g, 7, none⟩ = some (.int .i64 s.failAt) :=
  ⟨h.at_.cell 0, h.at_.cell 1, h.at_.cell 2, h.at_.cell 3, h.at_.cell 4, h.at_.cell 5, h.at_.cell 6, h.at_.cell 7⟩

theorem fail_any (h : Dk w g p T s) : Calls Tryz.prog 94 #[.pointer (some ⟨g, 0, none⟩)] w fun e w' => e = .returned (.tuple #[]) ∧ Dk w' g p T { s with dead := true } ∧ But (fun k => k = g) w w' := by
  obtain ⟨bd, bw, bn, fd, fw, fn, h⟩ := h
  obtain ⟨c0, c1, c2, c3, c4, c5, c6, c7⟩ := h.cell
  have f6 := h.at_.frozen 6
  have H := Lib.hid h
  clear h c0 c2 c3 c4 c5 c1 c7
  go_enter Tryz.func94, Tryz.ntmps94
  go_wp2
  go_end0
  exact ⟨rfl, ⟨bd, bw, bn, fd, fw, fn, H.out.put rfl rfl rfl rfl rfl rfl⟩, But.own _ _ _ _⟩

/-- There is such a sector. -/
def DS.has (s : DS) (i : Int) : Prop := 0 ≤ i ∧ i < (s.sectors : Int)
instance (s : DS) (i : Int) : Decidable (s.has i) := inferInstanceAs (Decidable (_ ∧ _))

theorem has_any (i : Int) (h : Dk w g p T s) : Calls Tryz.prog 185 #[.pointer (some ⟨g, 0, none⟩), .int .i64 i] w fun e w' => e = .returned (.bool (decide (s.has i))) ∧ w' = w := by
  obtain ⟨bd, bw, bn, fd, fw, fn, h⟩ := h
  obtain ⟨c0, c1, c2, c3, c4, c5, c6, c7⟩ := h.cell
  clear h c0 c2 c3 c4 c5 c6 c7
  by_cases h0 : 0 ≤ i
  · by_cases h1 : i < (s.sectors : Int)
    · rw [decide_eq_true (show s.has i from ⟨h0, h1⟩)]
      go_enter Tryz.func185, Tryz.ntmps185
      go_wp2
      go_ret
      exact ⟨rfl, rfl⟩
    · rw [decide_eq_false (show ¬ s.has i from fun h => h1 h.2)]
      go_enter Tryz.func185, Tryz.ntmps185
      go_wp2
      go_ret
      exact ⟨rfl, rfl⟩
  · rw [decide_eq_false (show ¬ s.has i from fun h => h0 h.1)]
    go_enter Tryz.func185, Tryz.ntmps185
    go_wp2
    go_ret
    exact ⟨rfl, rfl⟩

/-- The disk behind an operation that is the u-th and one. -/
def DS.op (s : DS) (u : Int) : DS := { s with dead := s.dead || (decide (0 ≤ s.failAt) && decide (s.failAt < u + 1)) }
def err (d : Bool) : Int := if d then 8 else 0

set_option maxHeartbeats 400000 in
theorem operate_out (u : Int) (h : Dk w g p T s) (hp : Pw w p u 0) : Calls Tryz.prog 183 #[.pointer (some ⟨g, 0, none⟩)] w fun e w' => e = .panicked out ∧ w' = w := by
  obtain ⟨bd, bw, bn, fd, fw, fn, h⟩ := h
  obtain ⟨c0, c1, c2, c3, c4, c5, c6, c7⟩ := h.cell
  clear h c1 c2 c3 c4 c5 c6
  go_enter Tryz.func183, Tryz.ntmps183
  go_wp2_with fail
  refine (tick_out p u w hp).mono ?_
  rintro e w' ⟨rfl, rfl⟩
  unfold out
  go_wp2
  exact ⟨rfl, rfl, rfl⟩

set_option maxHeartbeats 800000 in
theorem operate_go (u l : Int) (h : Dk w g p T s) (hp : Pw w p u l) (hu : 0 ≤ u ∧ u ≤ 1000000) (hl : ¬ l = 0) (hm : l ≤ 9223372036854775807) :
    Calls Tryz.prog 183 #[.pointer (some ⟨g, 0, none⟩)] w fun e w' => e = .returned (.int .i64 (err (s.op u).dead)) ∧ Dk w' g p T (s.op u) ∧ Pw w' p (u + 1) (less l) ∧ But (fun k => k = g ∨ k = p) w w' := by
  obtain ⟨bd, bw, bn, fd, fw, fn, h⟩ := h
  have hnp := h.np
  have hgp : ¬ g = p := fun e => hnp (e ▸ h.own.1)
  obtain ⟨c0, c1, c2, c3, c4, c5, c6, c7⟩ := h.cell
  have H := Lib.hid h
  have HP := Lib.hid hp
  clear h c1 c2 c3 c4 c5 c6 c7 hp
  go_enter Tryz.func183, Tryz.ntmps183
  go_wp2_with fail
  refine (tick_go p u l w HP.out hu hl hm).mono ?_
  rintro e w1 ⟨rfl, hp1, hb1⟩
  have h1 := H.out.but hb1 (fun k hk e => hnp (by subst e; exact hk))
  have G1 := Lib.hid hgp
  obtain ⟨d0, d1, d2, d3, d4, d5, d6, d7⟩ := h1.cell
  have f6 := h1.at_.frozen 6
  have H1 := Lib.hid h1
  have P1 := Lib.hid hp1
  have B1 := Lib.hid hb1
  clear h1 hp1 hb1 c0 d1 d2 d3 d4 d5 hnp hgp
  by_cases h0 : 0 ≤ s.failAt
  · by_cases h2 : s.failAt < u + 1
    · have E1 := Lib.hid (show s.op u = { s with dead := true } by simp [DS.op, h0, h2])
      go_wp2_with fail
      go_quiet ((go_at_call 187; exact Calls.quiet_of_same (used_any p (u + 1) _ _ P1.out)))
      go_wp2
      go_ret
      rw [E1.out]
      exact ⟨rfl, ⟨bd, bw, bn, fd, fw, fn, (H1.out.but (S := fun _ => False) ((But.refl _ _).drewN _) (fun _ _ h => h)).put rfl rfl rfl rfl rfl rfl⟩, (P1.out.but (S := fun _ => False) ((But.refl _ _).drewN _) (fun h => h)).other G1.out _, (B1.out.mono (fun _ h _ => .inr h)).trans ((But.own _ _ _ _).of_drewN _) (fun _ h _ => .inl h)⟩
    · have E1 := Lib.hid (show s.op u = s by simp [DS.op, h0, h2])
      go_wp2_with fail
      go_quiet ((go_at_call 187; exact Calls.quiet_of_same (used_any p (u + 1) _ _ P1.out)))
      cases hd : s.dead
      · rw [hd] at d6
        go_wp2
        go_ret
        rw [E1.out, hd]
        exact ⟨rfl, Dk.drewN ⟨bd, bw, bn, fd, fw, fn, H1.out⟩ _, P1.out.but (S := fun _ => False) ((But.refl _ _).drewN _) (fun h => h), (B1.out.mono (fun _ h _ => .inr h)).drewN _⟩
      · rw [hd] at d6
        go_wp2
        go_ret
        rw [E1.out, hd]
        exact ⟨rfl, Dk.drewN ⟨bd, bw, bn, fd, fw, fn, H1.out⟩ _, P1.out.but (S := fun _ => False) ((But.refl _ _).drewN _) (fun h => h), (B1.out.mono (fun _ h _ => .inr h)).drewN _⟩
  · have E1 := Lib.hid (show s.op u = s by simp [DS.op, h0])
    have h00 : decide (0 ≤ s.failAt) = false := decide_eq_false h0
    go_wp2_with fail
    go_quiet (fail)
    cases hd : s.dead
    · rw [hd] at d6
      go_wp2
      go_ret
      rw [E1.out, hd]
      exact ⟨rfl, Dk.drewN ⟨bd, bw, bn, fd, fw, fn, H1.out⟩ _, P1.out.but (S := fun _ => False) ((But.refl _ _).drewN _) (fun h => h), (B1.out.mono (fun _ h _ => .inr h)).drewN _⟩
    · rw [hd] at d6
      go_wp2
      go_ret
      rw [E1.out, hd]
      exact ⟨rfl, Dk.drewN ⟨bd, bw, bn, fd, fw, fn, H1.out⟩ _, P1.out.but (S := fun _ => False) ((But.refl _ _).drewN _) (fun h => h), (B1.out.mono (fun _ h _ => .inr h)).drewN _⟩
end

end Go.Proofs.YtplmdmchkaacoaaGreat
