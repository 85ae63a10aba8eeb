/-
  A MAP KEYED BY int AS A FUNCTION: what stands at each key, as the model holds it. Made, read, written, emptied; carried; how many entries it can have.
-/
import Derived.Test.YtcekcbheajcfpaaLists
import Derived.Maps.OwnSet
import Derived.Maps.Ext
import Derived.Lib.SlKeysI
import Derived.MapFrom
import Derived.Maps.RangeWalk
namespace Go.Proofs.Ytcekcbheajcfpaa
open Go.RowKit Go.Maps Go.MapKept Go.ChangeMaps
set_option linter.unusedVariables false

/-- An element reads as itself. -/
def raw (v : Value) : Option (DataW Value × List MemPlace) := some (.held v, [])
theorem raw_inv {v : Value} {d : DataW Value} {ps : List MemPlace} (h : raw v = some (d, ps)) : d = .held v := by
  unfold raw at h
  injection h with h
  injection h with h1 h2
  exact h1.symm
theorem keyed : Keyed Try.prog 3 := int_keyed Try.underlying3
/-- What reads as this key. -/
abbrev key (i : Int) : Lit := .int .i64 i
def In64 (i : Int) : Prop := -9223372036854775808 ≤ i ∧ i ≤ 9223372036854775807
theorem key_of {i : Int} (h : In64 i) : keyOf Try.prog 3 (.int .i64 i) = some (key i) :=
  keyOf_int_mk Try.underlying3 (by unfold In64 at h; simp [Lit.wf, IntKind.min, IntKind.max, IntKind.signed, IntKind.bits]; omega)
theorem key_lit (i : Int) : WideAt.IsKeyLit (key i) := by trivial
theorem key_ne {i j : Int} (h : ¬ i = j) : key i ≠ key j := by
  intro e
  injection e with _ e
  exact h e

/-- What stands at key i of the datum. -/
def valAt (D : DataW Value) (i : Int) : Option Value := match D.atKey (key i) .nil with | .held v => some v | _ => none

/-- Block b is a map that holds f. -/
def Mp (w : World) (b : Nat) (f : Int → Option Value) : Prop :=
  ∃ D : DataW Value, w.ownsMap Try.prog 3 raw b (Maps.size D) D ∧ (∀ i, f i = valAt D i) ∧ (∀ i, f i ≠ none → In64 i)

theorem Mp.lt {w : World} {b : Nat} {f : Int → Option Value} (h : Mp w b f) : b < w.heap.size := by
  obtain ⟨D, h, _⟩ := h
  exact h.lt
theorem Mp.block {w w' : World} {b : Nat} {f : Int → Option Value} (h : Mp w b f) (hb : w'.heap[b]? = w.heap[b]?) : Mp w' b f := by
  obtain ⟨D, ⟨es, clock, h1, h2⟩, hf⟩ := h
  exact ⟨D, ⟨es, clock, hb.trans h1, h2⟩, hf⟩
theorem Mp.but {w w' : World} {S : Nat → Prop} {b : Nat} {f : Int → Option Value} (h : Mp w b f) (hb : But S w w') (hn : ¬ S b) : Mp w' b f := h.block (hb.block b h.lt hn)
theorem Mp.made (w : World) : Mp (w.alloc (.map #[] 0)) w.heap.size (fun _ => none) :=
  ⟨.map [], World.ownsMap_made w Try.prog 3 raw, fun _ => rfl, fun _ h => absurd rfl h⟩
theorem Mp.in64 {w : World} {b : Nat} {f : Int → Option Value} (h : Mp w b f) {i : Int} (hi : f i ≠ none) : In64 i := by
  obtain ⟨D, _, _, h⟩ := h
  exact h i hi

/-- The datum's own entry, where there is one. -/
theorem at_some {w : World} {b n : Nat} {D : DataW Value} (h : w.ownsMap Try.prog 3 raw b n D) {i : Int} (hi : In64 i) :
    (Maps.has D (key i) = false ∧ valAt D i = none) ∨ ∃ v, Maps.has D (key i) = true ∧ valAt D i = some v ∧ ∀ z, D.atKey (key i) z = .held v := by
  have hz : (zeroValue 3).run Try.prog w = .ok (.int .i64 0) w := by kernel_rfl
  cases hh : Maps.has D (key i)
  · refine .inl ⟨rfl, ?_⟩
    unfold valAt
    rw [atKey_of_not_has hh]
  · refine .inr ?_
    obtain ⟨es, clock, hb, F, _, rfl⟩ := h
    obtain ⟨p, hp, hpk⟩ := List.any_eq_true.1 hh
    have : ∃ v, ∀ z, (DataW.map ((es.toList.map (WideElems.rg Try.prog 3 raw)).foldr DataW.insert [])).atKey (key i) z = .held v := by
      have hz : (zeroValue 3).run Try.prog w = .ok (.int .i64 0) w := by kernel_rfl
      rcases Maps.fit_look true keyed Try.underlying28 hz hb F (key_of hi) with ⟨_, _, hat⟩ | ⟨e0, y, _, _, _, hRv, hat, _⟩
      · rw [Maps.has_false_of_atKey hat] at hh
        cases hh
      · have e := raw_inv hRv
        exact ⟨e0.val, fun z => by rw [hat z, e]⟩
    obtain ⟨v, hv⟩ := this
    exact ⟨v, rfl, by unfold valAt; rw [hv], hv⟩

theorem has_iff {w : World} {b n : Nat} {D : DataW Value} (h : w.ownsMap Try.prog 3 raw b n D) {i : Int} (hi : In64 i) : Maps.has D (key i) = (valAt D i).isSome := by
  rcases at_some h hi with ⟨h1, h2⟩ | ⟨v, h1, h2, _⟩
  · rw [h1, h2]; rfl
  · rw [h1, h2]; rfl

section
variable {w : World} {b : Nat} {f : Int → Option Value} {t e : TypeId}

theorem got {n : Nat} {D : DataW Value} (h : w.ownsMap Try.prog 3 raw b n D) {i : Int} (hi : In64 i) {z v : Value} {ps : List MemPlace} (hv : raw v = some (D.atKey (key i) (.held z), ps)) : v = (valAt D i).getD z := by
  have e0 := raw_inv hv
  rcases at_some h hi with ⟨h1, h2⟩ | ⟨u, h1, h2, h3⟩
  · rw [atKey_of_not_has h1] at e0
    injection e0 with e0
    rw [h2]
    exact e0.symm
  · rw [h3] at e0
    injection e0 with e0
    rw [h2]
    exact e0.symm

theorem Mp.look (h : Mp w b f) (ht : Try.prog.underlying t = some (.map 3 e)) {z : Value} (hz : (zeroValue e).run Try.prog w = .ok z w) {i : Int} (hi : In64 i) {u : Value} (hu : (f i).getD z = u) :
    (Instr.lookup t (.map (some b)) (.int .i64 i) false).run Try.prog w = .ok u w := by
  obtain ⟨D, h, hf, _⟩ := h
  obtain ⟨v, ps, hrun, hv⟩ := h.lookup keyed ht hz (show raw z = some (.held z, []) from rfl) (key_of hi)
  have e1 : v = u := by rw [got h hi hv, ← hf i]; exact hu
  subst e1
  exact hrun

theorem Mp.look_ok (h : Mp w b f) (ht : Try.prog.underlying t = some (.map 3 e)) {z : Value} (hz : (zeroValue e).run Try.prog w = .ok z w) {i : Int} (hi : In64 i) {u : Value} (hu : (f i).getD z = u) {ok : Bool} (hok : (f i).isSome = ok) :
    (Instr.lookup t (.map (some b)) (.int .i64 i) true).run Try.prog w = .ok (.tuple #[u, .bool ok]) w := by
  obtain ⟨D, h, hf, _⟩ := h
  obtain ⟨v, ps, hrun, hv⟩ := h.look_ok keyed ht hz (show raw z = some (.held z, []) from rfl) (key_of hi)
  have e1 : v = u := by rw [got h hi hv, ← hf i]; exact hu
  have e2 : Maps.has D (key i) = ok := by rw [has_iff h hi, ← hf i]; exact hok
  subst e1
  subst e2
  exact hrun

/-- Only this block has turned. -/
theorem but_turned {w' : World} (h : w.mapTurned w' b) : But (fun k => k = b) w w' := by
  have g := h.grown
  exact ⟨g.os, g.tape, g.output, g.size, fun k hk hn => g.block k hk (fun e => hn (by injection e))⟩

def upd (f : Int → Option Value) (i : Int) (v : Value) : Int → Option Value := fun j => if j = i then some v else f j

theorem valAt_put {D : DataW Value} (hD : IsMap D) (i : Int) (v : Value) (j : Int) : valAt (D.put (key i) (.held v)) j = if j = i then some v else valAt D j := by
  unfold valAt
  by_cases e : j = i
  · subst e
    rw [atKey_put_same hD (key_lit _), if_pos rfl]
  · rw [atKey_put_other (key_ne e), if_neg e]

/-- No two of the keys are one. -/
theorem keys_nodup {n : Nat} {D : DataW Value} (h : w.ownsMap Try.prog 3 raw b n D) : (intKeys D).Nodup ∧ (∀ x, x ∈ intKeys D ↔ (valAt D x).isSome = true ∧ In64 x) ∧ (intKeys D).length = Maps.size D := by
  obtain ⟨es, hD, hpw, _⟩ := h.entries keyed
  obtain ⟨es', hD', hk⟩ := h.keysOf
  obtain rfl : es = es' := by rw [hD] at hD'; simpa using hD'
  subst hD
  have hk' : ∀ p ∈ es, ∃ x, p.1 = key x ∧ In64 x := by
    intro p hp
    obtain ⟨v, hv⟩ := hk p hp
    obtain ⟨x, _, hx, hw⟩ := Maps.keyOf_i64 Try.underlying3 hv
    refine ⟨x, hx, ?_⟩
    simp [Lit.wf, IntKind.min, IntKind.max, IntKind.signed, IntKind.bits] at hw
    unfold In64
    omega
  refine ⟨?_, ?_, ?_⟩
  · show (es.map fun p => intOf p.1).Nodup
    refine List.pairwise_map.2 (hpw.imp_of_mem fun {p q} hp' hq' hne e => hne ?_)
    obtain ⟨a, ha, _⟩ := hk' p hp'
    obtain ⟨c, hc, _⟩ := hk' q hq'
    rw [ha, hc] at e ⊢
    exact congrArg _ e
  · intro x
    show x ∈ (es.map fun p => intOf p.1) ↔ _
    rw [List.mem_map]
    constructor
    · rintro ⟨p, hp, rfl⟩
      obtain ⟨a, ha, ha64⟩ := hk' p hp
      have e : intOf p.1 = a := by rw [ha]; rfl
      rw [e]
      refine ⟨?_, ha64⟩
      rw [← has_iff h ha64, has_eq, List.any_eq_true]
      exact ⟨p, hp, by rw [ha]; exact WideAt.sameKey_self (key_lit _)⟩
    · rintro ⟨hx, h64⟩
      rw [← has_iff h h64, has_eq, List.any_eq_true] at hx
      obtain ⟨p, hp, hs⟩ := hx
      refine ⟨p, hp, ?_⟩
      rw [WideAt.sameKey_eq hs]
      rfl
  · show (es.map fun p => intOf p.1).length = es.length
    simp

theorem nodup_le : ∀ (S : Nat) (l : List Int), l.Nodup → (∀ x ∈ l, 0 ≤ x ∧ x < (S : Int)) → l.length ≤ S := by
  intro S
  induction S with
  | zero =>
    intro l _ h
    cases l with
    | nil => simp
    | cons x r =>
      have := h x (by simp)
      omega
  | succ S ih =>
    intro l hn h
    by_cases hm : (S : Int) ∈ l
    · have h1 := ih (l.erase (S : Int)) (hn.erase _) (fun x hx => by
        have h2 := (hn.mem_erase_iff).1 hx
        have := h x h2.2
        have h3 := h2.1
        omega)
      rw [List.length_erase_of_mem hm] at h1
      omega
    · have := ih l hn (fun x hx => by
        have h1 := h x hx
        have h2 : x ≠ (S : Int) := fun e => hm (e ▸ hx)
        omega)
      omega

/-- The keys lie below S. -/
def Under (f : Int → Option Value) (S : Nat) : Prop := ∀ i, f i ≠ none → 0 ≤ i ∧ i < (S : Int)
theorem size_under {n : Nat} {D : DataW Value} (h : w.ownsMap Try.prog 3 raw b n D) (hf : ∀ i, f i = valAt D i) {S : Nat} (hu : Under f S) : Maps.size D ≤ S := by
  obtain ⟨h1, h2, h3⟩ := keys_nodup h
  rw [← h3]
  refine nodup_le S _ h1 (fun x hx => hu x ?_)
  rw [hf x]
  have := ((h2 x).1 hx).1
  intro e
  rw [e] at this
  cases this

theorem Mp.store (h : Mp w b f) (ht : Try.prog.underlying t = some (.map 3 e)) {S : Nat} (hu : Under f S) (hS : S < maxLen) {i : Int} (hi : In64 i) (v : Value) :
    ∃ w', (Instr.mapUpdate t (.map (some b)) (.int .i64 i) v).run Try.prog w = .ok () w' ∧ Mp w' b (upd f i v) ∧ But (fun k => k = b) w w' := by
  obtain ⟨D, h, hf, h64⟩ := h
  have hs := size_under h hf hu
  obtain ⟨w', hrun, hown, ht'⟩ := h.store keyed ht (Nat.lt_of_le_of_lt hs hS) (key_of hi) (show raw v = some (.held v, []) from rfl)
  refine ⟨w', hrun, ⟨D.put (key i) (.held v), ?_, ?_, ?_⟩, but_turned ht'⟩
  · obtain ⟨es, clock, hb, F, _, hD⟩ := hown
    refine ⟨es, clock, hb, F, ?_, hD⟩
    rw [hD]
    simp [Maps.size, length_sorted]
  · intro j
    rw [valAt_put h.isMap, ← hf j]
    rfl
  · intro j hj
    unfold upd at hj
    split at hj
    · rename_i e0; subst e0; exact hi
    · exact h64 j hj

end


/-- Pages that were made: ones at their numbers. -/
def Ones (A : Nat → Bool) : Int → Option Value := fun i => if 0 ≤ i ∧ A i.toNat = true then some (.int .i64 1) else none
theorem Ones.none_ : Ones (fun _ => false) = fun _ => none := by
  funext j
  unfold Ones
  rw [if_neg (fun h => by cases h.2)]
theorem Ones.set (A : Nat → Bool) (k : Nat) : upd (Ones A) (k : Int) (.int .i64 1) = Ones (fun j => A j || decide (j = k)) := by
  funext j
  unfold upd Ones
  by_cases e : j = (k : Int)
  · rw [if_pos e, if_pos ⟨by omega, by simp [e]⟩]
  · rw [if_neg e]
    by_cases h0 : 0 ≤ j
    · have hd : decide (j.toNat = k) = false := by simp; omega
      show _ = if 0 ≤ j ∧ (A j.toNat || decide (j.toNat = k)) = true then _ else _
      rw [hd, Bool.or_false]
    · rw [if_neg (fun h => h0 h.1), if_neg (fun h => h0 h.1)]
theorem Ones.under {A : Nat → Bool} {m : Nat} (h : ∀ j, A j = true → j < m) : Under (Ones A) m := by
  intro i hi
  unfold Ones at hi
  split at hi
  · rename_i h1
    have := h _ h1.2
    omega
  · exact absurd rfl hi
theorem nodup_sub : ∀ (l1 l2 : List Int), l1.Nodup → (∀ x ∈ l1, x ∈ l2) → l1.length ≤ l2.length
  | [], _, _, _ => by simp
  | x :: r, l2, hn, h => by
    have hx := h x (by simp)
    have hn2 := List.nodup_cons.1 hn
    have h1 := nodup_sub r (l2.erase x) hn2.2 (fun y hy => (List.mem_erase_of_ne (fun e => hn2.1 (by rw [← e]; exact hy))).2 (h y (by simp [hy])))
    rw [List.length_erase_of_mem hx] at h1
    have := List.length_pos_of_mem hx
    simp only [List.length_cons]
    omega
theorem size_ones {w : World} {b n m : Nat} {D : DataW Value} {A : Nat → Bool} (h : w.ownsMap Try.prog 3 raw b n D) (hA : ∀ j, A j = true → j < m) (hm : m ≤ 1000000) (hf : ∀ i, Ones A i = valAt D i) : Maps.size D = pages A m := by
  obtain ⟨k1, k2, k3⟩ := keys_nodup h
  have key : ∀ x : Int, x ∈ intKeys D ↔ x ∈ ((List.range m).filter A).map fun (j : Nat) => (j : Int) := by
    intro x
    rw [k2 x, ← hf x]
    unfold Ones
    constructor
    · rintro ⟨h1, _⟩
      split at h1
      · rename_i h2
        refine List.mem_map.2 ⟨x.toNat, List.mem_filter.2 ⟨List.mem_range.2 (hA _ h2.2), h2.2⟩, by omega⟩
      · cases h1
    · intro hx
      obtain ⟨j, hj, rfl⟩ := List.mem_map.1 hx
      have hj2 := List.mem_filter.1 hj
      have hj3 := List.mem_range.1 hj2.1
      refine ⟨?_, by unfold In64; omega⟩
      rw [if_pos ⟨by omega, by simpa using hj2.2⟩]
      rfl
  have kn : (((List.range m).filter A).map fun (j : Nat) => (j : Int)).Nodup := by
    refine List.pairwise_map.2 ?_
    refine List.Pairwise.imp (R := fun a b => a < b) (fun {a b} hab e => by omega) ?_
    exact List.Pairwise.filter _ List.pairwise_lt_range
  have e1 := nodup_sub _ _ k1 (fun x hx => (key x).1 hx)
  have e2 := nodup_sub _ _ kn (fun x hx => (key x).2 hx)
  rw [List.length_map] at e1 e2
  rw [← k3]
  unfold pages
  omega
theorem Mp.len {w : World} {b m : Nat} {A : Nat → Bool} (h : Mp w b (Ones A)) (hA : ∀ j, A j = true → j < m) (hm : m ≤ 1000000) (ty : TypeId) : (Builtin.len_ #[28] ty #[.map (some b)]).run Try.prog w = .ok (.int .i64 (pages A m : Nat)) w := by
  obtain ⟨D, hown, hf, _⟩ := h
  rw [hown.len Try.underlying28 ty, size_ones hown hA hm hf]
theorem Mp.mark {w : World} {b m : Nat} {A : Nat → Bool} (h : Mp w b (Ones A)) (hA : ∀ j, A j = true → j < m) (hm : m ≤ 1000000) {k : Nat} (hk : k < m) :
    ∃ w', (Instr.mapUpdate 28 (.map (some b)) (.int .i64 (k : Int)) (.int .i64 1)).run Try.prog w = .ok () w' ∧ Mp w' b (Ones (fun j => A j || decide (j = k))) ∧ But (fun k => k = b) w w' := by
  obtain ⟨w', h1, h2, h3⟩ := h.store (S := m) Try.underlying28 (Ones.under hA) (by unfold maxLen; omega) (i := k) (by unfold In64; omega) (.int .i64 1)
  exact ⟨w', h1, by rw [← Ones.set]; exact h2, h3⟩

end Go.Proofs.Ytcekcbheajcfpaa
