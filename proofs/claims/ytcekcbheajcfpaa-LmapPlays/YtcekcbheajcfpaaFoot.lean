/-
  WHAT A CALL MAY TURN: only the blocks that a set names, of those that were there; a block of its own.
-/
import Derived.Test.YtcekcbheajcfpaaRows
import Derived.WalkKit
import Derived.ProofKit
import Derived.Laws.OwnMore
import Derived.Laws.Rows
import Derived.Deep.Draws
import Derived.Below
import Derived.Lib.Hide
import Derived.Lib.SliceRun
import Derived.Deep.QuietTactic
import Derived.Deep.AppendLies
import Derived.Maps.AppendAt
import Derived.Laws.AppendOwnNone
import Derived.Lib.QuietBelow
import Derived.BigQuiet
namespace Go.Proofs.Ytcekcbheajcfpaa
open Go.RowKit
set_option linter.unusedVariables false

/-- Of the blocks that were there only those of S may have turned. -/
structure But (S : Nat → Prop) (w w' : World) : Prop where
  os : w'.os = w.os
  tape : w'.tape = w.tape
  output : w'.output = w.output
  size : w.heap.size ≤ w'.heap.size
  block : ∀ k, k < w.heap.size → ¬ S k → w'.heap[k]? = w.heap[k]?

section
variable {S T : Nat → Prop} {a b c w w' : World}

theorem But.refl (S : Nat → Prop) (w : World) : But S w w := ⟨rfl, rfl, rfl, Nat.le_refl _, fun _ _ _ => rfl⟩
theorem But.trans (h : But S a b) (k : But T b c) (hs : ∀ i, T i → i < a.heap.size → S i) : But S a c :=
  ⟨k.os.trans h.os, k.tape.trans h.tape, k.output.trans h.output, Nat.le_trans h.size k.size, fun i hi hn =>
    (k.block i (Nat.lt_of_lt_of_le hi h.size) (fun ht => hn (hs i ht hi))).trans (h.block i hi hn)⟩
theorem But.mono (h : But S a b) (hs : ∀ i, S i → i < a.heap.size → T i) : But T a b :=
  ⟨h.os, h.tape, h.output, h.size, fun i hi hn => h.block i hi (fun ht => hn (hs i ht hi))⟩
theorem But.drewN (h : But S a b) (n : Nat) : But S a (b.drewN n) := ⟨h.os, h.tape, h.output, h.size, h.block⟩
theorem But.of_drewN (n : Nat) (h : But S (a.drewN n) b) : But S a b := ⟨h.os, h.tape, h.output, h.size, h.block⟩
theorem But.drew (h : But S a b) : But S a b.drew := ⟨h.os, h.tape, h.output, h.size, h.block⟩
theorem But.alloc (h : But S a b) (o : Obj) : But S a (b.alloc o) :=
  h.trans (T := fun _ => False) ⟨rfl, rfl, rfl, by simp, fun k hk _ => Below.heap_alloc _ _ _ hk⟩ (fun _ h => h.elim)
theorem But.setCell (h : But S a b) {p : Addr} (hp : p.block < a.heap.size → S p.block) (u : Value) : But S a (b.setCell p u) :=
  h.trans (T := fun k => k = p.block) ⟨rfl, rfl, rfl, by simp [World.setCell], fun k _ hk => Below.heap_setCell _ _ _ _ hk⟩ (fun i e hi => by subst e; exact hp hi)
theorem But.grown {row : Option Nat} (h : But S a b) (hg : b.grownBy c row) (hr : ∀ k, row = some k → k < a.heap.size → S k) : But S a c :=
  h.trans (T := fun k => row = some k) ⟨hg.os, hg.tape, hg.output, hg.size, fun k hk hn => hg.block k hk (fun e => hn e.symm)⟩ (fun i e hi => hr i e hi)
theorem But.of_below (h : Below w.heap.size w w') : But S w w' := ⟨h.os, h.tape, h.output, h.size, fun k hk _ => h.block k hk⟩
theorem But.below {B : Nat} (h : But S w w') (hs : ∀ k, S k → B ≤ k) (hB : B ≤ w.heap.size) : Below B w w' :=
  ⟨h.os, h.tape, h.output, h.size, fun k hk => h.block k (by omega) (fun s => by have := hs k s; omega)⟩
theorem But.cell (h : But S w w') {p : Addr} (hp : p.block < w.heap.size) (hn : ¬ S p.block) : w'.cell? p = w.cell? p := World.cell?_of_block (h.block p.block hp hn)
theorem own_but {base n : Nat} {e : TypeId} {size : Nat} {v : Value} {xs : List Value} (h : w.ownsRow base e size v n xs) (hb : But S w w') (hn : ∀ k, v.ownBlock = some k → ¬ S k) : w'.ownsRow base e size v n xs := by
  refine ⟨h.1, ?_⟩
  rcases h.2 with h0 | ⟨g, cap, cur, rfl, hg, hh, rest⟩
  · exact .inl h0
  · exact .inr ⟨g, cap, cur, rfl, hg, (hb.block g (h.lt g rfl).2 (hn g rfl)).trans hh, rest⟩
end

theorem own_base {w : World} {base base' n : Nat} {e : TypeId} {size : Nat} {v : Value} {xs : List Value} (h : w.ownsRow base e size v n xs) (hb : ∀ k, v.ownBlock = some k → base' ≤ k) : w.ownsRow base' e size v n xs := by
  refine ⟨h.1, ?_⟩
  rcases h.2 with h0 | ⟨g, cap, cur, rfl, hg, hh, rest⟩
  · exact .inl h0
  · exact .inr ⟨g, cap, cur, rfl, hb g rfl, hh, rest⟩

/-- A block of its own holds these cells. -/
def At (w : World) (g : Nat) (cs : Array Value) (t : TypeId) : Prop := w.heap[g]? = some (.cells cs t (0, 0))
theorem At.lt {w : World} {g : Nat} {cs : Array Value} {t : TypeId} (h : At w g cs t) : g < w.heap.size := (Array.getElem?_eq_some_iff.1 h).1
theorem At.cell {w : World} {g : Nat} {cs : Array Value} {t : TypeId} (h : At w g cs t) (j : Nat) : w.cell? ⟨g, j, none⟩ = cs[j]? := cell_of_row w g j _ _ _ h
theorem At.frozen {w : World} {g : Nat} {cs : Array Value} {t : TypeId} (h : At w g cs t) (j : Nat) : w.frozen? ⟨g, j, none⟩ = false := frozen_of_row w g j _ _ h
theorem At.but {w w' : World} {S : Nat → Prop} {g : Nat} {cs : Array Value} {t : TypeId} (h : At w g cs t) (hb : But S w w') (hn : ¬ S g) : At w' g cs t := (hb.block g h.lt hn).trans h
theorem At.below {w w' : World} {B : Nat} {g : Nat} {cs : Array Value} {t : TypeId} (h : At w g cs t) (hb : Below B w w') (hn : g < B) : At w' g cs t := (hb.block g hn).trans h
theorem At.alloc {w : World} {g : Nat} {cs : Array Value} {t : TypeId} (h : At w g cs t) (o : Obj) : At (w.alloc o) g cs t := h.but (S := fun _ => False) ((But.refl _ _).alloc o) (fun h => h)
theorem At.new {w : World} {g : Nat} (cs : Array Value) (t : TypeId) (hg : w.heap.size = g) : At (w.alloc (.cells cs t)) g cs t := by
  subst hg
  exact heap_alloc_new _ _
theorem At.set {w : World} {g : Nat} {cs : Array Value} {t : TypeId} (h : At w g cs t) (j : Nat) (v : Value) : At (w.setCell ⟨g, j, none⟩ v) g (cs.setIfInBounds j v) t := by
  unfold At
  rw [heap_setCell_same w g j _ _ _ h]
theorem At.other {w : World} {g : Nat} {cs : Array Value} {t : TypeId} (h : At w g cs t) {p : Addr} (hp : ¬ p.block = g) (v : Value) : At (w.setCell p v) g cs t :=
  h.but (S := fun k => k = p.block) ((But.refl (fun k => k = p.block) w).setCell (p := p) (fun _ => rfl) v) (fun e => hp e.symm)

/-- The call changes nothing but what was drawn. -/
def Quiet (v : Value) (w : World) (e : Ending) (w' : World) : Prop := e = .returned v ∧ ∃ m, w' = w.drewN m
theorem up {B : Nat} {w w' : World} (hb : Below w.heap.size w w') (hB : w.heap.size = B) : B ≤ w'.heap.size := by have := hb.size; omega
theorem below_drewN {B : Nat} {w w' : World} (h : Below B w w') (n : Nat) : Below B w (w'.drewN n) := ⟨h.os, h.tape, h.output, h.size, h.block⟩

end Go.Proofs.Ytcekcbheajcfpaa
