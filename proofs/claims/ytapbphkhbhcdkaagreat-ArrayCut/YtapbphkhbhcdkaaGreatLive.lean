/-
  A DISK THAT DOES NOT FAIL; THE WALK OF Awake.
-/
import Derived.Test.YtapbphkhbhcdkaaGreatDisk4
namespace Go.Proofs.YtapbphkhbhcdkaaGreat
open Go.RowKit Go.Maps Go.Shelf
set_option linter.unusedVariables false
set_option maxRecDepth 100000

theorem op_live {s : DS} (hd : s.dead = false) (hf : s.failAt < 0) (u : Int) : s.op u = s := by
  have : ¬ 0 ≤ s.failAt := by omega
  unfold DS.op
  rw [decide_eq_false this, hd]
  cases s
  simp_all

section
variable {w : World} {g p : Nat} {T : Nat → Prop} {s : DS}

theorem own_slice {w2 : World} {base : Nat} {A : Option Addr} {n cap : Nat} {b : Bytes} (h : w2.ownsRow base 5 1 (.slice A n cap) n (b.map val)) :
    Has w2 A n b ∧ (A = none → cap = 0) ∧ ∀ x, A = some x → base ≤ x.block ∧ x.block < w2.heap.size := by
  obtain ⟨A', cap', e, h1⟩ := own_form h
  injection e with e1 _ e2
  subst e1 e2
  exact h1

end

end Go.Proofs.YtapbphkhbhcdkaaGreat
