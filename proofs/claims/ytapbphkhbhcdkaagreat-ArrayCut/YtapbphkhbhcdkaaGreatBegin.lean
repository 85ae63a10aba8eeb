/-
  A RIG AND AN EMPTY MAP; what is kept while nothing fails.
-/
import Derived.Test.YtapbphkhbhcdkaaGreatIn
import Derived.Test.YtapbphkhbhcdkaaGreatSameW
namespace Go.Proofs.YtapbphkhbhcdkaaGreat
open Go.RowKit Go.Maps
set_option linter.unusedVariables false
set_option maxRecDepth 100000

section
variable {B : Nat} {w0 w w' : World} {R q cap : Nat} {P : Pl} {O : Nat → Prop} {s s' : AS} {hb : Nat} {H : Hv}
theorem Sys.begin_ (h : Sys B w0 w R q cap P O s) : Lw B w0 (w.alloc (.map #[] 0)) R q cap P O s w.heap.size (fun _ => none) :=
  ⟨h.alloc _, Mp.made w, h.new _ (Nat.le_refl _), fun t ht => absurd rfl ht⟩
/-- What is kept while nothing fails. -/
def Kept (s : AS) (H : Hv) : Prop := Calm s ∧ Inv s H
theorem put_calm : PutInv false Kept where
  step := fun s s' H t f h _ _ _ hr ht => ⟨h.1.rel hr, inv_put h.2 hr ht⟩
  gone := fun s s' H t h hg => absurd (h.1 0) (hg.unsound 0)
theorem read_calm : ReadInv false Kept where
  right := fun s H h _ => h.2
  read := fun s s' H h hr => ⟨h.1.rel hr, inv_read h.2 hr⟩
  gone := fun s s' H h hg => absurd (h.1 0) (hg.unsound 0)
/-- What is kept while member k may fail: if it is dead, it is not current. -/
def Kept1 (k : Nat) (s : AS) (H : Hv) : Prop := Sound k s ∧ Inv s H ∧ k < s.M ∧ ((s.d k).dead = true → s.stale = (k : Int))
theorem told_rel {Q : Nat → DS → DS → Prop} {c : Int} {k : Nat} (hr : Rel Q c s s') (hk : k < s.M) (h : (s.d k).dead = true → s.stale = (k : Int)) : (s'.d k).dead = true → s'.stale = (k : Int) := by
  intro hd
  rcases hr.died k hk hd with e | e
  · have e2 := h e
    rcases hr.stale with e3 | ⟨e3, _⟩
    · rw [e3]; exact e2
    · omega
  · exact e
theorem put_one {k : Nat} : PutInv false (Kept1 k) where
  step := fun s s' H t f h _ _ _ hr ht => ⟨hr.sound k h.1, inv_put h.2.1 hr ht, by rw [hr.same.M]; exact h.2.2.1, told_rel hr h.2.2.1 h.2.2.2⟩
  gone := fun s s' H t h hg => absurd h.1 (hg.unsound k)
theorem read_one {k : Nat} : ReadInv false (Kept1 k) where
  right := fun s H h _ => h.2.1
  read := fun s s' H h hr => ⟨hr.sound k h.1, inv_read h.2.1 hr, by rw [hr.same.M]; exact h.2.2.1, told_rel hr h.2.2.1 h.2.2.2⟩
  gone := fun s s' H h hg => absurd h.1 (hg.unsound k)
theorem Lw.below_ (h : Lw B w0 w R q cap P O s hb H) : Below B w0 w := h.sys.below
end
end Go.Proofs.YtapbphkhbhcdkaaGreat
