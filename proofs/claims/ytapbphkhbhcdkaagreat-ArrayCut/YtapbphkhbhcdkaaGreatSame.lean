/-
  THE WALK OF PutSame.
-/
import Derived.Test.YtapbphkhbhcdkaaGreatFl
namespace Go.Proofs.YtapbphkhbhcdkaaGreat
open Go.RowKit Go.Maps
set_option linter.unusedVariables false
set_option maxRecDepth 100000

section
variable {w w' : World} {P : Pl} {O : Nat → Prop} {s : AS}

/-- What PutSame's closure has captured. -/
structure Sm (w : World) (P : Pl) (O : Nat → Prop) (b1 b2 b3 : Nat) (i : Int) (A : Option Addr) (n c : Nat) (b : Bytes) : Prop where
  box : Box w b1 P O
  at2 : At w b2 #[.int .i64 i] 3
  at3 : At w b3 #[.slice A n c] 55
  has : Has w A n b
  off : ¬ O b2 ∧ ¬ O b3 ∧ ∀ x, A = some x → ¬ O x.block
theorem Sm.frame {O' : Nat → Prop} {b1 b2 b3 : Nat} {i : Int} {A : Option Addr} {n c : Nat} {b : Bytes} (h : Sm w P O b1 b2 b3 i A n c b) (hb : But O w w') (hO : ∀ k, O' k → O k ∨ w.heap.size ≤ k) (h0 : 0 < n) : Sm w' P O' b1 b2 b3 i A n c b := by
  obtain ⟨k2, k3, k4⟩ := h.off
  refine ⟨h.box.frame hb hO, h.at2.but hb k2, h.at3.but hb k3, h.has.but hb k4, fun e => (hO _ e).elim k2 (fun e => by have := h.at2.lt; omega), fun e => (hO _ e).elim k3 (fun e => by have := h.at3.lt; omega), fun x hx e => (hO _ e).elim (k4 x hx) (fun e => ?_)⟩
  obtain ⟨bb, off, e1, hlt, _⟩ := h.has.2 h0
  rw [hx] at e1
  injection e1 with e1
  rw [e1] at e
  simp at e
  omega

theorem Sm.up {b1 b2 b3 : Nat} {i : Int} {A : Option Addr} {n c : Nat} {b : Bytes} (h : Sm w P O b1 b2 b3 i A n c b) (hb : Below w.heap.size w w') : Sm w' P O b1 b2 b3 i A n c b :=
  ⟨⟨h.box.1.below hb h.box.1.lt, h.box.2⟩, h.at2.below hb h.at2.lt, h.at3.below hb h.at3.lt, h.has.below hb, h.off⟩
theorem Sm.drew {b1 b2 b3 : Nat} {i : Int} {A : Option Addr} {n c : Nat} {b : Bytes} (h : Sm w P O b1 b2 b3 i A n c b) : Sm w.drew P O b1 b2 b3 i A n c b := ⟨h.box, h.at2, h.at3, h.has, h.off⟩
/-- A row of one slice, just built, is a slice of slices. -/
theorem one_ln (A : Option Addr) (n c : Nat) (b : Bytes) (h : Has w A n b) (hn : n ≤ 140737488355328) : Ln (w.alloc (.cells #[.slice A n c] 55)) (some ⟨w.heap.size, 0, none⟩) 1 [⟨A, n, c, b⟩] :=
  ⟨one_row ⟨A, n, c, b⟩ (At.new #[.slice A n c] 55 rfl), fun x hx => by simp at hx; subst hx; exact h.below ((Below.refl _ _).alloc (Nat.le_refl _) _), fun x hx => by simp at hx; subst hx; exact hn, by omega⟩
theorem one_fits (A : Option Addr) (n c : Nat) (b : Bytes) (q : Int) : Fits [⟨A, n, c, b⟩] q ↔ (n : Int) = q := by
  unfold Fits
  simp
theorem put_act (i : Int) (b : Nat → Bytes) : Act1 (fun k d u => d.put u i (b k)) := Act1.of (R := fun k d _ => with1 d.read i (b k)) (fun k d u => put_turns d u i (b k)) (fun k d u => put_dead d u i (b k))

end
end Go.Proofs.YtapbphkhbhcdkaaGreat
