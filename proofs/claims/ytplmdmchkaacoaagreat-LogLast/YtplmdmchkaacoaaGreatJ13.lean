/-
  TEXTS JOINED: Parts.
-/
import Derived.Test.YtplmdmchkaacoaaGreatJ12

/-
  THE WALK OF Put.
-/
namespace Go.Proofs.YtplmdmchkaacoaaGreat
open Go.RowKit Go.Maps
set_option linter.unusedVariables false
set_option maxRecDepth 100000

/-- What each member gets: of the first k chunks, and of the parity. -/
def spread (t : Int) (M : Nat) (C : Nat → Sl) (X : Sl) : Nat → Nat → Sl
  | 0, m => if (m : Int) = t % (M : Int) then X else ⟨none, 0, 0, []⟩
  | k + 1, m => if (m : Int) = (t + 1 + (k : Int)) % (M : Int) then C k else spread t M C X k m
def spreadB (t : Int) (M : Nat) (C : Nat → Bytes) (X : Bytes) : Nat → Nat → Bytes
  | 0, m => if (m : Int) = t % (M : Int) then X else []
  | k + 1, m => if (m : Int) = (t + 1 + (k : Int)) % (M : Int) then C k else spreadB t M C X k m
theorem spread_l (t : Int) (M : Nat) (C : Nat → Sl) (X : Sl) (k m : Nat) : (spread t M C X k m).l = spreadB t M (fun j => (C j).l) X.l k m := by
  induction k with
  | zero => unfold spread spreadB; split <;> rfl
  | succ k ih =>
    unfold spread spreadB
    split
    · rfl
    · exact ih
/-- Each member has its own: what comes of all. -/
theorem spread_all {t : Int} {M : Nat} (hM : 2 ≤ M) (C : Nat → Sl) (X : Sl) (Q : Sl → Prop) (hC : ∀ k, k < M - 1 → Q (C k)) (hX : Q X) (m : Nat) (hm : m < M) : Q (spread t M C X (M - 1) m) := by
  have key : ∀ k, k ≤ M - 1 → Q (spread t M C X k m) ∨ (¬ (m : Int) = t % (M : Int) ∧ ∀ j : Nat, j < k → ¬ (m : Int) = (t + 1 + (j : Int)) % (M : Int)) := by
    intro k
    induction k with
    | zero =>
      intro _
      by_cases e : (m : Int) = t % (M : Int)
      · left; unfold spread; rw [if_pos e]; exact hX
      · exact .inr ⟨e, fun j hj => by omega⟩
    | succ k ih =>
      intro hk
      by_cases e : (m : Int) = (t + 1 + (k : Int)) % (M : Int)
      · left; unfold spread; rw [if_pos e]; exact hC k (by omega)
      · rcases ih (by omega) with h | ⟨h1, h2⟩
        · left; unfold spread; rw [if_neg e]; exact h
        · refine .inr ⟨h1, fun j hj => ?_⟩
          by_cases ej : j = k
          · subst ej; exact e
          · exact h2 j (by omega)
  rcases key (M - 1) (Nat.le_refl _) with h | ⟨h1, h2⟩
  · exact h
  · exfalso
    have hp : 0 < (M : Int) := by omega
    obtain ⟨d, hd⟩ : ∃ d, d = ((m : Int) - t) % (M : Int) := ⟨_, rfl⟩
    have d0 : 0 ≤ d := by rw [hd]; exact Int.emod_nonneg _ (by omega)
    have d1 : d < (M : Int) := by rw [hd]; exact Int.emod_lt_of_pos _ hp
    have e1 : (t + d) % (M : Int) = (m : Int) := by
      rw [hd, Int.add_emod t, Int.emod_emod_of_dvd _ (Int.dvd_refl _), ← Int.add_emod, show t + ((m : Int) - t) = (m : Int) by omega]
      exact Int.emod_eq_of_lt (by omega) (by omega)
    by_cases e0 : d = 0
    · rw [e0, Int.add_zero] at e1; exact h1 e1.symm
    · refine h2 (d - 1).toNat (by omega) ?_
      rw [show t + 1 + ((d - 1).toNat : Int) = t + d by omega]
      exact e1.symm

section
variable {w w' : World} {P : Pl} {O : Nat → Prop} {s : AS}
/-- What Put lays out: the array's box, the parts' box, the parts. -/
structure Pt (w : World) (P : Pl) (O : Nat → Prop) (b1 bp g : Nat) (M : Nat) (p : Nat → Sl) : Prop where
  box : Box w b1 P O
  parts : At w bp #[.slice (some ⟨g, 0, none⟩) M M] 141
  row : At w g ((List.range M).map (fun m => (p m).v)).toArray 57
  has : ∀ m, m < M → Has w (p m).A (p m).n (p m).l
  off : ¬ O bp ∧ ¬ O g ∧ b1 ≠ g ∧ bp ≠ g ∧ ∀ m, m < M → 0 < (p m).n → ∀ a, (p m).A = some a → ¬ O a.block ∧ a.block ≠ g
section
variable {b1 bp g M : Nat} {p : Nat → Sl}
theorem Pt.up (h : Pt w P O b1 bp g M p) (hb : Below w.heap.size w w') : Pt w' P O b1 bp g M p :=
  ⟨⟨h.box.1.below hb h.box.1.lt, h.box.2⟩, h.parts.below hb h.parts.lt, h.row.below hb h.row.lt, fun m hm => (h.has m hm).below hb, h.off⟩
theorem Pt.drew (h : Pt w P O b1 bp g M p) : Pt w.drew P O b1 bp g M p := ⟨h.box, h.parts, h.row, h.has, h.off⟩
theorem Has.but2 {S : Nat → Prop} {A : Option Addr} {n : Nat} {l : Bytes} (h : Has w A n l) (hb : But S w w') (hn : 0 < n → ∀ x, A = some x → ¬ S x.block) : Has w' A n l :=
  ⟨h.1, fun h0 => (h.but hb (hn h0)).2 h0⟩
theorem Pt.frame {O' : Nat → Prop} (h : Pt w P O b1 bp g M p) (hb : But O w w') (hO : ∀ k, O' k → O k ∨ w.heap.size ≤ k) : Pt w' P O' b1 bp g M p := by
  obtain ⟨k1, k2, k3, k4, k5⟩ := h.off
  refine ⟨h.box.frame hb hO, h.parts.but hb k1, h.row.but hb k2, fun m hm => (h.has m hm).but2 hb (fun h0 a ha => (k5 m hm h0 a ha).1), fun e => (hO _ e).elim k1 (fun e => by have := h.parts.lt; omega), fun e => (hO _ e).elim k2 (fun e => by have := h.row.lt; omega), k3, k4, fun m hm h0 a ha => ⟨fun e => (hO _ e).elim (k5 m hm h0 a ha).1 (fun e => ?_), (k5 m hm h0 a ha).2⟩⟩
  obtain ⟨bb, off, e1, hlt, _⟩ := (h.has m hm).2 h0
  rw [ha] at e1
  injection e1 with e1
  rw [e1] at e
  simp at e
  omega
theorem Pt.cell (h : Pt w P O b1 bp g M p) {j : Nat} (hj : j < M) : w.cell? ⟨g, j, none⟩ = some (.slice (p j).A (p j).n (p j).c) := by
  rw [h.row.cell]
  simp [hj, Sl.v]
/-- One part is set. -/
theorem Pt.set (h : Pt w P O b1 bp g M p) {j : Nat} (hj : j < M) (x : Sl) (hx : Has w x.A x.n x.l) (ho : 0 < x.n → ∀ a, x.A = some a → ¬ O a.block ∧ a.block ≠ g) :
    Pt (w.setCell ⟨g, j, none⟩ (.slice x.A x.n x.c)) P O b1 bp g M (fun m => if m = j then x else p m) := by
  have hb := But.own w g j (.slice x.A x.n x.c)
  obtain ⟨k1, k2, k3, k4, k5⟩ := h.off
  refine ⟨⟨h.box.1.but hb k3, h.box.2⟩, h.parts.but hb k4, ?_, fun m hm => ?_, k1, k2, k3, k4, fun m hm h0 a ha => ?_⟩
  · have := h.row.set j (.slice x.A x.n x.c)
    rw [List.setIfInBounds_toArray] at this
    have e : ((List.range M).map (fun m => (p m).v)).set j (.slice x.A x.n x.c) = (List.range M).map (fun m => (if m = j then x else p m).v) := by
      apply List.ext_getElem
      · simp
      · intro q h1 h2
        rw [List.getElem_set]
        by_cases e : j = q
        · subst e; simp [Sl.v]
        · have e2 : ¬ q = j := fun h => e h.symm
          rw [if_neg e]; simp [e2]
    rw [e] at this
    exact this
  · by_cases e : m = j
    · simp only [e, if_true]
      exact hx.but2 hb (fun h0 a ha => (ho h0 a ha).2)
    · simp only [e, if_false]
      exact (h.has m hm).but2 hb (fun h0 a ha => (k5 m hm h0 a ha).2)
  · by_cases e : m = j
    · simp only [e, if_true] at h0 ha
      exact ho h0 a ha
    · simp only [e, if_false] at h0 ha
      exact k5 m hm h0 a ha
theorem Pt.congr {q : Nat → Sl} (h : Pt w P O b1 bp g M p) (e : ∀ m, m < M → p m = q m) : Pt w P O b1 bp g M q := by
  obtain ⟨k1, k2, k3, k4, k5⟩ := h.off
  refine ⟨h.box, h.parts, ?_, fun m hm => e m hm ▸ h.has m hm, k1, k2, k3, k4, fun m hm => e m hm ▸ k5 m hm⟩
  have : (List.range M).map (fun m => (p m).v) = (List.range M).map (fun m => (q m).v) := List.map_congr_left (fun m hm => by rw [e m (by simpa using hm)])
  rw [← this]
  exact h.row
end
end
end Go.Proofs.YtplmdmchkaacoaaGreat
