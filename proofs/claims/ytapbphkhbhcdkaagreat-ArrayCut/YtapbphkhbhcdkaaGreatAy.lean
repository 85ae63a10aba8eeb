/-
  AN ARRAY AS IT LIES IN MEMORY: its own block, the row of its members, the power, the memory, the disks; each block is one's own.
-/
import Derived.Test.YtapbphkhbhcdkaaGreatLive
import Derived.Test.YtapbphkhbhcdkaaGreatNv
import Derived.Test.YtapbphkhbhcdkaaGreatShp
namespace Go.Proofs.YtapbphkhbhcdkaaGreat
open Go.RowKit Go.Maps
set_option linter.unusedVariables false
set_option maxRecDepth 100000

/-- What an array is: how many members, the shape's other numbers, how many sectors; the disks; the member that is not current; whether it is broken; how many operations were done. -/
structure AS where
  M : Nat
  b : Int
  g : Int
  s : Int
  n : Int
  l : Int
  S : Nat
  d : Nat → DS
  stale : Int
  broken : Bool
  u : Int
def AS.rt (s : AS) : Rt := ⟨(s.M : Int), s.b, s.g, s.s, s.n, s.l, 0, 0, s.stale⟩
/-- Where it lies: the array, the members' row (and its room), the power, the memory, the disks. -/
structure Pl where
  a : Nat
  r : Nat
  c : Nat
  p : Nat
  n : Nat
  g : Nat → Nat
abbrev dev (g : Nat) : Value := .iface 50 (.pointer (some ⟨g, 0, none⟩))
def acells (P : Pl) (s : AS) : Array Value :=
  #[.int .i64 (s.M : Int), .int .i64 s.b, .int .i64 s.g, .int .i64 s.s, .int .i64 s.n, .int .i64 s.l, .slice (some ⟨P.r, 0, none⟩) s.M P.c, .pointer (some ⟨P.n, 0, none⟩), .bool s.broken]

/-- What holds of the numbers. -/
structure AS.Wf (s : AS) : Prop where
  small : Small (s.M : Int) s.b s.g s.s s.n s.l
  sect : (s.S : Int) = 1 + 2 * pgs s.b s.g s.l + s.g * s.s
  some_ : 0 < pgs s.b s.g s.l ∧ pgs s.b s.g s.l ≤ 500000
  u0 : 0 ≤ s.u
  st : -1 ≤ s.stale ∧ s.stale < (s.M : Int)
  each : ∀ i, i < s.M → (s.d i).sectors = s.S ∧ ((s.d i).size : Int) = s.b ∧ ∀ j, 0 ≤ (s.d i).writes j ∧ (s.d i).writes j ≤ s.u

structure Ay (w : World) (P : Pl) (T : Nat → Nat → Prop) (s : AS) : Prop where
  arr : At w P.a (acells P s) 78
  row : ∀ i, i < s.M → w.cell? ⟨P.r, i, none⟩ = some (dev (P.g i))
  pw : Pw w P.p s.u (-1)
  nv : Nv w P.n P.p s.rt
  dk : ∀ i, i < s.M → Dk w (P.g i) P.p (T (4 + i)) (s.d i)
  ap : ∀ i j k, T i k → T j k → i = j
  t0 : T 0 P.a
  t1 : T 1 P.r
  t2 : T 2 P.p
  t3 : T 3 P.n
  lt : ∀ i k, T i k → k < w.heap.size
  wf : s.Wf

/-- The array, all its own blocks being O. -/
def Arr (w : World) (P : Pl) (O : Nat → Prop) (s : AS) : Prop := ∃ T, Ay w P T s ∧ ∀ k, O k ↔ ∃ i, T i k

section
variable {w w' : World} {P : Pl} {T : Nat → Nat → Prop} {S O : Nat → Prop} {s : AS}

theorem Ay.but (h : Ay w P T s) (hb : But S w w') (hS : ∀ i k, T i k → ¬ S k) : Ay w' P T s where
  arr := h.arr.but hb (hS _ _ h.t0)
  row := fun i hi => (hb.cell (p := ⟨P.r, i, none⟩) (h.lt _ _ h.t1) (hS _ _ h.t1)).trans (h.row i hi)
  pw := At.but h.pw hb (hS _ _ h.t2)
  nv := At.but h.nv hb (hS _ _ h.t3)
  dk := fun i hi => (h.dk i hi).but hb (fun k hk => hS _ _ hk)
  ap := h.ap
  t0 := h.t0
  t1 := h.t1
  t2 := h.t2
  t3 := h.t3
  lt := fun i k hk => Nat.lt_of_lt_of_le (h.lt i k hk) hb.size
  wf := h.wf
theorem Arr.but (h : Arr w P O s) (hb : But S w w') (hS : ∀ k, O k → ¬ S k) : Arr w' P O s := by
  obtain ⟨T, h, hO⟩ := h
  exact ⟨T, h.but hb (fun i k hk => hS k ((hO k).2 ⟨i, hk⟩)), hO⟩
theorem Arr.lt (h : Arr w P O s) : ∀ k, O k → k < w.heap.size := by
  obtain ⟨T, h, hO⟩ := h
  intro k hk
  obtain ⟨i, hi⟩ := (hO k).1 hk
  exact h.lt i k hi
theorem Arr.wf (h : Arr w P O s) : s.Wf := by obtain ⟨T, h, _⟩ := h; exact h.wf
theorem Arr.up (h : Arr w P O s) (hb : Below w.heap.size w w') : Arr w' P O s := h.but (S := fun _ => False) (But.of_below hb) (fun _ _ h => h)
theorem Arr.alloc (h : Arr w P O s) (o : Obj) : Arr (w.alloc o) P O s := h.but (S := fun _ => False) ((But.refl _ _).alloc o) (fun _ _ h => h)
theorem Arr.drewN (h : Arr w P O s) (n : Nat) : Arr (w.drewN n) P O s := h.but (S := fun _ => False) ((But.refl _ _).drewN n) (fun _ _ h => h)
theorem Arr.drew (h : Arr w P O s) : Arr w.drew P O s := h.but (S := fun _ => False) ((But.refl _ _).drew) (fun _ _ h => h)
/-- The array's own cells. -/
theorem Arr.cells (h : Arr w P O s) : w.cell? ⟨P.a, 6, none⟩ = some (.slice (some ⟨P.r, 0, none⟩) s.M P.c) ∧ w.cell? ⟨P.a, 7, none⟩ = some (.pointer (some ⟨P.n, 0, none⟩)) ∧ w.cell? ⟨P.a, 8, none⟩ = some (.bool s.broken) := by
  obtain ⟨T, h, hO⟩ := h
  exact ⟨h.arr.cell 6, h.arr.cell 7, h.arr.cell 8⟩
theorem Arr.shape (h : Arr w P O s) : w.cell? ⟨P.a, 0, none⟩ = some (.int .i64 (s.M : Int)) ∧ w.cell? ⟨P.a, 1, none⟩ = some (.int .i64 s.b) ∧ w.cell? ⟨P.a, 2, none⟩ = some (.int .i64 s.g) ∧ w.cell? ⟨P.a, 3, none⟩ = some (.int .i64 s.s) ∧
    w.cell? ⟨P.a, 4, none⟩ = some (.int .i64 s.n) ∧ w.cell? ⟨P.a, 5, none⟩ = some (.int .i64 s.l) := by
  obtain ⟨T, h, hO⟩ := h
  exact ⟨h.arr.cell 0, h.arr.cell 1, h.arr.cell 2, h.arr.cell 3, h.arr.cell 4, h.arr.cell 5⟩
theorem Arr.frozen (h : Arr w P O s) (j : Nat) : w.frozen? ⟨P.a, j, none⟩ = false := by
  obtain ⟨T, h, hO⟩ := h
  exact h.arr.frozen j
theorem Arr.row (h : Arr w P O s) {i : Nat} (hi : i < s.M) : w.cell? ⟨P.r, i, none⟩ = some (dev (P.g i)) := by
  obtain ⟨T, h, hO⟩ := h
  exact h.row i hi
theorem Arr.nv (h : Arr w P O s) : Nv w P.n P.p s.rt := by
  obtain ⟨T, h, hO⟩ := h
  exact h.nv

/-- One of the disks turned, by an operation. -/
theorem Ay.turn {i : Nat} {T' : Nat → Prop} {d : DS} (h : Ay w P T s) (hi : i < s.M) (hd : Dk w' (P.g i) P.p T' d) (hp : Pw w' P.p (s.u + 1) (-1)) (hT : ∀ k, T' k → T (4 + i) k ∨ w.heap.size ≤ k) (hb : But (fun k => T (4 + i) k ∨ k = P.p) w w')
    (h1 : d.sectors = (s.d i).sectors) (h2 : d.size = (s.d i).size) (h3 : ∀ j, (s.d i).writes j ≤ d.writes j ∧ d.writes j ≤ (s.d i).writes j + 1) :
    Ay w' P (fun j k => if j = 4 + i then T' k else T j k) { s with d := fun j => if j = i then d else s.d j, u := s.u + 1 } := by
  have off : ∀ j, j ≠ 4 + i → j ≠ 2 → ∀ k, T j k → ¬ (T (4 + i) k ∨ k = P.p) := by
    rintro j hj h2 k hk (e | e)
    · exact hj (h.ap _ _ _ hk e)
    · exact h2 (h.ap _ _ _ hk (e ▸ h.t2))
  refine
    { arr := (h.arr.but hb (off 0 (by omega) (by omega) _ h.t0))
      row := fun j hj => (hb.cell (p := ⟨P.r, j, none⟩) (h.lt _ _ h.t1) (off 1 (by omega) (by omega) _ h.t1)).trans (h.row j hj)
      pw := hp
      nv := At.but h.nv hb (off 3 (by omega) (by omega) _ h.t3)
      dk := ?_
      ap := ?_
      t0 := by rw [if_neg (by omega)]; exact h.t0
      t1 := by rw [if_neg (by omega)]; exact h.t1
      t2 := by rw [if_neg (by omega)]; exact h.t2
      t3 := by rw [if_neg (by omega)]; exact h.t3
      lt := ?_
      wf := ⟨h.wf.small, h.wf.sect, h.wf.some_, by have := h.wf.u0; show 0 ≤ s.u + 1; omega, h.wf.st, ?_⟩ }
  · intro j hj
    by_cases e : j = i
    · subst e
      simp only [if_true]
      exact hd
    · have e1 : ¬ 4 + j = 4 + i := by omega
      simp only [e, e1, if_false]
      exact (h.dk j hj).but hb (off _ e1 (by omega))
  · intro x y k hx hy
    by_cases e1 : x = 4 + i <;> by_cases e2 : y = 4 + i
    · omega
    · simp only [e1, e2, if_true, if_false] at hx hy
      rcases hT k hx with h' | h'
      · rw [e1]; exact h.ap _ _ _ h' hy
      · have := h.lt _ _ hy; omega
    · simp only [e1, e2, if_true, if_false] at hx hy
      rcases hT k hy with h' | h'
      · rw [e2]; exact h.ap _ _ _ hx h'
      · have := h.lt _ _ hx; omega
    · simp only [e1, e2, if_false] at hx hy
      exact h.ap _ _ _ hx hy
  · intro j k hk
    by_cases e : j = 4 + i
    · simp only [e, if_true] at hk
      exact hd.lt k hk
    · simp only [e, if_false] at hk
      exact Nat.lt_of_lt_of_le (h.lt _ _ hk) hb.size
  · intro j hj
    obtain ⟨k1, k2, k3⟩ := h.wf.each j hj
    by_cases e : j = i
    · subst e
      simp only [if_true]
      exact ⟨h1.trans k1, by rw [h2]; exact k2, fun q => by have a := h3 q; have c := k3 q; show 0 ≤ d.writes q ∧ d.writes q ≤ s.u + 1; omega⟩
    · simp only [e, if_false]
      exact ⟨k1, k2, fun q => by have c := k3 q; show 0 ≤ (s.d j).writes q ∧ (s.d j).writes q ≤ s.u + 1; omega⟩

/-- The array behind a call: its blocks are those that were its own, or new ones; nothing else has turned. -/
def Did (w : World) (P : Pl) (O : Nat → Prop) (s' : AS) (w' : World) : Prop := ∃ O', Arr w' P O' s' ∧ (∀ k, O' k → O k ∨ w.heap.size ≤ k) ∧ But O w w'

theorem Arr.turn {i : Nat} {d : DS} (h : Arr w P O s) (hi : i < s.M)
    (hd : ∀ T, Dk w (P.g i) P.p T (s.d i) → ∃ T', Dk w' (P.g i) P.p T' d ∧ (∀ k, T' k → T k ∨ w.heap.size ≤ k) ∧ But (fun k => T k ∨ k = P.p) w w') (hp : Pw w' P.p (s.u + 1) (-1))
    (h1 : d.sectors = (s.d i).sectors) (h2 : d.size = (s.d i).size) (h3 : ∀ j, (s.d i).writes j ≤ d.writes j ∧ d.writes j ≤ (s.d i).writes j + 1) :
    Did w P O { s with d := fun j => if j = i then d else s.d j, u := s.u + 1 } w' := by
  obtain ⟨T, h, hO⟩ := h
  obtain ⟨T', hd', hT, hb⟩ := hd _ (h.dk i hi)
  refine ⟨fun k => ∃ j, (fun j k => if j = 4 + i then T' k else T j k) j k, ⟨_, h.turn hi hd' hp hT hb h1 h2 h3, fun k => Iff.rfl⟩, ?_, hb.mono ?_⟩
  · rintro k ⟨j, hj⟩
    by_cases e : j = 4 + i
    · simp only [e, if_true] at hj
      exact (hT k hj).imp (fun h => (hO k).2 ⟨_, h⟩) id
    · simp only [e, if_false] at hj
      exact .inl ((hO k).2 ⟨_, hj⟩)
  · rintro k (e | e) _
    · exact (hO k).2 ⟨_, e⟩
    · exact (hO k).2 ⟨2, e ▸ h.t2⟩
theorem Did.trans {O1 : Nat → Prop} {s2 : AS} {w1 w2 : World} (h1 : ∀ k, O1 k → O k ∨ w.heap.size ≤ k) (hb : But O w w1) (h : Did w1 P O1 s2 w2) : Did w P O s2 w2 := by
  obtain ⟨O2, a, b, c⟩ := h
  refine ⟨O2, a, fun k hk => ?_, hb.trans c (fun k hk hlt => ?_)⟩
  · rcases b k hk with h | h
    · exact h1 k h
    · exact .inr (Nat.le_trans hb.size h)
  · rcases h1 k hk with h | h
    · exact h
    · omega
end

end Go.Proofs.YtapbphkhbhcdkaaGreat
