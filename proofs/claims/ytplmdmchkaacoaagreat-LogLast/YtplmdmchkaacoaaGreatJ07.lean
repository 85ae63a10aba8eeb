/-
  TEXTS JOINED: Ay, Rels.
-/
import Derived.Test.YtplmdmchkaacoaaGreatJ04
import Derived.Test.YtplmdmchkaacoaaGreatJ06

/-
  AN ARRAY AS IT LIES IN MEMORY: its own block, the row of its members, the power, the memory, the disks; each block is one's own.
-/
namespace Go.Proofs.YtplmdmchkaacoaaGreat
open Go.RowKit Go.Maps
set_option linter.unusedVariables false
set_option maxRecDepth 100000

/-- What an array is: how many members, the shape's other numbers, how many sectors; the disks; the member that is not current; whether it is broken; how many operations were done. -/
structure AS where
  M : Nat
  b : Int
  g : Int
  s : Int
  n : Int
  l : Int
  S : Nat
  d : Nat → DS
  stale : Int
  broken : Bool
  u : Int
  dur : Int
  rv : Value
  rl : Nat
def AS.rt (s : AS) : Rt := ⟨(s.M : Int), s.b, s.g, s.s, s.n, s.l, 0, s.dur, s.stale⟩
/-- Where it lies: the array, the members' row (and its room), the power, the memory, the disks. -/
structure Pl where
  a : Nat
  r : Nat
  c : Nat
  p : Nat
  n : Nat
  g : Nat → Nat
abbrev dev (g : Nat) : Value := .iface 152 (.pointer (some ⟨g, 0, none⟩))
def acells (P : Pl) (s : AS) : Array Value :=
  #[.int .i64 (s.M : Int), .int .i64 s.b, .int .i64 s.g, .int .i64 s.s, .int .i64 s.n, .int .i64 s.l, .slice (some ⟨P.r, 0, none⟩) s.M P.c, .pointer (some ⟨P.n, 0, none⟩), .bool s.broken]

/-- What holds of the numbers. -/
structure AS.Wf (s : AS) : Prop where
  small : Small (s.M : Int) s.b s.g s.s s.n s.l
  sect : (s.S : Int) = 1 + 2 * pgs s.b s.g s.l + s.g * s.s
  some_ : 0 < pgs s.b s.g s.l ∧ pgs s.b s.g s.l ≤ 500000
  u0 : 0 ≤ s.u
  st : -1 ≤ s.stale ∧ s.stale < (s.M : Int)
  each : ∀ i, i < s.M → (s.d i).sectors = s.S ∧ ((s.d i).size : Int) = s.b ∧ ∀ j, 0 ≤ (s.d i).writes j ∧ (s.d i).writes j ≤ s.u

structure Ay (w : World) (P : Pl) (T : Nat → Nat → Prop) (s : AS) : Prop where
  arr : At w P.a (acells P s) 127
  row : ∀ i, i < s.M → w.cell? ⟨P.r, i, none⟩ = some (dev (P.g i))
  pw : Pw w P.p s.u (-1)
  nv : Nv w P.n P.p s.rt s.rv s.rl
  dk : ∀ i, i < s.M → Dk w (P.g i) P.p (T (4 + i)) (s.d i)
  ap : ∀ i j k, T i k → T j k → i = j
  t0 : T 0 P.a
  t1 : T 1 P.r
  t2 : T 2 P.p
  t3 : T 3 P.n
  lt : ∀ i k, T i k → k < w.heap.size
  wf : s.Wf

/-- The array, all its own blocks being O. -/
def Arr (w : World) (P : Pl) (O : Nat → Prop) (s : AS) : Prop := ∃ T, Ay w P T s ∧ ∀ k, O k ↔ ∃ i, T i k

section
variable {w w' : World} {P : Pl} {T : Nat → Nat → Prop} {S O : Nat → Prop} {s : AS}

theorem Ay.but (h : Ay w P T s) (hb : But S w w') (hS : ∀ i k, T i k → ¬ S k) : Ay w' P T s where
  arr := h.arr.but hb (hS _ _ h.t0)
  row := fun i hi => (hb.cell (p := ⟨P.r, i, none⟩) (h.lt _ _ h.t1) (hS _ _ h.t1)).trans (h.row i hi)
  pw := At.but h.pw hb (hS _ _ h.t2)
  nv := At.but h.nv hb (hS _ _ h.t3)
  dk := fun i hi => (h.dk i hi).but hb (fun k hk => hS _ _ hk)
  ap := h.ap
  t0 := h.t0
  t1 := h.t1
  t2 := h.t2
  t3 := h.t3
  lt := fun i k hk => Nat.lt_of_lt_of_le (h.lt i k hk) hb.size
  wf := h.wf
theorem Arr.but (h : Arr w P O s) (hb : But S w w') (hS : ∀ k, O k → ¬ S k) : Arr w' P O s := by
  obtain ⟨T, h, hO⟩ := h
  exact ⟨T, h.but hb (fun i k hk => hS k ((hO k).2 ⟨i, hk⟩)), hO⟩
theorem Arr.lt (h : Arr w P O s) : ∀ k, O k → k < w.heap.size := by
  obtain ⟨T, h, hO⟩ := h
  intro k hk
  obtain ⟨i, hi⟩ := (hO k).1 hk
  exact h.lt i k hi
theorem Arr.wf (h : Arr w P O s) : s.Wf := by obtain ⟨T, h, _⟩ := h; exact h.wf
theorem Arr.up (h : Arr w P O s) (hb : Below w.heap.size w w') : Arr w' P O s := h.but (S := fun _ => False) (But.of_below hb) (fun _ _ h => h)
theorem Arr.alloc (h : Arr w P O s) (o : Obj) : Arr (w.alloc o) P O s := h.but (S := fun _ => False) ((But.refl _ _).alloc o) (fun _ _ h => h)
theorem Arr.drewN (h : Arr w P O s) (n : Nat) : Arr (w.drewN n) P O s := h.but (S := fun _ => False) ((But.refl _ _).drewN n) (fun _ _ h => h)
theorem Arr.drew (h : Arr w P O s) : Arr w.drew P O s := h.but (S := fun _ => False) ((But.refl _ _).drew) (fun _ _ h => h)
/-- The array's own cells. -/
theorem Arr.cells (h : Arr w P O s) : w.cell? ⟨P.a, 6, none⟩ = some (.slice (some ⟨P.r, 0, none⟩) s.M P.c) ∧ w.cell? ⟨P.a, 7, none⟩ = some (.pointer (some ⟨P.n, 0, none⟩)) ∧ w.cell? ⟨P.a, 8, none⟩ = some (.bool s.broken) := by
  obtain ⟨T, h, hO⟩ := h
  exact ⟨h.arr.cell 6, h.arr.cell 7, h.arr.cell 8⟩
theorem Arr.shape (h : Arr w P O s) : w.cell? ⟨P.a, 0, none⟩ = some (.int .i64 (s.M : Int)) ∧ w.cell? ⟨P.a, 1, none⟩ = some (.int .i64 s.b) ∧ w.cell? ⟨P.a, 2, none⟩ = some (.int .i64 s.g) ∧ w.cell? ⟨P.a, 3, none⟩ = some (.int .i64 s.s) ∧
    w.cell? ⟨P.a, 4, none⟩ = some (.int .i64 s.n) ∧ w.cell? ⟨P.a, 5, none⟩ = some (.int .i64 s.l) := by
  obtain ⟨T, h, hO⟩ := h
  exact ⟨h.arr.cell 0, h.arr.cell 1, h.arr.cell 2, h.arr.cell 3, h.arr.cell 4, h.arr.cell 5⟩
theorem Arr.frozen (h : Arr w P O s) (j : Nat) : w.frozen? ⟨P.a, j, none⟩ = false := by
  obtain ⟨T, h, hO⟩ := h
  exact h.arr.frozen j
theorem Arr.row (h : Arr w P O s) {i : Nat} (hi : i < s.M) : w.cell? ⟨P.r, i, none⟩ = some (dev (P.g i)) := by
  obtain ⟨T, h, hO⟩ := h
  exact h.row i hi
theorem Arr.nv (h : Arr w P O s) : Nv w P.n P.p s.rt s.rv s.rl := by
  obtain ⟨T, h, hO⟩ := h
  exact h.nv

/-- One of the disks turned, by an operation. -/
theorem Ay.turn {i : Nat} {T' : Nat → Prop} {d : DS} (h : Ay w P T s) (hi : i < s.M) (hd : Dk w' (P.g i) P.p T' d) (hp : Pw w' P.p (s.u + 1) (-1)) (hT : ∀ k, T' k → T (4 + i) k ∨ w.heap.size ≤ k) (hb : But (fun k => T (4 + i) k ∨ k = P.p) w w')
    (h1 : d.sectors = (s.d i).sectors) (h2 : d.size = (s.d i).size) (h3 : ∀ j, (s.d i).writes j ≤ d.writes j ∧ d.writes j ≤ (s.d i).writes j + 1) :
    Ay w' P (fun j k => if j = 4 + i then T' k else T j k) { s with d := fun j => if j = i then d else s.d j, u := s.u + 1 } := by
  have off : ∀ j, j ≠ 4 + i → j ≠ 2 → ∀ k, T j k → ¬ (T (4 + i) k ∨ k = P.p) := by
    rintro j hj h2 k hk (e | e)
    · exact hj (h.ap _ _ _ hk e)
    · exact h2 (h.ap _ _ _ hk (e ▸ h.t2))
  refine
    { arr := (h.arr.but hb (off 0 (by omega) (by omega) _ h.t0))
      row := fun j hj => (hb.cell (p := ⟨P.r, j, none⟩) (h.lt _ _ h.t1) (off 1 (by omega) (by omega) _ h.t1)).trans (h.row j hj)
      pw := hp
      nv := At.but h.nv hb (off 3 (by omega) (by omega) _ h.t3)
      dk := ?_
      ap := ?_
      t0 := by rw [if_neg (by omega)]; exact h.t0
      t1 := by rw [if_neg (by omega)]; exact h.t1
      t2 := by rw [if_neg (by omega)]; exact h.t2
      t3 := by rw [if_neg (by omega)]; exact h.t3
      lt := ?_
      wf := ⟨h.wf.small, h.wf.sect, h.wf.some_, by have := h.wf.u0; show 0 ≤ s.u + 1; omega, h.wf.st, ?_⟩ }
  · intro j hj
    by_cases e : j = i
    · subst e
      simp only [if_true]
      exact hd
    · have e1 : ¬ 4 + j = 4 + i := by omega
      simp only [e, e1, if_false]
      exact (h.dk j hj).but hb (off _ e1 (by omega))
  · intro x y k hx hy
    by_cases e1 : x = 4 + i <;> by_cases e2 : y = 4 + i
    · omega
    · simp only [e1, e2, if_true, if_false] at hx hy
      rcases hT k hx with h' | h'
      · rw [e1]; exact h.ap _ _ _ h' hy
      · have := h.lt _ _ hy; omega
    · simp only [e1, e2, if_true, if_false] at hx hy
      rcases hT k hy with h' | h'
      · rw [e2]; exact h.ap _ _ _ hx h'
      · have := h.lt _ _ hx; omega
    · simp only [e1, e2, if_false] at hx hy
      exact h.ap _ _ _ hx hy
  · intro j k hk
    by_cases e : j = 4 + i
    · simp only [e, if_true] at hk
      exact hd.lt k hk
    · simp only [e, if_false] at hk
      exact Nat.lt_of_lt_of_le (h.lt _ _ hk) hb.size
  · intro j hj
    obtain ⟨k1, k2, k3⟩ := h.wf.each j hj
    by_cases e : j = i
    · subst e
      simp only [if_true]
      exact ⟨h1.trans k1, by rw [h2]; exact k2, fun q => by have a := h3 q; have c := k3 q; show 0 ≤ d.writes q ∧ d.writes q ≤ s.u + 1; omega⟩
    · simp only [e, if_false]
      exact ⟨k1, k2, fun q => by have c := k3 q; show 0 ≤ (s.d j).writes q ∧ (s.d j).writes q ≤ s.u + 1; omega⟩

/-- The array behind a call: its blocks are those that were its own, or new ones; nothing else has turned. -/
def Did (w : World) (P : Pl) (O : Nat → Prop) (s' : AS) (w' : World) : Prop := ∃ O', Arr w' P O' s' ∧ (∀ k, O' k → O k ∨ w.heap.size ≤ k) ∧ But O w w'

theorem Arr.turn {i : Nat} {d : DS} (h : Arr w P O s) (hi : i < s.M)
    (hd : ∀ T, Dk w (P.g i) P.p T (s.d i) → ∃ T', Dk w' (P.g i) P.p T' d ∧ (∀ k, T' k → T k ∨ w.heap.size ≤ k) ∧ But (fun k => T k ∨ k = P.p) w w') (hp : Pw w' P.p (s.u + 1) (-1))
    (h1 : d.sectors = (s.d i).sectors) (h2 : d.size = (s.d i).size) (h3 : ∀ j, (s.d i).writes j ≤ d.writes j ∧ d.writes j ≤ (s.d i).writes j + 1) :
    Did w P O { s with d := fun j => if j = i then d else s.d j, u := s.u + 1 } w' := by
  obtain ⟨T, h, hO⟩ := h
  obtain ⟨T', hd', hT, hb⟩ := hd _ (h.dk i hi)
  refine ⟨fun k => ∃ j, (fun j k => if j = 4 + i then T' k else T j k) j k, ⟨_, h.turn hi hd' hp hT hb h1 h2 h3, fun k => Iff.rfl⟩, ?_, hb.mono ?_⟩
  · rintro k ⟨j, hj⟩
    by_cases e : j = 4 + i
    · simp only [e, if_true] at hj
      exact (hT k hj).imp (fun h => (hO k).2 ⟨_, h⟩) id
    · simp only [e, if_false] at hj
      exact .inl ((hO k).2 ⟨_, hj⟩)
  · rintro k (e | e) _
    · exact (hO k).2 ⟨_, e⟩
    · exact (hO k).2 ⟨2, e ▸ h.t2⟩
theorem Did.trans {O1 : Nat → Prop} {s2 : AS} {w1 w2 : World} (h1 : ∀ k, O1 k → O k ∨ w.heap.size ≤ k) (hb : But O w w1) (h : Did w1 P O1 s2 w2) : Did w P O s2 w2 := by
  obtain ⟨O2, a, b, c⟩ := h
  refine ⟨O2, a, fun k hk => ?_, hb.trans c (fun k hk hlt => ?_)⟩
  · rcases b k hk with h | h
    · exact h1 k h
    · exact .inr (Nat.le_trans hb.size h)
  · rcases h1 k hk with h | h
    · exact h
    · omega
end

end Go.Proofs.YtplmdmchkaacoaaGreat

/-
  WHAT AN ARRAY IS BEHIND A CALL: its disks, the member that is not current; numbers and relations only.
-/
namespace Go.Proofs.YtplmdmchkaacoaaGreat
open Go.RowKit Go.Maps
set_option linter.unusedVariables false
set_option maxRecDepth 100000

/-- A disk that does not fail, and is not going to. -/
def Live (d : DS) : Prop := d.dead = false ∧ d.failAt < 0
/-- Of what a disk is only its death differs. -/
structure Aged (d d' : DS) : Prop where
  same : d' = { d with dead := d'.dead }
  dies : d.dead = true → d'.dead = true
  why : d'.dead = true → d.dead = true ∨ 0 ≤ d.failAt
/-- It reads as R, if it lives. -/
structure Turns (R : Int → Bytes) (d d' : DS) : Prop where
  sectors : d'.sectors = d.sectors
  size : d'.size = d.size
  failAt : d'.failAt = d.failAt
  dies : d.dead = true → d'.dead = true
  why : d'.dead = true → d.dead = true ∨ 0 ≤ d.failAt
  read : d'.dead = false → ∀ x, d'.read x = R x

section
variable {d d' d'' : DS} {R R' : Int → Bytes}
theorem Aged.refl (d : DS) : Aged d d := ⟨rfl, fun h => h, fun h => .inl h⟩
theorem Aged.trans (h : Aged d d') (k : Aged d' d'') : Aged d d'' := by
  refine ⟨?_, fun e => k.dies (h.dies e), fun e => ?_⟩
  · rw [k.same, h.same]
  · rcases k.why e with e | e
    · exact h.why e
    · exact .inr (by rw [h.same] at e; exact e)
theorem Aged.op (d : DS) (u : Int) : Aged d (d.op u) := by
  refine ⟨rfl, fun e => ?_, fun e => ?_⟩
  · unfold DS.op
    simp [e]
  · unfold DS.op at e
    simp only [Bool.or_eq_true, Bool.and_eq_true, decide_eq_true_eq] at e
    exact e.imp id (fun e => e.1)
theorem Aged.read (h : Aged d d') : d'.read = d.read := by rw [h.same]; rfl
theorem Aged.sizes (h : Aged d d') : d'.sectors = d.sectors ∧ d'.size = d.size ∧ d'.writes = d.writes ∧ d'.failAt = d.failAt := by rw [h.same]; exact ⟨rfl, rfl, rfl, rfl⟩
theorem Aged.live (h : Aged d d') (l : Live d) : d' = d := by
  have e : d'.dead = false := by
    cases hd : d'.dead with
    | false => rfl
    | true =>
      rcases h.why hd with e | e
      · rw [l.1] at e; cases e
      · have := l.2; omega
  rw [h.same, e, ← l.1]
theorem Aged.turns (h : Aged d d') : Turns d.read d d' :=
  ⟨h.sizes.1, h.sizes.2.1, h.sizes.2.2.2, h.dies, h.why, fun _ x => by rw [h.read]⟩
theorem Turns.trans (h : Turns R d d') (k : Turns R' d' d'') : Turns R' d d'' where
  sectors := k.sectors.trans h.sectors
  size := k.size.trans h.size
  failAt := k.failAt.trans h.failAt
  dies := fun e => k.dies (h.dies e)
  why := fun e => by
    rcases k.why e with e | e
    · exact h.why e
    · exact .inr (by rw [← h.failAt]; exact e)
  read := k.read
theorem Turns.live (h : Turns R d d') (l : Live d) : Live d' ∧ ∀ x, d'.read x = R x := by
  have e : d'.dead = false := by
    cases hd : d'.dead with
    | false => rfl
    | true =>
      rcases h.why hd with e | e
      · rw [l.1] at e; cases e
      · have := l.2; omega
  exact ⟨⟨e, by rw [h.failAt]; exact l.2⟩, h.read e⟩
theorem Turns.congr (h : Turns R d d') (e : d'.dead = false → ∀ x, R x = R' x) : Turns R' d d' := { h with read := fun hd x => (h.read hd x).trans (e hd x) }
end

/-- What is read, with one sector another one. -/
def with1 (R : Int → Bytes) (i : Int) (b : Bytes) : Int → Bytes := fun x => if x = i then b else R x
theorem read_write (d : DS) (i : Int) (b : Bytes) : (d.write i b).read = with1 d.read i b := by
  funext x
  unfold with1 DS.read DS.last DS.write
  by_cases e : x = i
  · simp [e]
  · simp [e]
theorem read_flush (d : DS) : d.flush.read = d.read := by
  funext x
  unfold DS.read DS.last DS.flush over
  simp only
  cases d.wait x <;> rfl
theorem put_turns (d : DS) (u i : Int) (b : Bytes) : Turns (with1 d.read i b) d (d.put u i b) := by
  have h := Aged.op d u
  cases hd : (d.op u).dead with
  | true =>
    rw [DS.put_no i b hd]
    exact { h.turns with read := fun e => by rw [hd] at e; cases e }
  | false =>
    rw [DS.put_ok i b hd]
    refine ⟨h.sizes.1, h.sizes.2.1, h.sizes.2.2.2, fun e => ?_, fun e => ?_, fun _ x => ?_⟩
    · have := h.dies e; rw [hd] at this; cases this
    · exact h.why e
    · rw [read_write, h.read]
theorem put_dead (d : DS) (u i : Int) (b : Bytes) : (d.put u i b).dead = (d.op u).dead := by
  unfold DS.put
  split <;> rfl
theorem fl_turns (d : DS) (u : Int) : Turns d.read d (d.fl u) := by
  have h := Aged.op d u
  cases hd : (d.op u).dead with
  | true =>
    rw [DS.fl_no hd]
    exact { h.turns with read := fun e => by rw [hd] at e; cases e }
  | false =>
    rw [DS.fl_ok hd]
    refine ⟨h.sizes.1, h.sizes.2.1, h.sizes.2.2.2, fun e => ?_, fun e => ?_, fun _ x => ?_⟩
    · have := h.dies e; rw [hd] at this; cases this
    · exact h.why e
    · rw [read_flush, h.read]
theorem fl_dead (d : DS) (u : Int) : (d.fl u).dead = (d.op u).dead := by
  unfold DS.fl
  split <;> rfl

/-- No member but k fails; none but k is not current. -/
structure Sound (k : Nat) (s : AS) : Prop where
  whole : s.broken = false
  stale : s.stale = -1 ∨ s.stale = (k : Int)
  live : ∀ i, i < s.M → i ≠ k → Live (s.d i)
/-- The shape is the same. -/
def Same (s s' : AS) : Prop := s' = { s with d := s'.d, stale := s'.stale, broken := s'.broken, u := s'.u }
theorem Same.refl (s : AS) : Same s s := rfl
theorem Same.trans {a b c : AS} (h : Same a b) (k : Same b c) : Same a c := by
  unfold Same at *
  rw [k, h]
theorem Same.M {s s' : AS} (h : Same s s') : s'.M = s.M := by have e := congrArg AS.M (show s' = { s with d := s'.d, stale := s'.stale, broken := s'.broken, u := s'.u } from h); exact e
theorem Same.b {s s' : AS} (h : Same s s') : s'.b = s.b := by have e := congrArg AS.b (show s' = { s with d := s'.d, stale := s'.stale, broken := s'.broken, u := s'.u } from h); exact e
theorem Same.S {s s' : AS} (h : Same s s') : s'.S = s.S := by have e := congrArg AS.S (show s' = { s with d := s'.d, stale := s'.stale, broken := s'.broken, u := s'.u } from h); exact e

/-- Behind a call that did not break the array: each disk by R; who is not current; c operations at most. -/
structure Rel (R : Nat → DS → DS → Prop) (c : Int) (s s' : AS) : Prop where
  same : Same s s'
  disk : ∀ i, i < s.M → R i (s.d i) (s'.d i)
  stale : s'.stale = s.stale ∨ (s.stale = -1 ∧ ∃ i : Nat, i < s.M ∧ s'.stale = (i : Int) ∧ (s'.d i).dead = true)
  whole : s.broken = false ∧ s'.broken = false
  died : ∀ i : Nat, i < s.M → (s'.d i).dead = true → (s.d i).dead = true ∨ s'.stale = (i : Int)
  u : s.u ≤ s'.u ∧ s'.u ≤ s.u + c
  sound : ∀ k, Sound k s → Sound k s'
/-- Behind a call that broke it, or found it broken. -/
structure Gone (c : Int) (s s' : AS) : Prop where
  same : Same s s'
  broken : s'.broken = true
  u : s.u ≤ s'.u ∧ s'.u ≤ s.u + c
  unsound : ∀ k, ¬ Sound k s

section
variable {R R' R'' : Nat → DS → DS → Prop} {c c' : Int} {s s' s'' : AS}
theorem Rel.refl (hR : ∀ i, i < s.M → R i (s.d i) (s.d i)) (hw : s.broken = false) (hc : 0 ≤ c) : Rel R c s s :=
  ⟨Same.refl s, hR, .inl rfl, ⟨hw, hw⟩, fun _ _ h => .inl h, ⟨Int.le_refl _, by omega⟩, fun _ h => h⟩
theorem Rel.trans (h : Rel R c s s') (k : Rel R' c' s' s'') (hR : ∀ i d d' d'', i < s.M → R i d d' → R' i d' d'' → R'' i d d'') (hd : ∀ i d d', i < s.M → R' i d d' → d.dead = true → d'.dead = true) : Rel R'' (c + c') s s'' := by
  have hM := h.same.M
  refine ⟨h.same.trans k.same, fun i hi => hR i _ _ _ hi (h.disk i hi) (k.disk i (by rw [hM]; exact hi)), ?_, ⟨h.whole.1, k.whole.2⟩, fun i hi e => ?_, ⟨by have := h.u; have := k.u; omega, by have := h.u; have := k.u; omega⟩, fun q hq => k.sound q (h.sound q hq)⟩
  · rcases h.stale with e | ⟨e, i, hi, e1, e2⟩
    · rcases k.stale with e' | ⟨e', i, hi, e1, e2⟩
      · exact .inl (e'.trans e)
      · exact .inr ⟨e.symm.trans e', i, by rw [← hM]; exact hi, e1, e2⟩
    · rcases k.stale with e' | ⟨e', j, hj, e3, e4⟩
      · exact .inr ⟨e, i, hi, e'.trans e1, hd i _ _ hi (k.disk i (by rw [hM]; exact hi)) e2⟩
      · rw [e1] at e'; omega
  · rcases k.died i (by rw [hM]; exact hi) e with e' | e'
    · rcases h.died i hi e' with e'' | e''
      · exact .inl e''
      · rcases k.stale with f | ⟨f, _⟩
        · exact .inr (f.trans e'')
        · rw [e''] at f; omega
    · exact .inr e'
theorem Rel.mono (h : Rel R c s s') (hR : ∀ i d d', i < s.M → R i d d' → R' i d d') (hc : c ≤ c') : Rel R' c' s s' :=
  { h with disk := fun i hi => hR i _ _ hi (h.disk i hi), u := ⟨h.u.1, by have := h.u.2; omega⟩ }
theorem Rel.gone (h : Rel R c s s') (k : Gone c' s' s'') : Gone (c + c') s s'' :=
  ⟨h.same.trans k.same, k.broken, ⟨by have := h.u; have := k.u; omega, by have := h.u; have := k.u; omega⟩, fun q hq => k.unsound q (h.sound q hq)⟩
theorem Gone.mono (h : Gone c s s') (hc : c ≤ c') : Gone c' s s' := { h with u := ⟨h.u.1, by have := h.u.2; omega⟩ }
theorem Gone.found (hb : s.broken = true) (hc : 0 ≤ c) : Gone c s s := ⟨Same.refl s, hb, ⟨Int.le_refl _, by omega⟩, fun q hq => by rw [hq.whole] at hb; cases hb⟩
end

/-- The array behind an operation of a member. -/
def AS.turn (s : AS) (m : Nat) (d : DS) : AS := { s with d := fun j => if j = m then d else s.d j, u := s.u + 1 }
/-- Member m is lost. -/
def AS.lose (s : AS) (m : Nat) : AS := if s.stale = (m : Int) then s else if s.stale = -1 then { s with stale := (m : Int), u := s.u + 1 } else { s with broken := true }
def AS.loss (s : AS) (m : Nat) : Int := if s.stale = (m : Int) then 0 else if s.stale = -1 then 0 else 3

theorem turn_d (s : AS) (m : Nat) (d : DS) (i : Nat) : (s.turn m d).d i = if i = m then d else s.d i := rfl
theorem turn_same (s : AS) (m : Nat) (d : DS) : Same s (s.turn m d) := rfl
/-- An operation of a member that does not fail there. -/
theorem turn_rel {s : AS} {m : Nat} {d : DS} {R : Nat → DS → DS → Prop} (hw : s.broken = false) (hm : m < s.M) (hR : R m (s.d m) d) (ho : ∀ i, i < s.M → i ≠ m → R i (s.d i) (s.d i)) (hd : d.dead = false) (hf : d.failAt = (s.d m).failAt) : Rel R 1 s (s.turn m d) := by
  refine ⟨rfl, fun i hi => ?_, .inl rfl, ⟨hw, hw⟩, fun i hi e => ?_, ⟨by show s.u ≤ s.u + 1; omega, Int.le_refl _⟩, fun k hk => ⟨hk.whole, hk.stale, fun i hi hik => ?_⟩⟩
  · rw [turn_d]
    by_cases e : i = m
    · subst e; rw [if_pos rfl]; exact hR
    · rw [if_neg e]; exact ho i hi e
  · rw [turn_d] at e
    by_cases e' : i = m
    · rw [if_pos e', hd] at e; cases e
    · rw [if_neg e'] at e; exact .inl e
  · rw [turn_d]
    by_cases e : i = m
    · subst e; rw [if_pos rfl]; exact ⟨hd, by rw [hf]; exact (hk.live i hi hik).2⟩
    · rw [if_neg e]; exact hk.live i hi hik
/-- An operation at which the member fails: it is lost. -/
theorem lose_rel {s : AS} {m : Nat} {d : DS} {R : Nat → DS → DS → Prop} (hw : s.broken = false) (hm : m < s.M) (hR : R m (s.d m) d) (ho : ∀ i, i < s.M → i ≠ m → R i (s.d i) (s.d i)) (hd : d.dead = true) (hwhy : d.dead = true → (s.d m).dead = true ∨ 0 ≤ (s.d m).failAt) :
    (AS.loss (s.turn m d) m = 0 ∧ Rel R 2 s (AS.lose (s.turn m d) m) ∧ (AS.lose (s.turn m d) m).stale = (m : Int)) ∨ (AS.loss (s.turn m d) m = 3 ∧ Gone 2 s (AS.lose (s.turn m d) m)) := by
  have off : ∀ k, Sound k s → m = k := fun k hk => by
    by_cases e : m = k
    · exact e
    · have l := hk.live m hm e
      rcases hwhy hd with e | e
      · rw [l.1] at e; cases e
      · have := l.2; omega
  have eS : (s.turn m d).stale = s.stale := rfl
  have disk : ∀ i, i < s.M → R i (s.d i) ((s.turn m d).d i) := fun i hi => by
    rw [turn_d]
    by_cases e : i = m
    · subst e; rw [if_pos rfl]; exact hR
    · rw [if_neg e]; exact ho i hi e
  have died : ∀ i : Nat, i < s.M → ((s.turn m d).d i).dead = true → (s.d i).dead = true ∨ (m : Int) = (i : Int) := fun i hi e => by
    rw [turn_d] at e
    by_cases e' : i = m
    · exact .inr (by rw [e'])
    · rw [if_neg e'] at e; exact .inl e
  have live : ∀ k, Sound k s → ∀ i, i < s.M → i ≠ k → Live ((s.turn m d).d i) := fun k hk i hi hik => by
    have e := off k hk
    rw [turn_d, if_neg (by omega)]
    exact hk.live i hi hik
  have dm : ((s.turn m d).d m).dead = true := by rw [turn_d, if_pos rfl]; exact hd
  by_cases h1 : s.stale = (m : Int)
  · have e1 : AS.lose (s.turn m d) m = s.turn m d := by unfold AS.lose; rw [eS, if_pos h1]
    have e2 : AS.loss (s.turn m d) m = 0 := by unfold AS.loss; rw [eS, if_pos h1]
    rw [e1, e2]
    refine .inl ⟨rfl, ⟨rfl, disk, .inl rfl, ⟨hw, hw⟩, fun i hi e => (died i hi e).imp id (fun e => by rw [eS, h1]; exact e), ⟨by show s.u ≤ s.u + 1; omega, by show s.u + 1 ≤ s.u + 2; omega⟩, fun k hk => ⟨hk.whole, hk.stale, live k hk⟩⟩, h1⟩
  · by_cases h2 : s.stale = -1
    · have e1 : AS.lose (s.turn m d) m = { s.turn m d with stale := (m : Int), u := s.u + 1 + 1 } := by unfold AS.lose; rw [eS, if_neg h1, if_pos h2]; rfl
      have e2 : AS.loss (s.turn m d) m = 0 := by unfold AS.loss; rw [eS, if_neg h1, if_pos h2]
      rw [e1, e2]
      refine .inl ⟨rfl, ⟨rfl, disk, .inr ⟨h2, m, hm, rfl, dm⟩, ⟨hw, hw⟩, died, ⟨by show s.u ≤ s.u + 1 + 1; omega, by show s.u + 1 + 1 ≤ s.u + 2; omega⟩, fun k hk => ⟨hk.whole, .inr (by rw [← off k hk]), live k hk⟩⟩, rfl⟩
    · have e1 : AS.lose (s.turn m d) m = { s.turn m d with broken := true } := by unfold AS.lose; rw [eS, if_neg h1, if_neg h2]; rfl
      have e2 : AS.loss (s.turn m d) m = 3 := by unfold AS.loss; rw [eS, if_neg h1, if_neg h2]
      rw [e1, e2]
      refine .inr ⟨rfl, rfl, rfl, ⟨by show s.u ≤ s.u + 1; omega, by show s.u + 1 ≤ s.u + 2; omega⟩, fun k hk => ?_⟩
      rcases hk.stale with e | e
      · exact h2 e
      · rw [← off k hk] at e; exact h1 e

end Go.Proofs.YtplmdmchkaacoaaGreat
