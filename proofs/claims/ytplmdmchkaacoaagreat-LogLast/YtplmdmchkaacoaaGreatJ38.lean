/-
  TEXTS JOINED: Lg, L5Foot, L5Base, L5Awake.
-/
import Derived.Test.YtplmdmchkaacoaaGreatJ37
import Derived.Test.YtplmdmchkaacoaaGreatJ29
import Derived.Test.YtplmdmchkaacoaaGreatJ28
import Derived.Test.YtplmdmchkaacoaaGreatRows
import Derived.Test.YtplmdmchkaacoaaGreatJ20
import Derived.Test.YtplmdmchkaacoaaGreatJ22
import Derived.Test.YtplmdmchkaacoaaGreatJ05
import Derived.WalkKit
import Derived.ProofKit
import Derived.Laws.OwnMore
import Derived.Laws.Rows
import Derived.Deep.Draws
import Derived.Below
import Derived.Lib.Hide
import Derived.Lib.QuietBelow
import Derived.BigQuiet
import Derived.Deep.RegionHeld3

/-
  A LOG AS IT LIES IN MEMORY: its array, its records, its map, its table, its own block; each part looked at alone, the others being as they were.
-/
namespace Go.Proofs.YtplmdmchkaacoaaGreat
open Go.RowKit
open L7 (Rr Rc)
open L12 (Sg)
open L13 (setN)
set_option linter.unusedVariables false
set_option maxRecDepth 100000

/-- Where it lies, beside its array: its own block, the map's, the table's, the table's row. -/
structure Ql where
  b : Nat
  m : Nat
  t : Nat
  r : Nat
def lcells (P : Pl) (q : Ql) (a : AS) (sg ix : Int) : Array Value :=
  #[.int .i64 (a.M : Int), .int .i64 a.b, .int .i64 a.g, .int .i64 a.s, .int .i64 a.n, .int .i64 a.l, .pointer (some ⟨P.a, 0, none⟩), .pointer (some ⟨P.n, 0, none⟩), .pointer (some ⟨q.m, 0, none⟩), .pointer (some ⟨q.t, 0, none⟩), .int .i64 sg, .int .i64 ix]
/-- The log; X i: the blocks of its part i. -/
structure Lg (w : World) (P : Pl) (q : Ql) (X : Nat → Nat → Prop) (x : LS) (l : Int) : Prop where
  arr : Arl w P (X 0) x.a l
  rcs : ∃ L, L7.Rw w 0 x.a.rv L ∧ L.map Rc.abs = x.recs ∧ (∀ y ∈ L, 0 < y.n → ∀ a, y.A = some a → X 1 a.block)
  rv : ∀ k, x.a.rv.ownBlock = some k → X 1 k
  map : ∃ A, L13.Lm w (X 2) q.m x.a.lb x.V A
  tab : L12.Tb w q.t q.r x.T
  box : At w q.b (lcells P q x.a (x.seg : Int) (x.idx : Int)) 46
  t3 : X 3 q.t
  r3 : X 3 q.r
  b4 : X 4 q.b
  ap : ∀ i j k, X i k → X j k → i = j
  lt : ∀ i k, X i k → k < w.heap.size
/-- The log, all its own blocks being O. -/
def LG (w : World) (P : Pl) (q : Ql) (O : Nat → Prop) (x : LS) (l : Int) : Prop := ∃ X, Lg w P q X x l ∧ ∀ k, O k ↔ ∃ i, X i k
/-- The log behind a call. -/
def Dg (w : World) (P : Pl) (q : Ql) (O : Nat → Prop) (x : LS) (l : Int) (w' : World) : Prop := ∃ O', LG w' P q O' x l ∧ (∀ k, O' k → O k ∨ w.heap.size ≤ k) ∧ But O w w'

section
variable {w w' : World} {P : Pl} {q : Ql} {X : Nat → Nat → Prop} {O S : Nat → Prop} {x : LS} {l : Int}

theorem Lg.but (h : Lg w P q X x l) (hb : But S w w') (hS : ∀ i k, X i k → ¬ S k) : Lg w' P q X x l := by
  obtain ⟨L, r1, r2, r3⟩ := h.rcs
  obtain ⟨A, m1⟩ := h.map
  exact
    { arr := h.arr.but hb (hS 0)
      rcs := ⟨L, r1.but hb (fun k hk => hS 1 k (h.rv k hk)) (fun y hy h0 a ha => hS 1 _ (r3 y hy h0 a ha)), r2, r3⟩
      rv := h.rv
      map := ⟨A, m1.but hb (hS 2)⟩
      tab := h.tab.but hb (hS 3 _ h.t3) (hS 3 _ h.r3)
      box := h.box.but hb (hS 4 _ h.b4)
      t3 := h.t3
      r3 := h.r3
      b4 := h.b4
      ap := h.ap
      lt := fun i k hk => Nat.lt_of_lt_of_le (h.lt i k hk) hb.size }
theorem LG.but (h : LG w P q O x l) (hb : But S w w') (hS : ∀ k, O k → ¬ S k) : LG w' P q O x l := by
  obtain ⟨X, h, hO⟩ := h
  exact ⟨X, h.but hb (fun i k hk => hS k ((hO k).2 ⟨i, hk⟩)), hO⟩
theorem LG.up (h : LG w P q O x l) (hb : Below w.heap.size w w') : LG w' P q O x l := h.but (S := fun _ => False) (But.of_below hb) (fun _ _ h => h)
theorem LG.alloc (h : LG w P q O x l) (o : Obj) : LG (w.alloc o) P q O x l := h.but (S := fun _ => False) ((But.refl _ _).alloc o) (fun _ _ h => h)
theorem LG.drewN (h : LG w P q O x l) (n : Nat) : LG (w.drewN n) P q O x l := h.but (S := fun _ => False) ((But.refl _ _).drewN n) (fun _ _ h => h)
theorem LG.drew (h : LG w P q O x l) : LG w.drew P q O x l := h.but (S := fun _ => False) ((But.refl _ _).drew) (fun _ _ h => h)
theorem LG.lt (h : LG w P q O x l) : ∀ k, O k → k < w.heap.size := by
  obtain ⟨X, h, hO⟩ := h
  intro k hk
  obtain ⟨i, hi⟩ := (hO k).1 hk
  exact h.lt i k hi
theorem LG.wf (h : LG w P q O x l) : x.a.Wf := by obtain ⟨X, h, _⟩ := h; exact h.arr.wf
theorem LG.own (h : LG w P q O x l) : O q.b := by obtain ⟨X, h, hO⟩ := h; exact (hO _).2 ⟨4, h.b4⟩
/-- The log's own cells. -/
theorem LG.cells (h : LG w P q O x l) : w.cell? ⟨q.b, 0, none⟩ = some (.int .i64 (x.a.M : Int)) ∧ w.cell? ⟨q.b, 1, none⟩ = some (.int .i64 x.a.b) ∧ w.cell? ⟨q.b, 2, none⟩ = some (.int .i64 x.a.g) ∧ w.cell? ⟨q.b, 3, none⟩ = some (.int .i64 x.a.s) ∧
    w.cell? ⟨q.b, 4, none⟩ = some (.int .i64 x.a.n) ∧ w.cell? ⟨q.b, 5, none⟩ = some (.int .i64 x.a.l) ∧ w.cell? ⟨q.b, 6, none⟩ = some (.pointer (some ⟨P.a, 0, none⟩)) ∧ w.cell? ⟨q.b, 7, none⟩ = some (.pointer (some ⟨P.n, 0, none⟩)) ∧
    w.cell? ⟨q.b, 8, none⟩ = some (.pointer (some ⟨q.m, 0, none⟩)) ∧ w.cell? ⟨q.b, 9, none⟩ = some (.pointer (some ⟨q.t, 0, none⟩)) ∧ w.cell? ⟨q.b, 10, none⟩ = some (.int .i64 (x.seg : Int)) ∧ w.cell? ⟨q.b, 11, none⟩ = some (.int .i64 (x.idx : Int)) := by
  obtain ⟨X, h, hO⟩ := h
  have := h.box
  exact ⟨this.cell 0, this.cell 1, this.cell 2, this.cell 3, this.cell 4, this.cell 5, this.cell 6, this.cell 7, this.cell 8, this.cell 9, this.cell 10, this.cell 11⟩
theorem LG.frozen (h : LG w P q O x l) (j : Nat) : w.frozen? ⟨q.b, j, none⟩ = false := by
  obtain ⟨X, h, hO⟩ := h
  exact h.box.frozen j
theorem LG.range (h : LG w P q O x l) : w.rangeAt q.b 0 x.a.sh := by
  intro j v hv
  rw [Nat.zero_add]
  have hj : j < 6 := by have := (List.getElem?_eq_some_iff.1 hv).1; simpa [AS.sh] using this
  obtain ⟨X, h, hO⟩ := h
  rw [h.box.cell]
  match j, hj, hv with
  | 0, _, hv => exact hv
  | 1, _, hv => exact hv
  | 2, _, hv => exact hv
  | 3, _, hv => exact hv
  | 4, _, hv => exact hv
  | 5, _, hv => exact hv

theorem LG.c3 (h : LG w P q O x l) : w.cell? ⟨q.b, 3, none⟩ = some (.int .i64 x.a.s) := h.cells.2.2.2.1
theorem LG.c1 (h : LG w P q O x l) : w.cell? ⟨q.b, 1, none⟩ = some (.int .i64 x.a.b) := h.cells.2.1
theorem LG.c2 (h : LG w P q O x l) : w.cell? ⟨q.b, 2, none⟩ = some (.int .i64 x.a.g) := h.cells.2.2.1
theorem LG.c5 (h : LG w P q O x l) : w.cell? ⟨q.b, 5, none⟩ = some (.int .i64 x.a.l) := h.cells.2.2.2.2.2.1
theorem LG.c6 (h : LG w P q O x l) : w.cell? ⟨q.b, 6, none⟩ = some (.pointer (some ⟨P.a, 0, none⟩)) := h.cells.2.2.2.2.2.2.1
theorem LG.c7 (h : LG w P q O x l) : w.cell? ⟨q.b, 7, none⟩ = some (.pointer (some ⟨P.n, 0, none⟩)) := h.cells.2.2.2.2.2.2.2.1
theorem LG.c8 (h : LG w P q O x l) : w.cell? ⟨q.b, 8, none⟩ = some (.pointer (some ⟨q.m, 0, none⟩)) := h.cells.2.2.2.2.2.2.2.2.1
theorem LG.c9 (h : LG w P q O x l) : w.cell? ⟨q.b, 9, none⟩ = some (.pointer (some ⟨q.t, 0, none⟩)) := h.cells.2.2.2.2.2.2.2.2.2.1
theorem LG.c10 (h : LG w P q O x l) : w.cell? ⟨q.b, 10, none⟩ = some (.int .i64 (x.seg : Int)) := h.cells.2.2.2.2.2.2.2.2.2.2.1
theorem LG.c11 (h : LG w P q O x l) : w.cell? ⟨q.b, 11, none⟩ = some (.int .i64 (x.idx : Int)) := h.cells.2.2.2.2.2.2.2.2.2.2.2
theorem Dg.refl (h : LG w P q O x l) : Dg w P q O x l w := ⟨O, h, fun k hk => .inl hk, But.refl _ _⟩
theorem Dg.of_up (h : LG w P q O x l) (hb : Below w.heap.size w w') : Dg w P q O x l w' := ⟨O, h.up hb, fun k hk => .inl hk, But.of_below hb⟩
theorem Dg.trans {O1 : Nat → Prop} {x2 : LS} {l2 : Int} {w1 w2 : World} (h1 : ∀ k, O1 k → O k ∨ w.heap.size ≤ k) (hb : But O w w1) (h : Dg w1 P q O1 x2 l2 w2) : Dg w P q O x2 l2 w2 := by
  obtain ⟨O2, a, b, c⟩ := h
  refine ⟨O2, a, fun k hk => ?_, hb.trans c (fun k hk hlt => ?_)⟩
  · rcases b k hk with h | h
    · exact h1 k h
    · exact .inr (Nat.le_trans hb.size h)
  · rcases h1 k hk with h | h
    · exact h
    · omega
theorem Dg.up {w2 : World} (h : Dg w P q O x l w') (hb : Below w'.heap.size w' w2) : Dg w P q O x l w2 := by
  obtain ⟨O', a, b, c⟩ := h
  exact ⟨O', a.up hb, b, c.trans (But.of_below (S := fun _ => False) hb) (fun _ h _ => h.elim)⟩

/-- The parts, the i-th one another one. -/
def swap (X : Nat → Nat → Prop) (i : Nat) (Y : Nat → Prop) (j k : Nat) : Prop := if j = i then Y k else X j k
/-- Part i turned, into blocks of its own or new ones. -/
theorem Lg.turned {i : Nat} {Y : Nat → Prop} (h : Lg w P q X x l) (hY : ∀ k, Y k → X i k ∨ w.heap.size ≤ k) (hb : But (X i) w w') (hlt : ∀ k, Y k → k < w'.heap.size) :
    (∀ a b k, swap X i Y a k → swap X i Y b k → a = b) ∧ (∀ a k, swap X i Y a k → k < w'.heap.size) ∧ (∀ k, (∃ j, swap X i Y j k) → (∃ j, X j k) ∨ w.heap.size ≤ k) := by
  refine ⟨?_, ?_, ?_⟩
  · intro a b k ha hb'
    unfold swap at ha hb'
    by_cases e1 : a = i <;> by_cases e2 : b = i
    · omega
    · rw [if_pos e1] at ha
      rw [if_neg e2] at hb'
      rcases hY k ha with h' | h'
      · rw [e1]; exact h.ap _ _ _ h' hb'
      · have := h.lt _ _ hb'; omega
    · rw [if_neg e1] at ha
      rw [if_pos e2] at hb'
      rcases hY k hb' with h' | h'
      · rw [e2]; exact h.ap _ _ _ ha h'
      · have := h.lt _ _ ha; omega
    · rw [if_neg e1] at ha
      rw [if_neg e2] at hb'
      exact h.ap _ _ _ ha hb'
  · intro a k ha
    unfold swap at ha
    split at ha
    · exact hlt k ha
    · exact Nat.lt_of_lt_of_le (h.lt _ _ ha) hb.size
  · rintro k ⟨j, hj⟩
    unfold swap at hj
    split at hj
    · exact (hY k hj).imp (fun h => ⟨i, h⟩) id
    · exact .inl ⟨j, hj⟩
theorem Lg.off {i j : Nat} (h : Lg w P q X x l) (hij : j ≠ i) : ∀ k, X j k → ¬ X i k := fun k hk e => hij (h.ap _ _ _ hk e)

/-- The array alone. -/
theorem LG.zoomA (h : LG w P q O x l) : ∃ O0, Arl w P O0 x.a l ∧ (∀ k, O0 k → O k) ∧ ¬ O0 q.b ∧ ∀ a' l' w', Same x.a a' → Dil w P O0 a' l' w' → Dg w P q O { x with a := a' } l' w' := by
  obtain ⟨X, h, hO⟩ := h
  refine ⟨X 0, h.arr, fun k hk => (hO k).2 ⟨0, hk⟩, h.off (i := 0) (j := 4) (by omega) _ h.b4, ?_⟩
  rintro a' l' w' hs ⟨Y, k1, k2, k3⟩
  obtain ⟨t1, t2, t3⟩ := h.turned (i := 0) k2 k3 k1.lt
  obtain ⟨L, r1, r2, r3⟩ := h.rcs
  obtain ⟨A, m1⟩ := h.map
  have e : a' = { x.a with d := a'.d, stale := a'.stale, broken := a'.broken, u := a'.u } := hs
  refine ⟨fun k => ∃ j, swap X 0 Y j k, ⟨swap X 0 Y, ⟨k1, ⟨L, ?_, r2, r3⟩, ?_, ⟨A, ?_⟩, h.tab.but k3 (h.off (by omega) _ h.t3) (h.off (by omega) _ h.r3), ?_, h.t3, h.r3, h.b4, t1, t2⟩, fun k => Iff.rfl⟩, ?_, ?_⟩
  · show L7.Rw w' 0 a'.rv L
    rw [e]
    exact r1.but k3 (fun k hk => h.off (i := 0) (j := 1) (by omega) k (h.rv k hk)) (fun y hy h0 a ha => h.off (i := 0) (j := 1) (by omega) _ (r3 y hy h0 a ha))
  · intro k hk
    have hk : a'.rv.ownBlock = some k := hk
    rw [e] at hk
    exact h.rv k hk
  · show L13.Lm w' (X 2) q.m a'.lb x.V A
    rw [e]
    exact m1.but k3 (h.off (by omega))
  · show At w' q.b (lcells P q a' _ _) 46
    rw [e]
    exact h.box.but k3 (h.off (by omega) _ h.b4)
  · exact fun k hk => (t3 k hk).imp (hO k).2 id
  · exact k3.mono (fun k hk _ => (hO k).2 ⟨0, hk⟩)

/-- The map alone. -/
theorem LG.zoomM (h : LG w P q O x l) : ∃ T A, L13.Lm w T q.m x.a.lb x.V A ∧ (∀ k, T k → O k) ∧ ∀ w' T' V' A', L13.Lm w' T' q.m x.a.lb V' A' → (∀ k, T' k → T k ∨ w.heap.size ≤ k) → But T w w' → Dg w P q O { x with V := V' } l w' := by
  obtain ⟨X, h, hO⟩ := h
  obtain ⟨A, m1⟩ := h.map
  refine ⟨X 2, A, m1, fun k hk => (hO k).2 ⟨2, hk⟩, ?_⟩
  rintro w' T0 V' A' m2 hT hb
  obtain ⟨T', m3, hT', hlt⟩ : ∃ T', L13.Lm w' T' q.m x.a.lb V' A' ∧ (∀ k, T' k → X 2 k ∨ w.heap.size ≤ k) ∧ ∀ k, T' k → k < w'.heap.size := by
    obtain ⟨r, Q, hl, ht, ha⟩ := m2
    exact ⟨L13.Mine q.m r Q, ⟨r, Q, hl, fun k hk => hk, ha⟩, fun k hk => hT k (ht k hk), fun k hk => hl.lt hk⟩
  obtain ⟨t1, t2, t3⟩ := h.turned (i := 2) hT' hb hlt
  obtain ⟨L, r1, r2, r3⟩ := h.rcs
  refine ⟨fun k => ∃ j, swap X 2 T' j k, ⟨swap X 2 T', ⟨h.arr.but hb (h.off (by omega)), ⟨L, ?_, r2, r3⟩, h.rv, ⟨A', m3⟩, h.tab.but hb (h.off (by omega) _ h.t3) (h.off (by omega) _ h.r3), h.box.but hb (h.off (by omega) _ h.b4), h.t3, h.r3, h.b4, t1, t2⟩, fun k => Iff.rfl⟩, ?_, ?_⟩
  · exact r1.but hb (fun k hk => h.off (i := 2) (j := 1) (by omega) k (h.rv k hk)) (fun y hy h0 a ha => h.off (i := 2) (j := 1) (by omega) _ (r3 y hy h0 a ha))
  · exact fun k hk => (t3 k hk).imp (hO k).2 id
  · exact hb.mono (fun k hk _ => (hO k).2 ⟨2, hk⟩)

/-- The table alone. -/
theorem LG.zoomT (h : LG w P q O x l) : L12.Tb w q.t q.r x.T ∧ O q.t ∧ O q.r ∧ ∀ w' T', L12.Tb w' q.t q.r T' → But (fun k => k = q.r) w w' → Dg w P q O { x with T := T' } l w' := by
  obtain ⟨X, h, hO⟩ := h
  refine ⟨h.tab, (hO _).2 ⟨3, h.t3⟩, (hO _).2 ⟨3, h.r3⟩, ?_⟩
  rintro w' T' k1 hb0
  have hb : But (X 3) w w' := hb0.mono (fun k e _ => e ▸ h.r3)
  obtain ⟨L, r1, r2, r3⟩ := h.rcs
  obtain ⟨A, m1⟩ := h.map
  refine ⟨O, ⟨X, ⟨h.arr.but hb (h.off (by omega)), ⟨L, ?_, r2, r3⟩, h.rv, ⟨A, m1.but hb (h.off (by omega))⟩, k1, h.box.but hb (h.off (by omega) _ h.b4), h.t3, h.r3, h.b4, h.ap, fun i k hk => Nat.lt_of_lt_of_le (h.lt i k hk) hb.size⟩, hO⟩, fun k hk => .inl hk, hb.mono (fun k hk _ => (hO k).2 ⟨3, hk⟩)⟩
  exact r1.but hb (fun k hk => h.off (i := 3) (j := 1) (by omega) k (h.rv k hk)) (fun y hy h0 a ha => h.off (i := 3) (j := 1) (by omega) _ (r3 y hy h0 a ha))

/-- Its own block alone. -/
theorem LG.zoomB (h : LG w P q O x l) : At w q.b (lcells P q x.a (x.seg : Int) (x.idx : Int)) 46 ∧ O q.b ∧ ∀ (w' : World) (sg ix : Nat), At w' q.b (lcells P q x.a (sg : Int) (ix : Int)) 46 → But (fun k => k = q.b) w w' → Dg w P q O { x with seg := sg, idx := ix } l w' := by
  obtain ⟨X, h, hO⟩ := h
  refine ⟨h.box, (hO _).2 ⟨4, h.b4⟩, ?_⟩
  rintro w' sg ix k1 hb0
  have hb : But (X 4) w w' := hb0.mono (fun k e _ => e ▸ h.b4)
  obtain ⟨L, r1, r2, r3⟩ := h.rcs
  obtain ⟨A, m1⟩ := h.map
  refine ⟨O, ⟨X, ⟨h.arr.but hb (h.off (by omega)), ⟨L, ?_, r2, r3⟩, h.rv, ⟨A, m1.but hb (h.off (by omega))⟩, h.tab.but hb (h.off (by omega) _ h.t3) (h.off (by omega) _ h.r3), k1, h.t3, h.r3, h.b4, h.ap, fun i k hk => Nat.lt_of_lt_of_le (h.lt i k hk) hb.size⟩, hO⟩, fun k hk => .inl hk, hb.mono (fun k hk _ => (hO k).2 ⟨4, hk⟩)⟩
  exact r1.but hb (fun k hk => h.off (i := 4) (j := 1) (by omega) k (h.rv k hk)) (fun y hy h0 a ha => h.off (i := 4) (j := 1) (by omega) _ (r3 y hy h0 a ha))

/-- The memory of the array turned, and one operation was done. -/
theorem Arl.nvturn {w w' : World} {P : Pl} {O S : Nat → Prop} {s : AS} {l l' : Int} {d : Int} {v : Value} {last : Nat} (h : Arl w P O s l) (hat : Nv w' P.n P.p { s.rt with dur := d } v last) (hp : Pw w' P.p (s.u + 1) l') (hb : But S w w') (hS : ∀ k, O k → S k → k = P.n ∨ k = P.p) :
    Arl w' P O { s with u := s.u + 1, dur := d, rv := v, rl := last } l' := by
  obtain ⟨T, hY, hO⟩ := h
  have off : ∀ j, j ≠ 2 → j ≠ 3 → ∀ k, T j k → ¬ S k := fun j h2 h3 k hk e => (hS k ((hO k).2 ⟨j, hk⟩) e).elim (fun e => h3 (hY.ap _ _ _ hk (e ▸ hY.t3))) (fun e => h2 (hY.ap _ _ _ hk (e ▸ hY.t2)))
  exact ⟨T,
    { arr := hY.arr.but hb (off 0 (by omega) (by omega) _ hY.t0)
      row := fun j hj => (hb.cell (p := ⟨P.r, j, none⟩) (hY.lt _ _ hY.t1) (off 1 (by omega) (by omega) _ hY.t1)).trans (hY.row j hj)
      pw := hp
      nv := hat
      dk := fun j hj => (hY.dk j hj).but hb (off _ (by omega) (by omega))
      ap := hY.ap
      t0 := hY.t0
      t1 := hY.t1
      t2 := hY.t2
      t3 := hY.t3
      lt := fun i k hk => Nat.lt_of_lt_of_le (hY.lt i k hk) hb.size
      wf := ⟨hY.wf.small, hY.wf.sect, hY.wf.some_, by have := hY.wf.u0; show 0 ≤ s.u + 1; omega, hY.wf.st, fun j hj => ⟨(hY.wf.each j hj).1, (hY.wf.each j hj).2.1, fun x => by have := (hY.wf.each j hj).2.2 x; exact ⟨this.1, by show (s.d j).writes x ≤ s.u + 1; omega⟩⟩⟩ }, hO⟩
theorem Arl.np {w : World} {P : Pl} {O : Nat → Prop} {s : AS} {l : Int} (h : Arl w P O s l) : P.n ≠ P.p := by
  obtain ⟨T, hY, hO⟩ := h
  intro e
  have := hY.ap 2 3 P.p hY.t2 (e ▸ hY.t3)
  omega

/-- The memory, with its records, alone. -/
theorem LG.zoomN (h : LG w P q O x l) : ∃ T, L7.Nv w P.n P.p T ⟨x.a.rt, x.a.rl, x.recs⟩ ∧ Pw w P.p x.a.u l ∧ (∀ k, T k → O k) ∧ O P.p ∧ ∀ (w' : World) (T' : Nat → Prop) (d : Int) (last : Nat) (R : List Rr) (l' : Int), L7.Nv w' P.n P.p T' ⟨{ x.a.rt with dur := d }, last, R⟩ → Pw w' P.p (x.a.u + 1) l' → (∀ k, T' k → T k ∨ w.heap.size ≤ k) → But (fun k => T k ∨ k = P.p) w w' →
    ∃ v, Dg w P q O { x with a := { x.a with u := x.a.u + 1, dur := d, rv := v, rl := last }, recs := R } l' w' := by
  obtain ⟨X, h, hO⟩ := h
  obtain ⟨L, r1, r2, r3⟩ := h.rcs
  obtain ⟨A, m1⟩ := h.map
  have own := h.arr.own
  have np := h.arr.np
  have ne1 : ∀ k, X 1 k → k ≠ P.n := fun k hk e => h.off (i := 0) (j := 1) (by omega) k hk (e ▸ own.2.2.2)
  refine ⟨fun k => k = P.n ∨ X 1 k, ⟨x.a.rv, L, ⟨h.arr.nv, r1, r2, .inl rfl, fun k hk => ⟨.inr (h.rv k hk), ne1 k (h.rv k hk)⟩, fun y hy h0 a ha => ⟨.inr (r3 y hy h0 a ha), ne1 _ (r3 y hy h0 a ha)⟩, fun k hk => hk.elim (fun e => e ▸ h.lt 0 _ own.2.2.2) (h.lt 1 k), fun e => e.elim (fun e => np e.symm) (fun e => h.off (i := 0) (j := 1) (by omega) _ e own.2.2.1)⟩⟩,
    h.arr.pw, fun k hk => hk.elim (fun e => (hO k).2 ⟨0, e ▸ own.2.2.2⟩) (fun e => (hO k).2 ⟨1, e⟩), (hO _).2 ⟨0, own.2.2.1⟩, ?_⟩
  rintro w' T' d last R l' ⟨v, L', hN⟩ hp hT hb
  have off : ∀ j, j ≠ 0 → j ≠ 1 → ∀ k, X j k → ¬ ((k = P.n ∨ X 1 k) ∨ k = P.p) := by
    rintro j h0 h1 k hk ((e | e) | e)
    · exact h0 (h.ap _ _ _ hk (e ▸ own.2.2.2))
    · exact h1 (h.ap _ _ _ hk e)
    · exact h0 (h.ap _ _ _ hk (e ▸ own.2.2.1))
  have a1 : Arl w' P (X 0) { x.a with u := x.a.u + 1, dur := d, rv := v, rl := last } l' := h.arr.nvturn hN.at_ hp hb (by
    rintro k hk ((e | e) | e)
    · exact .inl e
    · exact absurd hk (h.off (i := 0) (j := 1) (by omega) k e)
    · exact .inr e)
  have hY : ∀ k, (T' k ∧ k ≠ P.n) → X 1 k ∨ w.heap.size ≤ k := by
    rintro k ⟨hk, hn⟩
    rcases hT k hk with (e | e) | e
    · exact absurd e hn
    · exact .inl e
    · exact .inr e
  refine ⟨v, fun k => ∃ j, swap X 1 (fun k => T' k ∧ k ≠ P.n) j k, ⟨swap X 1 (fun k => T' k ∧ k ≠ P.n), ⟨a1, ⟨L', hN.rw, hN.abs, fun y hy h0 a ha => hN.dT y hy h0 a ha⟩, fun k hk => hN.vT k hk, ⟨A, m1.but hb (off 2 (by omega) (by omega))⟩, h.tab.but hb (off 3 (by omega) (by omega) _ h.t3) (off 3 (by omega) (by omega) _ h.r3), h.box.but hb (off 4 (by omega) (by omega) _ h.b4), h.t3, h.r3, h.b4, ?_, ?_⟩, fun k => Iff.rfl⟩, ?_, ?_⟩
  · intro a b k ha hb'
    unfold swap at ha hb'
    by_cases e1 : a = 1 <;> by_cases e2 : b = 1
    · omega
    · rw [if_pos e1] at ha
      rw [if_neg e2] at hb'
      rcases hY k ha with h' | h'
      · rw [e1]; exact h.ap _ _ _ h' hb'
      · have := h.lt _ _ hb'; omega
    · rw [if_neg e1] at ha
      rw [if_pos e2] at hb'
      rcases hY k hb' with h' | h'
      · rw [e2]; exact h.ap _ _ _ ha h'
      · have := h.lt _ _ ha; omega
    · rw [if_neg e1] at ha
      rw [if_neg e2] at hb'
      exact h.ap _ _ _ ha hb'
  · intro a k ha
    unfold swap at ha
    split at ha
    · exact hN.lt k ha.1
    · exact Nat.lt_of_lt_of_le (h.lt _ _ ha) hb.size
  · rintro k ⟨j, hj⟩
    unfold swap at hj
    split at hj
    · exact (hY k hj).imp (fun h => (hO k).2 ⟨1, h⟩) id
    · exact .inl ((hO k).2 ⟨j, hj⟩)
  · exact hb.mono (by
      rintro k ((e | e) | e) _
      · exact (hO k).2 ⟨0, e ▸ own.2.2.2⟩
      · exact (hO k).2 ⟨1, e⟩
      · exact (hO k).2 ⟨0, e ▸ own.2.2.1⟩)
end
end Go.Proofs.YtplmdmchkaacoaaGreat

/-
  WHAT A CALL MAY TURN: only the blocks that a set names, of those that were there; a block of its own.
-/
namespace Go.Proofs.YtplmdmchkaacoaaGreat.L5
set_option maxRecDepth 100000
open Go.RowKit Go.Sort
set_option linter.unusedVariables false

section
variable {S T : Nat → Prop} {a b c w w' : World}

end

end Go.Proofs.YtplmdmchkaacoaaGreat.L5

/-
  THE CALLS OF GEOM, ONE BY ONE, at a shape whose members, segments and stripes lie within their bounds: what each returns; nothing that was there is turned.
-/
namespace Go.Proofs.YtplmdmchkaacoaaGreat.L5
open Go.RowKit Go.Sort
set_option linter.unusedVariables false
set_option maxRecDepth 100000

theorem segment_any (m b g s n l : Int) (t : Int) (ht : 0 ≤ t ∧ t ≤ 1000000) (hs : 2 ≤ s ∧ s ≤ 16) (w : World) : Calls Tryz.prog 157 #[sv m b g s n l, .int .i64 t] w fun e w' => e = .returned (.int .i64 (t / s)) ∧ Below w.heap.size w w' := by
  unfold sv
  go_enter Tryz.func157, Tryz.ntmps157
  go_wp2_with fail
  refine (quot_any _ _ (by omega) (by omega) (by omega) _).mono ?_
  rintro e w' ⟨rfl, hb'⟩
  have HB := Lib.hid (((Below.refl w.heap.size w).alloc (Nat.le_refl _) _).trans (hb'.mono (by simp)))
  clear hb'
  go_wp2_with fail
  go_ret
  exact ⟨rfl, HB.out⟩
theorem place_any (m b g s n l : Int) (t : Int) (ht : 0 ≤ t ∧ t ≤ 1000000) (k : Int) (hk : 0 ≤ k ∧ k ≤ 1000000) (hm : 3 ≤ m ∧ m ≤ 16) (w : World) : Calls Tryz.prog 78 #[sv m b g s n l, .int .i64 t, .int .i64 k] w fun e w' => e = .returned (.int .i64 (t * (m - 2) + k)) ∧ Below w.heap.size w w' := by
  unfold sv
  have htm : 0 ≤ t * (m - 2) ∧ t * (m - 2) ≤ 14000000 := ⟨Int.mul_nonneg (by omega) (by omega), Int.le_trans (Int.mul_le_mul (show t ≤ 1000000 by omega) (show m - 2 ≤ 14 by omega) (by omega) (by omega)) (by omega)⟩
  go_enter Tryz.func78, Tryz.ntmps78
  go_wp2_with fail
  refine (slots_any m b g s n l hm _).mono ?_
  rintro e w' ⟨rfl, hb'⟩
  have HB := Lib.hid (((Below.refl w.heap.size w).alloc (Nat.le_refl _) _).trans (hb'.mono (by simp)))
  clear hb'
  go_wp2_with fail
  go_ret
  exact ⟨rfl, HB.out⟩

end Go.Proofs.YtplmdmchkaacoaaGreat.L5

/-
  THE EXAMPLE THAT EVERY LAW ASKS FIRST; THE SHAPES BY SMALL NUMBERS; the spot of a place.
-/
namespace Go.Proofs.YtplmdmchkaacoaaGreat.L5
open Go.RowKit Go.Sort
set_option linter.unusedVariables false
set_option maxRecDepth 100000

theorem info41 : (Tryz.prog.info? 123).map (·.size) = some 2 := by kernel_rfl
theorem spot_any (m b g s n l : Int) (p : Int) (hp : 0 ≤ p ∧ p ≤ 100000000) (hm : 3 ≤ m ∧ m ≤ 16) (w : World) : Calls Tryz.prog 63 #[sv m b g s n l, .int .i64 p] w fun e w' => e = .returned (.agg #[.int .i64 (p / (m - 2)), .int .i64 (1 + p % (m - 2))]) ∧ Below w.heap.size w w' := by
  unfold sv
  have hq : 0 ≤ p % (m - 2) ∧ p % (m - 2) ≤ 100 := by
    have h1 := Int.emod_nonneg p (show m - 2 ≠ 0 by omega)
    have h2 := Int.emod_lt_of_pos p (show 0 < m - 2 by omega)
    omega
  go_enter Tryz.func63, Tryz.ntmps63
  go_wp2_with fail
  have A : At ((w.alloc (.cells #[.int .i64 m, .int .i64 b, .int .i64 g, .int .i64 s, .int .i64 n, .int .i64 l] 27)).alloc (.cells #[.int .i64 0, .int .i64 0] 123)) w.heap.size #[.int .i64 m, .int .i64 b, .int .i64 g, .int .i64 s, .int .i64 n, .int .i64 l] 27 := (At.new (w := w) #[.int .i64 m, .int .i64 b, .int .i64 g, .int .i64 s, .int .i64 n, .int .i64 l] 27 rfl).alloc _
  have R : At ((w.alloc (.cells #[.int .i64 m, .int .i64 b, .int .i64 g, .int .i64 s, .int .i64 n, .int .i64 l] 27)).alloc (.cells #[.int .i64 0, .int .i64 0] 123)) (w.heap.size + 1) #[.int .i64 0, .int .i64 0] 123 := At.new _ 123 (by simp)
  have B0 := Lib.hid (((Below.refl w.heap.size w).alloc (Nat.le_refl _) (.cells #[.int .i64 m, .int .i64 b, .int .i64 g, .int .i64 s, .int .i64 n, .int .i64 l] 27)).alloc (by simp) (.cells #[.int .i64 0, .int .i64 0] 123))
  generalize (w.alloc (.cells #[.int .i64 m, .int .i64 b, .int .i64 g, .int .i64 s, .int .i64 n, .int .i64 l] 27)).alloc (.cells #[.int .i64 0, .int .i64 0] 123) = W at *
  generalize hH : w.heap.size = H at *
  have A1 := Lib.hid (show At (W.drewN 1) H #[.int .i64 m, .int .i64 b, .int .i64 g, .int .i64 s, .int .i64 n, .int .i64 l] 27 from A)
  have R1 := Lib.hid (show At (W.drewN 1) (H + 1) #[.int .i64 0, .int .i64 0] 123 from R)
  have B1 := Lib.hid (show Below H w (W.drewN 1) from ⟨B0.out.os, B0.out.tape, B0.out.output, B0.out.size, B0.out.block⟩)
  have j0 := A.cell 0; have j1 := A.cell 1; have j2 := A.cell 2; have j3 := A.cell 3; have j4 := A.cell 4; have j5 := A.cell 5
  clear A R
  go_region_held3 (fun w' => w'.cell? ⟨H, 0, none⟩ = some (.int .i64 m) ∧ w'.cell? ⟨H, 1, none⟩ = some (.int .i64 b) ∧ w'.cell? ⟨H, 2, none⟩ = some (.int .i64 g) ∧ w'.cell? ⟨H, 3, none⟩ = some (.int .i64 s) ∧ w'.cell? ⟨H, 4, none⟩ = some (.int .i64 n) ∧ w'.cell? ⟨H, 5, none⟩ = some (.int .i64 l)) (first | exact ⟨A1.out.cell 0, A1.out.cell 1, A1.out.cell 2, A1.out.cell 3, A1.out.cell 4, A1.out.cell 5⟩ | exact ⟨j0, j1, j2, j3, j4, j5⟩ | go_keep)
    ((first
    | (go_at_call 56; refine (slots_any m b g s n l hm _).mono ?_; rintro e w3 ⟨rfl, hb3⟩; have B1 := Lib.hid (B1.out.trans (hb3.mono (Nat.le_of_lt A1.out.lt))); have A1 := Lib.hid (A1.out.below hb3 A1.out.lt); have R1 := Lib.hid (R1.out.below hb3 R1.out.lt); clear hb3)
    | (go_at_call 110; refine (quot_any _ _ (by omega) (by omega) (by omega) _).mono ?_; rintro e w3 ⟨rfl, hb3⟩; have B1 := Lib.hid (B1.out.trans (hb3.mono (Nat.le_of_lt A1.out.lt))); have A1 := Lib.hid (A1.out.below hb3 A1.out.lt); have R1 := Lib.hid (R1.out.below hb3 R1.out.lt); clear hb3)
    | (go_at_call 111; refine (rem_any _ _ (by omega) (by omega) (by omega) _).mono ?_; rintro e w3 ⟨rfl, hb3⟩; have B1 := Lib.hid (B1.out.trans (hb3.mono (Nat.le_of_lt A1.out.lt))); have A1 := Lib.hid (A1.out.below hb3 A1.out.lt); have R1 := Lib.hid (R1.out.below hb3 R1.out.lt); have r0 := R1.out.cell 0; have r1 := R1.out.cell 1; have f0 := R1.out.frozen 0; have f1 := R1.out.frozen 1; clear hb3)))
  all_goals
    go_wp2
    rw [wrap_of (show -9223372036854775808 ≤ 1 + p % (m - 2) by omega) (by omega)]
    have R2 := (R1.out.set 0 (.int .i64 (p / (m - 2)))).set 1 (.int .i64 (1 + p % (m - 2)))
    have hlt := A1.out.lt
    refine bodyPost_ret (results_cell_row (p := 4) (ty := 123) rfl _ _ (H + 1) 123 #[.int .i64 (p / (m - 2)), .int .i64 (1 + p % (m - 2))] (0, 0) _ rfl R2 Tryz.underlying123 rfl info41) rfl ?_
    exact ⟨rfl, by rw [hH]; exact (B1.out.setCell (by simp) _).setCell (by simp) _⟩

end Go.Proofs.YtplmdmchkaacoaaGreat.L5
