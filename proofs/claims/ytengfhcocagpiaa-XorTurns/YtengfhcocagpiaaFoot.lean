/-
  WHAT A CALL MAY TURN: only the blocks that a set names, of those that were there; a block of its own; slices of slices of bytes.
-/
import Derived.Test.YtengfhcocagpiaaPar
import Derived.WalkKit
import Derived.ProofKit
import Derived.Laws.OwnMore
import Derived.Laws.Rows
import Derived.Deep.Draws
import Derived.Below
import Derived.Lib.Hide
import Derived.Lib.QuietBelow
import Derived.BigQuiet
import Derived.Lib.SliceRun
import Derived.Deep.QuietTactic
import Derived.Deep.AppendLies
import Derived.Maps.AppendAt
import Derived.Laws.AppendOwnNone
import Derived.Laws.CopyOwn
namespace Go.Proofs.Ytengfhcocagpiaa
open Go.RowKit Go.Sort
set_option linter.unusedVariables false

/-- Of the blocks that were there only those of S may have turned. -/
structure But (S : Nat → Prop) (w w' : World) : Prop where
  os : w'.os = w.os
  tape : w'.tape = w.tape
  output : w'.output = w.output
  size : w.heap.size ≤ w'.heap.size
  block : ∀ k, k < w.heap.size → ¬ S k → w'.heap[k]? = w.heap[k]?

section
variable {S T : Nat → Prop} {a b c w w' : World}

theorem But.refl (S : Nat → Prop) (w : World) : But S w w := ⟨rfl, rfl, rfl, Nat.le_refl _, fun _ _ _ => rfl⟩
theorem But.trans (h : But S a b) (k : But T b c) (hs : ∀ i, T i → i < a.heap.size → S i) : But S a c :=
  ⟨k.os.trans h.os, k.tape.trans h.tape, k.output.trans h.output, Nat.le_trans h.size k.size, fun i hi hn =>
    (k.block i (Nat.lt_of_lt_of_le hi h.size) (fun ht => hn (hs i ht hi))).trans (h.block i hi hn)⟩
theorem But.mono (h : But S a b) (hs : ∀ i, S i → i < a.heap.size → T i) : But T a b :=
  ⟨h.os, h.tape, h.output, h.size, fun i hi hn => h.block i hi (fun ht => hn (hs i ht hi))⟩
theorem But.drewN (h : But S a b) (n : Nat) : But S a (b.drewN n) := ⟨h.os, h.tape, h.output, h.size, h.block⟩
theorem But.of_drewN (n : Nat) (h : But S (a.drewN n) b) : But S a b := ⟨h.os, h.tape, h.output, h.size, h.block⟩
theorem But.drew (h : But S a b) : But S a b.drew := ⟨h.os, h.tape, h.output, h.size, h.block⟩
theorem But.alloc (h : But S a b) (o : Obj) : But S a (b.alloc o) :=
  h.trans (T := fun _ => False) ⟨rfl, rfl, rfl, by simp, fun k hk _ => Below.heap_alloc _ _ _ hk⟩ (fun _ h => h.elim)
theorem But.setCell (h : But S a b) {p : Addr} (hp : p.block < a.heap.size → S p.block) (u : Value) : But S a (b.setCell p u) :=
  h.trans (T := fun k => k = p.block) ⟨rfl, rfl, rfl, by simp [World.setCell], fun k _ hk => Below.heap_setCell _ _ _ _ hk⟩ (fun i e hi => by subst e; exact hp hi)
theorem But.grown {row : Option Nat} (h : But S a b) (hg : b.grownBy c row) (hr : ∀ k, row = some k → k < a.heap.size → S k) : But S a c :=
  h.trans (T := fun k => row = some k) ⟨hg.os, hg.tape, hg.output, hg.size, fun k hk hn => hg.block k hk (fun e => hn e.symm)⟩ (fun i e hi => hr i e hi)
theorem But.of_below (h : Below w.heap.size w w') : But S w w' := ⟨h.os, h.tape, h.output, h.size, fun k hk _ => h.block k hk⟩
theorem But.below {B : Nat} (h : But S w w') (hs : ∀ k, S k → B ≤ k) (hB : B ≤ w.heap.size) : Below B w w' :=
  ⟨h.os, h.tape, h.output, h.size, fun k hk => h.block k (by omega) (fun s => by have := hs k s; omega)⟩
theorem But.cell (h : But S w w') {p : Addr} (hp : p.block < w.heap.size) (hn : ¬ S p.block) : w'.cell? p = w.cell? p := World.cell?_of_block (h.block p.block hp hn)
theorem own_but {base n : Nat} {e : TypeId} {size : Nat} {v : Value} {xs : List Value} (h : w.ownsRow base e size v n xs) (hb : But S w w') (hn : ∀ k, v.ownBlock = some k → ¬ S k) : w'.ownsRow base e size v n xs := by
  refine ⟨h.1, ?_⟩
  rcases h.2 with h0 | ⟨g, cap, cur, rfl, hg, hh, rest⟩
  · exact .inl h0
  · exact .inr ⟨g, cap, cur, rfl, hg, (hb.block g (h.lt g rfl).2 (hn g rfl)).trans hh, rest⟩
end

theorem own_base {w : World} {base base' n : Nat} {e : TypeId} {size : Nat} {v : Value} {xs : List Value} (h : w.ownsRow base e size v n xs) (hb : ∀ k, v.ownBlock = some k → base' ≤ k) : w.ownsRow base' e size v n xs := by
  refine ⟨h.1, ?_⟩
  rcases h.2 with h0 | ⟨g, cap, cur, rfl, hg, hh, rest⟩
  · exact .inl h0
  · exact .inr ⟨g, cap, cur, rfl, hb g rfl, hh, rest⟩

/-- A block of its own holds these cells. -/
def At (w : World) (g : Nat) (cs : Array Value) (t : TypeId) : Prop := w.heap[g]? = some (.cells cs t (0, 0))
theorem At.lt {w : World} {g : Nat} {cs : Array Value} {t : TypeId} (h : At w g cs t) : g < w.heap.size := (Array.getElem?_eq_some_iff.1 h).1
theorem At.cell {w : World} {g : Nat} {cs : Array Value} {t : TypeId} (h : At w g cs t) (j : Nat) : w.cell? ⟨g, j, none⟩ = cs[j]? := cell_of_row w g j _ _ _ h
theorem At.frozen {w : World} {g : Nat} {cs : Array Value} {t : TypeId} (h : At w g cs t) (j : Nat) : w.frozen? ⟨g, j, none⟩ = false := frozen_of_row w g j _ _ h
theorem At.but {w w' : World} {S : Nat → Prop} {g : Nat} {cs : Array Value} {t : TypeId} (h : At w g cs t) (hb : But S w w') (hn : ¬ S g) : At w' g cs t := (hb.block g h.lt hn).trans h
theorem At.below {w w' : World} {B : Nat} {g : Nat} {cs : Array Value} {t : TypeId} (h : At w g cs t) (hb : Below B w w') (hn : g < B) : At w' g cs t := (hb.block g hn).trans h
theorem At.alloc {w : World} {g : Nat} {cs : Array Value} {t : TypeId} (h : At w g cs t) (o : Obj) : At (w.alloc o) g cs t := h.but (S := fun _ => False) ((But.refl _ _).alloc o) (fun h => h)
theorem At.new {w : World} {g : Nat} (cs : Array Value) (t : TypeId) (hg : w.heap.size = g) : At (w.alloc (.cells cs t)) g cs t := by
  subst hg
  exact heap_alloc_new _ _
theorem At.set {w : World} {g : Nat} {cs : Array Value} {t : TypeId} (h : At w g cs t) (j : Nat) (v : Value) : At (w.setCell ⟨g, j, none⟩ v) g (cs.setIfInBounds j v) t := by
  unfold At
  rw [heap_setCell_same w g j _ _ _ h]
theorem At.other {w : World} {g : Nat} {cs : Array Value} {t : TypeId} (h : At w g cs t) {p : Addr} (hp : ¬ p.block = g) (v : Value) : At (w.setCell p v) g cs t :=
  h.but (S := fun k => k = p.block) ((But.refl (fun k => k = p.block) w).setCell (p := p) (fun _ => rfl) v) (fun e => hp e.symm)

theorem up {B : Nat} {a w : World} (h : Below B a w) (e : B = a.heap.size) : B ≤ w.heap.size := by have := h.size; omega
theorem byte_info : (Try.prog.info? 5).map (fun i => (i.zero, i.size, i.bytes)) = some (some (.int .u8 0), 1, 1) := by kernel_rfl
theorem line_info : (Try.prog.info? 25).map (fun i => (i.zero, i.size, i.bytes)) = some (some (.slice none 0 0), 1, 24) := by kernel_rfl

theorem Has.cells {w : World} {x : Addr} {n : Nat} {l : List (BitVec 8)} (h : Has w (some x) n l) : ∀ j u, (l.map val)[j]? = some u → w.cell? (x.add j) = some u := by
  intro j u hu
  rw [List.getElem?_map] at hu
  obtain ⟨y, hy, rfl⟩ := Option.map_eq_some_iff.mp hu
  obtain ⟨hj, rfl⟩ := List.getElem?_eq_some_iff.mp hy
  obtain ⟨b, off, e, hb, hc⟩ := h.2 (by rw [← h.1]; omega)
  injection e with e
  subst e
  have e1 : (⟨b, off, none⟩ : Addr).add j = ⟨b, off + j, none⟩ := by
    unfold Addr.add
    by_cases h : j = 0 <;> simp [h]
  rw [e1]
  exact hc j hj
theorem val_one (l : List (BitVec 8)) : ∀ u ∈ l.map val, u.oneCell' = true := by
  intro u hu
  obtain ⟨x, _, rfl⟩ := List.mem_map.mp hu
  rfl
theorem line_one (L : List Sl) : ∀ u ∈ L.map Sl.v, u.oneCell' = true := by
  intro u hu
  obtain ⟨x, _, rfl⟩ := List.mem_map.mp hu
  rfl
theorem Has.but {w w' : World} {S : Nat → Prop} {A : Option Addr} {n : Nat} {l : List (BitVec 8)} (h : Has w A n l) (hb : But S w w') (hn : ∀ k, k < w.heap.size → ¬ S k) : Has w' A n l :=
  ⟨h.1, fun h0 => by
    obtain ⟨b, off, e, hlt, hc⟩ := h.2 h0
    exact ⟨b, off, e, Nat.lt_of_lt_of_le hlt hb.size, fun k hk => (hb.cell (p := ⟨b, off + k, none⟩) hlt (hn b hlt)).trans (hc k hk)⟩⟩
theorem Has.of_at {w : World} {g m : Nat} {f : Nat → BitVec 8} (h : At w g (tabA m f) 5) : Has w (some ⟨g, 0, none⟩) m (tab m f) :=
  Has.of_block h (tab_len m f) (fun k hk => by
    rw [tabA_get m f (by rw [tab_len] at hk; exact hk), tab_get]
    rfl)

/-- The slice (A, n) holds these values, a cell each. -/
def Row (w : World) (A : Option Addr) (n : Nat) (vs : List Value) : Prop :=
  vs.length = n ∧ (0 < n → ∃ b off, A = some ⟨b, off, none⟩ ∧ b < w.heap.size ∧ ∀ k (h : k < vs.length), w.cell? ⟨b, off + k, none⟩ = some vs[k])
/-- The slice (A, n) of slices of bytes. -/
structure Ln (w : World) (A : Option Addr) (n : Nat) (L : List Sl) : Prop where
  row : Row w A n (L.map Sl.v)
  has : ∀ x ∈ L, Has w x.A x.n x.l
  cap : ∀ x ∈ L, x.n ≤ 140737488355328
  few : n ≤ 5864062014805

section
variable {w w' : World} {A : Option Addr} {n : Nat} {vs : List Value} {L : List Sl}
theorem Row.keep (h : Row w A n vs) (hs : w.heap.size ≤ w'.heap.size) (hk : ∀ b off, A = some ⟨b, off, none⟩ → b < w.heap.size → ∀ k, w'.cell? ⟨b, k, none⟩ = w.cell? ⟨b, k, none⟩) : Row w' A n vs :=
  ⟨h.1, fun hn => by
    obtain ⟨b, off, e, hb, hc⟩ := h.2 hn
    exact ⟨b, off, e, by omega, fun k hk' => (hk b off e hb _).trans (hc k hk')⟩⟩
theorem Row.below (h : Row w A n vs) (hb : Below w.heap.size w w') : Row w' A n vs := h.keep hb.size fun b off _ hlt k => hb.cell (p := ⟨b, k, none⟩) hlt
theorem Row.some_ (h : Row w A n vs) (hn : 0 < n) : ∃ b off, A = some ⟨b, off, none⟩ := by
  obtain ⟨b, off, e, _⟩ := h.2 hn
  exact ⟨b, off, e⟩
theorem Row.cell {b off : Nat} (h : Row w (some ⟨b, off, none⟩) n vs) (k : Nat) (hk : k < n) : w.cell? ⟨b, off + k, none⟩ = some (vs[k]'(by rw [h.1]; exact hk)) := by
  obtain ⟨b', off', e, hb, hc⟩ := h.2 (by omega)
  injection e with e
  injection e with e1 e2
  subst e1 e2
  exact hc k _
theorem Row.cells {x : Addr} (h : Row w (some x) n vs) : ∀ j u, vs[j]? = some u → w.cell? (x.add j) = some u := by
  intro j u hu
  obtain ⟨hj, rfl⟩ := List.getElem?_eq_some_iff.mp hu
  obtain ⟨b, off, e, hb, hc⟩ := h.2 (by rw [← h.1]; omega)
  injection e with e
  subst e
  have e1 : (⟨b, off, none⟩ : Addr).add j = ⟨b, off + j, none⟩ := by
    unfold Addr.add
    by_cases h : j = 0 <;> simp [h]
  rw [e1]
  exact hc j hj
theorem Row.of_own {base : Nat} {e : TypeId} {v : Value} (h : w.ownsRow base e 1 v n vs) : ∃ A c, v = .slice A n c ∧ n ≤ c ∧ c ≤ maxLen ∧ Row w A n vs ∧ (A = none → c = 0) := by
  have hl : vs.length = n := by have := h.1; simpa using this
  rcases h.2 with ⟨rfl, hn0⟩ | ⟨g, cap, cur, rfl, hg, hh, hnc, hcm, hcs, htk⟩
  · subst hn0
    exact ⟨none, 0, rfl, Nat.le_refl _, by unfold maxLen; omega, ⟨hl, fun h => absurd h (by omega)⟩, fun _ => rfl⟩
  · refine ⟨some ⟨g, 0, none⟩, cap, rfl, hnc, hcm, ⟨hl, fun h0 => ⟨g, 0, rfl, (h.lt g rfl).2, fun k hk => ?_⟩⟩, fun e => by cases e⟩
    have := h.cellAt (g := g) (cap := cap) k (by omega)
    rw [Nat.zero_add, this, List.getElem?_eq_getElem hk]
theorem Row.take (h : Row w A n vs) (m : Nat) (hm : m ≤ n) : Row w A m (vs.take m) :=
  ⟨by rw [List.length_take, h.1]; omega, fun h0 => by
    obtain ⟨b, off, e, hb, hc⟩ := h.2 (by omega)
    refine ⟨b, off, e, hb, fun k hk => ?_⟩
    rw [List.length_take] at hk
    rw [List.getElem_take]
    exact hc k (by omega)⟩
theorem Row.drop {b off : Nat} (h : Row w (some ⟨b, off, none⟩) n vs) (m : Nat) (hm : m ≤ n) : Row w (some ⟨b, off + m, none⟩) (n - m) (vs.drop m) :=
  ⟨by rw [List.length_drop, h.1], fun h0 => by
    obtain ⟨b', off', e, hb, hc⟩ := h.2 (by omega)
    injection e with e
    injection e with e1 e2
    subst e1 e2
    refine ⟨b, off + m, rfl, hb, fun k hk => ?_⟩
    rw [List.length_drop] at hk
    rw [List.getElem_drop, Nat.add_assoc]
    exact hc (m + k) (by omega)⟩
theorem Ln.len (h : Ln w A n L) : L.length = n := by have := h.row.1; simpa using this
theorem Ln.below (h : Ln w A n L) (hb : Below w.heap.size w w') : Ln w' A n L := ⟨h.row.below hb, fun x hx => (h.has x hx).below hb, h.cap, h.few⟩
theorem Ln.drewN (h : Ln w A n L) (k : Nat) : Ln (w.drewN k) A n L := ⟨h.row, h.has, h.cap, h.few⟩
/-- One of the slices: its cell, its bytes. -/
theorem Ln.one (h : Ln w A n L) {j : Nat} (hj : j < n) : ∃ (hl : j < L.length) (b off : Nat), A = some ⟨b, off, none⟩ ∧ w.cell? ⟨b, off + j, none⟩ = some (.slice L[j].A L[j].n L[j].c) ∧ Has w L[j].A L[j].n L[j].l ∧ L[j].n ≤ 140737488355328 := by
  have hl : j < L.length := by rw [h.len]; exact hj
  obtain ⟨b, off, e⟩ := h.row.some_ (by omega)
  subst e
  refine ⟨hl, b, off, rfl, ?_, h.has _ (List.getElem_mem hl), h.cap _ (List.getElem_mem hl)⟩
  rw [h.row.cell j hj, List.getElem_map]
  rfl
theorem Ln.mx_le (h : Ln w A n L) (j : Nat) : mx (L.take j) ≤ 140737488355328 :=
  Go.Proofs.Ytengfhcocagpiaa.mx_le fun x hx => by
    have hm := List.mem_of_mem_take hx
    rw [(h.has x hm).1]
    exact h.cap x hm
theorem Ln.all (h : Ln w A n L) : L.take n = L := List.take_of_length_le (by rw [h.len]; exact Nat.le_refl _)
end

/-- 'append' of slices to a row of the call's own; where the new row lies. -/
theorem wpList_append_ln {w : World} {ops : Array Oper} {rest : List Oper} {o : Oper} {a : Act} {Q : Exit → Act → World → Prop} (hgd : o.guard = none) (s x : Operand)
    (ho : o.op = .call { callee := .builtin .append, args := #[s, x], argTypes := #[22, 22] }) (base : Nat) (v : Value) (n : Nat) (L : List Sl) (hs : a.eval s = v) (hown : w.ownsRow base 25 1 v n (L.map Sl.v))
    (S : Addr) (m c : Nat) (K : List Sl) (hx : a.eval x = .slice (some S) m c) (hk : Row w (some S) m (K.map Sl.v)) (hm : n + m ≤ 5864062014805) (hbase : base ≤ w.heap.size)
    (h : ∀ A cap w', w'.ownsRow base 25 1 (.slice A (n + m) cap) (n + m) ((L ++ K).map Sl.v) → w.grownBy w' v.ownBlock → (∀ g, (Value.slice A (n + m) cap).ownBlock = some g → v.ownBlock = some g ∨ w.heap.size ≤ g) →
      wpList Try.prog ops Q rest (a.put o.dst (.slice A (n + m) cap)) w') : wpList Try.prog ops Q (o :: rest) a w := by
  obtain ⟨i0, hi, hz0, hz1, hz2⟩ := info_parts line_info
  have hkl : K.length = m := by have := hk.1; simpa using this
  refine wpList_append_own_at w hgd s x 22 ho base 25 i0 (.slice none 0 0) 1 24 Try.underlying22 hi hz0 hz1 hz2 rfl (by decide) v _ _ hs hown S m c (K.map Sl.v) hx (by simp [hkl]) hk.cells (line_one K) (by unfold maxLen; omega) (by omega) hbase ?_
  intro v' w' hown' hg' _ hat
  obtain ⟨A, cap, rfl⟩ : ∃ A cap, v' = .slice A (n + m) cap := by
    rcases hown'.2 with ⟨rfl, e⟩ | ⟨g, cap, cur, rfl, _⟩
    · exact ⟨none, 0, by rw [e]⟩
    · exact ⟨_, cap, rfl⟩
  refine h A cap w' (by rw [List.map_append]; exact hown') hg' (fun g hg => ?_)
  rcases hat with e | e
  · exact .inl (by rw [← e]; exact hg)
  · rw [e] at hg
    injection hg with hg
    exact .inr (by omega)

theorem run_max2 {P : Program} (w : World) (ts : Array TypeId) (t : TypeId) (x y X : Int) (h : X = max x y) : (Builtin.max_ ts t #[.int .i64 x, .int .i64 y]).run P w = .ok (.int .i64 X) w := by
  have e : X = if x < y then y else x := by split <;> omega
  rw [e]
  simp [Builtin.max_, Builtin.max2]

end Go.Proofs.Ytengfhcocagpiaa
