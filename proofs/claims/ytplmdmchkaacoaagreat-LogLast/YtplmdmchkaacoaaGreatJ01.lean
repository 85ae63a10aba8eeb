/-
  TEXTS JOINED: Mem, Foot, Tick.
-/
import Derived.Test.YtplmdmchkaacoaaGreatRows
import Derived.WalkKit
import Derived.ProofKit
import Derived.Laws.OwnMore
import Derived.Deep.Draws
import Derived.Laws.Rows
import Derived.Lib.Hide
import Derived.Lib.SliceRun
import Derived.BigQuiet
import Derived.Deep.QuietTactic
import Derived.Deep.AppendLies
import Derived.Maps.AppendAt
import Derived.Laws.AppendOwnNone
import Derived.Laws.CopyOwn
import Derived.Defers
import Derived.Recover
import Derived.WalkLawsBesides

/-
  A SLICE OF BYTES THAT READS AS A LIST, nil let in: what is kept of it when memory grows, and of its parts.
-/
namespace Go.Proofs.YtplmdmchkaacoaaGreat
open Go.RowKit
set_option linter.unusedVariables false
set_option maxRecDepth 100000

/-- A byte as the model holds it. -/
def val (x : BitVec 8) : Value := .int .u8 (x.toNat : Int)

/-- The slice (A, n) holds the bytes l in the world w. -/
def Has (w : World) (A : Option Addr) (n : Nat) (l : List (BitVec 8)) : Prop :=
  l.length = n ∧ (0 < n → ∃ b off, A = some ⟨b, off, none⟩ ∧ b < w.heap.size ∧ ∀ k (h : k < l.length), w.cell? ⟨b, off + k, none⟩ = some (.int .u8 (l[k].toNat : Int)))

section
variable {w w' : World} {A : Option Addr} {n : Nat} {l : List (BitVec 8)}

theorem Has.keep (h : Has w A n l) (hs : w.heap.size ≤ w'.heap.size) (hk : ∀ p : Addr, p.block < w.heap.size → w'.cell? p = w.cell? p) : Has w' A n l :=
  ⟨h.1, fun hn => by
    obtain ⟨b, off, e, hb, hc⟩ := h.2 hn
    exact ⟨b, off, e, by omega, fun k hk' => (hk ⟨b, off + k, none⟩ hb).trans (hc k hk')⟩⟩
theorem Has.below (h : Has w A n l) (hb : Below w.heap.size w w') : Has w' A n l := h.keep hb.size fun _ hp => hb.cell hp
theorem Has.drewN (h : Has w A n l) (k : Nat) : Has (w.drewN k) A n l := h
theorem Has.take (h : Has w A n l) (m : Nat) (hm : m ≤ n) : Has w A m (l.take m) :=
  ⟨by rw [List.length_take, h.1]; omega, fun h0 => by
    obtain ⟨b, off, e, hb, hc⟩ := h.2 (by omega)
    refine ⟨b, off, e, hb, fun k hk => ?_⟩
    rw [List.length_take] at hk
    rw [List.getElem_take]
    exact hc k (by omega)⟩
theorem Has.drop {b off : Nat} (h : Has w (some ⟨b, off, none⟩) n l) (m : Nat) (hm : m ≤ n) : Has w (some ⟨b, off + m, none⟩) (n - m) (l.drop m) :=
  ⟨by rw [List.length_drop, h.1], fun h0 => by
    obtain ⟨b', off', e, hb, hc⟩ := h.2 (by omega)
    injection e with e
    injection e with e1 e2
    subst e1 e2
    refine ⟨b, off + m, rfl, hb, fun k hk => ?_⟩
    rw [List.length_drop] at hk
    rw [List.getElem_drop, Nat.add_assoc]
    exact hc (m + k) (by omega)⟩
theorem Has.some_ (h : Has w A n l) (hn : 0 < n) : ∃ b off, A = some ⟨b, off, none⟩ := by
  obtain ⟨b, off, e, _⟩ := h.2 hn
  exact ⟨b, off, e⟩
theorem Has.cell {b off : Nat} (h : Has w (some ⟨b, off, none⟩) n l) (k : Nat) (hk : k < n) : w.cell? ⟨b, off + k, none⟩ = some (.int .u8 ((l[k]'(by rw [h.1]; exact hk)).toNat : Int)) := by
  obtain ⟨b', off', e, hb, hc⟩ := h.2 (by omega)
  injection e with e
  injection e with e1 e2
  subst e1 e2
  exact hc k _
theorem Has.lt {b off : Nat} (h : Has w (some ⟨b, off, none⟩) n l) (hn : 0 < n) : b < w.heap.size := by
  obtain ⟨b', off', e, hb, hc⟩ := h.2 hn
  injection e with e
  injection e with e1 e2
  subst e1
  exact hb
theorem Has.of_block {g : Nat} {cs : Array Value} {t : TypeId} {fr : Nat × Nat} (hg : w.heap[g]? = some (.cells cs t fr)) (hl : l.length = n) (hc : ∀ k (h : k < l.length), cs[k]? = some (val l[k])) :
    Has w (some ⟨g, 0, none⟩) n l := by
  refine ⟨hl, fun _ => ⟨g, 0, rfl, ?_, fun k hk => ?_⟩⟩
  · rcases Nat.lt_or_ge g w.heap.size with h | h
    · exact h
    · rw [Array.getElem?_eq_none h] at hg; cases hg
  · rw [Nat.zero_add, cell_of_row w g k cs t fr hg, hc k hk]
    rfl
theorem Has.nil (w : World) (A : Option Addr) : Has w A 0 [] := ⟨rfl, fun h => absurd h (by omega)⟩
theorem Has.of_own {base : Nat} {v : Value} (h : w.ownsRow base 5 1 v n (l.map val)) : ∃ A c, v = .slice A n c ∧ n ≤ c ∧ c ≤ maxLen ∧ Has w A n l ∧ (∀ x, A = some x → ∃ g, x = ⟨g, 0, none⟩ ∧ base ≤ g) := by
  have hl : l.length = n := by have := h.1; simpa using this
  rcases h.2 with ⟨rfl, hn0⟩ | ⟨g, cap, cur, rfl, hg, hh, hnc, hcm, hcs, htk⟩
  · subst hn0
    exact ⟨none, 0, rfl, Nat.le_refl _, by unfold maxLen; omega, ⟨hl, fun h => absurd h (by omega)⟩, fun x e => by cases e⟩
  · refine ⟨some ⟨g, 0, none⟩, cap, rfl, hnc, hcm, ⟨hl, fun h0 => ⟨g, 0, rfl, (h.lt g rfl).2, fun k hk => ?_⟩⟩, fun x e => ⟨g, by injection e with e; exact e.symm, hg⟩⟩
    have := h.cellAt (g := g) (cap := cap) k (by omega)
    rw [Nat.zero_add, this, List.getElem?_map, List.getElem?_eq_getElem hk]
    rfl
/-- What the row's reading says of a slice of bytes that came in. -/
theorem Has.of_row {x : Addr} {cap : Nat} {zs : List Int} (hl : n ≤ cap) (hz : zs.length = cap) (hc : ∀ i, i < zs.length → w.cell? (x.add i) = some (.int .u8 (zs.getD i 0)))
    (hw : ∀ z ∈ zs, (Lit.int .u8 z).wf = true) : Has w (some x) n ((zs.take n).map (BitVec.ofInt 8)) := by
  refine ⟨by simp; omega, fun hn => ?_⟩
  obtain ⟨b, off, spot⟩ := x
  have h0 := hc 0 (by omega)
  have hs : spot = none := by simpa [Addr.add] using World.cell?_spot h0
  subst hs
  refine ⟨b, off, rfl, ?_, fun k hk => ?_⟩
  · rcases Nat.lt_or_ge b w.heap.size with h | h
    · exact h
    · simp [World.cell?, Addr.add, Array.getElem?_eq_none h] at h0
  · have hkz : k < zs.length := by simp at hk; omega
    have hk0 := hc k hkz
    have e1 : (⟨b, off, none⟩ : Addr).add k = ⟨b, off + k, none⟩ := by
      unfold Addr.add
      by_cases h : k = 0 <;> simp [h]
    rw [e1] at hk0
    rw [hk0]
    have hg : zs.getD k 0 = zs[k] := by rw [List.getD_eq_getElem?_getD, List.getElem?_eq_getElem hkz]; rfl
    have hb := hw zs[k] (List.getElem_mem hkz)
    have hbd : 0 ≤ zs[k] ∧ zs[k] ≤ 255 := by
      simpa [Lit.wf, IntKind.min, IntKind.max, IntKind.signed, IntKind.bits] using hb
    rw [hg]
    congr 2
    rw [List.getElem_map, List.getElem_take]
    rw [BitVec.toNat_ofInt]
    omega
end

end Go.Proofs.YtplmdmchkaacoaaGreat

/-
  WHAT A CALL MAY TURN: only the blocks that a set names, of those that were there; a block of its own; the counter.
-/
namespace Go.Proofs.YtplmdmchkaacoaaGreat
open Go.RowKit
set_option linter.unusedVariables false
set_option maxRecDepth 100000

theorem byte_info : (Tryz.prog.info? 5).map (fun i => (i.zero, i.size, i.bytes)) = some (some (.int .u8 0), 1, 1) := by kernel_rfl

theorem Has.cells {w : World} {x : Addr} {n : Nat} {l : List (BitVec 8)} (h : Has w (some x) n l) : ∀ j u, (l.map val)[j]? = some u → w.cell? (x.add j) = some u := by
  intro j u hu
  rw [List.getElem?_map] at hu
  obtain ⟨y, hy, rfl⟩ := Option.map_eq_some_iff.mp hu
  obtain ⟨hj, rfl⟩ := List.getElem?_eq_some_iff.mp hy
  obtain ⟨b, off, e, hb, hc⟩ := h.2 (by rw [← h.1]; omega)
  injection e with e
  subst e
  have e1 : (⟨b, off, none⟩ : Addr).add j = ⟨b, off + j, none⟩ := by
    unfold Addr.add
    by_cases h : j = 0 <;> simp [h]
  rw [e1]
  exact hc j hj
theorem val_one (l : List (BitVec 8)) : ∀ u ∈ l.map val, u.oneCell' = true := by
  intro u hu
  obtain ⟨x, _, rfl⟩ := List.mem_map.mp hu
  rfl

/-- A new row of the call's own holds the bytes l; what was there is as it was. -/
def Fresh (w : World) (n : Nat) (l : List (BitVec 8)) (v : Value) (w' : World) : Prop :=
  w'.ownsRow w.heap.size 5 1 v n (l.map val) ∧ Below w.heap.size w w'
def Cloned (w : World) (n : Nat) (l : List (BitVec 8)) (e : Ending) (w' : World) : Prop := ∃ v, e = .returned v ∧ Fresh w n l v w'
def Quiet (v : Value) (w : World) (e : Ending) (w' : World) : Prop := e = .returned v ∧ ∃ m, w' = w.drewN m

/-- Of the blocks that were there only those of S may have turned. -/
structure But (S : Nat → Prop) (w w' : World) : Prop where
  os : w'.os = w.os
  tape : w'.tape = w.tape
  output : w'.output = w.output
  size : w.heap.size ≤ w'.heap.size
  block : ∀ k, k < w.heap.size → ¬ S k → w'.heap[k]? = w.heap[k]?

section
variable {S T : Nat → Prop} {a b c w w' : World}

theorem But.refl (S : Nat → Prop) (w : World) : But S w w := ⟨rfl, rfl, rfl, Nat.le_refl _, fun _ _ _ => rfl⟩
theorem But.trans (h : But S a b) (k : But T b c) (hs : ∀ i, T i → i < a.heap.size → S i) : But S a c :=
  ⟨k.os.trans h.os, k.tape.trans h.tape, k.output.trans h.output, Nat.le_trans h.size k.size, fun i hi hn =>
    (k.block i (Nat.lt_of_lt_of_le hi h.size) (fun ht => hn (hs i ht hi))).trans (h.block i hi hn)⟩
theorem But.mono (h : But S a b) (hs : ∀ i, S i → i < a.heap.size → T i) : But T a b :=
  ⟨h.os, h.tape, h.output, h.size, fun i hi hn => h.block i hi (fun ht => hn (hs i ht hi))⟩
theorem But.drewN (h : But S a b) (n : Nat) : But S a (b.drewN n) := ⟨h.os, h.tape, h.output, h.size, h.block⟩
theorem But.of_drewN (n : Nat) (h : But S (a.drewN n) b) : But S a b := ⟨h.os, h.tape, h.output, h.size, h.block⟩
theorem But.drew (h : But S a b) : But S a b.drew := ⟨h.os, h.tape, h.output, h.size, h.block⟩
theorem But.alloc (h : But S a b) (o : Obj) : But S a (b.alloc o) :=
  h.trans (T := fun _ => False) ⟨rfl, rfl, rfl, by simp, fun k hk _ => Below.heap_alloc _ _ _ hk⟩ (fun _ h => h.elim)
theorem But.setCell (h : But S a b) {p : Addr} (hp : p.block < a.heap.size → S p.block) (u : Value) : But S a (b.setCell p u) :=
  h.trans (T := fun k => k = p.block) ⟨rfl, rfl, rfl, by simp [World.setCell], fun k _ hk => Below.heap_setCell _ _ _ _ hk⟩ (fun i e hi => by subst e; exact hp hi)
theorem But.grown {row : Option Nat} (h : But S a b) (hg : b.grownBy c row) (hr : ∀ k, row = some k → k < a.heap.size → S k) : But S a c :=
  h.trans (T := fun k => row = some k) ⟨hg.os, hg.tape, hg.output, hg.size, fun k hk hn => hg.block k hk (fun e => hn e.symm)⟩ (fun i e hi => hr i e hi)
theorem But.of_below (h : Below w.heap.size w w') : But S w w' := ⟨h.os, h.tape, h.output, h.size, fun k hk _ => h.block k hk⟩
theorem But.below {B : Nat} (h : But S w w') (hs : ∀ k, S k → B ≤ k) (hB : B ≤ w.heap.size) : Below B w w' :=
  ⟨h.os, h.tape, h.output, h.size, fun k hk => h.block k (by omega) (fun s => by have := hs k s; omega)⟩
theorem But.cell (h : But S w w') {p : Addr} (hp : p.block < w.heap.size) (hn : ¬ S p.block) : w'.cell? p = w.cell? p := World.cell?_of_block (h.block p.block hp hn)
theorem Has.but {A : Option Addr} {n : Nat} {l : List (BitVec 8)} (h : Has w A n l) (hb : But S w w') (hn : ∀ x, A = some x → ¬ S x.block) : Has w' A n l :=
  ⟨h.1, fun h0 => by
    obtain ⟨b, off, e, hlt, hc⟩ := h.2 h0
    exact ⟨b, off, e, Nat.lt_of_lt_of_le hlt hb.size, fun k hk => (hb.cell (p := ⟨b, off + k, none⟩) hlt (hn ⟨b, off, none⟩ e)).trans (hc k hk)⟩⟩
theorem own_but {base n : Nat} {e : TypeId} {size : Nat} {v : Value} {xs : List Value} (h : w.ownsRow base e size v n xs) (hb : But S w w') (hn : ∀ k, v.ownBlock = some k → ¬ S k) : w'.ownsRow base e size v n xs := by
  refine ⟨h.1, ?_⟩
  rcases h.2 with h0 | ⟨g, cap, cur, rfl, hg, hh, rest⟩
  · exact .inl h0
  · exact .inr ⟨g, cap, cur, rfl, hg, (hb.block g (h.lt g rfl).2 (hn g rfl)).trans hh, rest⟩
end

theorem own_base {w : World} {base base' n : Nat} {e : TypeId} {size : Nat} {v : Value} {xs : List Value} (h : w.ownsRow base e size v n xs) (hb : ∀ k, v.ownBlock = some k → base' ≤ k) : w.ownsRow base' e size v n xs := by
  refine ⟨h.1, ?_⟩
  rcases h.2 with h0 | ⟨g, cap, cur, rfl, hg, hh, rest⟩
  · exact .inl h0
  · exact .inr ⟨g, cap, cur, rfl, hb g rfl, hh, rest⟩

/-- 'append' of bytes to a row of the call's own, the source nil, empty or not; where the new row lies. -/
theorem wpList_append_has {w : World} {ops : Array Oper} {rest : List Oper} {o : Oper} {a : Act} {Q : Exit → Act → World → Prop} (hgd : o.guard = none) (s x : Operand)
    (ho : o.op = .call { callee := .builtin .append, args := #[s, x], argTypes := #[57, 57] }) (base : Nat) (v : Value) (n : Nat) (l : List (BitVec 8)) (hs : a.eval s = v) (hown : w.ownsRow base 5 1 v n (l.map val))
    (S : Option Addr) (m c : Nat) (k : List (BitVec 8)) (hx : a.eval x = .slice S m c) (hk : Has w S m k) (hnil : S = none → c = 0) (hm : n + m ≤ 100000000) (hbase : base ≤ w.heap.size)
    (h : ∀ A cap w', w'.ownsRow base 5 1 (.slice A (n + m) cap) (n + m) (l.map val ++ k.map val) → w.grownBy w' v.ownBlock → (∀ g, (Value.slice A (n + m) cap).ownBlock = some g → v.ownBlock = some g ∨ w.heap.size ≤ g) →
      wpList Tryz.prog ops Q rest (a.put o.dst (.slice A (n + m) cap)) w') : wpList Tryz.prog ops Q (o :: rest) a w := by
  obtain ⟨i0, hi, hz0, hz1, hz2⟩ := info_parts byte_info
  rcases S with _ | x0
  · have hm0 : m = 0 := by
      rcases Nat.eq_zero_or_pos m with h0 | h0
      · exact h0
      · obtain ⟨b, off, e⟩ := hk.some_ h0
        cases e
    subst hm0
    obtain rfl := hnil rfl
    obtain rfl : k = [] := List.eq_nil_of_length_eq_zero hk.1
    obtain ⟨A, cap, rfl⟩ : ∃ A cap, v = .slice A n cap := by
      rcases hown.2 with ⟨rfl, rfl⟩ | ⟨g, cap, cur, rfl, _⟩
      · exact ⟨none, 0, rfl⟩
      · exact ⟨_, cap, rfl⟩
    refine wpList_append_own_none hgd s x 57 ho base 5 i0 1 Tryz.underlying57 hi _ _ _ hs hown hx ?_
    have := h A cap w (by simpa using hown) ⟨rfl, rfl, rfl, Nat.le_refl _, fun _ _ _ => rfl⟩ (fun g hg => .inl (by simpa [Value.ownBlock] using hg))
    simpa using this
  · refine wpList_append_own_at w hgd s x 57 ho base 5 i0 (.int .u8 0) 1 1 Tryz.underlying57 hi hz0 hz1 hz2 rfl (by decide) v _ _ hs hown x0 m c (k.map val) hx (by simp [hk.1]) hk.cells (val_one k) (by unfold maxLen; omega) (by omega) hbase ?_
    intro v' w' hown' hg' _ hat
    obtain ⟨A, cap, rfl⟩ : ∃ A cap, v' = .slice A (n + m) cap := by
      rcases hown'.2 with ⟨rfl, e⟩ | ⟨g, cap, cur, rfl, _⟩
      · exact ⟨none, 0, by rw [e]⟩
      · exact ⟨_, cap, rfl⟩
    refine h A cap w' hown' hg' (fun g hg => ?_)
    rcases hat with e | e
    · exact .inl (by rw [← e]; exact hg)
    · rw [e] at hg
      injection hg with hg
      exact .inr (by omega)

/-- A block of its own holds these cells. -/
def At (w : World) (g : Nat) (cs : Array Value) (t : TypeId) : Prop := w.heap[g]? = some (.cells cs t (0, 0))
theorem At.lt {w : World} {g : Nat} {cs : Array Value} {t : TypeId} (h : At w g cs t) : g < w.heap.size := (Array.getElem?_eq_some_iff.1 h).1
theorem At.cell {w : World} {g : Nat} {cs : Array Value} {t : TypeId} (h : At w g cs t) (j : Nat) : w.cell? ⟨g, j, none⟩ = cs[j]? := cell_of_row w g j _ _ _ h
theorem At.frozen {w : World} {g : Nat} {cs : Array Value} {t : TypeId} (h : At w g cs t) (j : Nat) : w.frozen? ⟨g, j, none⟩ = false := frozen_of_row w g j _ _ h
theorem At.but {w w' : World} {S : Nat → Prop} {g : Nat} {cs : Array Value} {t : TypeId} (h : At w g cs t) (hb : But S w w') (hn : ¬ S g) : At w' g cs t := (hb.block g h.lt hn).trans h
theorem At.below {w w' : World} {B : Nat} {g : Nat} {cs : Array Value} {t : TypeId} (h : At w g cs t) (hb : Below B w w') (hn : g < B) : At w' g cs t := (hb.block g hn).trans h
theorem At.alloc {w : World} {g : Nat} {cs : Array Value} {t : TypeId} (h : At w g cs t) (o : Obj) : At (w.alloc o) g cs t := h.but (S := fun _ => False) ((But.refl _ _).alloc o) (fun h => h)
theorem At.new {w : World} {g : Nat} (cs : Array Value) (t : TypeId) (hg : w.heap.size = g) : At (w.alloc (.cells cs t)) g cs t := by
  subst hg
  exact heap_alloc_new _ _
theorem At.set {w : World} {g : Nat} {cs : Array Value} {t : TypeId} (h : At w g cs t) (j : Nat) (v : Value) : At (w.setCell ⟨g, j, none⟩ v) g (cs.setIfInBounds j v) t := by
  unfold At
  rw [heap_setCell_same w g j _ _ _ h]
theorem At.other {w : World} {g : Nat} {cs : Array Value} {t : TypeId} (h : At w g cs t) {p : Addr} (hp : ¬ p.block = g) (v : Value) : At (w.setCell p v) g cs t :=
  h.but (S := fun k => k = p.block) ((But.refl (fun k => k = p.block) w).setCell (p := p) (fun _ => rfl) v) (fun e => hp e.symm)

/-- The counter at block g: u operations were done, l more may be. -/
def Pw (w : World) (g : Nat) (u l : Int) : Prop := At w g #[.int .i64 u, .int .i64 l] 147
/-- The variable at block b holds the counter's address. -/
def Pv (w : World) (b g : Nat) : Prop := At w b #[.pointer (some ⟨g, 0, none⟩)] 37

end Go.Proofs.YtplmdmchkaacoaaGreat

/-
  THE WALKS OF New, Tick, Used AND Limit.
-/
namespace Go.Proofs.YtplmdmchkaacoaaGreat
open Go.RowKit
set_option linter.unusedVariables false
set_option maxRecDepth 100000

/-- What Tick throws. -/
def out : List PanicEntry := [{ v := .iface 149 (.agg #[]), recovered := false }]

theorem But.own (w : World) (g j : Nat) (v : Value) : But (fun k => k = g) w (w.setCell ⟨g, j, none⟩ v) := (But.refl (fun k => k = g) w).setCell (p := ⟨g, j, none⟩) (fun _ => rfl) v

theorem new_any (l : Int) (w : World) : Calls Tryz.prog 97 #[.int .i64 l] w fun e w' => e = .returned (.pointer (some ⟨w.heap.size, 0, none⟩)) ∧ w' = w.alloc (.cells #[.int .i64 0, .int .i64 l] 147) := by
  go_enter Tryz.func97, Tryz.ntmps97
  go_wp2
  go_ret
  exact ⟨rfl, rfl⟩

theorem tick_out (g : Nat) (u : Int) (w : World) (h : Pw w g u 0) : Calls Tryz.prog 89 #[.pointer (some ⟨g, 0, none⟩)] w fun e w' => e = .panicked out ∧ w' = w := by
  have h1 := h.cell 1
  have h0 := h.cell 0
  have f0 := h.frozen 0
  have f1 := h.frozen 1
  simp at h0 h1
  go_enter Tryz.func89, Tryz.ntmps89
  go_wp2
  exact ⟨rfl, rfl, rfl⟩

theorem used_any (g : Nat) (u l : Int) (w : World) (h : Pw w g u l) : Calls Tryz.prog 187 #[.pointer (some ⟨g, 0, none⟩)] w fun e w' => e = .returned (.int .i64 u) ∧ w' = w := by
  have h0 := h.cell 0
  simp at h0
  go_enter Tryz.func187, Tryz.ntmps187
  go_wp2
  go_ret
  exact ⟨rfl, rfl⟩

theorem tick_pos (g : Nat) (u l : Int) (w : World) (h : Pw w g u l) (hu : 0 ≤ u ∧ u ≤ 1000000) (hl : 0 < l ∧ l ≤ 9223372036854775807) :
    Calls Tryz.prog 89 #[.pointer (some ⟨g, 0, none⟩)] w fun e w' => e = .returned (.tuple #[]) ∧ Pw w' g (u + 1) (l - 1) ∧ But (fun k => k = g) w w' := by
  have h1 := h.cell 1
  have h0 := h.cell 0
  have f0 := h.frozen 0
  have f1 := h.frozen 1
  simp at h0 h1
  have e1 : wrap64 (u + 1) = u + 1 := by unfold wrap64; omega
  have e2 : wrap64 (l - 1) = l - 1 := by unfold wrap64; omega
  have hl1 := hl.1
  have hl0 : ¬ l = 0 := by omega
  go_enter Tryz.func89, Tryz.ntmps89
  go_wp2
  go_end0
  exact ⟨rfl, At.set (At.set h 1 _) 0 _, (But.own _ _ _ _).trans (But.own _ _ _ _) (fun _ h _ => h)⟩

theorem tick_neg (g : Nat) (u l : Int) (w : World) (h : Pw w g u l) (hu : 0 ≤ u ∧ u ≤ 1000000) (hl : l < 0) :
    Calls Tryz.prog 89 #[.pointer (some ⟨g, 0, none⟩)] w fun e w' => e = .returned (.tuple #[]) ∧ Pw w' g (u + 1) l ∧ But (fun k => k = g) w w' := by
  have h1 := h.cell 1
  have h0 := h.cell 0
  have f0 := h.frozen 0
  have f1 := h.frozen 1
  simp at h0 h1
  have e1 : wrap64 (u + 1) = u + 1 := by unfold wrap64; omega
  have hl1 : ¬ 0 < l := by omega
  have hl0 : ¬ l = 0 := by omega
  go_enter Tryz.func89, Tryz.ntmps89
  go_wp2
  go_end0
  exact ⟨rfl, At.set h 0 _, But.own _ _ _ _⟩

/-- How many more may be done, behind one. -/
def less (l : Int) : Int := if 0 < l then l - 1 else l
theorem tick_go (g : Nat) (u l : Int) (w : World) (h : Pw w g u l) (hu : 0 ≤ u ∧ u ≤ 1000000) (hl : ¬ l = 0) (hm : l ≤ 9223372036854775807) :
    Calls Tryz.prog 89 #[.pointer (some ⟨g, 0, none⟩)] w fun e w' => e = .returned (.tuple #[]) ∧ Pw w' g (u + 1) (less l) ∧ But (fun k => k = g) w w' := by
  unfold less
  by_cases h0 : 0 < l
  · rw [if_pos h0]
    exact tick_pos g u l w h hu ⟨h0, hm⟩
  · rw [if_neg h0]
    exact tick_neg g u l w h hu (by omega)

end Go.Proofs.YtplmdmchkaacoaaGreat
