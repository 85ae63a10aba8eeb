/-
  WHAT A CALL MAY TURN: only the blocks that a set names, of those that were there; a block of its own; slices of slices of bytes.
-/
import Derived.Test.YtapbphkhbhcdkaaGreatFoot
import Derived.Test.YtapbphkhbhcdkaaGreatPar
import Derived.WalkKit
import Derived.ProofKit
import Derived.Laws.OwnMore
import Derived.Laws.Rows
import Derived.Deep.Draws
import Derived.Below
import Derived.Lib.Hide
import Derived.Lib.QuietBelow
import Derived.BigQuiet
import Derived.Lib.SliceRun
import Derived.Deep.QuietTactic
import Derived.Deep.AppendLies
import Derived.Maps.AppendAt
import Derived.Laws.AppendOwnNone
import Derived.Laws.CopyOwn
namespace Go.Proofs.YtapbphkhbhcdkaaGreat
open Go.RowKit Go.Sort
set_option linter.unusedVariables false
set_option maxRecDepth 100000

theorem line_info : (Tryz.prog.info? 55).map (fun i => (i.zero, i.size, i.bytes)) = some (some (.slice none 0 0), 1, 24) := by kernel_rfl

theorem line_one (L : List Sl) : ∀ u ∈ L.map Sl.v, u.oneCell' = true := by
  intro u hu
  obtain ⟨x, _, rfl⟩ := List.mem_map.mp hu
  rfl
theorem Has.of_at {w : World} {g m : Nat} {f : Nat → BitVec 8} (h : At w g (tabA m f) 5) : Has w (some ⟨g, 0, none⟩) m (tab m f) :=
  Has.of_block h (tab_len m f) (fun k hk => by
    rw [tabA_get m f (by rw [tab_len] at hk; exact hk), tab_get]
    rfl)

/-- The slice (A, n) holds these values, a cell each. -/
def Row (w : World) (A : Option Addr) (n : Nat) (vs : List Value) : Prop :=
  vs.length = n ∧ (0 < n → ∃ b off, A = some ⟨b, off, none⟩ ∧ b < w.heap.size ∧ ∀ k (h : k < vs.length), w.cell? ⟨b, off + k, none⟩ = some vs[k])
/-- The slice (A, n) of slices of bytes. -/
structure Ln (w : World) (A : Option Addr) (n : Nat) (L : List Sl) : Prop where
  row : Row w A n (L.map Sl.v)
  has : ∀ x ∈ L, Has w x.A x.n x.l
  cap : ∀ x ∈ L, x.n ≤ 140737488355328
  few : n ≤ 5864062014805

section
variable {w w' : World} {A : Option Addr} {n : Nat} {vs : List Value} {L : List Sl}
theorem Row.keep (h : Row w A n vs) (hs : w.heap.size ≤ w'.heap.size) (hk : ∀ b off, A = some ⟨b, off, none⟩ → b < w.heap.size → ∀ k, w'.cell? ⟨b, k, none⟩ = w.cell? ⟨b, k, none⟩) : Row w' A n vs :=
  ⟨h.1, fun hn => by
    obtain ⟨b, off, e, hb, hc⟩ := h.2 hn
    exact ⟨b, off, e, by omega, fun k hk' => (hk b off e hb _).trans (hc k hk')⟩⟩
theorem Row.below (h : Row w A n vs) (hb : Below w.heap.size w w') : Row w' A n vs := h.keep hb.size fun b off _ hlt k => hb.cell (p := ⟨b, k, none⟩) hlt
theorem Row.some_ (h : Row w A n vs) (hn : 0 < n) : ∃ b off, A = some ⟨b, off, none⟩ := by
  obtain ⟨b, off, e, _⟩ := h.2 hn
  exact ⟨b, off, e⟩
theorem Row.cell {b off : Nat} (h : Row w (some ⟨b, off, none⟩) n vs) (k : Nat) (hk : k < n) : w.cell? ⟨b, off + k, none⟩ = some (vs[k]'(by rw [h.1]; exact hk)) := by
  obtain ⟨b', off', e, hb, hc⟩ := h.2 (by omega)
  injection e with e
  injection e with e1 e2
  subst e1 e2
  exact hc k _
theorem Row.cells {x : Addr} (h : Row w (some x) n vs) : ∀ j u, vs[j]? = some u → w.cell? (x.add j) = some u := by
  intro j u hu
  obtain ⟨hj, rfl⟩ := List.getElem?_eq_some_iff.mp hu
  obtain ⟨b, off, e, hb, hc⟩ := h.2 (by rw [← h.1]; omega)
  injection e with e
  subst e
  have e1 : (⟨b, off, none⟩ : Addr).add j = ⟨b, off + j, none⟩ := by
    unfold Addr.add
    by_cases h : j = 0 <;> simp [h]
  rw [e1]
  exact hc j hj
theorem Row.of_own {base : Nat} {e : TypeId} {v : Value} (h : w.ownsRow base e 1 v n vs) : ∃ A c, v = .slice A n c ∧ n ≤ c ∧ c ≤ maxLen ∧ Row w A n vs ∧ (A = none → c = 0) := by
  have hl : vs.length = n := by have := h.1; simpa using this
  rcases h.2 with ⟨rfl, hn0⟩ | ⟨g, cap, cur, rfl, hg, hh, hnc, hcm, hcs, htk⟩
  · subst hn0
    exact ⟨none, 0, rfl, Nat.le_refl _, by unfold maxLen; omega, ⟨hl, fun h => absurd h (by omega)⟩, fun _ => rfl⟩
  · refine ⟨some ⟨g, 0, none⟩, cap, rfl, hnc, hcm, ⟨hl, fun h0 => ⟨g, 0, rfl, (h.lt g rfl).2, fun k hk => ?_⟩⟩, fun e => by cases e⟩
    have := h.cellAt (g := g) (cap := cap) k (by omega)
    rw [Nat.zero_add, this, List.getElem?_eq_getElem hk]
theorem Row.take (h : Row w A n vs) (m : Nat) (hm : m ≤ n) : Row w A m (vs.take m) :=
  ⟨by rw [List.length_take, h.1]; omega, fun h0 => by
    obtain ⟨b, off, e, hb, hc⟩ := h.2 (by omega)
    refine ⟨b, off, e, hb, fun k hk => ?_⟩
    rw [List.length_take] at hk
    rw [List.getElem_take]
    exact hc k (by omega)⟩
theorem Row.drop {b off : Nat} (h : Row w (some ⟨b, off, none⟩) n vs) (m : Nat) (hm : m ≤ n) : Row w (some ⟨b, off + m, none⟩) (n - m) (vs.drop m) :=
  ⟨by rw [List.length_drop, h.1], fun h0 => by
    obtain ⟨b', off', e, hb, hc⟩ := h.2 (by omega)
    injection e with e
    injection e with e1 e2
    subst e1 e2
    refine ⟨b, off + m, rfl, hb, fun k hk => ?_⟩
    rw [List.length_drop] at hk
    rw [List.getElem_drop, Nat.add_assoc]
    exact hc (m + k) (by omega)⟩
theorem Ln.len (h : Ln w A n L) : L.length = n := by have := h.row.1; simpa using this
theorem Ln.below (h : Ln w A n L) (hb : Below w.heap.size w w') : Ln w' A n L := ⟨h.row.below hb, fun x hx => (h.has x hx).below hb, h.cap, h.few⟩
theorem Ln.drewN (h : Ln w A n L) (k : Nat) : Ln (w.drewN k) A n L := ⟨h.row, h.has, h.cap, h.few⟩
/-- One of the slices: its cell, its bytes. -/
theorem Ln.one (h : Ln w A n L) {j : Nat} (hj : j < n) : ∃ (hl : j < L.length) (b off : Nat), A = some ⟨b, off, none⟩ ∧ w.cell? ⟨b, off + j, none⟩ = some (.slice L[j].A L[j].n L[j].c) ∧ Has w L[j].A L[j].n L[j].l ∧ L[j].n ≤ 140737488355328 := by
  have hl : j < L.length := by rw [h.len]; exact hj
  obtain ⟨b, off, e⟩ := h.row.some_ (by omega)
  subst e
  refine ⟨hl, b, off, rfl, ?_, h.has _ (List.getElem_mem hl), h.cap _ (List.getElem_mem hl)⟩
  rw [h.row.cell j hj, List.getElem_map]
  rfl
theorem Ln.mx_le (h : Ln w A n L) (j : Nat) : mx (L.take j) ≤ 140737488355328 :=
  Go.Proofs.YtapbphkhbhcdkaaGreat.mx_le fun x hx => by
    have hm := List.mem_of_mem_take hx
    rw [(h.has x hm).1]
    exact h.cap x hm
theorem Ln.all (h : Ln w A n L) : L.take n = L := List.take_of_length_le (by rw [h.len]; exact Nat.le_refl _)
end

/-- 'append' of slices to a row of the call's own; where the new row lies. -/
theorem wpList_append_ln {w : World} {ops : Array Oper} {rest : List Oper} {o : Oper} {a : Act} {Q : Exit → Act → World → Prop} (hgd : o.guard = none) (s x : Operand)
    (ho : o.op = .call { callee := .builtin .append, args := #[s, x], argTypes := #[48, 48] }) (base : Nat) (v : Value) (n : Nat) (L : List Sl) (hs : a.eval s = v) (hown : w.ownsRow base 55 1 v n (L.map Sl.v))
    (S : Addr) (m c : Nat) (K : List Sl) (hx : a.eval x = .slice (some S) m c) (hk : Row w (some S) m (K.map Sl.v)) (hm : n + m ≤ 5864062014805) (hbase : base ≤ w.heap.size)
    (h : ∀ A cap w', w'.ownsRow base 55 1 (.slice A (n + m) cap) (n + m) ((L ++ K).map Sl.v) → w.grownBy w' v.ownBlock → (∀ g, (Value.slice A (n + m) cap).ownBlock = some g → v.ownBlock = some g ∨ w.heap.size ≤ g) →
      wpList Tryz.prog ops Q rest (a.put o.dst (.slice A (n + m) cap)) w') : wpList Tryz.prog ops Q (o :: rest) a w := by
  obtain ⟨i0, hi, hz0, hz1, hz2⟩ := info_parts line_info
  have hkl : K.length = m := by have := hk.1; simpa using this
  refine wpList_append_own_at w hgd s x 48 ho base 55 i0 (.slice none 0 0) 1 24 Tryz.underlying48 hi hz0 hz1 hz2 rfl (by decide) v _ _ hs hown S m c (K.map Sl.v) hx (by simp [hkl]) hk.cells (line_one K) (by unfold maxLen; omega) (by omega) hbase ?_
  intro v' w' hown' hg' _ hat
  obtain ⟨A, cap, rfl⟩ : ∃ A cap, v' = .slice A (n + m) cap := by
    rcases hown'.2 with ⟨rfl, e⟩ | ⟨g, cap, cur, rfl, _⟩
    · exact ⟨none, 0, by rw [e]⟩
    · exact ⟨_, cap, rfl⟩
  refine h A cap w' (by rw [List.map_append]; exact hown') hg' (fun g hg => ?_)
  rcases hat with e | e
  · exact .inl (by rw [← e]; exact hg)
  · rw [e] at hg
    injection hg with hg
    exact .inr (by omega)

end Go.Proofs.YtapbphkhbhcdkaaGreat
