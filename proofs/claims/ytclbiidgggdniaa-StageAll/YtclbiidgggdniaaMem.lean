/-
  A SLICE OF BYTES THAT READS AS A LIST, nil let in: what is kept of it when memory grows, and of its parts.
-/
import Derived.Test.YtclbiidgggdniaaRows
import Derived.WalkKit
import Derived.ProofKit
import Derived.Laws.OwnMore
import Derived.Deep.Draws
import Derived.Laws.Rows
namespace Go.Proofs.Ytclbiidgggdniaa
open Go.RowKit
set_option linter.unusedVariables false

/-- A byte as the model holds it. -/
def val (x : BitVec 8) : Value := .int .u8 (x.toNat : Int)

/-- The slice (A, n) holds the bytes l in the world w. -/
def Has (w : World) (A : Option Addr) (n : Nat) (l : List (BitVec 8)) : Prop :=
  l.length = n ∧ (0 < n → ∃ b off, A = some ⟨b, off, none⟩ ∧ b < w.heap.size ∧ ∀ k (h : k < l.length), w.cell? ⟨b, off + k, none⟩ = some (.int .u8 (l[k].toNat : Int)))

section
variable {w w' : World} {A : Option Addr} {n : Nat} {l : List (BitVec 8)}

theorem Has.keep (h : Has w A n l) (hs : w.heap.size ≤ w'.heap.size) (hk : ∀ p : Addr, p.block < w.heap.size → w'.cell? p = w.cell? p) : Has w' A n l :=
  ⟨h.1, fun hn => by
    obtain ⟨b, off, e, hb, hc⟩ := h.2 hn
    exact ⟨b, off, e, by omega, fun k hk' => (hk ⟨b, off + k, none⟩ hb).trans (hc k hk')⟩⟩
theorem Has.below (h : Has w A n l) (hb : Below w.heap.size w w') : Has w' A n l := h.keep hb.size fun _ hp => hb.cell hp
theorem Has.drewN (h : Has w A n l) (k : Nat) : Has (w.drewN k) A n l := h
theorem Has.take (h : Has w A n l) (m : Nat) (hm : m ≤ n) : Has w A m (l.take m) :=
  ⟨by rw [List.length_take, h.1]; omega, fun h0 => by
    obtain ⟨b, off, e, hb, hc⟩ := h.2 (by omega)
    refine ⟨b, off, e, hb, fun k hk => ?_⟩
    rw [List.length_take] at hk
    rw [List.getElem_take]
    exact hc k (by omega)⟩
theorem Has.drop {b off : Nat} (h : Has w (some ⟨b, off, none⟩) n l) (m : Nat) (hm : m ≤ n) : Has w (some ⟨b, off + m, none⟩) (n - m) (l.drop m) :=
  ⟨by rw [List.length_drop, h.1], fun h0 => by
    obtain ⟨b', off', e, hb, hc⟩ := h.2 (by omega)
    injection e with e
    injection e with e1 e2
    subst e1 e2
    refine ⟨b, off + m, rfl, hb, fun k hk => ?_⟩
    rw [List.length_drop] at hk
    rw [List.getElem_drop, Nat.add_assoc]
    exact hc (m + k) (by omega)⟩
theorem Has.some_ (h : Has w A n l) (hn : 0 < n) : ∃ b off, A = some ⟨b, off, none⟩ := by
  obtain ⟨b, off, e, _⟩ := h.2 hn
  exact ⟨b, off, e⟩
theorem Has.cell {b off : Nat} (h : Has w (some ⟨b, off, none⟩) n l) (k : Nat) (hk : k < n) : w.cell? ⟨b, off + k, none⟩ = some (.int .u8 ((l[k]'(by rw [h.1]; exact hk)).toNat : Int)) := by
  obtain ⟨b', off', e, hb, hc⟩ := h.2 (by omega)
  injection e with e
  injection e with e1 e2
  subst e1 e2
  exact hc k _
theorem Has.lt {b off : Nat} (h : Has w (some ⟨b, off, none⟩) n l) (hn : 0 < n) : b < w.heap.size := by
  obtain ⟨b', off', e, hb, hc⟩ := h.2 hn
  injection e with e
  injection e with e1 e2
  subst e1
  exact hb
theorem Has.of_block {g : Nat} {cs : Array Value} {t : TypeId} {fr : Nat × Nat} (hg : w.heap[g]? = some (.cells cs t fr)) (hl : l.length = n) (hc : ∀ k (h : k < l.length), cs[k]? = some (val l[k])) :
    Has w (some ⟨g, 0, none⟩) n l := by
  refine ⟨hl, fun _ => ⟨g, 0, rfl, ?_, fun k hk => ?_⟩⟩
  · rcases Nat.lt_or_ge g w.heap.size with h | h
    · exact h
    · rw [Array.getElem?_eq_none h] at hg; cases hg
  · rw [Nat.zero_add, cell_of_row w g k cs t fr hg, hc k hk]
    rfl
theorem Has.nil (w : World) (A : Option Addr) : Has w A 0 [] := ⟨rfl, fun h => absurd h (by omega)⟩
theorem Has.of_own {base : Nat} {v : Value} (h : w.ownsRow base 5 1 v n (l.map val)) : ∃ A c, v = .slice A n c ∧ n ≤ c ∧ c ≤ maxLen ∧ Has w A n l ∧ (∀ x, A = some x → ∃ g, x = ⟨g, 0, none⟩ ∧ base ≤ g) := by
  have hl : l.length = n := by have := h.1; simpa using this
  rcases h.2 with ⟨rfl, hn0⟩ | ⟨g, cap, cur, rfl, hg, hh, hnc, hcm, hcs, htk⟩
  · subst hn0
    exact ⟨none, 0, rfl, Nat.le_refl _, by unfold maxLen; omega, ⟨hl, fun h => absurd h (by omega)⟩, fun x e => by cases e⟩
  · refine ⟨some ⟨g, 0, none⟩, cap, rfl, hnc, hcm, ⟨hl, fun h0 => ⟨g, 0, rfl, (h.lt g rfl).2, fun k hk => ?_⟩⟩, fun x e => ⟨g, by injection e with e; exact e.symm, hg⟩⟩
    have := h.cellAt (g := g) (cap := cap) k (by omega)
    rw [Nat.zero_add, this, List.getElem?_map, List.getElem?_eq_getElem hk]
    rfl
/-- What the row's reading says of a slice of bytes that came in. -/
theorem Has.of_row {x : Addr} {cap : Nat} {zs : List Int} (hl : n ≤ cap) (hz : zs.length = cap) (hc : ∀ i, i < zs.length → w.cell? (x.add i) = some (.int .u8 (zs.getD i 0)))
    (hw : ∀ z ∈ zs, (Lit.int .u8 z).wf = true) : Has w (some x) n ((zs.take n).map (BitVec.ofInt 8)) := by
  refine ⟨by simp; omega, fun hn => ?_⟩
  obtain ⟨b, off, spot⟩ := x
  have h0 := hc 0 (by omega)
  have hs : spot = none := by simpa [Addr.add] using World.cell?_spot h0
  subst hs
  refine ⟨b, off, rfl, ?_, fun k hk => ?_⟩
  · rcases Nat.lt_or_ge b w.heap.size with h | h
    · exact h
    · simp [World.cell?, Addr.add, Array.getElem?_eq_none h] at h0
  · have hkz : k < zs.length := by simp at hk; omega
    have hk0 := hc k hkz
    have e1 : (⟨b, off, none⟩ : Addr).add k = ⟨b, off + k, none⟩ := by
      unfold Addr.add
      by_cases h : k = 0 <;> simp [h]
    rw [e1] at hk0
    rw [hk0]
    have hg : zs.getD k 0 = zs[k] := by rw [List.getD_eq_getElem?_getD, List.getElem?_eq_getElem hkz]; rfl
    have hb := hw zs[k] (List.getElem_mem hkz)
    have hbd : 0 ≤ zs[k] ∧ zs[k] ≤ 255 := by
      simpa [Lit.wf, IntKind.min, IntKind.max, IntKind.signed, IntKind.bits] using hb
    rw [hg]
    congr 2
    rw [List.getElem_map, List.getElem_take]
    rw [BitVec.toNat_ofInt]
    omega
end

end Go.Proofs.Ytclbiidgggdniaa
