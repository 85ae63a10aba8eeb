/-
  A LAW'S MAP: all its blocks are the law's own, none of them is one of U; what Set makes of the places.
-/
import Derived.Test.YtcekcbheajcfpaaAwake
import Derived.Deep.CutRange
namespace Go.Proofs.Ytcekcbheajcfpaa
open Go.RowKit
set_option linter.unusedVariables false
set_option maxRecDepth 100000


/-- The map of a law that began in w0; the blocks of U are others. -/
def Sy (w0 w : World) (U : Nat → Prop) (g n : Nat) (V : Nat → Int) (A : Nat → Bool) : Prop :=
  ∃ T, Lm w T g n V A ∧ (∀ k, T k → w0.heap.size ≤ k ∧ ¬ U k) ∧ Below w0.heap.size w0 w ∧ (∀ k, U k → k < w.heap.size)
section
variable {w0 w w' : World} {U : Nat → Prop} {g n : Nat} {V : Nat → Int} {A : Nat → Bool}
theorem Sy.bel (h : Sy w0 w U g n V A) : Below w0.heap.size w0 w := by
  obtain ⟨T, _, _, hb, _⟩ := h
  exact hb
theorem Sy.low (h : Sy w0 w U g n V A) (k : Nat) : -1 ≤ V k ∧ V k ≤ 9223372036854775807 := by
  obtain ⟨T, hl, _⟩ := h
  exact hl.low k
theorem Sy.below (h : Sy w0 w U g n V A) (hb : Below w.heap.size w w') : Sy w0 w' U g n V A := by
  obtain ⟨T, hl, ht, hw, hu⟩ := h
  exact ⟨T, hl.below hb, ht, hw.trans (hb.mono hw.size), fun k hk => Nat.lt_of_lt_of_le (hu k hk) hb.size⟩
theorem Sy.alloc (h : Sy w0 w U g n V A) (o : Obj) : Sy w0 (w.alloc o) U g n V A := h.below ((Below.refl _ _).alloc (Nat.le_refl _) o)
/-- Behind what turned blocks of U alone. -/
theorem Sy.but (h : Sy w0 w U g n V A) (hb : But (fun k => U k ∧ w0.heap.size ≤ k) w w') : Sy w0 w' U g n V A := by
  obtain ⟨T, hl, ht, hw, hu⟩ := h
  exact ⟨T, hl.but hb (fun k hk hs => (ht k hk).2 hs.1), ht, hw.trans (hb.below (fun k hk => hk.2) hw.size), fun k hk => Nat.lt_of_lt_of_le (hu k hk) hb.size⟩
/-- A block that is there and is not the map's. -/
theorem Sy.new (h : Sy w0 w U g n V A) (hb : Below w.heap.size w w') {q : Nat} (hq : w.heap.size ≤ q) (hq2 : q < w'.heap.size) : Sy w0 w' (fun k => U k ∨ k = q) g n V A := by
  obtain ⟨T, ⟨r, Q, hl, hm, ha⟩, ht, hw, hu⟩ := h
  refine ⟨Mine g r Q, ⟨r, Q, hl.below hb, fun k hk => hk, ha⟩, fun k hk => ⟨(ht k (hm k hk)).1, ?_⟩, hw.trans (hb.mono hw.size), ?_⟩
  · rintro (h | rfl)
    · exact (ht k (hm k hk)).2 h
    · have := hl.lt hk
      omega
  · rintro k (h | rfl)
    · exact Nat.lt_of_lt_of_le (hu k h) hb.size
    · exact hq2
theorem made_sy {z : Int} (hn : (n : Int) = min (max z 0) 1048576) (hB : Below w0.heap.size w0 w) : Calls Try.prog 8 #[.int .i64 z] w fun e w' => ∃ g, e = .returned (.pointer (some ⟨g, 0, none⟩)) ∧ Sy w0 w' (fun _ => False) g n (fun _ => -1) (fun _ => false) ∧ Below w.heap.size w w' := by
  refine (new_any z n w hn).mono ?_
  rintro e w' ⟨g, rfl, hl, hb⟩
  exact ⟨g, rfl, ⟨_, hl, fun k hk => ⟨Nat.le_trans hB.size hk, fun h => h⟩, hB.trans (hb.mono hB.size), fun k hk => hk.elim⟩, hb⟩
theorem set_sy (i v : Int) (hv : -9223372036854775808 ≤ v ∧ v ≤ 9223372036854775807) (h : Sy w0 w U g n V A) : Calls Try.prog 10 #[.pointer (some ⟨g, 0, none⟩), .int .i64 i, .int .i64 v] w fun e w' =>
    e = .returned (.int .i64 (lies n V i)) ∧ Sy w0 w' U g n (setI n V i v) (setP n A i v) ∧ But (fun k => w0.heap.size ≤ k ∧ ¬ U k) w w' := by
  obtain ⟨T, hl, ht, hw, hu⟩ := h
  refine (set_any i v hv hl).mono ?_
  rintro e w' ⟨rfl, T', h1, h2, h3⟩
  refine ⟨rfl, ⟨T', h2, fun k hk => ?_, hw.trans (h3.below (fun k hk => (ht k hk).1) hw.size), fun k hk => Nat.lt_of_lt_of_le (hu k hk) h3.size⟩, h3.mono (fun k hk _ => ht k hk)⟩
  rcases h1 k hk with h | h
  · exact ht k h
  · exact ⟨Nat.le_trans hw.size h, fun hU => by have := hu k hU; omega⟩
theorem get_sy (i : Int) (h : Sy w0 w U g n V A) : Calls Try.prog 12 #[.pointer (some ⟨g, 0, none⟩), .int .i64 i] w fun e w' => e = .returned (.int .i64 (lies n V i)) ∧ w' = w := by
  obtain ⟨T, hl, _⟩ := h
  exact geti_any i hl
theorem len_sy (h : Sy w0 w U g n V A) : Calls Try.prog 14 #[.pointer (some ⟨g, 0, none⟩)] w fun e w' => e = .returned (.int .i64 (n : Int)) ∧ w' = w := by
  obtain ⟨T, hl, _⟩ := h
  exact leng_any hl
theorem many_sy (h : Sy w0 w U g n V A) : Calls Try.prog 15 #[.pointer (some ⟨g, 0, none⟩)] w fun e w' => e = .returned (.int .i64 (many V n : Nat)) ∧ w' = w := by
  obtain ⟨T, hl, _⟩ := h
  exact many_any hl
theorem pages_sy (h : Sy w0 w U g n V A) : Calls Try.prog 11 #[.pointer (some ⟨g, 0, none⟩)] w fun e w' => e = .returned (.int .i64 (pages A ((n + 15) / 16) : Nat)) ∧ w' = w := by
  obtain ⟨T, hl, _⟩ := h
  exact pages_any hl
theorem all_sy (h : Sy w0 w U g n V A) : Calls Try.prog 17 #[.pointer (some ⟨g, 0, none⟩)] w fun e w' => ∃ a, e = .returned (.slice (some ⟨a, 0, none⟩) n n) ∧ w.heap.size ≤ a ∧ At w' a (ints (allV n V)).toArray 3 ∧ Below w.heap.size w w' := by
  obtain ⟨T, hl, _⟩ := h
  exact all_any hl
theorem within_sy (f t : Int) (h : Sy w0 w U g n V A) : Calls Try.prog 18 #[.pointer (some ⟨g, 0, none⟩), .int .i64 f, .int .i64 t] w fun e w' =>
    ∃ A c, e = .returned (.slice A (within n V f t).length c) ∧ HasI w' A (within n V f t).length (within n V f t) ∧ Below w.heap.size w w' := by
  obtain ⟨T, hl, _⟩ := h
  refine (within_any f t hl).mono ?_
  rintro e w' ⟨A, c, rfl, ho, hb⟩
  obtain ⟨A2, c2, e2, h2, _⟩ := HasI.of_own ho
  injection e2 with e2 _ e3
  subst e2 e3
  exact ⟨A, c, rfl, h2, hb⟩
end

theorem setI_apart {n k : Nat} (V : Nat → Int) {i v : Int} (h : ¬ i = (k : Int)) : setI n V i v k = V k := by
  unfold setI
  split
  · rename_i hi
    exact setN_other V _ (by have := hi.1; omega)
  · rfl
theorem setI_nat {n k : Nat} (V : Nat → Int) {v : Int} (h : k < n) (hv : -1 ≤ v) : setI n V (k : Int) v = setN V k v := by
  rw [setI_in V v h, show max v (-1) = v by omega]
end Go.Proofs.Ytcekcbheajcfpaa
