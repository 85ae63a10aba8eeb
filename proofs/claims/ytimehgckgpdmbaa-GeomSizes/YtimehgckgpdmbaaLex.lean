/-
  A GREAT REGION THAT DRAWS ITS ORDER: that the order of the text serves, reckoned over the list itself: quadratic, where the reckoning over the table of what is listed runs out of memory (110 operations).
-/
import Derived.Test.YtimehgckgpdmbaaFoot
namespace Go.Proofs.Ytimehgckgpdmbaa
open Go.RowKit Go.Sort
set_option linter.unusedVariables false

/-- Each operation waits for earlier ones alone; of the later ones each waits for it, or has nothing to do with it. -/
def quick (ops : Array Oper) : Nat → List Oper → Bool
  | _, [] => true
  | k, o :: rest => (o.after.toList.all fun e => !Region.binds .any e || Nat.blt e.on k) && (rest.all fun oj => (oj.after.toList.any fun e => Region.binds .any e && Nat.beq e.on k) || o.apart ops oj) && quick ops (k + 1) rest

def Listed (n k : Nat) (listed : Array Bool) : Prop := (∀ i, i < n → listed[i]? = some (decide (i < k))) ∧ listed.size = n
theorem Listed.getD_true {n k : Nat} {listed : Array Bool} (h : Listed n k listed) (i : Nat) (hi : i < n) : listed.getD i true = decide (i < k) := by
  rw [Array.getD_eq_getD_getElem?, h.1 i hi]
  rfl
theorem Listed.getD_false {n k : Nat} {listed : Array Bool} (h : Listed n k listed) (i : Nat) (hi : i < n) : listed.getD i false = decide (i < k) := by
  rw [Array.getD_eq_getD_getElem?, h.1 i hi]
  rfl
theorem Listed.next {n k : Nat} {listed : Array Bool} (h : Listed n k listed) : Listed n (k + 1) (listed.setIfInBounds k true) := by
  refine ⟨fun i hi => ?_, by rw [Array.size_setIfInBounds]; exact h.2⟩
  rw [Array.getElem?_setIfInBounds]
  by_cases e : k = i
  · subst e
    rw [if_pos rfl, if_pos (by rw [h.2]; exact hi)]
    simp
  · rw [if_neg e, h.1 i hi]
    congr 1
    exact decide_eq_decide.2 (by omega)
theorem Listed.first (n : Nat) : Listed n 0 (Array.replicate n false) := by
  refine ⟨fun i hi => ?_, Array.size_replicate⟩
  rw [Array.getElem?_replicate, if_pos hi]
  rfl

theorem lexFrom_quick {ops : Array Oper} : ∀ (l : List Oper) (k : Nat) (listed : Array Bool), (∀ j, l[j]? = ops[k + j]?) → Listed ops.size k listed → quick ops k l = true → Region.lexFrom .any ops l.length k listed = true
  | [], k, listed, hl, hL, _ => by
    have hk : ops.size ≤ k := by
      rcases Nat.lt_or_ge k ops.size with h | h
      · have := hl 0
        rw [Nat.add_zero, Array.getElem?_eq_getElem h] at this
        simp at this
      · exact h
    simp only [Region.lexFrom, List.length_nil, Region.ready, List.isEmpty_iff, List.filter_eq_nil_iff, List.mem_range]
    intro i hi
    rw [hL.getD_true i hi, decide_eq_true (show i < k by omega)]
    simp
  | o :: rest, k, listed, hl, hL, hq => by
    simp only [quick, Bool.and_eq_true, List.all_eq_true] at hq
    obtain ⟨⟨h1, h2⟩, h3⟩ := hq
    have h0 : ops[k]? = some o := by simpa using (hl 0).symm
    have hk : k < ops.size := (Array.getElem?_eq_some_iff.1 h0).1
    have hr := lexFrom_quick rest (k + 1) (listed.setIfInBounds k true) (fun j => by have := hl (j + 1); simpa [Nat.add_assoc, Nat.add_comm 1 j] using this) hL.next h3
    simp only [List.length_cons, Region.lexFrom, Bool.and_eq_true]
    refine ⟨⟨?_, ?_⟩, hr⟩
    · rw [List.contains_iff_mem, Region.ready, List.mem_filter, List.mem_range]
      refine ⟨hk, ?_⟩
      rw [hL.getD_true k hk, h0]
      simp only [Nat.lt_irrefl, decide_false, Bool.not_false, Option.map_some, Option.getD_some, Bool.true_and]
      rw [Array.all_eq_true_iff_forall_mem]
      intro e he
      have := h1 e (Array.mem_toList_iff.2 he)
      rw [Bool.or_eq_true] at this ⊢
      refine this.imp id fun h => ?_
      have hlt : e.on < k := by simpa [Nat.blt_eq] using h
      rw [hL.getD_false e.on (by omega)]
      exact decide_eq_true hlt
    · simp only [Region.free, h0, List.all_eq_true, List.mem_range]
      intro j hj
      rw [hL.getD_true j hj]
      by_cases hjk : j ≤ k
      · rcases Nat.lt_or_eq_of_le hjk with h | h
        · simp [h]
        · simp [h]
      · have hm : ops[j]? = rest[j - k - 1]? := by
          have := hl (j - k)
          rw [show k + (j - k) = j by omega] at this
          rw [← this, show j - k = (j - k - 1) + 1 by omega, List.getElem?_cons_succ]
          rfl
        cases hoj : rest[j - k - 1]? with
        | none =>
          rw [hm, hoj]
          simp
        | some oj =>
          rw [hm, hoj]
          have := h2 oj (List.mem_of_getElem? hoj)
          rw [Bool.or_eq_true] at this
          rw [Bool.or_eq_true]
          refine .inr ?_
          simp only [Bool.or_eq_true]
          refine this.imp (fun h => ?_) id
          obtain ⟨e, he, hb⟩ := List.any_eq_true.1 h
          refine Array.any_eq_true'.2 ⟨e, Array.mem_toList_iff.1 he, ?_⟩
          rw [Bool.and_eq_true] at hb ⊢
          exact ⟨hb.1, by simpa using hb.2⟩

theorem lexB_of_quick {l : List Oper} (hs : Region.noSelect l.toArray = true) (h : quick l.toArray 0 l = true) : Region.lexB .any l.toArray = true := by
  rw [Region.lexB, Bool.and_eq_true]
  refine ⟨hs, ?_⟩
  have := lexFrom_quick (ops := l.toArray) l 0 (Array.replicate l.toArray.size false) (fun j => by simp) (Listed.first _) h
  simpa using this

theorem wp_region_great {P : Program} {id : Nat} {Q : Exit → Act → World → Prop} {a : Act} {w : World} {l : List Oper} (hm : P.follows .mixedOrders = true) (hs : Region.noSelect l.toArray = true) (hB : quick l.toArray 0 l = true)
    (h : wpQuiet P l.toArray (fun w' => ∃ p : Regrown, w' = grow (redrawn w p.d) p.os) (fun a' => ∀ w', (∃ p : Regrown, w' = grow (redrawn w p.d) p.os) → Q .normal a' w') l a) : (Code.region id l.toArray true).wp P Q a w :=
  wp_region_quiet_below hm (lexB_of_quick hs hB) h

end Go.Proofs.Ytimehgckgpdmbaa
