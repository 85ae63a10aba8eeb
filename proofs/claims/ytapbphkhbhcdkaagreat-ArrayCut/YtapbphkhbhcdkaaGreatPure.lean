/-
  WHAT EACH MEMBER HAS OF A STRIPE, AS NUMBERS: a chunk, or the parity; any one is what the others are, XORed.
-/
import Derived.Test.YtapbphkhbhcdkaaGreatPutw
import Derived.Test.YtapbphkhbhcdkaaGreatNew
namespace Go.Proofs.YtapbphkhbhcdkaaGreat
open Go.RowKit Go.Maps
set_option linter.unusedVariables false
set_option maxRecDepth 100000

theorem parB_append (a b : List Bytes) (k : Nat) : parB (a ++ b) k = parB a k ^^^ parB b k := by
  induction a with
  | nil => simp [parB]
  | cons x r ih => simp only [List.cons_append, parB, ih, BitVec.xor_assoc]
/-- One of them another one. -/
theorem parB_update (f : Nat → Bytes) (b : Bytes) (x : Nat) : ∀ (M p : Nat), p < M → parB ((List.range M).map (fun j => if j = p then b else f j)) x = parB ((List.range M).map f) x ^^^ ((f p).getD x 0#8 ^^^ b.getD x 0#8) := by
  intro M
  induction M with
  | zero => intro p hp; omega
  | succ M ih =>
    intro p hp
    rw [List.range_succ, List.map_append, List.map_append, parB_append, parB_append]
    by_cases e : p = M
    · subst e
      have e1 : (List.range p).map (fun j => if j = p then b else f j) = (List.range p).map f := List.map_congr_left (fun j hj => by have h9 : j < p := List.mem_range.1 hj; rw [if_neg (by omega)])
      rw [e1]
      simp only [List.map_cons, List.map_nil, parB, if_true, BitVec.xor_zero]
      rw [BitVec.xor_assoc, ← BitVec.xor_assoc ((f p).getD x 0#8), BitVec.xor_self, BitVec.zero_xor]
    · rw [ih p (by omega)]
      simp only [List.map_cons, List.map_nil, parB, BitVec.xor_zero]
      rw [if_neg (fun h => e h.symm)]
      ac_rfl

theorem mod_apart {t : Int} {M i j : Nat} (hi : i < M) (hj : j < M) (hne : i ≠ j) (ht : 0 ≤ t) : (t + (i : Int)) % (M : Int) ≠ (t + (j : Int)) % (M : Int) := by
  intro e
  have h1 := Int.emod_add_mul_ediv (t + (i : Int)) (M : Int)
  have h2 := Int.emod_add_mul_ediv (t + (j : Int)) (M : Int)
  generalize (t + (i : Int)) / (M : Int) = a at h1
  generalize (t + (j : Int)) / (M : Int) = c at h2
  rw [← e] at h2
  have h3 : (M : Int) * a - (M : Int) * c = (i : Int) - (j : Int) := by omega
  rw [← Int.mul_sub] at h3
  rcases Int.lt_trichotomy (a - c) 0 with h | h | h
  · have : (M : Int) * (a - c) ≤ (M : Int) * (-1) := Int.mul_le_mul_of_nonneg_left (by omega) (by omega)
    omega
  · rw [h] at h3; simp at h3; omega
  · have : (M : Int) * 1 ≤ (M : Int) * (a - c) := Int.mul_le_mul_of_nonneg_left (by omega) (by omega)
    omega

section
variable {t : Int} {M : Nat} {C : Nat → Bytes} {X : Bytes}
theorem spread_fresh (ht : 0 ≤ t) {k m : Nat} (hk : k < M - 1) (hm : (m : Int) = (t + 1 + (k : Int)) % (M : Int)) : ∀ j, j ≤ k → spreadB t M C X j m = [] := by
  intro j
  induction j with
  | zero =>
    intro _
    unfold spreadB
    rw [if_neg]
    rw [hm, show t + 1 + (k : Int) = t + ((k + 1 : Nat) : Int) by omega]
    have := mod_apart (t := t) (M := M) (i := k + 1) (j := 0) (by omega) (by omega) (by omega) ht
    simpa using this
  | succ j ih =>
    intro hj
    unfold spreadB
    rw [if_neg]
    · exact ih (by omega)
    · rw [hm, show t + 1 + (k : Int) = t + ((k + 1 : Nat) : Int) by omega, show t + 1 + (j : Int) = t + ((j + 1 : Nat) : Int) by omega]
      exact mod_apart (by omega) (by omega) (by omega) ht
/-- The chunk of a member. -/
theorem spread_chunk (ht : 0 ≤ t) {k m : Nat} (hk : k < M - 1) (hm : (m : Int) = (t + 1 + (k : Int)) % (M : Int)) : spreadB t M C X (M - 1) m = C k := by
  have key : ∀ j, k < j → j ≤ M - 1 → spreadB t M C X j m = C k := by
    intro j
    induction j with
    | zero => intro h; omega
    | succ j ih =>
      intro h1 h2
      unfold spreadB
      by_cases e : j = k
      · subst e; rw [if_pos hm]
      · rw [if_neg, ih (by omega) (by omega)]
        rw [hm, show t + 1 + (k : Int) = t + ((k + 1 : Nat) : Int) by omega, show t + 1 + (j : Int) = t + ((j + 1 : Nat) : Int) by omega]
        exact mod_apart (by omega) (by omega) (by omega) ht
  exact key (M - 1) hk (Nat.le_refl _)
/-- All of them, XORed. -/
theorem spread_sum (ht : 0 ≤ t) (hM : 2 ≤ M) (x : Nat) : ∀ k, k ≤ M - 1 → parB ((List.range M).map (spreadB t M C X k)) x = X.getD x 0#8 ^^^ parB ((List.range k).map C) x := by
  intro k
  induction k with
  | zero =>
    intro _
    obtain ⟨p, hp⟩ : ∃ p : Nat, t % (M : Int) = (p : Int) := ⟨(t % (M : Int)).toNat, by have := Int.emod_nonneg t (show (M : Int) ≠ 0 by omega); omega⟩
    have hpM : p < M := by have := Int.emod_lt_of_pos t (show 0 < (M : Int) by omega); omega
    have e : (List.range M).map (spreadB t M C X 0) = (List.range M).map (fun j => if j = p then X else (fun _ => []) j) := List.map_congr_left (fun j _ => by
      unfold spreadB
      rw [hp]
      by_cases e : j = p
      · subst e; simp
      · rw [if_neg (by omega), if_neg e])
    rw [e, parB_update _ _ _ _ _ hpM]
    have z : ∀ n, parB ((List.range n).map (fun _ => ([] : Bytes))) x = 0#8 := by
      intro n
      induction n with
      | zero => rfl
      | succ n ih => rw [List.range_succ, List.map_append, parB_append, ih]; simp [parB]
    rw [z]
    simp [parB]
  | succ k ih =>
    intro hk
    obtain ⟨p, hp⟩ : ∃ p : Nat, (t + 1 + (k : Int)) % (M : Int) = (p : Int) := ⟨((t + 1 + (k : Int)) % (M : Int)).toNat, by have := Int.emod_nonneg (t + 1 + (k : Int)) (show (M : Int) ≠ 0 by omega); omega⟩
    have hpM : p < M := by have := Int.emod_lt_of_pos (t + 1 + (k : Int)) (show 0 < (M : Int) by omega); omega
    have e : (List.range M).map (spreadB t M C X (k + 1)) = (List.range M).map (fun j => if j = p then C k else spreadB t M C X k j) := List.map_congr_left (fun j _ => by
      show (if (j : Int) = (t + 1 + (k : Int)) % (M : Int) then C k else spreadB t M C X k j) = _
      rw [hp]
      by_cases e : j = p
      · subst e; simp
      · rw [if_neg (by omega), if_neg e])
    rw [e, parB_update _ _ _ _ _ hpM, ih (by omega), spread_fresh ht (k := k) (m := p) (by omega) hp.symm k (Nat.le_refl _), List.range_succ, List.map_append, parB_append]
    simp [parB, BitVec.xor_assoc]
/-- Any one of them is what the others are, XORed. -/
theorem spread_mend (ht : 0 ≤ t) (hM : 2 ≤ M) {n m : Nat} (hm : m < M) (hC : ∀ k, k < M - 1 → (C k).length = n) (hX : X = tab n (parB ((List.range (M - 1)).map C))) (g : Nat → Bytes) (hg : ∀ j, j < M → g j = if j = m then [] else spreadB t M C X (M - 1) j) (hl : (spreadB t M C X (M - 1) m).length = n) :
    xorB M n g = spreadB t M C X (M - 1) m := by
  unfold xorB
  apply List.ext_getElem
  · rw [tab_len, hl]
  · intro x h1 h2
    rw [tab_get]
    have e : (List.range M).map g = (List.range M).map (fun j => if j = m then [] else spreadB t M C X (M - 1) j) := List.map_congr_left (fun j hj => hg j (by simpa using hj))
    rw [e, parB_update _ _ _ _ _ hm, spread_sum ht hM x (M - 1) (Nat.le_refl _)]
    have hxn : x < n := by rw [hl] at h2; exact h2
    have e2 : X.getD x 0#8 = parB ((List.range (M - 1)).map C) x := by
      rw [hX]
      simp only [List.getD_eq_getElem?_getD]
      rw [List.getElem?_eq_getElem (by rw [tab_len]; exact hxn), tab_get]
      rfl
    rw [e2, BitVec.xor_self, BitVec.zero_xor]
    simp only [List.getD_eq_getElem?_getD, List.getElem?_nil, Option.getD_none, BitVec.xor_zero]
    rw [List.getElem?_eq_getElem h2]
    rfl
end
end Go.Proofs.YtapbphkhbhcdkaaGreat
