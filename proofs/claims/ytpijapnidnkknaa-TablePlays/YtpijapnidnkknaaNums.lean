/-
  NUMBERS OF TABLES; AN ACT IN A ROUND.
-/
import Derived.Test.YtpijapnidnkknaaAwake
import Derived.Deep.CutRange
namespace Go.Proofs.Ytpijapnidnkknaa
open Go.RowKit
set_option linter.unusedVariables false
set_option maxRecDepth 100000


/-- The state is one of the three. -/
def Sg.ok (x : Sg) : Prop := x.st = 0 ∨ x.st = 1 ∨ x.st = 2
theorem many_cons (x : Sg) (T : List Sg) (s : Int) : many (x :: T) s = (if x.st = s then 1 else 0) + many T s := by
  unfold many
  by_cases e : x.st = s
  · simp [e]; omega
  · simp [e]
theorem many_sum : ∀ (T : List Sg), (∀ x ∈ T, x.ok) → many T 0 + many T 1 + many T 2 = T.length
  | [], _ => rfl
  | x :: T, h => by
    have h1 := many_sum T (fun y hy => h y (List.mem_cons_of_mem _ hy))
    rw [many_cons, many_cons, many_cons, List.length_cons]
    rcases h x (List.mem_cons_self ..) with e | e | e <;> simp [e] <;> omega
theorem deadTo_many (T : List Sg) : ∀ k, k ≤ T.length → (deadTo T k).length ≤ many (T.take k) 2
  | 0, _ => Nat.zero_le _
  | k + 1, h => by
    have h1 := deadTo_many T k (by omega)
    have h2 := many_next T 2 (k := k) (by omega)
    cases hd : dies T k
    · rw [deadTo_no hd, h2]; omega
    · have h3 := dies_at (T := T) (k := k) (by omega) rfl
      rw [hd] at h3
      have h4 : T[k].st = 2 := by
        have := h3.symm
        simp at this
        exact this.1
      rw [deadTo_yes hd, h2, if_pos h4, List.length_append]
      simp
      exact h1
theorem dead_le (T : List Sg) : (dead T).length ≤ many T 2 := by
  have := deadTo_many T T.length (Nat.le_refl _)
  rwa [List.take_of_length_le (Nat.le_refl _)] at this
theorem many_zero {T : List Sg} {s : Int} : many T s = 0 ↔ ∀ j, (h : j < T.length) → ¬ T[j].st = s := by
  unfold many
  rw [List.length_eq_zero_iff, List.filter_eq_nil_iff]
  constructor
  · intro h j hj e
    have := h T[j] (List.getElem_mem hj)
    simp [e] at this
  · intro h x hx
    obtain ⟨j, hj, rfl⟩ := List.getElem_of_mem hx
    simpa using h j hj
theorem first_nat {T : List Sg} (h : ¬ first T < 0) : ∃ j : Nat, first T = (j : Int) := ⟨(first T).toNat, by omega⟩
theorem first_neg (T : List Sg) : first T < 0 ↔ many T 0 = 0 := by
  unfold first
  cases h : T.findIdx? (fun x => x.st == 0) with
  | none =>
    rw [List.findIdx?_eq_none_iff] at h
    refine ⟨fun _ => many_zero.2 (fun j hj e => by have := h T[j] (List.getElem_mem hj); simp [e] at this), fun _ => by simp⟩
  | some i =>
    rw [List.findIdx?_eq_some_iff_getElem] at h
    obtain ⟨hi, e, _⟩ := h
    refine ⟨fun h0 => by simp at h0; omega, fun h0 => (many_zero.1 h0 i hi (by simpa using e)).elim⟩
theorem first_ge (T : List Sg) : -1 ≤ first T := by
  unfold first
  split <;> omega
theorem first_lt {T : List Sg} (h : T.length ≤ 65536) : first T ≤ 65536 := by
  unfold first
  split
  · rename_i i e
    rw [List.findIdx?_eq_some_iff_getElem] at e
    obtain ⟨hi, _⟩ := e
    omega
  · omega

/-- The act's cells. -/
def Ac.cs (x : Ac) : Array Value := #[.int .i8 x.d, .int .i8 x.at_, .int .u8 (x.st : Int), .int .i8 x.lv, .int .u64 x.bo]
theorem Ac.one (x : Ac) : x.cs.all (·.oneCell') = true := by simp [Ac.cs, Value.oneCell']
abbrev zeros5 : Array Value := #[.int .i8 0, .int .i8 0, .int .u8 0, .int .i8 0, .int .u64 0]
theorem act_size : (Try.prog.info? 30).map (·.size) = some 5 := by kernel_rfl
theorem part_act (x : Ac) : part zeros5 0 x.cs = x.cs := rfl
theorem Ac.At.cell {x : Ac} {w : World} {b o : Nat} (h : x.At w b o) : ∀ j, j < x.cs.size → w.cell? ⟨b, o + j, none⟩ = x.cs[j]? := fun j hj =>
  match j, hj with
  | 0, _ => h.c0
  | 1, _ => h.c1
  | 2, _ => h.c2
  | 3, _ => h.c3
  | 4, _ => h.c4

/-- Each lives within bounds. -/
def Mild (T : List Sg) (k : Nat) : Prop := ∀ x ∈ T, -(128 * (k : Int)) ≤ x.lv ∧ x.lv ≤ 128 * (k : Int)
theorem Mild.put {T : List Sg} {k : Nat} {i : Int} {f : Sg → Sg} (h : Mild T k) (hf : ∀ x, (-(128 * (k : Int)) ≤ x.lv ∧ x.lv ≤ 128 * (k : Int)) → (-(128 * ((k + 1 : Nat) : Int)) ≤ (f x).lv ∧ (f x).lv ≤ 128 * ((k + 1 : Nat) : Int))) : Mild (Go.Proofs.Ytpijapnidnkknaa.put T i f) (k + 1) := by
  intro x hx
  have up : ∀ y ∈ T, -(128 * ((k + 1 : Nat) : Int)) ≤ y.lv ∧ y.lv ≤ 128 * ((k + 1 : Nat) : Int) := fun y hy => by have := h y hy; omega
  unfold Go.Proofs.Ytpijapnidnkknaa.put at hx
  split at hx
  · rcases List.mem_or_eq_of_mem_set hx with hx | hx
    · exact up x hx
    · rw [hx]
      exact hf _ (h _ (List.getElem_mem _))
  · exact up x hx
theorem ok_put {T : List Sg} {i : Int} {f : Sg → Sg} (h : ∀ x ∈ T, x.ok) (hf : ∀ x : Sg, x.ok → (f x).ok) : ∀ x ∈ put T i f, x.ok := by
  intro x hx
  unfold put at hx
  split at hx
  · rcases List.mem_or_eq_of_mem_set hx with hx | hx
    · exact h x hx
    · rw [hx]
      exact hf _ (h _ (List.getElem_mem _))
  · exact h x hx
theorem Mild.next {T : List Sg} {k : Nat} (h : Mild T k) : Mild T (k + 1) := fun x hx => by have := h x hx; omega
theorem mild_zero (n : Nat) : Mild (List.replicate n Sg.zero) 0 := by
  intro x hx
  rw [List.eq_of_mem_replicate hx]
  decide
theorem ok_zero (n : Nat) : ∀ x ∈ List.replicate n Sg.zero, x.ok := by
  intro x hx
  rw [List.eq_of_mem_replicate hx]
  exact .inl rfl
theorem clr_one (T : List Sg) (i : Int) : clr T [i] = put T i fun _ => Sg.zero := rfl
end Go.Proofs.Ytpijapnidnkknaa
