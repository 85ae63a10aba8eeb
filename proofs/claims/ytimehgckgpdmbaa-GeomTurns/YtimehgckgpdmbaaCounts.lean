/-
  COUNTS: a row of m noughts, of which i in turn, from r on, round about, were counted up to one. A row that is made. The spot of a place.
-/
import Derived.Test.YtimehgckgpdmbaaAwake
import Derived.Test.YtimehgckgpdmbaaIn
namespace Go.Proofs.Ytimehgckgpdmbaa
open Go.RowKit Go.Sort
set_option linter.unusedVariables false
set_option maxRecDepth 100000

theorem run_make (w : World) (M : Nat) (h : M = 3 ∨ M = 4 ∨ M = 5) :
    (Instr.makeSlice 39 (.int .i64 (M : Int)) (.int .i64 (M : Int))).run Try.prog w = .ok (.slice (some ⟨w.heap.size, 0, none⟩) M M) (w.alloc (.cells (Array.replicate M (Value.int .i64 0)) 3)) := by
  rcases h with rfl | rfl | rfl <;> kernel_rfl

def cnt (m r i : Nat) : List Nat := (List.range m).map fun x => if (x + m - r) % m < i then 1 else 0
def cntA (m r i : Nat) : Array Value := ((cnt m r i).map fun (x : Nat) => Value.int .i64 (x : Int)).toArray

theorem cnt_all : ∀ m : Fin 6, ∀ r : Fin 6, ∀ i : Fin 6, 3 ≤ m.val → r.val < m.val → i.val < m.val →
    (cnt m r i)[(r.val + i.val) % m.val]? = some 0 ∧ (cnt m r i).set ((r.val + i.val) % m.val) 1 = cnt m r (i.val + 1) ∧ cnt m r 0 = List.replicate m 0 ∧ (cnt m r m)[i.val]? = some 1 := by decide +kernel

section
variable {m r i : Nat}
theorem cntA_nought (hm : 3 ≤ m ∧ m ≤ 5) (hr : r < m) (hi : i < m) : (cntA m r i)[(r + i) % m]? = some (.int .i64 0) := by
  have h := (cnt_all ⟨m, by omega⟩ ⟨r, by omega⟩ ⟨i, by omega⟩ hm.1 hr hi).1
  simp only at h
  unfold cntA
  rw [List.getElem?_toArray, List.getElem?_map, h]
  rfl
theorem cntA_step (hm : 3 ≤ m ∧ m ≤ 5) (hr : r < m) (hi : i < m) : (cntA m r i).setIfInBounds ((r + i) % m) (.int .i64 1) = cntA m r (i + 1) := by
  have h := (cnt_all ⟨m, by omega⟩ ⟨r, by omega⟩ ⟨i, by omega⟩ hm.1 hr hi).2.1
  simp only at h
  unfold cntA
  rw [List.setIfInBounds_toArray, ← h, List.map_set]
  rfl
theorem cntA_first (hm : 3 ≤ m ∧ m ≤ 5) (hr : r < m) : cntA m r 0 = Array.replicate m (Value.int .i64 0) := by
  have h := (cnt_all ⟨m, by omega⟩ ⟨r, by omega⟩ ⟨0, by omega⟩ hm.1 hr (by simp; omega)).2.2.1
  simp only at h
  unfold cntA
  rw [h, List.map_replicate, List.toArray_replicate]
  rfl
theorem cntA_last (hm : 3 ≤ m ∧ m ≤ 5) (hr : r < m) (hi : i < m) : (cntA m r m)[i]? = some (.int .i64 1) := by
  have h := (cnt_all ⟨m, by omega⟩ ⟨r, by omega⟩ ⟨i, by omega⟩ hm.1 hr hi).2.2.2
  simp only at h
  unfold cntA
  rw [List.getElem?_toArray, List.getElem?_map, h]
  rfl
end

theorem turn_nat (N m k : Nat) : (N + 1 + k) % m = (N % m + (k + 1)) % m := by
  rw [Nat.add_assoc, Nat.add_comm 1 k, Nat.mod_add_mod]

theorem spot_at (m b g s n l : Int) (N k : Int) (hN : 0 ≤ N ∧ N ≤ 1000000) (hm : 3 ≤ m ∧ m ≤ 16) (hk : 0 ≤ k ∧ k < m - 2) (w : World) :
    Calls Try.prog 28 #[sv m b g s n l, .int .i64 (N * (m - 2) + k)] w fun e w' => e = .returned (.agg #[.int .i64 N, .int .i64 (k + 1)]) ∧ Below w.heap.size w w' := by
  have h1 : (N * (m - 2) + k) / (m - 2) = N := by
    rw [Int.add_comm, Int.add_mul_ediv_right _ _ (by omega), Int.ediv_eq_zero_of_lt hk.1 hk.2, Int.zero_add]
  have h2 : (N * (m - 2) + k) % (m - 2) = k := by
    rw [Int.add_comm, Int.add_mul_emod_self_right, Int.emod_eq_of_lt hk.1 hk.2]
  have hb : 0 ≤ N * (m - 2) ∧ N * (m - 2) ≤ 1000000 * 14 := ⟨Int.mul_nonneg (by omega) (by omega), Int.mul_le_mul (by omega) (by omega) (by omega) (by omega)⟩
  have := spot_any m b g s n l (N * (m - 2) + k) (by omega) hm w
  rw [h1, h2, Int.add_comm 1 k] at this
  exact this

end Go.Proofs.Ytimehgckgpdmbaa
