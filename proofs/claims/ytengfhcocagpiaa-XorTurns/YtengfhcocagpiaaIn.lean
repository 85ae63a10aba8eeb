/-
  WHAT COMES IN: bytes, and slices of bytes, with what the reach says of their sizes.
-/
import Derived.Test.YtengfhcocagpiaaAwake
import Derived.Deep.Slices
import Derived.Deep.Fields
import Derived.ChangeSame
import Derived.SizedLaws
namespace Go.Proofs.Ytengfhcocagpiaa
open Go.RowKit
set_option linter.unusedVariables false

section
open Go.ChangeShapes Go.WideShapes Go.Deep
variable {H : Type} {enc : TypeId × Value → H} {w : World}

theorem cells5 : Try.prog.cellsOf 5 = 1 := by kernel_rfl
theorem cells25 : Try.prog.cellsOf 25 = 1 := by kernel_rfl
theorem weigh5 : Try.prog.bytesOf 5 = 1 := by kernel_rfl
theorem weigh25 : Try.prog.bytesOf 25 = 24 := by kernel_rfl
theorem reach_eq : reachBytes = 140737488351232 := rfl
theorem add_lit (b o k : Nat) : (⟨b, o, none⟩ : Addr).add k = ⟨b, o + k, none⟩ := by
  unfold Addr.add
  by_cases h : k = 0 <;> simp [h]

/-- What one of them weighs, all weigh. -/
theorem weigh_all {P : Program} {e : TypeId} : ∀ {l : List (DataW H)} {d : DataW H}, d ∈ l → ∀ n ∈ d.weights P e, n ∈ DataW.weightsAll P e l
  | d' :: r, d, hd, n, hn => by
    simp only [DataW.weightsAll, List.mem_append]
    rcases List.mem_cons.1 hd with rfl | h
    · exact Or.inl hn
    · exact Or.inr (weigh_all h n hn)

/-- Bytes that came in. -/
theorem bytes_in {fuel : Nat} {cs : List Value} {x : DataW H × List MemPlace} (h : DataW.trod enc Try.prog w 0 (fun _ => true) true fuel 25 cs = some x) (hw : ∀ n ∈ x.1.weights Try.prog 25, n ≤ reachBytes) :
    ∃ A m c l, cs = [.slice A m c] ∧ Has w A m l ∧ m ≤ 140737488351232 := by
  rcases open_ints Try.underlying25 Try.underlying5 cells5 h with ⟨rfl, _⟩ | ⟨a, len, cap, zs, rfl, _, hl, hm, hz, _, hcell, hwz⟩
  · exact ⟨none, 0, 0, [], rfl, Has.nil _ _, by omega⟩
  · refine ⟨some a, len, cap, _, rfl, Has.of_row hl (by simpa using hz) hcell hwz, ?_⟩
    rcases open_slice Try.underlying25 h with ⟨hcs, _⟩ | ⟨x', len', cap', m, n, D, Pl, hcs, _, hl', hm', hmm, hx, hi⟩
    · cases hcs
    · injection hcs with hcs
      injection hcs with e1 e2 e3
      subst e2 e3
      simp only [if_true] at hmm
      subst hmm
      subst hx
      have := hw _ (by simp only [DataW.weights, Try.underlying25]; exact List.mem_cons_self)
      rw [weigh5, reach_eq] at this
      simp at this
      omega

/-- The bytes that came in, as a row's reading has them. -/
theorem row_in {a : Option Addr} {len cap : Nat} {d : DataW H} {p : List MemPlace} (h : DataW.Trod enc Try.prog w 0 (fun _ => true) true 25 (.slice a len cap) d p) (hw : ∀ n ∈ d.weights Try.prog 25, n ≤ reachBytes) :
    ∃ l, Has w a len l ∧ len ≤ 140737488351232 := by
  obtain ⟨fuel, hf⟩ := h
  obtain ⟨A, m, c, l, e, h1, h2⟩ := bytes_in hf hw
  simp [Value.cells] at e
  obtain ⟨rfl, rfl, rfl⟩ := e
  exact ⟨l, h1, h2⟩

/-- The slices that came in. -/
theorem rows_in {a : Option Addr} {len cap : Nat} {d : DataW H} {p : List MemPlace} (h : DataW.Trod enc Try.prog w 0 (fun _ => true) true 22 (.slice a len cap) d p) (hw : ∀ n ∈ d.weights Try.prog 22, n ≤ reachBytes) :
    ∃ L, Ln w a len L ∧ len ≤ 5864062014634 := by
  obtain ⟨fuel, hf⟩ := h
  rcases open_slice1 Try.underlying22 cells25 hf with ⟨hcs, _⟩ | ⟨x, len', cap', m, n, V, D, Pl, hcs, _, hl, hm, hmm, hx, hi⟩
  · simp [Value.cells] at hcs
    obtain ⟨rfl, rfl, rfl⟩ := hcs
    exact ⟨[], nil_ln w, by omega⟩
  · simp [Value.cells] at hcs
    obtain ⟨rfl, rfl, rfl⟩ := hcs
    simp only [if_true] at hmm
    subst hmm
    injection hx with hd _
    subst hd
    have hlen : len ≤ 5864062014634 := by
      have := hw _ (by simp only [DataW.weights, Try.underlying22]; exact List.mem_cons_self)
      rw [weigh25, reach_eq] at this
      simp at this
      omega
    have key : ∀ i, i < len → ∃ y : Sl, w.cell? (x.add i) = some y.v ∧ Has w y.A y.n y.l ∧ y.n ≤ 140737488355328 := by
      intro i hil
      obtain ⟨hc, ht⟩ := hi i (by omega)
      obtain ⟨A, m, c, l, e, h1, h2⟩ := bytes_in ht (fun n hn => hw n (by
        simp only [DataW.weights, Try.underlying22, List.mem_cons, List.mem_append]
        exact Or.inr (Or.inl (weigh_all (List.mem_map.2 ⟨i, by simpa using hil, rfl⟩) n hn))))
      injection e with e
      exact ⟨⟨A, m, c, l⟩, by rw [hc, e]; rfl, h1, by show m ≤ _; omega⟩
    rcases Nat.eq_zero_or_pos len with h0 | h0
    · subst h0
      exact ⟨[], ⟨⟨rfl, fun h => absurd h (by omega)⟩, fun x hx => (by cases hx), fun x hx => (by cases hx), by omega⟩, by omega⟩
    · obtain ⟨b, o, spot⟩ := x
      have hs : spot = none := by
        obtain ⟨y, hy, _⟩ := key 0 h0
        have := World.cell?_spot hy
        simpa [Addr.add] using this
      subst hs
      have key2 : ∀ k, k ≤ len → ∃ L : List Sl, L.length = k ∧ ∀ i (h : i < L.length), w.cell? ⟨b, o + i, none⟩ = some L[i].v ∧ Has w L[i].A L[i].n L[i].l ∧ L[i].n ≤ 140737488355328 := by
        intro k
        induction k with
        | zero => exact fun _ => ⟨[], rfl, fun i h => absurd h (by simp)⟩
        | succ k ih =>
          intro hk
          obtain ⟨L, hL, hat⟩ := ih (by omega)
          obtain ⟨y, hy⟩ := key k (by omega)
          rw [add_lit] at hy
          refine ⟨L ++ [y], by simp [hL], fun i h => ?_⟩
          rcases Nat.lt_or_ge i L.length with h' | h'
          · rw [List.getElem_append_left h']
            exact hat i h'
          · have e : i = L.length := by simp at h; omega
            subst e
            rw [List.getElem_append_right (Nat.le_refl _)]
            simpa [hL] using hy
      obtain ⟨L, hL, hat⟩ := key2 len (Nat.le_refl _)
      refine ⟨L, ⟨⟨by simp [hL], fun _ => ⟨b, o, rfl, World.block_lt_of_cell? w _ (hat 0 (by omega)).1, fun k hk => ?_⟩⟩, fun x hx => ?_, fun x hx => ?_, by omega⟩, hlen⟩
      · rw [List.getElem_map]
        exact (hat k (by simpa using hk)).1
      · obtain ⟨i, hi, rfl⟩ := List.mem_iff_getElem.1 hx
        exact (hat i hi).2.1
      · obtain ⟨i, hi, rfl⟩ := List.mem_iff_getElem.1 hx
        exact (hat i hi).2.2
end

end Go.Proofs.Ytengfhcocagpiaa
