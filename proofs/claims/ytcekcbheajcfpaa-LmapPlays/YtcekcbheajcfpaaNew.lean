/-
  THE WALKS OF New, Pages, Many.
-/
import Derived.Test.YtcekcbheajcfpaaPut
import Derived.Deep.CutRange
namespace Go.Proofs.Ytcekcbheajcfpaa
open Go.RowKit
set_option linter.unusedVariables false
set_option maxRecDepth 100000


theorem ptr_info : (Try.prog.info? 52).map (fun i => (i.zero, i.size, i.bytes)) = some (some (.pointer none), 1, 8) := by kernel_rfl
theorem int_info : (Try.prog.info? 3).map (fun i => (i.zero, i.size, i.bytes)) = some (some (.int .i64 0), 1, 8) := by kernel_rfl
theorem ptrs_none (m : Nat) : (madeCells (Value.pointer none).cells (m * 1)).toList = (List.replicate m (none : Option Nat)).map ptr := by
  apply List.ext_getElem?
  intro k
  rw [List.getElem?_map, List.getElem?_replicate]
  rcases Nat.lt_or_ge k m with h | h
  · rw [if_pos h]
    simp [madeCells, h, Value.cells, ptr, Nat.mod_one]
  · rw [if_neg (by omega), List.getElem?_eq_none (by rw [Array.length_toList, size_madeCells]; omega)]
    rfl
/-- A row that is made full. -/
theorem made_ptrs {w w1 : World} {n : Nat} (h : w1.ownsRow w.heap.size 52 1 (.slice (some ⟨w.heap.size, 0, none⟩) n n) n (madeCells (Value.pointer none).cells (n * 1)).toList) : At w1 w.heap.size ((List.replicate n (none : Option Nat)).map ptr).toArray 52 := by
  rcases h.2 with ⟨e, _⟩ | ⟨g, cap, cur, e, _, hh, _, _, hs, ht⟩
  · cases e
  · injection e with e1 _ e2
    injection e1 with e1
    injection e1 with e1
    subst e1 e2
    unfold At
    rw [hh]
    congr 2
    apply Array.ext'
    rw [List.take_of_length_le (by simp [hs])] at ht
    rw [ht, ptrs_none]

set_option maxHeartbeats 800000 in
theorem new_any (z : Int) (n : Nat) (w : World) (hn : (n : Int) = min (max z 0) 1048576) : Calls Try.prog 8 #[.int .i64 z] w fun e w' => ∃ g, e = .returned (.pointer (some ⟨g, 0, none⟩)) ∧ Lm w' (fun k => w.heap.size ≤ k) g n (fun _ => -1) (fun _ => false) ∧ Below w.heap.size w w' := by
  obtain ⟨i0, hi, hz0, hz1, hz2⟩ := info_parts ptr_info
  obtain ⟨M, hM⟩ : ∃ M, M = max z 0 := ⟨_, rfl⟩
  have hmax := fun (w : World) => run_max2 (P := Try.prog) w #[3, 3] 3 z 0 M hM
  have hmin := fun (w : World) => run_min2 (P := Try.prog) w #[3, 3] 3 M 1048576 n (by omega)
  have hn2 : n ≤ 1048576 := by omega
  obtain ⟨m, hm⟩ : ∃ m, m = (n + 15) / 16 := ⟨_, rfl⟩
  have HM := Lib.hid hm
  have hml : ((n : Int) + 16 - 1) / 16 = (m : Int) := by omega
  have hm2 : m ≤ 65536 := by omega
  clear hn hM hm
  go_enter Try.func8, Try.ntmps8
  go_wp2_with (at_make; refine wpList_make_full _ rfl (.tmp 11) (.tmp 11) 45 rfl w.heap.size 52 i0 (.pointer none) 1 Try.underlying45 hi hz0 hz1 .i64 .i64 m m m (by simp [Act.eval, hml]) (by simp [Act.eval, hml]) rfl rfl (by rw [hz2]; omega) (by unfold maxLen; omega) (Nat.le_refl _) ?_; intro w1 hown1 hg1)
  have R := made_ptrs hown1
  have B := (Below.refl w.heap.size w).grown hg1 (Nat.le_refl _) (by simp)
  go_ret
  have none_some : ∀ (i p : Nat), ¬ (List.replicate m (none : Option Nat))[i]? = some (some p) := by
    intro i p h
    rw [List.getElem?_replicate] at h
    split at h <;> simp at h
  refine ⟨w1.heap.size, rfl, ⟨w.heap.size, List.replicate m none, ⟨?_, At.alloc R _, by rw [List.length_replicate]; exact HM.out, hn2, fun i p h => absurd h (none_some i p), fun _ _ _ _ => rfl, fun i j p h => absurd h (none_some i p), fun _ _ => rfl, fun _ => by omega⟩, ?_, ?_⟩, B.alloc B.size _⟩
  · rw [List.length_replicate]
    exact At.new _ _ rfl
  · rintro k (rfl | rfl | ⟨i, h⟩)
    · exact B.size
    · exact Nat.le_refl _
    · exact absurd h (none_some i k)
  · funext j
    unfold made
    rw [List.getElem?_replicate]
    split <;> rename_i h
    · split at h <;> simp at h
    · rfl

/-- How many of the first m pages are made. -/
def pages (A : Nat → Bool) (m : Nat) : Nat := ((List.range m).filter A).length
theorem pages_le (A : Nat → Bool) (m : Nat) : pages A m ≤ m := Nat.le_trans (List.length_filter_le _ _) (by simp)
theorem pages_yes {A : Nat → Bool} {m : Nat} (h : A m = true) : pages A (m + 1) = pages A m + 1 := by
  unfold pages
  rw [List.range_succ, List.filter_append, List.length_append]
  simp [h]
theorem pages_no {A : Nat → Bool} {m : Nat} (h : A m = false) : pages A (m + 1) = pages A m := by
  unfold pages
  rw [List.range_succ, List.filter_append, List.length_append]
  simp [h]

section
variable {w : World} {g r n : Nat} {Q : List (Option Nat)} {V : Nat → Int}
set_option maxHeartbeats 800000 in
theorem pagesq_any (h : Lq w g r n Q V) : Calls Try.prog 11 #[.pointer (some ⟨g, 0, none⟩)] w fun e w' => e = .returned (.int .i64 (pages (made Q) Q.length : Nat)) ∧ w' = w := by
  have H := Lib.hid h
  have c1 := h.box.cell 1
  have hl : Q.length ≤ 65536 := by have := h.few; have := h.len; omega
  clear h
  have PL := Lib.hid (fun k => pages_le (made Q) k)
  obtain ⟨m, hm⟩ : ∃ m, m = Q.length := ⟨_, rfl⟩
  rw [← hm] at c1 hl ⊢
  have HM := Lib.hid hm
  clear hm
  go_enter Try.func11, Try.ntmps11
  go_wp2_with fail
  go_loopg [3, 5, 11] m (fun gg s3 _ s11 wr => ∃ k : Nat, k ≤ m ∧ m - k ≤ gg ∧ s11 = .int .i64 (k : Int) ∧ s3 = .int .i64 (pages (made Q) k : Nat) ∧ wr = w)
  case atStart => exact ⟨0, Nat.zero_le _, by omega, rfl, rfl, rfl⟩
  case round =>
    obtain ⟨k, hk0, hgg, rfl, rfl, hw⟩ := hrel
    subst hw
    by_cases hlt : k < m
    · obtain ⟨q, hq⟩ : ∃ q, Q[k]? = some q := ⟨_, List.getElem?_eq_getElem (by rw [← HM.out]; exact hlt)⟩
      have d0 := H.out.cell hq
      have hp := PL.out k
      cases q with
      | none =>
        have N := Lib.hid (pages_no (made_no hq))
        have d1 : wr.cell? ⟨r, k, none⟩ = some (.pointer none) := d0
        clear d0 hq
        generalize hP : pages (made Q) k = P at *
        go_wp2
        go_roundg (m - (k + 1))
        case measure => omega
        case rel => exact ⟨k + 1, by omega, Nat.le_refl _, by go_num, by rw [N.out], rfl⟩
      | some p =>
        have N := Lib.hid (pages_yes (made_yes hq))
        have d1 : wr.cell? ⟨r, k, none⟩ = some (.pointer (some ⟨p, 0, none⟩)) := d0
        clear d0 hq
        generalize hP : pages (made Q) k = P at *
        go_wp2
        go_roundg (m - (k + 1))
        case measure => omega
        case rel => exact ⟨k + 1, by omega, Nat.le_refl _, by go_num, by rw [N.out]; go_num, rfl⟩
    · obtain rfl : k = m := by omega
      go_wp2
      go_ret
      exact ⟨rfl, rfl⟩
end
section
variable {w : World} {T : Nat → Prop} {g n : Nat} {V : Nat → Int} {A : Nat → Bool}
theorem pages_any (h : Lm w T g n V A) : Calls Try.prog 11 #[.pointer (some ⟨g, 0, none⟩)] w fun e w' => e = .returned (.int .i64 (pages A ((n + 15) / 16) : Nat)) ∧ w' = w := by
  obtain ⟨r, Q, hl, ht, rfl⟩ := h
  rw [← hl.len]
  exact pagesq_any hl
end

/-- How many of the first k blocks lie somewhere. -/
def many (V : Nat → Int) (k : Nat) : Nat := ((List.range k).filter fun j => V j != -1).length
theorem many_le (V : Nat → Int) (k : Nat) : many V k ≤ k := Nat.le_trans (List.length_filter_le _ _) (by simp)
theorem many_yes {V : Nat → Int} {k : Nat} (h : ¬ V k = -1) : many V (k + 1) = many V k + 1 := by
  unfold many
  rw [List.range_succ, List.filter_append, List.length_append]
  simp [h]
theorem many_no {V : Nat → Int} {k : Nat} (h : V k = -1) : many V (k + 1) = many V k := by
  unfold many
  rw [List.range_succ, List.filter_append, List.length_append]
  simp [h]
theorem many_same {V : Nat → Int} {k : Nat} : ∀ m, (∀ j, k ≤ j → j < k + m → V j = -1) → many V (k + m) = many V k
  | 0, _ => rfl
  | m + 1, h => by
    rw [← Nat.add_assoc, many_no (h (k + m) (by omega) (by omega))]
    exact many_same m (fun j h1 h2 => h j h1 (by omega))

section
variable {w : World} {g r n : Nat} {Q : List (Option Nat)} {V : Nat → Int}
set_option maxHeartbeats 1600000 in
theorem manyq_any (h : Lq w g r n Q V) : Calls Try.prog 15 #[.pointer (some ⟨g, 0, none⟩)] w fun e w' => e = .returned (.int .i64 (many V (Q.length * 16) : Nat)) ∧ w' = w := by
  have H := Lib.hid h
  have c1 := h.box.cell 1
  have hl : Q.length ≤ 65536 := by have := h.few; have := h.len; omega
  clear h
  have PL := Lib.hid (fun k => many_le V k)
  obtain ⟨m, hm⟩ : ∃ m, m = Q.length := ⟨_, rfl⟩
  rw [← hm] at c1 hl ⊢
  have HM := Lib.hid hm
  clear hm
  go_enter Try.func15, Try.ntmps15
  go_wp2_with fail
  go_loopg [3, 5, 7, 13, 19, 20] m (fun gg s3 _ _ s13 _ _ wr => ∃ k : Nat, k ≤ m ∧ m - k ≤ gg ∧ s13 = .int .i64 (k : Int) ∧ s3 = .int .i64 (many V (k * 16) : Nat) ∧ wr = w)
  case atStart => exact ⟨0, Nat.zero_le _, by omega, rfl, rfl, rfl⟩
  case round =>
    obtain ⟨k, hk0, hgg, rfl, rfl, hw⟩ := hrel
    subst hw
    by_cases hlt : k < m
    · obtain ⟨q, hq⟩ : ∃ q, Q[k]? = some q := ⟨_, List.getElem?_eq_getElem (by rw [← HM.out]; exact hlt)⟩
      have d0 := H.out.cell hq
      have hp := PL.out (k * 16)
      cases q with
      | none =>
        have N := Lib.hid (show many V ((k + 1) * 16) = many V (k * 16) by rw [show (k + 1) * 16 = k * 16 + 16 by omega]; exact many_same 16 (fun j h1 h2 => by have := H.out.blank _ hq (j - k * 16) (by omega); rw [show k * 16 + (j - k * 16) = j by omega] at this; exact this))
        have d1 : wr.cell? ⟨r, k, none⟩ = some (.pointer none) := d0
        clear d0 hq
        generalize hP : many V (k * 16) = P at *
        go_wp2
        go_roundg (m - (k + 1))
        case measure => omega
        case rel => exact ⟨k + 1, by omega, Nat.le_refl _, by go_num, by rw [N.out], rfl⟩
      | some p =>
        have HQ := Lib.hid hq
        have d1 : wr.cell? ⟨r, k, none⟩ = some (.pointer (some ⟨p, 0, none⟩)) := d0
        clear d0 hq
        go_wp2_with fail
        go_loopg [3, 7, 20] 16 (fun gg s3 _ s20 wq => ∃ j : Nat, j ≤ 16 ∧ 16 - j ≤ gg ∧ s20 = .int .i64 (j : Int) ∧ s3 = .int .i64 (many V (k * 16 + j) : Nat) ∧ wq = wr)
        case atStart => exact ⟨0, by omega, by omega, rfl, rfl, rfl⟩
        case round =>
          obtain ⟨j, hj0, hgj, rfl, rfl, hw2⟩ := hrel
          subst hw2
          have hp := PL.out (k * 16 + j)
          by_cases hj : j < 16
          · have e2 := H.out.place HQ.out hj
            by_cases hv : V (k * 16 + j) = -1
            · have N := Lib.hid (many_no hv)
              rw [hv] at e2
              clear hv
              generalize hP : many V (k * 16 + j) = P at *
              go_wp2_with fail
              go_roundg (16 - (j + 1))
              case measure => omega
              case rel => exact ⟨j + 1, by omega, Nat.le_refl _, by go_num, by rw [← Nat.add_assoc, N.out], rfl⟩
            · have N := Lib.hid (many_yes hv)
              generalize V (k * 16 + j) = v at e2 hv
              generalize hP : many V (k * 16 + j) = P at *
              go_wp2_with fail
              go_roundg (16 - (j + 1))
              case measure => omega
              case rel => exact ⟨j + 1, by omega, Nat.le_refl _, by go_num, by rw [← Nat.add_assoc, N.out]; go_num, rfl⟩
          · obtain rfl : j = 16 := by omega
            go_wp2_with fail
            go_roundg (m - (k + 1))
            case measure => omega
            case rel => exact ⟨k + 1, by omega, Nat.le_refl _, by go_num, by rw [show (k + 1) * 16 = k * 16 + 16 by omega], rfl⟩
    · obtain rfl : k = m := by omega
      go_wp2
      go_ret
      exact ⟨rfl, rfl⟩
end
section
variable {w : World} {T : Nat → Prop} {g n : Nat} {V : Nat → Int} {A : Nat → Bool}
theorem many_any (h : Lm w T g n V A) : Calls Try.prog 15 #[.pointer (some ⟨g, 0, none⟩)] w fun e w' => e = .returned (.int .i64 (many V n : Nat)) ∧ w' = w := by
  obtain ⟨r, Q, hl, ht, rfl⟩ := h
  have e : many V (Q.length * 16) = many V n := by
    rw [hl.len, show (n + 15) / 16 * 16 = n + ((n + 15) / 16 * 16 - n) by omega]
    exact many_same _ (fun j h1 _ => hl.off j h1)
  rw [← e]
  exact manyq_any hl
end
end Go.Proofs.Ytcekcbheajcfpaa
