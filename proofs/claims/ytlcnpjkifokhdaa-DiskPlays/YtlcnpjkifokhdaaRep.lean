/-
  THE WALK OF slices.Repeat OF ONE BYTE, THREE AND FOUR TIMES.
-/
import Derived.Test.YtlcnpjkifokhdaaDisk2
import Derived.Deep.RegionLaw
namespace Go.Proofs.Ytlcnpjkifokhdaa
open Go.RowKit
set_option linter.unusedVariables false
set_option maxRecDepth 100000

def num : Value → Int | .int _ q => q | _ => 0
theorem mul64_lit (y : Int) (hy : y = 3 ∨ y = 4) (w : World) : Calls Try.prog 47 #[.int .u64 1, .int .u64 y] w fun e w' => e = .returned (.tuple #[.int .u64 0, .int .u64 y]) ∧ w' = w := by
  rcases hy with rfl | rfl
  · go_enter Try.func47, Try.ntmps47
    go_wp2
    go_ret2
    exact ⟨rfl, rfl⟩
  · go_enter Try.func47, Try.ntmps47
    go_wp2
    go_ret2
    exact ⟨rfl, rfl⟩
theorem mul_lit (y : Int) (hy : y = 3 ∨ y = 4) (w : World) : Calls Try.prog 41 #[.int .u64 1, .int .u64 y] w fun e w' => e = .returned (.tuple #[.int .u64 0, .int .u64 y]) ∧ w' = w := by
  go_enter Try.func41, Try.ntmps41
  go_wp2_with fail
  refine (mul64_lit y hy w).mono ?_
  rintro e w' ⟨rfl, rfl⟩
  go_wp2
  go_ret2
  exact ⟨rfl, rfl⟩

/-- k of the n cells are written. -/
def part (x : BitVec 8) (n k : Nat) : List (BitVec 8) := List.replicate k x ++ List.replicate (n - k) 0#8
theorem part_len (x : BitVec 8) (n k : Nat) (h : k ≤ n) : (part x n k).length = n := by simp [part]; omega
theorem part_full (x : BitVec 8) (n : Nat) : part x n n = List.replicate n x := by simp [part]
theorem rep_copy {w w1 : World} {B g n k d m : Nat} {x : BitVec 8} (hg : w1.heap[g]? = some (.cells ((part x n k).map val).toArray 5 (0, 0))) (hm : m = Nat.min k d) (hm0 : m = 1 ∨ m = 2) (hk : k + m ≤ n) (hmk : m ≤ k)
    (hs : splice ((part x n k).map val) k ((List.replicate m x).map val) = (part x n (k + m)).map val) (hb : Below B w w1) (hB : B ≤ g) :
    ∃ w2, (Builtin.copy_ #[28, 28] 3 #[.slice (some ⟨g, k, none⟩) d d, .slice (some ⟨g, 0, none⟩) k n]).run Try.prog w1 = .ok (goInt m) w2 ∧ w2.heap[g]? = some (.cells ((part x n (k + m)).map val).toArray 5 (0, 0)) ∧ Below B w w2 := by
  have hrun := run_copy_row (P := Try.prog) w1 28 28 3 5 g k d d ⟨g, 0, none⟩ k n _ 5 ((List.replicate m x).map val) Try.underlying28 byte_size hg (by simpa using hm) (by
    intro j v hv
    have hj : j < m := by
      have := (List.getElem?_eq_some_iff.1 hv).1
      simpa using this
    have e1 : (⟨g, 0, none⟩ : Addr).add j = ⟨g, j, none⟩ := by
      unfold Addr.add
      by_cases h : j = 0 <;> simp [h]
    rw [e1, cell_of_row w1 g j _ _ _ hg]
    simp only [List.getElem?_map, List.getElem?_replicate, hj, if_true, Option.map_some, Option.some.injEq] at hv
    subst hv
    simp only [List.getElem?_toArray, List.getElem?_map]
    unfold part
    rw [List.getElem?_append_left (by simp; omega), List.getElem?_replicate, if_pos (by omega)]
    rfl) (by simp [part]; omega) (val_one _)
  have hl : ((List.replicate m x).map val).length = m := by simp
  rw [hl] at hrun
  refine ⟨_, hrun, ?_, below_setRow hb hB _⟩
  rw [← hs]
  have := setRow_heap w1 g _ (((part x n k).map val).take k ++ (List.replicate m x).map val ++ ((part x n k).map val).drop (k + m)).toArray 5 _ hg
  simpa [splice, List.append_assoc] using this

set_option maxHeartbeats 1600000 in
theorem rep3 (x : BitVec 8) (b0 : Nat) (w : World) (h : Has w (some ⟨b0, 0, none⟩) 1 [x]) : Calls Try.prog 28 #[.slice (some ⟨b0, 0, none⟩) 1 1, .int .i64 3] w fun e w' => ∃ g, e = .returned (.slice (some ⟨g, 0, none⟩) 3 3) ∧ w'.ownsRow w.heap.size 5 1 (.slice (some ⟨g, 0, none⟩) 3 3) 3 ((List.replicate 3 x).map val) ∧ Below w.heap.size w w' := by
  obtain ⟨i0, hi0, hz0, hz1, hz2⟩ := info_parts byte_info
  have H := Lib.hid h
  clear h
  go_enter Try.func28, Try.ntmps28
  go_wp2_with fail
  refine (mul_lit 3 (by omega) w).mono ?_
  rintro e w' ⟨rfl, rfl⟩
  go_wp2_with (first
    | (at_make; refine wpList_make_full _ rfl (.tmp 29) (.tmp 29) 28 rfl w'.heap.size 5 i0 (.int .u8 0) 1 Try.underlying28 hi0 hz0 hz1 .i64 .i64 3 3 3 rfl rfl rfl rfl (by rw [hz2]; omega) (by unfold maxLen; omega) (Nat.le_refl _) ?_; intro w2 hown2 hg2; have hb2 : Below w'.heap.size w' w2 := (Below.refl _ _).grown hg2 (Nat.le_refl _) (by simp); have RW := Lib.hid (made_row hown2); have B2 := Lib.hid hb2; clear hown2 hg2 hb2))
  obtain ⟨w3, hrun3, hr3, hb3⟩ := copy_run (c := 1) RW.out (H.out.below B2.out) (by omega) B2.out (Nat.le_refl _)
  have R3 := Lib.hid (show w3.heap[w'.heap.size]? = some (.cells ((part x 3 1).map val).toArray 5 (0, 0)) from hr3)
  have B3 := Lib.hid hb3
  clear hr3 hb3
  rw [hrun3]
  clear hrun3
  generalize hg : w'.heap.size = g at *
  have EG := Lib.hid hg
  clear hg
  go_wp2
  go_loopw [8] (fun i wr => ∃ k : Nat, 1 ≤ k ∧ k ≤ 3 ∧ i = .int .i64 k ∧ wr.heap[g]? = some (.cells ((part x 3 k).map val).toArray 5 (0, 0)) ∧ Below g w' wr) (fun i _ => 3 - (num i).toNat)
  case atStart => exact ⟨1, by omega, by omega, rfl, R3.out, B3.out⟩
  case round =>
    obtain ⟨k, hk1, hk3, rfl, hr, hb⟩ := hrel
    have R4 := Lib.hid hr
    have B4 := Lib.hid hb
    clear hr hb
    have hcase : k = 1 ∨ k = 2 ∨ k = 3 := by omega
    rcases hcase with rfl | rfl | rfl
    · obtain ⟨w5, hrun, hr5, hb5⟩ := rep_copy (w := w') (w1 := wr.drew) (B := g) (g := g) (n := 3) (k := 1) (d := 2) (m := 1) (x := x) R4.out rfl (by omega) (by omega) (by omega) rfl ⟨B4.out.os, B4.out.tape, B4.out.output, B4.out.size, B4.out.block⟩ (Nat.le_refl _)
      have R5 := Lib.hid hr5
      have B5 := Lib.hid hb5
      clear hr5 hb5
      go_wp2
      go_region
      go_wp2
      go_roundw
      case rel => exact ⟨2, by omega, by omega, by go_num, R5.out, B5.out⟩
      case measure => simp [num]
    · obtain ⟨w5, hrun, hr5, hb5⟩ := rep_copy (w := w') (w1 := wr.drew) (B := g) (g := g) (n := 3) (k := 2) (d := 1) (m := 1) (x := x) R4.out rfl (by omega) (by omega) (by omega) rfl ⟨B4.out.os, B4.out.tape, B4.out.output, B4.out.size, B4.out.block⟩ (Nat.le_refl _)
      have R5 := Lib.hid hr5
      have B5 := Lib.hid hb5
      clear hr5 hb5
      go_wp2
      go_region
      go_wp2
      go_roundw
      case rel => exact ⟨3, by omega, by omega, by go_num, R5.out, B5.out⟩
      case measure => simp [num]
    · go_wp2
      go_ret
      refine ⟨g, rfl, ?_, by rw [EG.out]; exact B4.out⟩
      exact own_of_row R4.out rfl (by unfold maxLen; omega) (by have := EG.out; omega)

set_option maxHeartbeats 1600000 in
theorem rep4 (x : BitVec 8) (b0 : Nat) (w : World) (h : Has w (some ⟨b0, 0, none⟩) 1 [x]) : Calls Try.prog 28 #[.slice (some ⟨b0, 0, none⟩) 1 1, .int .i64 4] w fun e w' => ∃ g, e = .returned (.slice (some ⟨g, 0, none⟩) 4 4) ∧ w'.ownsRow w.heap.size 5 1 (.slice (some ⟨g, 0, none⟩) 4 4) 4 ((List.replicate 4 x).map val) ∧ Below w.heap.size w w' := by
  obtain ⟨i0, hi0, hz0, hz1, hz2⟩ := info_parts byte_info
  have H := Lib.hid h
  clear h
  go_enter Try.func28, Try.ntmps28
  go_wp2_with fail
  refine (mul_lit 4 (by omega) w).mono ?_
  rintro e w' ⟨rfl, rfl⟩
  go_wp2_with (first
    | (at_make; refine wpList_make_full _ rfl (.tmp 29) (.tmp 29) 28 rfl w'.heap.size 5 i0 (.int .u8 0) 1 Try.underlying28 hi0 hz0 hz1 .i64 .i64 4 4 4 rfl rfl rfl rfl (by rw [hz2]; omega) (by unfold maxLen; omega) (Nat.le_refl _) ?_; intro w2 hown2 hg2; have hb2 : Below w'.heap.size w' w2 := (Below.refl _ _).grown hg2 (Nat.le_refl _) (by simp); have RW := Lib.hid (made_row hown2); have B2 := Lib.hid hb2; clear hown2 hg2 hb2))
  obtain ⟨w3, hrun3, hr3, hb3⟩ := copy_run (c := 1) RW.out (H.out.below B2.out) (by omega) B2.out (Nat.le_refl _)
  have R3 := Lib.hid (show w3.heap[w'.heap.size]? = some (.cells ((part x 4 1).map val).toArray 5 (0, 0)) from hr3)
  have B3 := Lib.hid hb3
  clear hr3 hb3
  rw [hrun3]
  clear hrun3
  generalize hg : w'.heap.size = g at *
  have EG := Lib.hid hg
  clear hg
  go_wp2
  go_loopw [8] (fun i wr => ∃ k : Nat, 1 ≤ k ∧ k ≤ 4 ∧ i = .int .i64 k ∧ wr.heap[g]? = some (.cells ((part x 4 k).map val).toArray 5 (0, 0)) ∧ Below g w' wr) (fun i _ => 4 - (num i).toNat)
  case atStart => exact ⟨1, by omega, by omega, rfl, R3.out, B3.out⟩
  case round =>
    obtain ⟨k, hk1, hk3, rfl, hr, hb⟩ := hrel
    have R4 := Lib.hid hr
    have B4 := Lib.hid hb
    clear hr hb
    have hcase : k = 1 ∨ k = 2 ∨ k = 3 ∨ k = 4 := by omega
    rcases hcase with rfl | rfl | rfl | rfl
    · obtain ⟨w5, hrun, hr5, hb5⟩ := rep_copy (w := w') (w1 := wr.drew) (B := g) (g := g) (n := 4) (k := 1) (d := 3) (m := 1) (x := x) R4.out rfl (by omega) (by omega) (by omega) rfl ⟨B4.out.os, B4.out.tape, B4.out.output, B4.out.size, B4.out.block⟩ (Nat.le_refl _)
      have R5 := Lib.hid hr5
      have B5 := Lib.hid hb5
      clear hr5 hb5
      go_wp2
      go_region
      go_wp2
      go_roundw
      case rel => exact ⟨2, by omega, by omega, by go_num, R5.out, B5.out⟩
      case measure => simp [num]
    · obtain ⟨w5, hrun, hr5, hb5⟩ := rep_copy (w := w') (w1 := wr.drew) (B := g) (g := g) (n := 4) (k := 2) (d := 2) (m := 2) (x := x) R4.out rfl (by omega) (by omega) (by omega) rfl ⟨B4.out.os, B4.out.tape, B4.out.output, B4.out.size, B4.out.block⟩ (Nat.le_refl _)
      have R5 := Lib.hid hr5
      have B5 := Lib.hid hb5
      clear hr5 hb5
      go_wp2
      go_region
      go_wp2
      go_roundw
      case rel => exact ⟨4, by omega, by omega, by go_num, R5.out, B5.out⟩
      case measure => simp [num]
    · obtain ⟨w5, hrun, hr5, hb5⟩ := rep_copy (w := w') (w1 := wr.drew) (B := g) (g := g) (n := 4) (k := 3) (d := 1) (m := 1) (x := x) R4.out rfl (by omega) (by omega) (by omega) rfl ⟨B4.out.os, B4.out.tape, B4.out.output, B4.out.size, B4.out.block⟩ (Nat.le_refl _)
      have R5 := Lib.hid hr5
      have B5 := Lib.hid hb5
      clear hr5 hb5
      go_wp2
      go_region
      go_wp2
      go_roundw
      case rel => exact ⟨4, by omega, by omega, by go_num, R5.out, B5.out⟩
      case measure => simp [num]
    · go_wp2
      go_ret
      refine ⟨g, rfl, ?_, by rw [EG.out]; exact B4.out⟩
      exact own_of_row R4.out rfl (by unfold maxLen; omega) (by have := EG.out; omega)

end Go.Proofs.Ytlcnpjkifokhdaa
