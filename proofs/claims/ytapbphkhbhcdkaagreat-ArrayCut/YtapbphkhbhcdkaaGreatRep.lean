/-
  THE WALK OF slices.Repeat OF ONE BYTE, AS OFTEN AS A BLOCK IS LONG; OF THE LAW'S Block AND Chunks.
-/
import Derived.Test.YtapbphkhbhcdkaaGreatFl
import Derived.Deep.RegionLaw
namespace Go.Proofs.YtapbphkhbhcdkaaGreat
open Go.RowKit Go.Maps
set_option linter.unusedVariables false
set_option maxRecDepth 100000

set_option maxHeartbeats 3200000 in
theorem mul64_lit (y : Int) (hy : 32 ≤ y ∧ y ≤ 48) (w : World) : Calls Tryz.prog 80 #[.int .u64 1, .int .u64 y] w fun e w' => e = .returned (.tuple #[.int .u64 0, .int .u64 y]) ∧ w' = w := by
  have h : y = 32 ∨ y = 33 ∨ y = 34 ∨ y = 35 ∨ y = 36 ∨ y = 37 ∨ y = 38 ∨ y = 39 ∨ y = 40 ∨ y = 41 ∨ y = 42 ∨ y = 43 ∨ y = 44 ∨ y = 45 ∨ y = 46 ∨ y = 47 ∨ y = 48 := by omega
  clear hy
  rcases h with rfl | rfl | rfl | rfl | rfl | rfl | rfl | rfl | rfl | rfl | rfl | rfl | rfl | rfl | rfl | rfl | rfl
  all_goals
    go_enter Tryz.func80, Tryz.ntmps80
    go_wp2
    go_ret2
    exact ⟨rfl, rfl⟩
theorem mul_lit (y : Int) (hy : 32 ≤ y ∧ y ≤ 48) (w : World) : Calls Tryz.prog 69 #[.int .u64 1, .int .u64 y] w fun e w' => e = .returned (.tuple #[.int .u64 0, .int .u64 y]) ∧ w' = w := by
  go_enter Tryz.func69, Tryz.ntmps69
  go_wp2_with fail
  refine (mul64_lit y hy w).mono ?_
  rintro e w' ⟨rfl, rfl⟩
  go_wp2
  go_ret2
  exact ⟨rfl, rfl⟩

/-- k of the n cells are written. -/
def filled (x : BitVec 8) (n k : Nat) : List (BitVec 8) := List.replicate k x ++ List.replicate (n - k) 0#8
theorem filled_len (x : BitVec 8) (n k : Nat) (h : k ≤ n) : (filled x n k).length = n := by simp [filled]; omega
theorem filled_full (x : BitVec 8) (n : Nat) : filled x n n = List.replicate n x := by simp [filled]
theorem filled_splice (x : BitVec 8) (n k m : Nat) (h : k + m ≤ n) : splice ((filled x n k).map val) k ((List.replicate m x).map val) = (filled x n (k + m)).map val := by
  unfold splice filled
  have e1 : (List.map val (List.replicate k x ++ List.replicate (n - k) 0#8)).take k = (List.replicate k x).map val := by simp
  have e2 : (List.map val (List.replicate k x ++ List.replicate (n - k) 0#8)).drop (k + m) = (List.replicate (n - (k + m)) 0#8).map val := by
    rw [List.map_append, List.drop_append]
    simp
    omega
  rw [List.length_map, List.length_replicate, e1, e2, ← List.map_append, ← List.map_append]
  congr 1
  rw [← List.replicate_append_replicate, List.append_assoc]
theorem rep_copy {w w1 : World} {B g n k d m : Nat} {x : BitVec 8} (hg : w1.heap[g]? = some (.cells ((filled x n k).map val).toArray 5 (0, 0))) (hd : k + d = n) (hm : m = min k d) 
    (hb : Below B w w1) (hB : B ≤ g) :
    ∃ w2, (Builtin.copy_ #[55, 55] 3 #[.slice (some ⟨g, k, none⟩) d d, .slice (some ⟨g, 0, none⟩) k n]).run Tryz.prog w1 = .ok (goInt m) w2 ∧ w2.heap[g]? = some (.cells ((filled x n (k + m)).map val).toArray 5 (0, 0)) ∧ Below B w w2 := by
  have hmd : m ≤ d ∧ m ≤ k := by omega
  have hrun := run_copy_row (P := Tryz.prog) w1 55 55 3 5 g k d d ⟨g, 0, none⟩ k n _ 5 ((List.replicate m x).map val) Tryz.underlying55 byte_size hg (by rw [List.length_map, List.length_replicate, hm]) (by
    intro j v hv
    have hj : j < m := by
      have := (List.getElem?_eq_some_iff.1 hv).1
      simpa using this
    have e1 : (⟨g, 0, none⟩ : Addr).add j = ⟨g, j, none⟩ := by
      unfold Addr.add
      by_cases h : j = 0 <;> simp [h]
    rw [e1, cell_of_row w1 g j _ _ _ hg]
    simp only [List.getElem?_map, List.getElem?_replicate, hj, if_true, Option.map_some, Option.some.injEq] at hv
    subst hv
    simp only [List.getElem?_toArray, List.getElem?_map]
    unfold filled
    rw [List.getElem?_append_left (by simp; omega), List.getElem?_replicate, if_pos (by omega)]
    rfl) (by simp [filled]; omega) (val_one _)
  have hl : ((List.replicate m x).map val).length = m := by simp
  rw [hl] at hrun
  refine ⟨_, hrun, ?_, below_setRow hb hB _⟩
  rw [← filled_splice x n k m (by omega)]
  have := setRow_heap w1 g _ (((filled x n k).map val).take k ++ (List.replicate m x).map val ++ ((filled x n k).map val).drop (k + m)).toArray 5 _ hg
  simpa [splice, List.append_assoc] using this

set_option maxHeartbeats 3200000 in
theorem rep_any (x : BitVec 8) (b0 n : Nat) (hn : 32 ≤ n ∧ n ≤ 48) (w : World) (h : Has w (some ⟨b0, 0, none⟩) 1 [x]) : Calls Tryz.prog 47 #[.slice (some ⟨b0, 0, none⟩) 1 1, .int .i64 (n : Int)] w fun e w' => ∃ g, e = .returned (.slice (some ⟨g, 0, none⟩) n n) ∧ w'.ownsRow w.heap.size 5 1 (.slice (some ⟨g, 0, none⟩) n n) n ((List.replicate n x).map val) ∧ Below w.heap.size w w' := by
  obtain ⟨i0, hi0, hz0, hz1, hz2⟩ := info_parts byte_info
  have H := Lib.hid h
  clear h
  go_enter Tryz.func47, Tryz.ntmps47
  go_wp2_with fail
  refine (mul_lit (n : Int) (by omega) w).mono ?_
  rintro e w' ⟨rfl, rfl⟩
  go_wp2_with (first
    | (at_make; refine wpList_make_full _ rfl (.tmp 29) (.tmp 29) 55 rfl w'.heap.size 5 i0 (.int .u8 0) 1 Tryz.underlying55 hi0 hz0 hz1 .i64 .i64 n n n rfl rfl rfl rfl (by rw [hz2]; omega) (by unfold maxLen; omega) (Nat.le_refl _) ?_; intro w2 hown2 hg2; have hb2 : Below w'.heap.size w' w2 := (Below.refl _ _).grown hg2 (Nat.le_refl _) (by simp); have RW := Lib.hid (made_row hown2); have B2 := Lib.hid hb2; clear hown2 hg2 hb2))
  obtain ⟨w3, hrun3, hr3, hb3⟩ := copy_run (c := 1) RW.out (H.out.below B2.out) (by omega) B2.out (Nat.le_refl _)
  have R3 := Lib.hid (show w3.heap[w'.heap.size]? = some (.cells ((filled x n 1).map val).toArray 5 (0, 0)) from hr3)
  have B3 := Lib.hid hb3
  clear hr3 hb3
  rw [hrun3]
  clear hrun3
  generalize hg : w'.heap.size = g at *
  have EG := Lib.hid hg
  clear hg
  go_wp2
  go_loopw [8] (fun i wr => ∃ k : Nat, 1 ≤ k ∧ k ≤ n ∧ i = .int .i64 k ∧ wr.heap[g]? = some (.cells ((filled x n k).map val).toArray 5 (0, 0)) ∧ Below g w' wr) (fun i _ => n - (RowKit.intOf i).toNat)
  case atStart => exact ⟨1, by omega, by omega, rfl, R3.out, B3.out⟩
  case round =>
    obtain ⟨k, hk1, hkn, rfl, hr, hb⟩ := hrel
    have R4 := Lib.hid hr
    have B4 := Lib.hid hb
    clear hr hb
    by_cases hlt : k < n
    · obtain ⟨w5, hrun, hr5, hb5⟩ := rep_copy (w := w') (w1 := wr.drew) (B := g) (g := g) (n := n) (k := k) (d := n - k) (m := min k (n - k)) (x := x) R4.out (by omega) rfl ⟨B4.out.os, B4.out.tape, B4.out.output, B4.out.size, B4.out.block⟩ (Nat.le_refl _)
      have R5 := Lib.hid hr5
      have B5 := Lib.hid hb5
      clear hr5 hb5
      go_wp2
      go_region
      go_wp2
      refine ⟨⟨k + min k (n - k), by omega, by omega, by rw [Int.natCast_add], R5.out, B5.out⟩, ?_⟩
      simp [RowKit.intOf]
      omega
    · obtain rfl : k = n := by omega
      go_wp2
      go_ret
      refine ⟨g, rfl, ?_, by rw [EG.out]; exact B4.out⟩
      have := R4.out
      rw [filled_full] at this
      exact own_of_row this (by simp) (by unfold maxLen; omega) (by have := EG.out; omega)

theorem one_byte (w : World) (x : BitVec 8) (X : Int) (hX : X = (x.toNat : Int)) : Has (w.alloc (.cells #[.int .u8 X] 5)) (some ⟨w.heap.size, 0, none⟩) 1 [x] := by
  subst hX
  refine Has.of_block (heap_alloc_new _ _) rfl ?_
  intro k hk
  match k, hk with
  | 0, _ => rfl

/-- The law's Block: a new row of one byte. -/
theorem Block_any (M b g s n l : Int) (nb : Nat) (hb : b = (nb : Int)) (h48 : 32 ≤ nb ∧ nb ≤ 48) (x : BitVec 8) (X : Int) (hX : X = (x.toNat : Int)) (w : World) : Calls Tryz.prog 21 #[sv M b g s n l, .int .u8 X] w fun e w' => ∃ B, e = .returned (.slice (some ⟨B, 0, none⟩) nb nb) ∧ w'.ownsRow w.heap.size 5 1 (.slice (some ⟨B, 0, none⟩) nb nb) nb ((List.replicate nb x).map val) ∧ Below w.heap.size w w' := by
  unfold sv
  subst hb hX
  have B1 := Lib.hid (show Below w.heap.size w ((w.alloc (.cells #[.int .i64 M, .int .i64 (nb : Int), .int .i64 g, .int .i64 s, .int .i64 n, .int .i64 l] 33)).alloc (.cells #[.int .u8 (x.toNat : Int)] 5)) from ((Below.refl _ _).alloc (Nat.le_refl _) _).alloc (by simp) _)
  have H1 := Lib.hid (one_byte (w.alloc (.cells #[.int .i64 M, .int .i64 (nb : Int), .int .i64 g, .int .i64 s, .int .i64 n, .int .i64 l] 33)) x _ rfl)
  go_enter Tryz.func21, Tryz.ntmps21
  go_wp2_with fail
  refine (rep_any x (w.heap.size + 1) nb h48 _ (by have := H1.out; simpa using this)).mono ?_
  rintro e w2 ⟨B, rfl, hown, hb⟩
  have O2 := Lib.hid (own_base hown (fun k hk => Nat.le_trans B1.out.size (hown.lt k hk).1))
  have B2 := Lib.hid (B1.out.trans (hb.mono B1.out.size))
  clear hown hb
  go_wp2
  go_ret
  exact ⟨B, rfl, O2.out, B2.out⟩

/-- The byte of a stripe's chunk. -/
def fillAt (f : BitVec 8) (k : Nat) : BitVec 8 := f + BitVec.ofNat 8 (k * 37)
theorem fill_at (f : BitVec 8) (k : Nat) : ((f.toNat : Int) + (k : Int) * 37) % 256 = ((fillAt f k).toNat : Int) := by
  unfold fillAt
  rw [BitVec.toNat_add, BitVec.toNat_ofNat]
  omega

end Go.Proofs.YtapbphkhbhcdkaaGreat
