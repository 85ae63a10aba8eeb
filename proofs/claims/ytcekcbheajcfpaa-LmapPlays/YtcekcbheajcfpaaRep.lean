/-
  THE WALK OF slices.Repeat OF ONE INT.
-/
import Derived.Test.YtcekcbheajcfpaaLists
import Derived.Deep.RegionLaw
import Derived.Deep.CutRange
namespace Go.Proofs.Ytcekcbheajcfpaa
open Go.RowKit
set_option linter.unusedVariables false
set_option maxRecDepth 100000


def num : Value → Int | .int _ q => q | _ => 0
set_option maxHeartbeats 800000 in
theorem mul64_any (y : Nat) (hy : y ≤ 1000000) (w : World) : Calls Try.prog 23 #[.int .u64 1, .int .u64 y] w fun e w' => e = .returned (.tuple #[.int .u64 0, .int .u64 y]) ∧ w' = w := by
  have b0 : bits BinOp.and IntKind.u64 0 4294967295 = 0 := by decide
  have b1 : bits BinOp.and IntKind.u64 1 4294967295 = 1 := by decide
  have b2 : bits BinOp.and IntKind.u64 (y : Int) 4294967295 = (y : Int) := by
    have h := u64_and_nat y 4294967295 (by omega) (by omega)
    have e : y &&& 4294967295 = y := by rw [show 4294967295 = 2 ^ 32 - 1 by rfl, Nat.and_two_pow_sub_one_eq_mod]; omega
    rw [e] at h
    exact h
  have b3 : (y : Int) / 4294967296 = 0 := by omega
  go_enter Try.func23, Try.ntmps23
  go_wp2
  go_ret2
  exact ⟨rfl, rfl⟩
set_option maxHeartbeats 800000 in
theorem mul_any (y : Nat) (hy : y ≤ 1000000) (w : World) : Calls Try.prog 19 #[.int .u64 1, .int .u64 y] w fun e w' => e = .returned (.tuple #[.int .u64 0, .int .u64 y]) ∧ w' = w := by
  go_enter Try.func19, Try.ntmps19
  go_wp2_with fail
  refine (mul64_any y hy w).mono ?_
  rintro e w' ⟨rfl, rfl⟩
  go_wp2
  go_ret2
  exact ⟨rfl, rfl⟩

/-- k of the m ints are written. -/
def parts (x : Int) (m k : Nat) : List Int := List.replicate k x ++ List.replicate (m - k) 0
theorem parts_len {m k : Nat} (x : Int) (h : k ≤ m) : (parts x m k).length = m := by simp [parts]; omega
theorem parts_full (x : Int) (m : Nat) : parts x m m = List.replicate m x := by simp [parts]
theorem parts_get {m k j : Nat} (x : Int) (h : j < k) (hk : k ≤ m) : (ints (parts x m k))[j]? = some (.int .i64 x) := by
  rw [ints_get (by rw [parts_len x hk]; omega)]
  simp [parts, List.getElem_append_left, h]
theorem parts_more {m k d : Nat} (x : Int) (h : k + d ≤ m) : (ints (parts x m k)).take k ++ ints (List.replicate d x) ++ (ints (parts x m k)).drop (k + d) = ints (parts x m (k + d)) := by
  unfold ints
  rw [← List.map_take, ← List.map_drop, ← List.map_append, ← List.map_append]
  congr 1
  unfold parts
  rw [List.take_left' (by simp), List.drop_append, List.drop_of_length_le (by simp), List.nil_append, List.length_replicate, List.drop_replicate, List.replicate_append_replicate, show m - k - (k + d - k) = m - (k + d) by omega]
theorem rep_copy {w1 : World} {q m k d : Nat} {x : Int} {a : Addr} {L c cap : Nat} (hq : At w1 q (ints (parts x m k)).toArray 3) (hd : d = Nat.min L (m - k)) (hk : k ≤ m) (hsrc : ∀ j, j < d → w1.cell? (a.add j) = some (.int .i64 x)) :
    ∃ w2, (Builtin.copy_ #[26, 26] 3 #[.slice (some ⟨q, k, none⟩) (m - k) cap, .slice (some a) L c]).run Try.prog w1 = .ok (goInt d) w2 ∧ At w2 q (ints (parts x m (k + d))).toArray 3 ∧ But (fun b => b = q) w1 w2 := by
  have hm : d ≤ m - k := by rw [hd]; exact Nat.min_le_right _ _
  have hrun := run_copy_row (P := Try.prog) w1 26 26 3 3 q k (m - k) cap a L c _ 3 (ints (List.replicate d x)) Try.underlying26 (by kernel_rfl) hq (by rw [ints_len, List.length_replicate, hd]) (by
    intro j v hv
    have hj : j < d := by
      have := (List.getElem?_eq_some_iff.1 hv).1
      simpa [ints] using this
    rw [hsrc j hj]
    unfold ints at hv
    simp only [List.getElem?_map, List.getElem?_replicate, hj, if_true, Option.map_some] at hv
    exact hv) (by rw [ints_len, List.length_replicate, List.size_toArray, ints_len, parts_len x hk]; omega) (ints_one _)
  have hl : (ints (List.replicate d x)).length = d := by rw [ints_len, List.length_replicate]
  rw [hl] at hrun
  refine ⟨_, hrun, ?_, setRow_but _ _ _⟩
  have := setRow_heap w1 q _ (((ints (parts x m k)).toArray.toList.take k ++ ints (List.replicate d x) ++ (ints (parts x m k)).toArray.toList.drop (k + d)).toArray) 3 _ hq
  unfold At
  rw [this]
  rw [List.toList_toArray, parts_more x (by omega)]

set_option maxHeartbeats 1600000 in
theorem repeat_any (x : Int) (m b0 : Nat) (w : World) (hm : m ≤ 1000000) (h : At w b0 #[.int .i64 x] 3) : Calls Try.prog 9 #[.slice (some ⟨b0, 0, none⟩) 1 1, .int .i64 (m : Int)] w fun e w' => ∃ q, e = .returned (.slice (some ⟨q, 0, none⟩) m m) ∧ w.heap.size ≤ q ∧ At w' q (ints (List.replicate m x)).toArray 3 ∧ Below w.heap.size w w' := by
  obtain ⟨i0, hi, hz0, hz1, hz2⟩ := info_parts int_info
  have H := Lib.hid h
  clear h
  go_enter Try.func9, Try.ntmps9
  go_wp2_with fail
  refine (mul_any m hm w).mono ?_
  rintro e w' ⟨rfl, hw⟩
  subst hw
  go_wp2_with (first
    | (at_make; refine wpList_make_full _ rfl (.tmp 29) (.tmp 29) 26 rfl w'.heap.size 3 i0 (.int .i64 0) 1 Try.underlying26 hi hz0 hz1 .i64 .i64 m m m rfl rfl rfl rfl (by rw [hz2]; omega) (by unfold maxLen; omega) (Nat.le_refl _) ?_; intro w2 hown2 hg2; have hb2 : Below w'.heap.size w' w2 := (Below.refl _ _).grown hg2 (Nat.le_refl _) (by simp); have RW := Lib.hid (made_ints hown2); have B2 := Lib.hid hb2; clear hown2 hg2 hb2))
  obtain ⟨d, hd⟩ : ∃ d, d = Nat.min 1 m := ⟨_, rfl⟩
  have dm : d ≤ m ∧ (1 ≤ d ∨ m = 0) := by have e : d = min 1 m := hd; omega
  have R0 : At w2 w'.heap.size (ints (parts x m 0)).toArray 3 := by
    have e : parts x m 0 = List.replicate m 0 := by simp [parts]
    rw [e]
    exact RW.out
  obtain ⟨w3, hrun3, hr3, hb3⟩ := rep_copy (k := 0) (d := d) (a := ⟨b0, 0, none⟩) (L := 1) (c := 1) (cap := m) R0 hd (Nat.zero_le _) (fun j hj => by
    have hj0 : j = 0 := by have : d ≤ 1 := by rw [hd]; exact Nat.min_le_left _ _
                           omega
    subst hj0
    exact (B2.out.cell (p := ⟨b0, 0, none⟩) H.out.lt).trans (H.out.cell 0))
  rw [Nat.zero_add] at hr3
  have hrun3' : (Builtin.copy_ #[26, 26] 3 #[.slice (some ⟨w'.heap.size, 0, none⟩) m m, .slice (some ⟨b0, 0, none⟩) 1 1]).run Try.prog w2 = .ok (.int .i64 (d : Int)) w3 := hrun3
  have R3 := Lib.hid hr3
  have B3 := Lib.hid (show Below w'.heap.size w' w3 from B2.out.trans (hb3.below (fun k e => Nat.le_of_eq e.symm) B2.out.size))
  clear hr3 hb3 R0 hrun3
  rw [hrun3']
  clear hrun3' hd
  generalize hg : w'.heap.size = q at *
  have EG := Lib.hid hg
  clear hg
  go_wp2
  go_loopw [8] (fun i wr => ∃ k : Nat, k ≤ m ∧ (1 ≤ k ∨ m = 0) ∧ i = .int .i64 k ∧ At wr q (ints (parts x m k)).toArray 3 ∧ Below q w' wr) (fun i _ => m - (num i).toNat)
  case atStart => exact ⟨d, dm.1, dm.2, rfl, R3.out, B3.out⟩
  case round =>
    obtain ⟨k, hk1, hk3, rfl, hr, hb⟩ := hrel
    have R4 := Lib.hid hr
    have B4 := Lib.hid hb
    clear hr hb
    by_cases hlt : k < m
    · obtain ⟨d2, hd2⟩ : ∃ d2, d2 = Nat.min k (m - k) := ⟨_, rfl⟩
      have dm2 : 1 ≤ d2 ∧ k + d2 ≤ m := by have e : d2 = min k (m - k) := hd2; omega
      obtain ⟨w5, hrun, hr5, hb5⟩ := rep_copy (w1 := wr.drew) (k := k) (d := d2) (a := ⟨q, 0, none⟩) (L := k) (c := m) (cap := m - k) R4.out hd2 hk1 (fun j hj => by
        have hjk : j < k := Nat.lt_of_lt_of_le hj (by rw [hd2]; exact Nat.min_le_left _ _)
        rw [Addr.add_mid, Nat.zero_add]
        have h1 : wr.drew.cell? ⟨q, j, none⟩ = _ := R4.out.cell j
        rw [h1, List.getElem?_toArray, parts_get x hjk hk1])
      have hrun' : (Builtin.copy_ #[26, 26] 3 #[.slice (some ⟨q, k, none⟩) (m - k) (m - k), .slice (some ⟨q, 0, none⟩) k m]).run Try.prog wr.drew = .ok (.int .i64 (d2 : Int)) w5 := hrun
      have R5 := Lib.hid hr5
      have B5 := Lib.hid (show Below q w' w5 from B4.out.drew.trans (hb5.below (fun b e => Nat.le_of_eq e.symm) (by have := B4.out.size; have := EG.out; show q ≤ wr.heap.size; omega)))
      clear hr5 hb5 hrun hd2
      go_wp2
      go_region
      go_wp2
      go_roundw
      case rel => exact ⟨k + d2, dm2.2, by omega, by go_num, R5.out, B5.out⟩
      case measure => simp [num]; omega
    · obtain rfl : k = m := by omega
      rw [parts_full] at R4
      go_wp2
      go_ret
      exact ⟨q, rfl, by rw [EG.out]; exact Nat.le_refl _, R4.out, by rw [EG.out]; exact B4.out⟩
end Go.Proofs.Ytcekcbheajcfpaa
