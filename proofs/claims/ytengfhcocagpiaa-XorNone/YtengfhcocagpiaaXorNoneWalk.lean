/-
  THE WALK OF XorNone: any bytes; so many noughts.
-/
import Derived.Test.YtengfhcocagpiaaAwake
namespace Go.Proofs.Ytengfhcocagpiaa
open Go.RowKit Go.Sort
set_option linter.unusedVariables false
set_option maxRecDepth 100000

theorem nones_zero (m : Nat) : nones (tab m fun _ => 0#8) = true := by
  unfold nones tab
  rw [List.all_eq_true]
  intro x hx
  obtain ⟨k, _, rfl⟩ := List.mem_map.1 hx
  rfl
theorem want_next {l : List (BitVec 8)} {j : Nat} (h : j < l.length) (e : nones (l.take j) = true) : nones (l.take (j + 1)) = ((l[j].toNat : Int) == 0) := by
  rw [nones_next h, e]
  have : (l[j] == 0#8) = ((l[j].toNat : Int) == 0) := by
    rw [Bool.eq_iff_iff]
    simp [← BitVec.toNat_inj]
  rw [this]
  rfl
theorem want_not {l : List (BitVec 8)} {j : Nat} (h : j < l.length) (e : nones (l.take j) = false) : nones (l.take (j + 1)) = false := by
  rw [nones_next h, e]
  rfl

theorem none_walk (A : Option Addr) (n c : Nat) (l : List (BitVec 8)) (k : Int) (hk : 0 ≤ k ∧ k ≤ 255) (w : World) (hn : n ≤ 140737488351232) (h : Has w A n l) :
    Calls Try.prog 6 #[.slice A n c, .int .u8 k] w fun e w' => e = .returned (.bool true) ∧ Below w.heap.size w w' := by
  obtain ⟨i0, hi, hz0, hz1, hz2⟩ := info_parts byte_info
  have H := Lib.hid h
  clear h
  generalize hB : w.heap.size = B
  go_enter Try.func6, Try.ntmps6
  go_wp2_with fail
  refine (awake_any w).mono ?_
  rintro e w1 ⟨rfl, hb⟩
  have H := Lib.hid (H.out.below hb)
  rw [hB] at hb
  have B1 := Lib.hid hb
  clear hb
  go_wp2_with fail
  go_loopw [5, 12] (fun v q wr => ∃ j : Nat, j ≤ n ∧ v = .bool (nones (l.take j)) ∧ q = .int .i64 j ∧ wr = w1) (fun _ q _ => n - (intOf q).toNat)
  case atStart => exact ⟨0, Nat.zero_le _, rfl, rfl, rfl⟩
  case round =>
    obtain ⟨j, hj, rfl, rfl, rfl⟩ := hrel
    by_cases hlt : j < n
    · obtain ⟨b, off, rfl⟩ := H.out.some_ (by omega)
      have hjl : j < l.length := by rw [H.out.1]; omega
      have hc := H.out.cell j (by omega)
      generalize hv : nones (l.take j) = v
      have HV := Lib.hid hv
      clear hv
      cases v
      · go_wp2
        go_roundw
        case rel => exact ⟨j + 1, by omega, by rw [want_not hjl HV.out], by go_num, trivial⟩
        case measure => simp [intOf]; omega
      · go_wp2
        go_roundw
        case rel => exact ⟨j + 1, by omega, by rw [want_next hjl HV.out], by go_num, trivial⟩
        case measure => simp [intOf]; omega
    · obtain rfl : j = n := by omega
      rw [show l.take j = l from List.take_of_length_le (by rw [H.out.1]; exact Nat.le_refl _)]
      go_wp2_with fail
      refine (none_any A j c l wr (by omega) H.out).mono ?_
      rintro e w2 ⟨rfl, rfl⟩
      obtain ⟨kn, rfl⟩ : ∃ kn : Nat, k = (kn : Int) := ⟨k.toNat, by omega⟩
      obtain ⟨w3, hrun, r1, r2⟩ := run_make_full (P := Try.prog) w2 w2.heap.size 25 5 i0 (.int .u8 0) 1 Try.underlying25 hi hz0 hz1 .u8 .u8 kn (by rw [hz2]; omega) (by unfold maxLen; omega) (Nat.le_refl _)
      have AT := Lib.hid (Has.of_at (made_row r1))
      have B2 := Lib.hid (show Below B w w3 from B1.out.grown r2 (up B1.out hB.symm) (by simp))
      clear r1 r2
      have hsame : (nones l == nones l) = true := by simp
      go_wp2_with fail
      refine (none_any _ kn kn _ w3 (by omega) AT.out).mono ?_
      rintro e w4 ⟨rfl, rfl⟩
      rw [nones_zero]
      go_wp2
      go_ret
      exact ⟨rfl, B2.out⟩

end Go.Proofs.Ytengfhcocagpiaa
