/-
  THE WALK OF XorOf: any slices, bit by bit.
-/
import Derived.Test.YtengfhcocagpiaaAwake
namespace Go.Proofs.Ytengfhcocagpiaa
open Go.RowKit Go.Sort
set_option linter.unusedVariables false
set_option maxRecDepth 100000

theorem of_walk (A : Option Addr) (n c : Nat) (L : List Sl) (w : World) (h : Ln w A n L) :
    Calls Try.prog 3 #[.slice A n c] w fun e w' => e = .returned (.bool true) ∧ Below w.heap.size w w' := by
  have hn := h.few
  have H := Lib.hid h
  clear h
  generalize hB : w.heap.size = B
  go_enter Try.func3, Try.ntmps3
  go_wp2_with fail
  refine (awake_any w).mono ?_
  rintro e w1 ⟨rfl, hb⟩
  have H := Lib.hid (H.out.below hb)
  rw [hB] at hb
  have B1 := Lib.hid hb
  clear hb
  go_wp2_with fail
  refine (light_any A n c L w1 H.out).mono ?_
  rintro e w2 ⟨⟨lt, rfl⟩, rfl⟩
  cases lt
  · go_wp2
    go_ret
    exact ⟨rfl, B1.out⟩
  go_wp2_with fail
  go_loopw [3, 16] (fun v q wr => ∃ j : Nat, j ≤ n ∧ v = .int .i64 (mx (L.take j) : Int) ∧ q = .int .i64 j ∧ wr = w2) (fun _ q _ => n - (intOf q).toNat)
  case atStart => exact ⟨0, Nat.zero_le _, rfl, rfl, rfl⟩
  case round =>
    obtain ⟨j, hj, rfl, rfl, rfl⟩ := hrel
    by_cases hlt : j < n
    · obtain ⟨hjl, b, off, rfl, hc, hh, hx⟩ := H.out.one hlt
      have hmx := fun (w : World) => run_max2 (P := Try.prog) w #[3, 3] 3 (mx (L.take j) : Int) (L[j].n : Int) (mx (L.take (j + 1)) : Int) (by rw [mx_next L hjl, hh.1]; omega)
      clear hh
      go_wp2
      go_roundw
      case rel => exact ⟨j + 1, by omega, rfl, by go_num, trivial⟩
      case measure => simp [intOf]; omega
    · obtain rfl : j = n := by omega
      have HM := Lib.hid (H.out.mx_le j)
      have := H.out.all
      simp only [this] at *
      clear this
      go_wp2_with fail
      refine (of_any A j c L wr H.out).mono ?_
      rintro e w3 ⟨rfl, hA, hb⟩
      have H := Lib.hid (H.out.below hb)
      have B2 := Lib.hid (B1.out.trans (hb.mono (up B1.out hB.symm)))
      have AT := Lib.hid hA
      clear hA hb
      generalize wr.heap.size = g at *
      generalize hM : mx L = M at *
      have hm := HM.out
      go_wp2_with fail
      go_loopw [33] (fun q wx => ∃ k : Nat, k ≤ M ∧ q = .int .i64 k ∧ wx = w3) (fun q _ => M - (intOf q).toNat)
      case atStart => exact ⟨0, Nat.zero_le _, rfl, rfl⟩
      case round =>
        obtain ⟨k, hk, rfl, rfl⟩ := hrel
        by_cases hlt2 : k < M
        · have hc : wr.cell? ⟨g, k, none⟩ = some (.int .u8 ((par L k).toNat : Int)) := by rw [AT.out.cell k, tabA_get _ _ hlt2]
          go_wp2_with fail
          refine (odd_any A j c L k (by omega) wr H.out).mono ?_
          rintro e w4 ⟨rfl, rfl⟩
          go_wp2
          go_roundw
          case rel => exact ⟨k + 1, by omega, by go_num, trivial⟩
          case measure => simp [intOf]; omega
        · go_wp2
          go_ret
          exact ⟨rfl, B2.out⟩

end Go.Proofs.Ytengfhcocagpiaa
