/-
  THE WALK OF Reads' CLOSURE: the number of some bytes.
-/
import Derived.Test.YtmdgnglefikpjaaSame
namespace Go.Proofs.Ytmdgnglefikpjaa
open Go.RowKit
set_option linter.unusedVariables false
set_option maxRecDepth 100000

theorem num_step (L : List (BitVec 8)) (i s j : Nat) (hj : j + 1 ≤ s) (h : i + j < L.length) : num ((L.drop (i + j)).take (s - j)) = num ((L.drop (i + (j + 1))).take (s - (j + 1))) * 256 + L[i + j].toNat := by
  rw [List.drop_eq_getElem_cons h, show s - j = (s - (j + 1)) + 1 by omega, List.take_succ_cons]
  simp only [num]
  rw [show i + j + 1 = i + (j + 1) by omega]
  omega

set_option maxHeartbeats 400000 in
theorem at_any (bx : Nat) (A : Option Addr) (n c : Nat) (L : List (BitVec 8)) (i s : Nat) (w : World) (hn : n ≤ 1000000) (hs : s ≤ 8) (his : i + s ≤ n) (hbx : At w bx #[.slice A n c] 30) (h : Has w A n L) :
    Calls Try.prog 30 #[.int .i64 i, .int .i64 s, .pointer (some ⟨bx, 0, none⟩)] w fun e w' => e = .returned (.int .u64 (fld L i s : Nat)) ∧ w = w' := by
  have hc0 := hbx.cell 0
  have H := Lib.hid h
  have HL := Lib.hid h.1
  clear h hbx
  go_enter Try.func30, Try.ntmps30
  go_wp2
  go_loop [6, 7] (fun v kk => ∃ (j y : Nat) (z : Int), j ≤ s ∧ z + 1 = (j : Int) ∧ kk = .int .i64 z ∧ v = .int .u64 (y : Int) ∧ y < 18446744073709551616 ∧ Hid (y = num ((L.drop (i + j)).take (s - j)))) (fun _ kk => (intOf kk + 1).toNat)
  case atStart => exact ⟨s, 0, (s : Int) - 1, Nat.le_refl _, by omega, rfl, rfl, by omega, Lib.hid (by simp [num])⟩
  case round =>
    obtain ⟨j, y, z, hj, hz, rfl, rfl, hy, HY⟩ := hrel
    by_cases hlt : j = 0
    · subst hlt
      obtain rfl : z = -1 := by omega
      go_wp2
      go_ret
      refine ⟨?_, rfl⟩
      rw [HY.out]
      rfl
    · obtain ⟨q, rfl⟩ : ∃ q, j = q + 1 := ⟨j - 1, by omega⟩
      obtain rfl : z = (q : Int) := by omega
      obtain ⟨b, off, rfl⟩ := H.out.some_ (by omega)
      have hq : i + q < L.length := by rw [HL.out]; omega
      have hc : w.cell? ⟨b, off + (i + q), none⟩ = some (.int .u8 (L[i + q].toNat : Int)) := H.out.cell (i + q) (by omega)
      have hx := lt8 L[i + q]
      have HS := Lib.hid (num_step L i s q hj hq)
      have hyb : y < 72057594037927936 := by
        rw [HY.out]
        refine Nat.lt_of_lt_of_le (num_take_lt _ _) ?_
        exact Nat.le_trans (Nat.pow_le_pow_right (by omega) (show s - (q + 1) ≤ 7 by omega)) (by decide)
      generalize hX : L[i + q].toNat = X at hc hx HS
      clear hX hz
      go_wp2
      refine ⟨⟨q, y * 256 + X, (q : Int) - 1, by omega, by omega, rfl, by simp, by omega, Lib.hid ?_⟩, ?_⟩
      · rw [HS.out, ← HY.out]
      · simp [intOf]
end Go.Proofs.Ytmdgnglefikpjaa
