/-
  SEALED BYTES, numbers of bytes; plain mathematics.
-/
import Derived.Test.YtlmponcoghfghaaSumD
import Derived.Test.YtlmponcoghfghaaWalkD
namespace Go.Proofs.Ytlmponcoghfghaa
open Go.RowKit
set_option linter.unusedVariables false
set_option maxRecDepth 100000

def sealL (L : List (BitVec 8)) : List (BitVec 8) := L ++ Crc.low (Crc.sum L) 4
theorem sealL_len (L : List (BitVec 8)) : (sealL L).length = L.length + 4 := by simp [sealL, slow_len]
/-- The number of the s bytes behind the first i. -/
def fld (L : List (BitVec 8)) (i s : Nat) : Nat := num ((L.drop i).take s)
theorem crc_low (c : BitVec 32) (k : Nat) : Crc.low c k = low c.toNat k := by
  induction k with
  | zero => rfl
  | succ k ih =>
    show Crc.low c k ++ [Crc.byteAt c k] = low c.toNat k ++ [byteAt c.toNat k]
    rw [ih]
    congr 2
    apply BitVec.eq_of_toNat_eq
    unfold Crc.byteAt byteAt
    rw [BitVec.toNat_setWidth, BitVec.toNat_ushiftRight, Nat.shiftRight_eq_div_pow, BitVec.toNat_ofNat]
theorem low_num (D : List (BitVec 8)) : ∀ k, k = D.length → low (num D) k = D := by
  suffices h : ∀ k, k ≤ D.length → low (num D) k = D.take k by
    intro k hk
    rw [h k (by omega), List.take_of_length_le (by omega)]
  intro k
  induction k with
  | zero => intro _; simp [low]
  | succ k ih =>
    intro hk
    rw [low, ih (by omega), List.take_succ_eq_append_getElem (by omega)]
    congr 2
    have e : num D = num (D.take k) + 256 ^ k * num (D.drop k) := by
      have := num_append (D.take k) (D.drop k)
      rw [List.take_append_drop, List.length_take, Nat.min_eq_left (by omega)] at this
      exact this
    have e2 : D.drop k = D[k] :: D.drop (k + 1) := List.drop_eq_getElem_cons (by omega)
    unfold byteAt
    apply BitVec.eq_of_toNat_eq
    rw [BitVec.toNat_ofNat, pow8, e, Nat.add_mul_div_left _ _ (Nat.pow_pos (by omega)), Nat.div_eq_of_lt (num_take_lt D k), Nat.zero_add, e2]
    have := D[k].isLt
    simp only [num]
    omega
theorem held_num (L : List (BitVec 8)) : ∀ j, j ≤ 4 → j ≤ L.length → (Crc.held L j).toNat = num (L.take j) := by
  intro j
  induction j with
  | zero => intro _ _; simp [Crc.held, num]
  | succ j ih =>
    intro h4 hl
    have hp : ((2 : Nat) ^ (8 * j)) = 256 ^ j := pow8 j
    have hle : 256 ^ j * 256 ≤ 4294967296 := by
      rw [← Nat.pow_succ]
      exact Nat.le_trans (Nat.pow_le_pow_right (by omega) (show j.succ ≤ 4 by omega)) (by decide)
    have hx := L[j].isLt
    have hm : L[j].toNat * 256 ^ j < 4294967296 := by
      rw [Nat.mul_comm]
      exact Nat.lt_of_lt_of_le (Nat.mul_lt_mul_of_pos_left hx (Nat.pow_pos (by omega))) hle
    rw [held_next L j (by omega), BitVec.toNat_or, ih (by omega) (by omega), num_take_next L j (by omega), BitVec.toNat_shiftLeft, BitVec.toNat_setWidth, Nat.shiftLeft_eq, hp,
      Nat.mod_eq_of_lt (a := L[j].toNat) (by omega), Nat.mod_eq_of_lt (by simpa using hm), Nat.mul_comm, Nat.or_comm, ← hp, ← Nat.two_pow_add_eq_or_of_lt (by rw [hp]; exact num_take_lt L j), Nat.add_comm]
theorem held_low (c : BitVec 32) (R : List (BitVec 8)) : Crc.held (Crc.low c 4 ++ R) 4 = c := by
  apply BitVec.eq_of_toNat_eq
  rw [held_num _ 4 (by omega) (by simp [slow_len]), List.take_left' (slow_len c 4), crc_low, num_low]
  exact Nat.mod_eq_of_lt c.isLt
end Go.Proofs.Ytlmponcoghfghaa
