/-
  PLAIN MATHEMATICS: a number in bytes, the lowest one first, and the number of bytes.
-/
namespace Go.Proofs.Ytlmponcoghfghaa
set_option linter.unusedVariables false
set_option maxRecDepth 100000

/-- The k-th byte of a number; the first k of them. -/
def byteAt (N k : Nat) : BitVec 8 := BitVec.ofNat 8 (N / 2 ^ (8 * k))
def low (N : Nat) : Nat → List (BitVec 8)
  | 0 => []
  | k + 1 => low N k ++ [byteAt N k]
theorem low_len (N k : Nat) : (low N k).length = k := by
  induction k with
  | zero => rfl
  | succ k ih => simp [low, ih]
theorem byteAt_val (N k : Nat) : ((N : Int) / (2 : Int) ^ (8 * k) % (256 : Int)) = ((byteAt N k).toNat : Int) := by
  unfold byteAt
  rw [BitVec.toNat_ofNat, Int.natCast_emod, Int.natCast_ediv, Int.natCast_pow]
  rfl

/-- The number of bytes, the lowest one first. -/
def num : List (BitVec 8) → Nat
  | [] => 0
  | x :: l => x.toNat + 256 * num l
theorem num_lt (l : List (BitVec 8)) : num l < 256 ^ l.length := by
  induction l with
  | nil => simp [num]
  | cons x l ih =>
    have := x.isLt
    simp only [num, List.length_cons, Nat.pow_succ]
    omega
theorem num_append (l k : List (BitVec 8)) : num (l ++ k) = num l + 256 ^ l.length * num k := by
  induction l with
  | nil => simp [num]
  | cons x l ih =>
    simp only [List.cons_append, num, ih, List.length_cons, Nat.pow_succ]
    rw [Nat.mul_add, Nat.add_assoc, ← Nat.mul_assoc, Nat.mul_comm 256 (256 ^ l.length)]
theorem pow8 (k : Nat) : (2 : Nat) ^ (8 * k) = 256 ^ k := by rw [Nat.pow_mul]
theorem num_low (N k : Nat) : num (low N k) = N % 256 ^ k := by
  induction k with
  | zero => simp [low, num, Nat.mod_one]
  | succ k ih =>
    rw [low, num_append, ih, low_len]
    simp only [num, byteAt, BitVec.toNat_ofNat, Nat.mul_zero, Nat.add_zero, pow8]
    rw [show 256 ^ (k + 1) = 256 ^ k * 256 from Nat.pow_succ .., Nat.mod_mul]
theorem num_take_next (l : List (BitVec 8)) (j : Nat) (h : j < l.length) : num (l.take (j + 1)) = num (l.take j) + 256 ^ j * l[j].toNat := by
  rw [List.take_succ_eq_append_getElem h, num_append]
  simp [num, List.length_take, Nat.min_eq_left (Nat.le_of_lt h)]
theorem num_take_lt (l : List (BitVec 8)) (j : Nat) : num (l.take j) < 256 ^ j := by
  refine Nat.lt_of_lt_of_le (num_lt _) (Nat.pow_le_pow_right (by omega) ?_)
  exact List.length_take_le _ _
theorem low_inj {N M k : Nat} (h : low N k = low M k) : N % 256 ^ k = M % 256 ^ k := by
  rw [← num_low, ← num_low, h]
theorem byteAt_mod (N k j : Nat) (h : j < k) : byteAt (N % 256 ^ k) j = byteAt N j := by
  unfold byteAt
  apply BitVec.eq_of_toNat_eq
  rw [BitVec.toNat_ofNat, BitVec.toNat_ofNat, pow8]
  have e : 256 ^ k = 256 ^ j * (256 * 256 ^ (k - j - 1)) := by
    rw [Nat.mul_comm 256, ← Nat.pow_succ, ← Nat.pow_add]
    congr 1
    omega
  rw [e, Nat.mod_mul_right_div_self]
  show _ % (256 * _) % 256 = _ % 256
  rw [Nat.mod_mul_right_mod]
theorem low_mod_le (N k j : Nat) (h : j ≤ k) : low (N % 256 ^ k) j = low N j := by
  induction j with
  | zero => rfl
  | succ j ih => rw [low, low, ih (by omega), byteAt_mod N k j (by omega)]
theorem low_eq_iff (N M k : Nat) : low N k = low M k ↔ N % 256 ^ k = M % 256 ^ k :=
  ⟨low_inj, fun h => by rw [← low_mod_le N k k (Nat.le_refl _), ← low_mod_le M k k (Nat.le_refl _), h]⟩
end Go.Proofs.Ytlmponcoghfghaa
