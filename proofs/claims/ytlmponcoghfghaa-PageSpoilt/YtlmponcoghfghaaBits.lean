/-
  THE MODEL'S NUMBERS AS BITS: what the walk writes for '&', '^', '|', '<<', '>>' and the conversions of uint32 and uint8, said of BitVec.
-/
import Derived.Test.YtlmponcoghfghaaCrc
import Derived.Laws.BitsAllLaws
namespace Go.Proofs.Ytlmponcoghfghaa
set_option linter.unusedVariables false
set_option maxRecDepth 100000

theorem lt32 (a : BitVec 32) : a.toNat < 4294967296 := a.isLt
theorem lt8 (a : BitVec 8) : a.toNat < 256 := a.isLt

theorem xor32 (a b : BitVec 32) : bits .xor .u32 (a.toNat : Int) (b.toNat : Int) = ((a ^^^ b).toNat : Int) := by
  rw [u32_xor_nat _ _ (lt32 a) (lt32 b), BitVec.toNat_xor]
theorem or32 (a b : BitVec 32) : bits .or .u32 (a.toNat : Int) (b.toNat : Int) = ((a ||| b).toNat : Int) := by
  rw [u32_or_nat _ _ (lt32 a) (lt32 b), BitVec.toNat_or]
theorem and32 (a b : BitVec 32) : bits .and .u32 (a.toNat : Int) (b.toNat : Int) = ((a &&& b).toNat : Int) := by
  rw [u32_and_nat _ _ (lt32 a) (lt32 b), BitVec.toNat_and]
theorem xor8 (a b : BitVec 8) : bits .xor .u8 (a.toNat : Int) (b.toNat : Int) = ((a ^^^ b).toNat : Int) := by
  rw [u8_xor_nat _ _ (lt8 a) (lt8 b), BitVec.toNat_xor]

theorem half32 (a : BitVec 32) : (a.toNat : Int) / (2 : Int) = ((a >>> 1).toNat : Int) := by
  rw [BitVec.toNat_ushiftRight, Nat.shiftRight_eq_div_pow]
  omega
theorem low32 (a : BitVec 32) : a.toNat % 2 = if a.getLsbD 0 = true then 1 else 0 := by
  have : a.getLsbD 0 = decide (a.toNat % 2 = 1) := by
    rw [BitVec.getLsbD, Nat.testBit_zero]
  rw [this]
  by_cases h : a.toNat % 2 = 1
  · simp [h]
  · have h0 : a.toNat % 2 = 0 := by omega
    simp [h0]
theorem and_one (a : BitVec 32) : bits .and .u32 (a.toNat : Int) 1 = (if a.getLsbD 0 = true then 1 else 0 : Int) := by
  have h := u32_and_nat a.toNat 1 (lt32 a) (by omega)
  rw [show ((1 : Nat) : Int) = 1 from rfl] at h
  rw [h, Nat.and_one_is_mod, low32]
  cases a.getLsbD 0 <;> rfl

theorem step_yes (d : BitVec 32) (h : (bits BinOp.and IntKind.u32 (d.toNat : Int) 1 == 1) = true) :
    bits BinOp.xor IntKind.u32 ((d.toNat : Int) / (2 : Int)) 3988292384 = ((Crc.step d).toNat : Int) := by
  rw [and_one] at h
  have h0 : d.getLsbD 0 = true := by
    cases e : d.getLsbD 0
    · rw [e] at h; simp at h
    · rfl
  rw [half32, show (3988292384 : Int) = ((0xEDB88320#32).toNat : Int) from rfl, xor32]
  unfold Crc.step
  rw [if_pos h0]
theorem step_no (d : BitVec 32) (h : (bits BinOp.and IntKind.u32 (d.toNat : Int) 1 == 1) = false) :
    (d.toNat : Int) / (2 : Int) = ((Crc.step d).toNat : Int) := by
  rw [and_one] at h
  have h0 : ¬ d.getLsbD 0 = true := by
    intro e
    rw [if_pos e] at h; simp at h
  rw [half32]
  unfold Crc.step
  rw [if_neg h0]

theorem wide8 (x : BitVec 8) : (x.toNat : Int) = ((x.setWidth 32).toNat : Int) := by
  rw [BitVec.toNat_setWidth]
  have := lt8 x
  congr 1
  omega

end Go.Proofs.Ytlmponcoghfghaa
