/-
  THE WALK OF THE DOCUMENT'S OWN SUM.
-/
import Derived.Test.YtlmponcoghfghaaSumA
import Derived.Lib.SlBytesConst
namespace Go.Proofs.Ytlmponcoghfghaa
open Go.RowKit
set_option linter.unusedVariables false
set_option maxRecDepth 100000

theorem top32 (d : BitVec 32) : (d.toNat : Int) / (2147483648 : Int) = if d.getLsbD 31 = true then 1 else 0 := by
  have hd := lt32 d
  have e : d.getLsbD 31 = decide (d.toNat / 2147483648 % 2 = 1) := by
    rw [BitVec.getLsbD, Nat.testBit_eq_decide_div_mod_eq]
  rw [e]
  by_cases h : d.toNat / 2147483648 % 2 = 1
  · simp only [h, decide_true, if_true]; omega
  · simp only [h, decide_false, Bool.false_eq_true, if_false]; omega
theorem bit_of {m : Nat} (x : BitVec m) (k : Nat) : (x.toNat : Int) / (2 : Int) ^ k % (2 : Int) = if x.getLsbD k = true then 1 else 0 := by
  have e : x.getLsbD k = decide (x.toNat / 2 ^ k % 2 = 1) := by
    rw [BitVec.getLsbD, Nat.testBit_eq_decide_div_mod_eq]
  have c : (x.toNat : Int) / (2 : Int) ^ k % (2 : Int) = ((x.toNat / 2 ^ k % 2 : Nat) : Int) := by
    rw [Int.natCast_emod, Int.natCast_ediv, Int.natCast_pow]; rfl
  rw [c, e]
  by_cases h : x.toNat / 2 ^ k % 2 = 1
  · simp [h]
  · have : x.toNat / 2 ^ k % 2 = 0 := by omega
    simp [this]
theorem twice32 (d : BitVec 32) : (d.toNat : Int) * (2 : Int) % (4294967296 : Int) = ((d <<< 1).toNat : Int) := by
  rw [BitVec.toNat_shiftLeft, Nat.shiftLeft_eq]
  omega
theorem rstep_yes (d : BitVec 32) (x : BitVec 8) (k : Nat) (h : ((d.toNat : Int) / (2147483648 : Int) != (x.toNat : Int) / (2 : Int) ^ k % (2 : Int)) = true) :
    bits BinOp.xor IntKind.u32 ((d.toNat : Int) * (2 : Int) % (4294967296 : Int)) 79764919 = ((Crc.rstep d (x.getLsbD k)).toNat : Int) := by
  rw [top32, bit_of] at h
  have h0 : (d.getLsbD 31 ^^ x.getLsbD k) = true := by
    cases e1 : d.getLsbD 31 <;> cases e2 : x.getLsbD k <;> rw [e1, e2] at h <;> simp at h ⊢
  rw [twice32, show (79764919 : Int) = ((0x04C11DB7#32).toNat : Int) from rfl, xor32]
  unfold Crc.rstep
  rw [if_pos h0]
theorem rstep_no (d : BitVec 32) (x : BitVec 8) (k : Nat) (h : ((d.toNat : Int) / (2147483648 : Int) != (x.toNat : Int) / (2 : Int) ^ k % (2 : Int)) = false) :
    (d.toNat : Int) * (2 : Int) % (4294967296 : Int) = ((Crc.rstep d (x.getLsbD k)).toNat : Int) := by
  rw [top32, bit_of] at h
  have h0 : ¬ (d.getLsbD 31 ^^ x.getLsbD k) = true := by
    cases e1 : d.getLsbD 31 <;> cases e2 : x.getLsbD k <;> rw [e1, e2] at h <;> simp at h ⊢
  rw [twice32]
  unfold Crc.rstep
  rw [if_neg h0]
theorem turn_step (t r : BitVec 32) (j : Nat) : bits BinOp.or IntKind.u32 ((t.toNat : Int) * (2 : Int) % (4294967296 : Int)) (((r.toNat : Int) / (2 : Int) ^ j).tmod (2 : Int)) = (((t <<< 1) ||| (if r.getLsbD j = true then 1#32 else 0#32)).toNat : Int) := by
  have e : ((r.toNat : Int) / (2 : Int) ^ j).tmod (2 : Int) = ((if r.getLsbD j = true then 1#32 else 0#32).toNat : Int) := by
    rw [Int.tmod_eq_emod_of_nonneg (Int.ediv_nonneg (by omega) (Int.pow_nonneg (by omega))), bit_of]
    cases r.getLsbD j <;> rfl
  rw [e, twice32, or32]
theorem bitOf_at (l : List (BitVec 8)) (k : Nat) (h : k / 8 < l.length) : Crc.bitOf l k = l[k / 8].getLsbD (k % 8) := by
  unfold Crc.bitOf
  rw [List.getD_eq_getElem?_getD, List.getElem?_eq_getElem h]
  rfl
theorem rest_next (l : List (BitVec 8)) (k : Nat) (h : k / 8 < l.length) : Crc.rest l (k + 1) = Crc.rstep (Crc.rest l k) (l[k / 8].getLsbD (k % 8)) := by
  show Crc.rstep _ _ = _
  rw [bitOf_at l k h]

set_option maxHeartbeats 400000 in
theorem ref_any (A : Option Addr) (n cap : Nat) (l : List (BitVec 8)) (w : World) (hn : n ≤ 1000000) (h : Has w A n l) :
    Calls Try.prog 40 #[.slice A n cap] w fun e w' => e = .returned (.int .u32 ((Crc.sum l).toNat : Int)) ∧ w = w' := by
  go_enter Try.func40, Try.ntmps40
  go_wp2
  go_loop [3, 4] (fun v i => ∃ k : Nat, k ≤ n * 8 ∧ i = .int .i64 k ∧ v = .int .u32 ((Crc.rest l k).toNat : Int)) (fun _ i => n * 8 - (intOf i).toNat)
  case atStart => exact ⟨0, Nat.zero_le _, rfl, rfl⟩
  case round =>
    obtain ⟨k, hk, rfl, rfl⟩ := hrel
    have HL := Lib.hid h.1
    have hd := lt32 (Crc.rest l k)
    by_cases hlt : k < n * 8
    · obtain ⟨b, off, rfl⟩ := h.some_ (by omega)
      have hkl : k / 8 < l.length := by rw [h.1]; omega
      have hc : w.cell? ⟨b, off + k / 8, none⟩ = some (.int .u8 (l[k / 8].toNat : Int)) := h.cell (k / 8) (by omega)
      clear h
      have hx := lt8 l[k / 8]
      have HR := Lib.hid (rest_next l k hkl)
      go_wp2
      · go_round
        case rel => exact ⟨k + 1, by omega, by go_num, by rw [HR.out]; exact congrArg _ (rstep_yes _ _ _ (by assumption))⟩
        case measure => simp [intOf]; omega
      · go_round
        case rel => exact ⟨k + 1, by omega, by go_num, by rw [HR.out]; exact congrArg _ (rstep_no _ _ _ (by assumption))⟩
        case measure => simp [intOf]; omega
    · have e : k = n * 8 := by omega
      subst e
      clear h
      go_wp2
      have HF := Lib.hid (Crc.ref_sum l)
      obtain ⟨r, hr⟩ : ∃ r, r = Crc.rest l (n * 8) := ⟨_, rfl⟩
      rw [← hr] at hd ⊢
      have HR := Lib.hid hr
      clear hr
      go_loop [7, 8] (fun v i => ∃ j : Nat, j ≤ 32 ∧ i = .int .i64 j ∧ v = .int .u32 ((Crc.turned r j).toNat : Int)) (fun _ i => 32 - (intOf i).toNat)
      case atStart => exact ⟨0, Nat.zero_le _, rfl, rfl⟩
      case round =>
        obtain ⟨j, hj, rfl, rfl⟩ := hrel
        have hd := lt32 (Crc.turned r j)
        by_cases hlt : j < 32
        · go_wp2
          go_round
          case rel => exact ⟨j + 1, by omega, by go_num, congrArg _ (turn_step _ _ _)⟩
          case measure => simp [intOf]; omega
        · have e : j = 32 := by omega
          subst e
          go_wp2
          go_ret
          refine ⟨congrArg (fun z => Ending.returned (.int .u32 z)) ?_, rfl⟩
          rw [← HF.out, HL.out, Nat.mul_comm, ← HR.out, show (4294967295 : Int) = (Crc.ones.toNat : Int) from rfl, xor32]

end Go.Proofs.Ytlmponcoghfghaa
