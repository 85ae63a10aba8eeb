/-
  THE WALKS OF THE FUNCTIONS THAT ONLY READ: divide, Of.
-/
import Derived.Test.YtlmponcoghfghaaBits
import Derived.Test.YtlmponcoghfghaaMem
import Derived.WalkLawsBesides
import Derived.Lib.Hide
namespace Go.Proofs.Ytlmponcoghfghaa
open Go.RowKit
set_option linter.unusedVariables false
set_option maxRecDepth 100000

set_option maxHeartbeats 400000 in
theorem divide_any (c : BitVec 32) (w : World) :
    Calls Try.prog 61 #[.int .u32 (c.toNat : Int)] w fun e w' => e = .returned (.int .u32 ((Crc.steps 8 c).toNat : Int)) ∧ w = w' := by
  go_enter Try.func61, Try.ntmps61
  go_wp2
  go_loop [0, 4] (fun v i => ∃ k : Nat, k ≤ 8 ∧ i = .int .i64 k ∧ v = .int .u32 ((Crc.steps k c).toNat : Int)) (fun _ i => 8 - (intOf i).toNat)
  case atStart => exact ⟨0, Nat.zero_le _, rfl, rfl⟩
  case round =>
    obtain ⟨k, hk, rfl, rfl⟩ := hrel
    have hd := lt32 (Crc.steps k c)
    by_cases hlt : k < 8
    · go_wp2
      · go_round
        case rel => exact ⟨k + 1, by omega, by go_num, congrArg _ (step_yes _ (by assumption))⟩
        case measure => simp [intOf]; omega
      · go_round
        case rel => exact ⟨k + 1, by omega, by go_num, congrArg _ (step_no _ (by assumption))⟩
        case measure => simp [intOf]; omega
    · have e : k = 8 := by omega
      subst e
      go_wp2
      go_ret
      exact ⟨rfl, rfl⟩

theorem byte_arg (c : BitVec 32) (x : BitVec 8) : bits BinOp.xor IntKind.u32 (c.toNat : Int) (x.toNat : Int) = ((c ^^^ x.setWidth 32).toNat : Int) := by
  rw [wide8 x, xor32]

theorem not32 (c : BitVec 32) : bits BinOp.xor IntKind.u32 IntKind.u32.max (c.toNat : Int) = ((~~~ c).toNat : Int) := by
  rw [show IntKind.u32.max = ((BitVec.allOnes 32).toNat : Int) from rfl, xor32, BitVec.allOnes_xor]

set_option maxHeartbeats 400000 in
theorem of_any (A : Option Addr) (n cap : Nat) (l : List (BitVec 8)) (w : World) (hn : n ≤ maxLen) (h : Has w A n l) :
    Calls Try.prog 50 #[.slice A n cap] w fun e w' => e = .returned (.int .u32 ((Crc.sum l).toNat : Int)) ∧ w = w' := by
  unfold maxLen at hn
  go_enter Try.func50, Try.ntmps50
  go_wp2
  go_loop [3, 8] (fun v i => ∃ k : Nat, k ≤ n ∧ i = .int .i64 k ∧ v = .int .u32 ((Crc.fold Crc.ones (l.take k)).toNat : Int)) (fun _ i => n - (intOf i).toNat)
  case atStart => exact ⟨0, Nat.zero_le _, rfl, rfl⟩
  case round =>
    obtain ⟨k, hk, rfl, rfl⟩ := hrel
    have HL := Lib.hid h.1
    by_cases hlt : k < n
    · obtain ⟨b, off, rfl⟩ := h.some_ (by omega)
      have hkl : k < l.length := by rw [h.1]; exact hlt
      have hc : w.cell? ⟨b, off + k, none⟩ = some (.int .u8 (l[k].toNat : Int)) := h.cell k hlt
      have HS := Lib.hid (Crc.fold_take Crc.ones l k hkl)
      clear h
      go_wp2_with (go_at_call 61; rw [byte_arg]; refine (divide_any _ _).mono ?_; rintro e w' ⟨rfl, rfl⟩)
      go_round
      case rel => exact ⟨k + 1, by omega, by go_num, by rw [HS.out]; rfl⟩
      case measure => simp [intOf]; omega
    · have e : k = n := by omega
      subst e
      clear h
      go_wp2
      go_ret
      exact ⟨by rw [List.take_of_length_le (by rw [HL.out]; omega), not32]; rfl, rfl⟩
end Go.Proofs.Ytlmponcoghfghaa
