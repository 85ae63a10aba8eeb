/-
  THE WALKS OF slices.Clone, slices.Equal AND OF stored.
-/
import Derived.Test.YtlmponcoghfghaaSumR
import Derived.Test.YtlmponcoghfghaaWalkA
import Derived.Lib.SliceRun
import Derived.BigQuiet
import Derived.Deep.QuietTactic
namespace Go.Proofs.Ytlmponcoghfghaa
open Go.RowKit
set_option linter.unusedVariables false
set_option maxRecDepth 100000

/-- The number that the first j bytes hold, the lowest one first. -/
def Crc.held (l : List (BitVec 8)) : Nat → BitVec 32
  | 0 => 0#32
  | j + 1 => Crc.held l j ||| ((l.getD j 0#8).setWidth 32 <<< (8 * j))

theorem held_next (l : List (BitVec 8)) (j : Nat) (h : j < l.length) : Crc.held l (j + 1) = Crc.held l j ||| (l[j].setWidth 32 <<< (8 * j)) := by
  show Crc.held l j ||| _ = _
  rw [List.getD_eq_getElem?_getD, List.getElem?_eq_getElem h]
  rfl

theorem held_or (d : BitVec 32) (x : BitVec 8) (m : Nat) : bits BinOp.or IntKind.u32 (d.toNat : Int) ((x.toNat : Int) * (2 : Int) ^ m % (4294967296 : Int)) = ((d ||| (x.setWidth 32 <<< m)).toNat : Int) := by
  have e : (x.toNat : Int) * (2 : Int) ^ m % (4294967296 : Int) = ((x.setWidth 32 <<< m).toNat : Int) := by
    rw [BitVec.toNat_shiftLeft, Nat.shiftLeft_eq, BitVec.toNat_setWidth, Nat.mod_eq_of_lt (a := x.toNat) (by have := lt8 x; omega), Int.natCast_emod, Int.natCast_mul, Int.natCast_pow]
    rfl
  rw [e, or32]

set_option maxHeartbeats 400000 in
theorem stored_any (A : Option Addr) (n cap : Nat) (l : List (BitVec 8)) (w : World) (hn : 4 ≤ n) (h : Has w A n l) :
    Calls Try.prog 62 #[.slice A n cap] w fun e w' => e = .returned (.int .u32 ((Crc.held l 4).toNat : Int)) ∧ w = w' := by
  obtain ⟨b, off, rfl⟩ := h.some_ (by omega)
  have H := Lib.hid h
  clear h
  go_enter Try.func62, Try.ntmps62
  go_wp2
  go_loop [3, 5] (fun v i => ∃ k : Nat, k ≤ 4 ∧ i = .int .i64 k ∧ v = .int .u32 ((Crc.held l k).toNat : Int)) (fun _ i => 4 - (intOf i).toNat)
  case atStart => exact ⟨0, Nat.zero_le _, rfl, rfl⟩
  case round =>
    obtain ⟨k, hk, rfl, rfl⟩ := hrel
    have hd := lt32 (Crc.held l k)
    by_cases hlt : k < 4
    · have hkl : k < l.length := by rw [H.out.1]; omega
      have hc : w.cell? ⟨b, off + k, none⟩ = some (.int .u8 (l[k].toNat : Int)) := H.out.cell k (by omega)
      have hx := lt8 l[k]
      have hkn : k < n := by omega
      have HS := Lib.hid (held_next l k hkl)
      go_wp2
      go_round
      case rel => exact ⟨k + 1, by omega, by go_num, by rw [HS.out]; exact congrArg _ (held_or _ _ _)⟩
      case measure => simp [intOf]; omega
    · have e : k = 4 := by omega
      subst e
      go_wp2
      go_ret
      exact ⟨rfl, rfl⟩

end Go.Proofs.Ytlmponcoghfghaa
