/-
  THE WALKS OF THE READER, ON: Raw, Take, Good, Rest.
-/
import Derived.Test.YtlmponcoghfghaaWalkC
import Derived.Laws.BitsAllLaws
namespace Go.Proofs.Ytlmponcoghfghaa
open Go.RowKit
set_option linter.unusedVariables false
set_option maxRecDepth 100000

/-- The reader has l left now, where it lay (A) ahead; nothing else has turned. -/
def Step (w : World) (g : Nat) (A : Option Addr) (l : List (BitVec 8)) (f : Bool) (w' : World) : Prop := (∃ A2 c, Rd w' g A2 l.length c l f ∧ ∀ x, A2 = some x → ∃ y, A = some y ∧ x.block = y.block) ∧ But (fun k => k = g) w w'
theorem NextBad.step {w w' : World} {g : Nat} {A : Option Addr} {e : Ending} (h : NextBad w g e w') : Step w g A [] true w' := ⟨⟨_, _, h.2.1, fun x e => (by cases e)⟩, h.2.2⟩
theorem NextGood.step {w w' : World} {g : Nat} {A : Option Addr} {c s : Nat} {l : List (BitVec 8)} {f : Bool} {e : Ending} (h : NextGood w g A c s l f e w') : Step w g A (l.drop s) f w' := by
  obtain ⟨A2, c2, h2, h3⟩ := h.2.1
  exact ⟨⟨A2, c2, by rw [List.length_drop]; exact h2, h3⟩, h.2.2⟩
def TakeDone (w : World) (g : Nat) (A : Option Addr) (x : Nat) (l : List (BitVec 8)) (f : Bool) (e : Ending) (w' : World) : Prop := e = .returned (.int .u64 (x : Int)) ∧ Step w g A l f w'

theorem or_next (l : List (BitVec 8)) (j : Nat) (h : j < l.length) (h8 : j < 8) :
    bits BinOp.or IntKind.u64 ((num (l.take j) : Nat) : Int) (IntKind.u64.wrap ((l[j].toNat : Int) * (2 : Int) ^ (8 * j))) = ((num (l.take (j + 1)) : Nat) : Int) := by
  rw [show IntKind.u64.wrap ((l[j].toNat : Int) * (2 : Int) ^ (8 * j)) = (l[j].toNat : Int) * (2 : Int) ^ (8 * j) % (18446744073709551616 : Int) by simp [IntKind.wrap, IntKind.signed, IntKind.bits]]
  have hx : l[j].toNat < 256 := l[j].isLt
  have hlo := num_take_lt l j
  have hle : 256 ^ j * 256 ≤ 18446744073709551616 := by
    rw [← Nat.pow_succ]
    exact Nat.le_trans (Nat.pow_le_pow_right (by omega) (show j.succ ≤ 8 by omega)) (by decide)
  have hm : l[j].toNat * 2 ^ (8 * j) < 18446744073709551616 := by
    rw [pow8, Nat.mul_comm]
    exact Nat.lt_of_lt_of_le (Nat.mul_lt_mul_of_pos_left hx (Nat.pow_pos (by omega))) hle
  have e : (l[j].toNat : Int) * (2 : Int) ^ (8 * j) % (18446744073709551616 : Int) = ((l[j].toNat * 2 ^ (8 * j) : Nat) : Int) := by
    rw [Int.emod_eq_of_lt]
    · rw [Int.natCast_mul, Int.natCast_pow]
      rfl
    · exact Int.mul_nonneg (by omega) (Int.pow_nonneg (by omega))
    · have : ((l[j].toNat * 2 ^ (8 * j) : Nat) : Int) < 18446744073709551616 := by omega
      rw [Int.natCast_mul, Int.natCast_pow] at this
      exact this
  have hbig : num (l.take j) < 18446744073709551616 := by
    have h1 : 256 ^ j * 1 ≤ 256 ^ j * 256 := Nat.mul_le_mul_left _ (by omega)
    omega
  rw [e, u64_or_nat _ _ hbig hm, num_take_next l j h]
  congr 1
  rw [Nat.mul_comm (l[j].toNat), Nat.or_comm, ← Nat.two_pow_add_eq_or_of_lt (by rw [pow8]; exact hlo), pow8, Nat.add_comm]

set_option maxHeartbeats 400000 in
theorem take_bad (g : Nat) (A : Option Addr) (n c : Nat) (l : List (BitVec 8)) (f : Bool) (s : Int) (w : World) (hs : s < 0 ∨ (n : Int) < s) (h : Rd w g A n c l f) :
    Calls Try.prog 52 #[.pointer (some ⟨g, 0, none⟩), .int .i64 s] w (TakeDone w g A 0 [] true) := by
  go_enter Try.func52, Try.ntmps52
  go_wp2_with fail
  refine (next_bad g A n c l f s w hs h).mono ?_
  rintro e w1 hN
  have S := Lib.hid (hN.step (A := A))
  obtain ⟨rfl, hN⟩ := hN
  clear h hs hN
  go_wp2
  go_loop [5, 18] (fun v i => i = .int .i64 0 ∧ v = .int .u64 0) (fun _ _ => 0)
  case atStart => exact ⟨rfl, rfl⟩
  case round =>
    obtain ⟨rfl, rfl⟩ := hrel
    go_wp2
    go_ret
    exact ⟨rfl, S.out⟩

theorem take_made {w w1 : World} {A : Option Addr} {g s K : Nat} {l : List (BitVec 8)} {f : Bool} {x : Nat} (h : Step w g A (l.drop s) f w1) (hx : x = num ((l.take s).take K)) : TakeDone w g A (num ((l.take s).take K)) (l.drop s) f (.returned (.int .u64 (x : Int))) w1 := by
  subst hx
  exact ⟨rfl, h⟩

set_option maxHeartbeats 400000 in
theorem take_good (g : Nat) (A : Option Addr) (n c : Nat) (l : List (BitVec 8)) (f : Bool) (s K : Nat) (w : World) (hn : n ≤ 1000000) (hs : s ≤ n) (hK : K = min s 8) (h : Rd w g A n c l f) :
    Calls Try.prog 52 #[.pointer (some ⟨g, 0, none⟩), .int .i64 s] w (TakeDone w g A (num ((l.take s).take K)) (l.drop s) f) := by
  have hmin := fun (w : World) => run_min2 (P := Try.prog) w #[3, 3] 3 s 8 K (by omega)
  have hcap := h.cap
  obtain ⟨hnc, hcm⟩ := hcap
  unfold maxLen at hcm
  have hKs : K ≤ s := by omega
  have hK8 : K ≤ 8 := by omega
  have hKK := Lib.hid hK
  clear hK
  rcases A with _ | x
  · obtain rfl : c = 0 := h.nil rfl
    obtain rfl : n = 0 := by omega
    obtain rfl : s = 0 := by omega
    obtain rfl : K = 0 := by omega
    go_enter Try.func52, Try.ntmps52
    go_wp2_with fail
    refine (next_good g none 0 0 l f 0 w hs h).mono ?_
    rintro e w1 hN
    have S := Lib.hid (take_made (K := 0) hN.step rfl)
    obtain ⟨rfl, hN⟩ := hN
    clear h hs hN hnc hcm hKs hK8 hn
    go_wp2
    go_loop [5, 18] (fun v i => i = .int .i64 0 ∧ v = .int .u64 0) (fun _ _ => 0)
    case atStart => exact ⟨rfl, rfl⟩
    case round =>
      obtain ⟨rfl, rfl⟩ := hrel
      go_wp2
      go_ret
      exact S.out
  · obtain ⟨hxg, b, o, rfl⟩ := h.off _ rfl
    go_enter Try.func52, Try.ntmps52
    go_wp2_with fail
    refine (next_good g (some ⟨b, o, none⟩) n c l f s w hs h).mono ?_
    rintro e w1 hN
    have S := Lib.hid (fun x hx => take_made (K := K) (x := x) hN.step hx)
    have hT := Lib.hid ((h.has.take s hs).but hN.2.2 (fun x e => (h.off x e).1))
    obtain ⟨rfl, hN⟩ := hN
    clear h hN hxg
    go_wp2
    go_loop [5, 18] (fun v i => ∃ j : Nat, j ≤ K ∧ i = .int .i64 j ∧ v = .int .u64 ((num ((l.take s).take j) : Nat) : Int)) (fun _ i => K - (intOf i).toNat)
    case atStart => exact ⟨0, Nat.zero_le _, rfl, rfl⟩
    case round =>
      obtain ⟨j, hj, rfl, rfl⟩ := hrel
      by_cases hlt : j < K
      · have hjl : j < (l.take s).length := by rw [hT.out.1]; omega
        have hc : w1.cell? ⟨b, o + j, none⟩ = some (.int .u8 ((l.take s)[j].toNat : Int)) := hT.out.cell j (by omega)
        have HS := Lib.hid (or_next (l.take s) j hjl (by omega))
        have hx : (l.take s)[j].toNat < 256 := (l.take s)[j].isLt
        generalize hy : (l.take s)[j].toNat = y at hc HS hx
        clear hy
        generalize hz : num ((l.take s).take j) = z at HS
        clear hz
        go_wp2
        go_round
        case rel => exact ⟨j + 1, by omega, by go_num, congrArg (Value.int .u64) HS.out⟩
        case measure => simp [intOf]; omega
      · obtain rfl : j = K := by omega
        go_wp2
        go_ret
        exact S.out _ rfl

end Go.Proofs.Ytlmponcoghfghaa
