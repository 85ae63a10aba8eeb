/-
  THE WALK OF odd.
-/
import Derived.Test.YtengfhcocagpiaaWalkB
namespace Go.Proofs.Ytengfhcocagpiaa
open Go.RowKit Go.Sort
set_option linter.unusedVariables false
set_option maxRecDepth 100000

theorem bit_yes {x t : Nat} (h : (((x : Int) / 2 ^ t).tmod 2 == 1) = true) : x / 2 ^ t % 2 = 1 := by
  have h : ((x : Int) / 2 ^ t).tmod 2 = 1 := by simpa using h
  rw [show ((x : Int) / 2 ^ t) = ((x / 2 ^ t : Nat) : Int) by simp, Int.tmod_eq_emod_of_nonneg (Int.natCast_nonneg _)] at h
  omega
theorem bit_no {x t : Nat} (h : (((x : Int) / 2 ^ t).tmod 2 == 1) = false) : x / 2 ^ t % 2 = 0 := by
  have h : ¬ ((x : Int) / 2 ^ t).tmod 2 = 1 := by simpa using h
  rw [show ((x : Int) / 2 ^ t) = ((x / 2 ^ t : Nat) : Int) by simp, Int.tmod_eq_emod_of_nonneg (Int.natCast_nonneg _)] at h
  omega
theorem at_one {A : Option Addr} {n c p t v : Nat} {l : List (BitVec 8)} (h : p < l.length) (e : l[p].toNat / 2 ^ t % 2 = v) : (Sl.at_ ⟨A, n, c, l⟩ p).toNat / 2 ^ t % 2 = v := by
  rw [Sl.at_lt ⟨A, n, c, l⟩ h]
  exact e

theorem odd_step {P S O t : Nat} (ht : t < 8) (hS : P % 2 ^ t = S) (hO : P / 2 ^ t % 2 = O % 2) : ((S : Int) + (O : Int) % 2 * 2 ^ t % 256) % 256 = ((P % 2 ^ (t + 1) : Nat) : Int) := by
  have h1 : P % 2 ^ (t + 1) < 2 ^ (t + 1) := Nat.mod_lt _ (Nat.two_pow_pos _)
  have h2 : 2 ^ (t + 1) ≤ 2 ^ 8 := Nat.pow_le_pow_right (by omega) (by omega)
  have h3 := bit_next P t
  rw [hS, hO] at h3
  have e : ((S : Int) + (O : Int) % 2 * 2 ^ t % 256) % 256 = (((S + O % 2 * 2 ^ t % 256) % 256 : Nat) : Int) := by simp
  rw [e, h3]
  congr 1
  generalize O % 2 * 2 ^ t = y at *
  omega

theorem odd_any (A : Option Addr) (n c : Nat) (L : List Sl) (p : Nat) (hp : p ≤ 140737488355328) (w : World) (h : Ln w A n L) :
    Calls Try.prog 11 #[.slice A n c, .int .i64 p] w fun e w' => e = .returned (.int .u8 ((par L p).toNat : Int)) ∧ w' = w := by
  have hn := h.few
  have H := Lib.hid h
  clear h
  go_enter Try.func11, Try.ntmps11
  go_wp2_with fail
  go_loopw [5, 10] (fun s i wr => ∃ t : Nat, t ≤ 8 ∧ s = .int .u8 (((par L p).toNat % 2 ^ t : Nat) : Int) ∧ i = .int .i64 t ∧ wr = w) (fun _ i _ => 8 - (intOf i).toNat)
  case atStart => exact ⟨0, Nat.zero_le _, by simp [Nat.mod_one], rfl, rfl⟩
  case round =>
    obtain ⟨t, ht, rfl, rfl, rfl⟩ := hrel
    generalize hS : (par L p).toNat % 2 ^ t = S
    have HS := Lib.hid hS
    clear hS
    by_cases hlt : t < 8
    · go_wp2_with fail
      go_loopw [7, 15] (fun s i wx => ∃ j : Nat, j ≤ n ∧ s = .int .i64 ((ones (L.take j) p t : Nat) : Int) ∧ i = .int .i64 j ∧ wx = wr) (fun _ i _ => n - (intOf i).toNat)
      case atStart => exact ⟨0, Nat.zero_le _, rfl, rfl, rfl⟩
      case round =>
        obtain ⟨j, hj, rfl, rfl, rfl⟩ := hrel
        have ho : ones (L.take j) p t ≤ n := by have := ones_le (L.take j) p t; rw [List.length_take] at this; omega
        by_cases hlt2 : j < n
        · obtain ⟨hjl, b, off, rfl, hc, hh, hx⟩ := H.out.one hlt2
          have HO := Lib.hid (ones_next L hjl p t)
          have HX := Lib.hid hh
          clear hh
          generalize L[j] = x at *
          obtain ⟨xA, xn, xc, xl⟩ := x
          simp only at *
          by_cases hd : (p : Int) < (xn : Int)
          · have hdt : decide ((p : Int) < (xn : Int)) = true := decide_eq_true hd
            obtain ⟨b2, off2, rfl⟩ := HX.out.some_ (by omega)
            have hpl : p < xl.length := by rw [HX.out.1]; omega
            have hc2 := HX.out.cell p (by omega)
            go_wp2
            · have hb : ((((xl[p].toNat : Nat) : Int) / 2 ^ t).tmod 2 == 1) = true := by assumption
              go_roundw
              case rel => exact ⟨j + 1, by omega, by rw [HO.out, at_one hpl (bit_yes hb)]; rfl, by go_num, trivial⟩
              case measure => simp [intOf]; omega
            · have hb : ((((xl[p].toNat : Nat) : Int) / 2 ^ t).tmod 2 == 1) = false := by assumption
              go_roundw
              case rel => exact ⟨j + 1, by omega, by rw [HO.out, at_one hpl (bit_no hb)]; rfl, by go_num, trivial⟩
              case measure => simp [intOf]; omega
          · have hdf : decide ((p : Int) < (xn : Int)) = false := decide_eq_false hd
            have hd0 : ¬ p < xn := by omega
            have HZ := Lib.hid (Sl.at_ge ⟨xA, xn, xc, xl⟩ (k := p) (by show xl.length ≤ p; rw [HX.out.1]; omega))
            go_wp2
            go_roundw
            case rel => exact ⟨j + 1, by omega, by rw [HO.out, HZ.out]; simp, by go_num, trivial⟩
            case measure => simp [intOf]; omega
        · obtain rfl : j = n := by omega
          have := H.out.all
          simp only [this]
          go_wp2
          go_roundw
          case rel => exact ⟨t + 1, by omega, by rw [odd_step hlt HS.out (par_bit L p t)], by go_num, trivial⟩
          case measure => simp [intOf]; omega
    · obtain rfl : t = 8 := by omega
      go_wp2
      go_ret
      exact ⟨by rw [← HS.out, Nat.mod_eq_of_lt (show (par L p).toNat < 2 ^ 8 from (par L p).isLt)]; rfl, rfl⟩

end Go.Proofs.Ytengfhcocagpiaa
