/-
  THE WALK OF LmapOften.
-/
import Derived.Test.YtcekcbheajcfpaaSys
import Derived.Deep.CutRange
namespace Go.Proofs.Ytcekcbheajcfpaa
open Go.RowKit
set_option linter.unusedVariables false
set_option maxRecDepth 100000


set_option maxHeartbeats 3200000 in
theorem lmapOften_walk (A : Option Addr) (n c : Nat) (M : List Ac) (x a b : Int) (w : World) (hx : 0 ≤ x ∧ x ≤ 255) (ha : 0 ≤ a ∧ a ≤ 65535) (hb : 0 ≤ b ∧ b ≤ 65535) (h : Acts w A n c M) : Calls Try.prog 5 #[.slice A n c, .int .u8 x, .int .u16 a, .int .u16 b] w fun e w' => e = .returned (.bool true) ∧ Below w.heap.size w w' := by
  have H := Lib.hid h
  obtain ⟨J, rfl⟩ : ∃ J : Nat, x = (J : Int) := ⟨x.toNat, by omega⟩
  have hJ : J < 300 := by omega
  clear h hx
  go_enter Try.func5, Try.ntmps5
  go_wp2_with fail
  refine (awake_any w).mono ?_
  rintro e w0 ⟨rfl, hb0⟩
  have B0 := Lib.hid hb0
  clear hb0
  by_cases hbig : 80 < n
  · have hbi : (80 : Int) < (n : Int) := by omega
    go_wp2
    go_ret
    exact ⟨rfl, B0.out⟩
  have hbi : ¬ (80 : Int) < (n : Int) := by omega
  go_wp2_with fail
  refine (made_sy (w0 := w) (n := 300) (by omega) B0.out).mono ?_
  rintro e w1 ⟨g, rfl, hS, _⟩
  have S1 := Lib.hid hS
  clear hS
  go_wp2_with fail
  go_loopg [11, 24] n (fun gg _ s24 wr => ∃ (k : Nat) (V : Nat → Int) (P : Nat → Bool), k ≤ n ∧ n - k ≤ gg ∧ s24 = .int .i64 (k : Int) ∧ Sy w wr (fun _ => False) g 300 V P ∧ V J = -1)
  case atStart => exact ⟨0, _, _, Nat.zero_le _, by omega, rfl, S1.out, rfl⟩
  case round =>
    obtain ⟨k, V, P, hk0, hgg, rfl, hS, hV⟩ := hrel
    have SS := Lib.hid hS
    have VJ := Lib.hid hV
    clear hS hV
    by_cases hlt : k < n
    · have hk80 : k < 80 := by omega
      obtain ⟨ba, off, rfl, hacts⟩ := H.out.2.2.2 (by omega)
      have hkl : k < M.length := by rw [H.out.1]; exact hlt
      have hact := (hacts k hkl).below SS.out.bel
      generalize M[k] = X at hact
      obtain ⟨xl, xp⟩ := X
      obtain ⟨c0, c1, hdl, hdp, _⟩ := hact
      simp only at c0 c1 hdl hdp
      clear hacts
      have S4 := Lib.hid (SS.out.alloc (.cells #[.int .i8 xl, .int .i16 xp] 32))
      by_cases he : xl = (J : Int)
      · subst he
        have hne : ((J : Int) != (J : Int)) = false := by simp
        go_wp2_with fail
        go_roundg (n - (k + 1))
        case measure => omega
        case rel => exact ⟨k + 1, V, P, by omega, Nat.le_refl _, by go_num, S4.out, VJ.out⟩
      · have NE := Lib.hid he
        go_wp2_with fail
        refine (set_sy xl xp (by omega) S4.out).mono ?_
        rintro e w2 ⟨rfl, hS, _⟩
        have S5 := Lib.hid hS
        have V5 := Lib.hid ((setI_apart (n := 300) V (v := xp) NE.out).trans VJ.out)
        clear hS
        go_wp2
        go_roundg (n - (k + 1))
        case measure => omega
        case rel => exact ⟨k + 1, _, _, by omega, Nat.le_refl _, by go_num, S5.out, V5.out⟩
    · obtain rfl : k = n := by omega
      obtain ⟨m0, hm0⟩ : ∃ m0, many V 300 = m0 := ⟨_, rfl⟩
      have M0 := Lib.hid hm0
      go_wp2_with fail
      refine (many_sy SS.out).mono ?_
      rw [hm0]
      clear hm0
      rintro e w2 ⟨rfl, hw⟩
      subst hw
      have L0 := Lib.hid ((lies_in V hJ).trans VJ.out)
      go_wp2_with fail
      refine (set_sy (J : Int) a (by omega) SS.out).mono ?_
      rw [L0.out, setI_nat V hJ (by omega)]
      rintro e w3 ⟨rfl, hS, _⟩
      have S3 := Lib.hid hS
      have L3 := Lib.hid ((lies_in (setN V J a) hJ).trans (setN_same V J a))
      clear hS
      go_wp2_with fail
      refine (set_sy (J : Int) b (by omega) S3.out).mono ?_
      rw [L3.out, setI_nat _ hJ (by omega)]
      rintro e w4 ⟨rfl, hS, _⟩
      have S4 := Lib.hid hS
      have L4 := Lib.hid ((lies_in (setN (setN V J a) J b) hJ).trans (setN_same _ J b))
      clear hS
      go_wp2_with fail
      refine (set_sy (J : Int) (-1) (by omega) S4.out).mono ?_
      have VE : setN (setN (setN V J a) J b) J (-1) = V := by
        funext j
        by_cases e : j = J
        · rw [e, setN_same, VJ.out]
        · rw [setN_other _ _ e, setN_other _ _ e, setN_other _ _ e]
      rw [L4.out, setI_nat _ hJ (by omega), VE]
      clear VE
      rintro e w5 ⟨rfl, hS, _⟩
      have S5 := Lib.hid hS
      clear hS
      go_wp2_with fail
      refine (get_sy (J : Int) S5.out).mono ?_
      rw [L0.out]
      rintro e w6 ⟨rfl, hw⟩
      subst hw
      go_wp2_with fail
      refine (many_sy S5.out).mono ?_
      rw [M0.out]
      rintro e w7 ⟨rfl, hw⟩
      subst hw
      go_wp2
      go_ret
      exact ⟨rfl, S5.out.bel⟩
end Go.Proofs.Ytcekcbheajcfpaa
