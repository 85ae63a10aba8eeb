/-
  THE WALK OF TableSums.
-/
import Derived.Test.YtpijapnidnkknaaNums
import Derived.Deep.CutRange
import Derived.Deep.CutBlock
import Derived.Deep.DeepCutAuto
namespace Go.Proofs.Ytpijapnidnkknaa
open Go.RowKit
set_option linter.unusedVariables false
set_option maxRecDepth 100000


set_option maxHeartbeats 3200000 in
theorem tableSums_walk (x : Int) (A : Option Addr) (n c : Nat) (M : List Ac) (w : World) (hx : 0 ≤ x ∧ x ≤ 255) (h : Acts w A n c M) : Calls Try.prog 5 #[.int .u8 x, .slice A n c] w fun e w' => e = .returned (.bool true) ∧ Below w.heap.size w w' := by
  have H := Lib.hid h
  obtain ⟨m, hm, hm8⟩ : ∃ m : Nat, x % 9 = (m : Int) ∧ m ≤ 8 := ⟨(x % 9).toNat, by omega, by omega⟩
  have HM := Lib.hid hm
  clear h
  go_enter Try.func5, Try.ntmps5
  go_wp2_with fail
  refine (awake_any w).mono ?_
  rintro e w0 ⟨rfl, hb0⟩
  have B0 := Lib.hid hb0
  clear hb0
  by_cases hbig : 80 < n
  · have hbi : (80 : Int) < (n : Int) := by omega
    go_wp2
    go_ret
    exact ⟨rfl, B0.out⟩
  have hbi : ¬ (80 : Int) < (n : Int) := by omega
  go_wp2_with fail
  refine (new_any m w0 (by omega)).mono ?_
  rintro e w1 ⟨g, r, rfl, hT, hg, hr, hb⟩
  have T1 := Lib.hid hT
  have B1 := Lib.hid (B0.out.trans (hb.mono B0.out.size))
  have GR := Lib.hid (show w.heap.size ≤ g ∧ w.heap.size ≤ r by have := B0.out.size; omega)
  clear hT hb hg hr
  go_wp2_with fail
  go_loopg [7, 19] n (fun gg _ s19 wr => ∃ (k : Nat) (T : List Sg), k ≤ n ∧ n - k ≤ gg ∧ s19 = .int .i64 (k : Int) ∧ Tb wr g r T ∧ Below w.heap.size w wr ∧ T.length = m ∧ Mild T k ∧ ∀ x ∈ T, x.ok)
  case atStart => exact ⟨0, _, Nat.zero_le _, by omega, rfl, T1.out, B1.out, by simp, mild_zero m, ok_zero m⟩
  case round =>
    obtain ⟨k, T, hk0, hgg, rfl, hT, hB, hTl, hMi, hOk⟩ := hrel
    have TT := Lib.hid hT
    have BW := Lib.hid hB
    have TL := Lib.hid hTl
    have MI := Lib.hid hMi
    have OK := Lib.hid hOk
    clear hT hB hTl hMi hOk
    by_cases hlt : k < n
    · have hk80 : k < 80 := by omega
      obtain ⟨ba, off, rfl, hacts⟩ := H.out.2.2.2 (by omega)
      have hkl : k < M.length := by rw [H.out.1]; exact hlt
      have hact := (hacts k hkl).below BW.out
      generalize M[k] = X at hact
      obtain ⟨xd, xa, xs, xl, xb⟩ := X
      obtain ⟨c0, c1, c2, c3, c4, hdd, hda, hds, hdl, hdb, _⟩ := hact
      simp only at c0 c1 c2 c3 c4 hdd hda hds hdl hdb
      clear hacts
      have B4 := Lib.hid (BW.out.alloc BW.out.size (.cells #[.int .i8 xd, .int .i8 xa, .int .u8 (xs : Int), .int .i8 xl, .int .u64 xb] 30))
      have T4 := Lib.hid (TT.out.below ((Below.refl wr.heap.size wr).alloc (Nat.le_refl _) (.cells #[.int .i8 xd, .int .i8 xa, .int .u8 (xs : Int), .int .i8 xl, .int .u64 xb] 30)))
      go_upto_block 2 with (fail)
      obtain ⟨q, hq⟩ : ∃ q : Nat, xd % 256 % 4 = (q : Int) := ⟨(xd % 256 % 4).toNat, by omega⟩
      have hq3 : q ≤ 3 := by omega
      simp only [hq]
      clear hq
      go_cut [7] (fun _ wx => ∃ T' : List Sg, Tb wx g r T' ∧ Below w.heap.size w wx ∧ T'.length = m ∧ Mild T' (k + 1) ∧ ∀ x ∈ T', x.ok)
      case first =>
        by_cases h0 : q = 0
        · subst h0
          go_wp2_with fail
          refine (open_any xa T4.out).mono ?_
          rintro e w5 ⟨rfl, hT, hb⟩
          have T5 := Lib.hid hT
          have B5 := Lib.hid (B4.out.trans (hb.below (fun k e => by have := GR.out; omega) B4.out.size))
          clear hT hb
          go_wp2
          go_meet
          exact ⟨_, T5.out, B5.out, by rw [put_len]; exact TL.out, MI.out.put (fun y hy => by show _ ∧ _; simp only; omega), ok_put OK.out (fun y hy => .inr (.inl rfl))⟩
        by_cases h1 : q = 1
        · subst h1
          go_wp2_with fail
          refine (seal_any xa xb T4.out).mono ?_
          rintro e w5 ⟨rfl, hT, hb⟩
          have T5 := Lib.hid hT
          have B5 := Lib.hid (B4.out.trans (hb.below (fun k e => by have := GR.out; omega) B4.out.size))
          clear hT hb
          go_wp2
          go_meet
          exact ⟨_, T5.out, B5.out, by rw [put_len]; exact TL.out, MI.out.put (fun y hy => by show _ ∧ _; simp only; omega), ok_put OK.out (fun y hy => .inr (.inr rfl))⟩
        by_cases h2 : q = 2
        · subst h2
          go_wp2_with fail
          have TA := Lib.hid (T4.out.below ((Below.refl _ _).alloc (Nat.le_refl _) (.cells #[.int .i64 xa] 3)))
          have BA := Lib.hid (B4.out.alloc B4.out.size (.cells #[.int .i64 xa] 3))
          have lt4 := TT.out.lt
          refine (clear_any (some ⟨wr.heap.size + 1, 0, none⟩) 1 1 [xa] (by omega) (HasI.one (At.new _ 3 (by simp))) (fun x e => by injection e with e; subst e; show ¬ wr.heap.size + 1 = r; omega) TA.out).mono ?_
          rintro e w5 ⟨rfl, hT, hb⟩
          rw [clr_one] at hT
          have T5 := Lib.hid hT
          have B5 := Lib.hid (BA.out.trans (hb.below (fun k e => by have := GR.out; omega) BA.out.size))
          clear hT hb
          go_wp2
          go_meet
          exact ⟨_, T5.out, B5.out, by rw [put_len]; exact TL.out, MI.out.put (fun y hy => by show _ ∧ _; simp only [Sg.zero]; omega), ok_put OK.out (fun y hy => .inl rfl)⟩
        obtain rfl : q = 3 := by omega
        go_wp2_with fail
        refine (live_any xa xl (fun j hj => by have := MI.out _ (List.getElem_mem hj); omega) T4.out).mono ?_
        rintro e w5 ⟨rfl, hT, hb⟩
        have T5 := Lib.hid hT
        have B5 := Lib.hid (B4.out.trans (hb.below (fun k e => by have := GR.out; omega) B4.out.size))
        clear hT hb
        go_wp2
        go_meet
        exact ⟨_, T5.out, B5.out, by rw [put_len]; exact TL.out, MI.out.put (fun y hy => by show _ ∧ _; simp only; omega), ok_put OK.out (fun y hy => hy)⟩
      case rest =>
        obtain ⟨T', hT, hB, hTl, hMi, hOk⟩ := hcut
        have MI' := Lib.hid hMi
        have OK' := Lib.hid hOk
        have TL' := Lib.hid hTl
        have BC := Lib.hid hB
        have TC := Lib.hid hT
        have SU := Lib.hid (many_sum T' hOk)
        have DL := Lib.hid (dead_le T')
        have FN := Lib.hid (first_neg T')
        have FG := Lib.hid (first_ge T')
        have FL := Lib.hid (first_lt hT.few)
        have h0 : many T' 0 ≤ 8 := by have := many_le T' 0; omega
        have h1 : many T' 1 ≤ 8 := by have := many_le T' 1; omega
        have h2 : many T' 2 ≤ 8 := by have := many_le T' 2; omega
        have hd : (dead T').length ≤ many T' 2 := DL.out
        clear hT hB hTl hMi hOk c0 c1 c2 c3 c4 TT BW TL MI OK B4 T4
        go_wp2_with fail
        refine (many_any 0 TC.out).mono ?_
        rintro e w20 ⟨rfl, hb⟩
        have T20 := Lib.hid (TC.out.below hb)
        have B20 := Lib.hid (BC.out.trans (hb.mono BC.out.size))
        clear hb
        go_wp2_with fail
        refine (many_any 1 T20.out).mono ?_
        rintro e w21 ⟨rfl, hb⟩
        have T21 := Lib.hid (T20.out.below hb)
        have B21 := Lib.hid (B20.out.trans (hb.mono B20.out.size))
        clear hb
        go_wp2_with fail
        refine (many_any 2 T21.out).mono ?_
        rintro e w22 ⟨rfl, hb⟩
        have T22 := Lib.hid (T21.out.below hb)
        have B22 := Lib.hid (B21.out.trans (hb.mono B21.out.size))
        clear hb
        go_wp2_with fail
        refine (len_any T22.out).mono ?_
        rintro e w23 ⟨rfl, hw⟩
        rw [hw]
        clear hw
        have hs : ((many T' 0 : Int) + (many T' 1 : Int) + (many T' 2 : Int) != (T'.length : Int)) = false := by simp; have := SU.out; omega
        have hs2 : (T'.length : Int) = (many T' 0 : Int) + (many T' 1 : Int) + (many T' 2 : Int) := by have := SU.out; omega
        go_wp2_with fail
        refine (dead_any T22.out).mono ?_
        rintro e w24 ⟨A9, c9, rfl, _, hb⟩
        have T24 := Lib.hid (T22.out.below hb)
        have B24 := Lib.hid (B22.out.trans (hb.mono B22.out.size))
        clear hb
        go_wp2_with fail
        refine (many_any 2 T24.out).mono ?_
        rintro e w25 ⟨rfl, hb⟩
        have T25 := Lib.hid (T24.out.below hb)
        have B25 := Lib.hid (B24.out.trans (hb.mono B24.out.size))
        clear hb
        go_wp2_with fail
        refine (first_any T25.out).mono ?_
        rintro e w26 ⟨rfl, hb⟩
        have T26 := Lib.hid (T25.out.below hb)
        have B26 := Lib.hid (B25.out.trans (hb.mono B25.out.size))
        clear hb
        go_wp2_with fail
        refine (many_any 0 T26.out).mono ?_
        rintro e w27 ⟨rfl, hb⟩
        have T27 := Lib.hid (T26.out.below hb)
        have B27 := Lib.hid (B26.out.trans (hb.mono B26.out.size))
        clear hb
        by_cases hz : many T' 0 = 0
        · have hf : first T' < 0 := FN.out.2 hz
          have hz2 : ((many T' 0 : Int) == 0) = true := by simp [hz]
          clear hz
          go_wp2
          go_roundg (n - (k + 1))
          case measure => omega
          case rel => exact ⟨k + 1, T', by omega, Nat.le_refl _, by go_num, T27.out, B27.out, TL'.out, MI'.out, OK'.out⟩
        · have hf : ¬ first T' < 0 := fun h => hz (FN.out.1 h)
          have hz2 : ((many T' 0 : Int) == 0) = false := by simp [hz]
          clear hz
          go_wp2
          go_roundg (n - (k + 1))
          case measure => omega
          case rel => exact ⟨k + 1, T', by omega, Nat.le_refl _, by go_num, T27.out, B27.out, TL'.out, MI'.out, OK'.out⟩
    · obtain rfl : k = n := by omega
      go_wp2
      go_ret
      exact ⟨rfl, BW.out⟩
end Go.Proofs.Ytpijapnidnkknaa
