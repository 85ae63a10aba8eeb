/-
  THE WALK OF LmapWithin.
-/
import Derived.Test.YtcekcbheajcfpaaSys
import Derived.Deep.CutRange
namespace Go.Proofs.Ytcekcbheajcfpaa
open Go.RowKit
set_option linter.unusedVariables false
set_option maxRecDepth 100000


set_option maxHeartbeats 3200000 in
theorem lmapWithin_walk (x : Int) (A : Option Addr) (n c : Nat) (M : List Ac) (f t : Int) (w : World) (hx : 0 ≤ x ∧ x ≤ 255) (hf : -32768 ≤ f ∧ f ≤ 32767) (ht : -32768 ≤ t ∧ t ≤ 32767) (h : Acts w A n c M) : Calls Try.prog 4 #[.int .u8 x, .slice A n c, .int .i16 f, .int .i16 t] w fun e w' => e = .returned (.bool true) ∧ Below w.heap.size w w' := by
  have H := Lib.hid h
  obtain ⟨m, hm, hm8⟩ : ∃ m : Nat, x % 70 = (m : Int) ∧ m ≤ 69 := ⟨(x % 70).toNat, by omega, by omega⟩
  have HM := Lib.hid hm
  clear h
  go_enter Try.func4, Try.ntmps4
  go_wp2_with fail
  refine (awake_any w).mono ?_
  rintro e w0 ⟨rfl, hb0⟩
  have B0 := Lib.hid hb0
  clear hb0
  by_cases hbig : 80 < n
  · have hbi : (80 : Int) < (n : Int) := by omega
    go_wp2
    go_ret
    exact ⟨rfl, B0.out⟩
  have hbi : ¬ (80 : Int) < (n : Int) := by omega
  go_wp2_with fail
  refine (made_sy (w0 := w) (n := m) (by omega) B0.out).mono ?_
  rintro e w1 ⟨g, rfl, hS, _⟩
  have S1 := Lib.hid hS
  clear hS
  go_wp2_with fail
  go_loopg [12, 28] n (fun gg _ s28 wr => ∃ (k : Nat) (V : Nat → Int) (P : Nat → Bool), k ≤ n ∧ n - k ≤ gg ∧ s28 = .int .i64 (k : Int) ∧ Sy w wr (fun _ => False) g m V P)
  case atStart => exact ⟨0, _, _, Nat.zero_le _, by omega, rfl, S1.out⟩
  case round =>
    obtain ⟨k, V, P, hk0, hgg, rfl, hS⟩ := hrel
    have SS := Lib.hid hS
    clear hS
    by_cases hlt : k < n
    · have hk80 : k < 80 := by omega
      obtain ⟨ba, off, rfl, hacts⟩ := H.out.2.2.2 (by omega)
      have hkl : k < M.length := by rw [H.out.1]; exact hlt
      have hact := (hacts k hkl).below SS.out.bel
      generalize M[k] = X at hact
      obtain ⟨xl, xp⟩ := X
      obtain ⟨c0, c1, hdl, hdp, _⟩ := hact
      simp only at c0 c1 hdl hdp
      clear hacts
      have S4 := Lib.hid (SS.out.alloc (.cells #[.int .i8 xl, .int .i16 xp] 32))
      go_wp2_with fail
      refine (set_sy xl xp (by omega) S4.out).mono ?_
      rintro e w2 ⟨rfl, hS, _⟩
      have S5 := Lib.hid hS
      clear hS
      go_wp2
      go_roundg (n - (k + 1))
      case measure => omega
      case rel => exact ⟨k + 1, _, _, by omega, Nat.le_refl _, by go_num, S5.out⟩
    · obtain rfl : k = n := by omega
      clear hlt hgg hk0
      obtain ⟨ws, hws⟩ : ∃ ws, ws = wr := ⟨_, rfl⟩
      subst hws
      obtain ⟨F, hF⟩ : ∃ F, F = max f 0 := ⟨_, rfl⟩
      have FF := Lib.hid hF
      have IL := Lib.hid (fun j => inn_len V F t j)
      have LIN := Lib.hid (fun j (h : j < m) => lies_in V h)
      clear hF
      go_wp2_with fail
      go_loopg [13, 14, 15, 42] m (fun gg s13 _ _ s42 wq => ∃ (k : Nat) (A : Option Addr) (c : Nat), k ≤ m ∧ m - k ≤ gg ∧ s42 = .int .i64 (k : Int) ∧ s13 = .slice A (inn V F t k).length c ∧ wq.ownsRow ws.heap.size 3 1 (.slice A (inn V F t k).length c) (inn V F t k).length (ints (inn V F t k)) ∧ Below ws.heap.size ws wq)
      case atStart => exact ⟨0, none, 0, Nat.zero_le _, by omega, rfl, rfl, World.ownsRow_nil _ _ _ _, Below.refl _ _⟩
      case round =>
        obtain ⟨k, A, c2, hk0, hgg, rfl, rfl, hown, hB⟩ := hrel
        have OV := Lib.hid hown
        have BV := Lib.hid hB
        have HS := Lib.hid (SS.out.below hB)
        have IL2 := Lib.hid (IL.out k)
        clear hown hB
        by_cases hlt : k < m
        · have VL := Lib.hid (SS.out.low k)
          go_wp2_with fail
          refine (get_sy (k : Int) HS.out).mono ?_
          rw [LIN.out k hlt]
          rintro e w3 ⟨rfl, hw⟩
          subst hw
          by_cases h0 : 0 ≤ V k
          · by_cases h1 : f ≤ V k
            · by_cases h2 : V k < t
              · have N := Lib.hid (inn_yes (V := V) (f := F) (t := t) (k := k) (by rw [FF.out]; omega))
                have q0 : decide (0 ≤ V k) = true := by simpa using h0
                have q1 : decide (f ≤ V k) = true := by simpa using h1
                have q2 : decide (V k < t) = true := by simpa using h2
                clear h0 h1 h2
                generalize V k = v at q0 q1 q2
                generalize hP : inn V F t k = P2 at *
                clear hP
                have il := IL2.out
                have B3 := Lib.hid (show Below w3.heap.size w3 (w3.alloc (.cells #[.int .i64 (k : Int)] 3)) from (Below.refl _ _).alloc (Nat.le_refl _) _)
                go_wp2_with (at_builtin; refine wpList_append_int rfl (.tmp 62) (.tmp 64) rfl ws.heap.size (.slice A P2.length c2) P2.length P2 rfl (own_below OV.out B3.out) ⟨w3.heap.size, 0, none⟩ 1 1 [(k : Int)] rfl rfl (int_src (At.new _ 3 rfl)) (by omega) (by have := BV.out.size; have := B3.out.size; omega) ?_; intro A9 c9 w9 hown9 hg9 hf9; have R9 := Lib.hid hown9; have B9 := Lib.hid ((BV.out.trans (B3.out.mono BV.out.size)).grown hg9 (by have := BV.out.size; have := B3.out.size; omega) (fun i hi => (OV.out.lt i hi).1)); clear hown9 hg9 hf9)
                go_roundg (m - (k + 1))
                case measure => omega
                case rel => exact ⟨k + 1, A9, c9, by omega, Nat.le_refl _, by go_num, by rw [N.out, List.length_append]; rfl, by rw [N.out, List.length_append]; exact R9.out, B9.out⟩

              · have N := Lib.hid (inn_no (V := V) (f := F) (t := t) (k := k) (by rw [FF.out]; omega))
                have q0 : decide (0 ≤ V k) = true := by simpa using h0
                have q1 : decide (f ≤ V k) = true := by simpa using h1
                have q2 : decide (V k < t) = false := by simpa using h2
                clear h0 h1 h2
                clear HS
                generalize V k = v at *
                generalize hP : inn V F t k = P2 at *
                clear hP
                go_wp2_with fail
                go_roundg (m - (k + 1))
                case measure => omega
                case rel => exact ⟨k + 1, A, c2, by omega, Nat.le_refl _, by go_num, by rw [N.out], by rw [N.out]; exact OV.out, BV.out⟩
            · have N := Lib.hid (inn_no (V := V) (f := F) (t := t) (k := k) (by rw [FF.out]; omega))
              have q0 : decide (0 ≤ V k) = true := by simpa using h0
              have q1 : decide (f ≤ V k) = false := by simpa using h1
              clear h0 h1
              clear HS
              generalize V k = v at *
              generalize hP : inn V F t k = P2 at *
              clear hP
              go_wp2_with fail
              go_roundg (m - (k + 1))
              case measure => omega
              case rel => exact ⟨k + 1, A, c2, by omega, Nat.le_refl _, by go_num, by rw [N.out], by rw [N.out]; exact OV.out, BV.out⟩
          · have N := Lib.hid (inn_no (V := V) (f := F) (t := t) (k := k) (by rw [FF.out]; omega))
            have q0 : decide (0 ≤ V k) = false := by simpa using h0
            clear h0
            clear HS
            generalize V k = v at *
            generalize hP : inn V F t k = P2 at *
            clear hP
            go_wp2_with fail
            go_roundg (m - (k + 1))
            case measure => omega
            case rel => exact ⟨k + 1, A, c2, by omega, Nat.le_refl _, by go_num, by rw [N.out], by rw [N.out]; exact OV.out, BV.out⟩
        · obtain rfl : k = m := by omega
          go_wp2_with fail
          refine (within_sy f t HS.out).mono ?_
          unfold within
          rw [← FF.out]
          generalize inn V F t k = L at OV IL2
          rintro e w3 ⟨A3, c3, rfl, h3, hb3⟩
          obtain ⟨A4, c4, e4, h4, _⟩ := HasI.of_own (own_below OV.out hb3)
          injection e4 with e4 _ e5
          subst e4 e5
          have B3 := Lib.hid (HS.out.below hb3).bel
          clear hb3
          go_wp2_with fail
          refine (equalI_yes A3 A L.length c3 c2 L _ (by have := IL2.out; omega) h3 h4).mono ?_
          rintro e w5 ⟨rfl, q, rfl⟩
          go_wp2
          go_ret
          exact ⟨rfl, below_drewN B3.out q⟩
end Go.Proofs.Ytcekcbheajcfpaa
