/-
  THE WALK OF GeomPlaces: any small shape, any stripe.
-/
import Derived.Test.YtimehgckgpdmbaaCounts
import Derived.Deep.CutRange
import Derived.Deep.CutBlock
import Derived.Deep.DeepCutAuto
namespace Go.Proofs.Ytimehgckgpdmbaa
open Go.RowKit Go.Sort
set_option linter.unusedVariables false
set_option maxRecDepth 100000

theorem places_of (x0 x1 x2 x3 x4 x5 m b g s n l : Int) (hS : Hid (Small m b g s n l)) (SHP : Hid (∀ w, Calls Try.prog 13 #[.agg #[.int .u8 x0, .int .u8 x1, .int .u8 x2, .int .u8 x3, .int .u8 x4, .int .u8 x5]] w fun e w' => e = .returned (sv m b g s n l) ∧ Below w.heap.size w w')) (mn : Nat) (hmm : m = (mn : Int)) (h35 : mn = 3 ∨ mn = 4 ∨ mn = 5) (hg : 4 ≤ g ∧ g ≤ 6) (hs : 2 ≤ s ∧ s ≤ 3) (t : Int) (ht : 0 ≤ t ∧ t ≤ 255) (Nn : Nat) (hN : t % (g * s) = (Nn : Int)) (hN2 : Nn ≤ 1000) (w : World) :
    Calls Try.prog 6 #[.agg #[.int .u8 x0, .int .u8 x1, .int .u8 x2, .int .u8 x3, .int .u8 x4, .int .u8 x5], .int .u8 t] w fun e w' => e = .returned (.bool true) ∧ Below w.heap.size w w' := by
  subst hmm
  have hm : 3 ≤ (mn : Int) ∧ (mn : Int) ≤ 16 := by omega
  have hm5 : 3 ≤ mn ∧ mn ≤ 5 := by omega
  have p3 : 1 ≤ g * s ∧ g * s ≤ 1024 := ⟨Int.mul_pos (by omega) (by omega), Int.le_trans (Int.mul_le_mul (show g ≤ 64 by omega) (show s ≤ 16 by omega) (by omega) (by omega)) (by omega)⟩
  obtain ⟨r, hr⟩ : ∃ r, r = Nn % mn := ⟨_, rfl⟩
  have hrm : r < mn := by rw [hr]; exact Nat.mod_lt _ (by omega)
  have hri : (Nn : Int) % (mn : Int) = (r : Int) := by rw [hr]; rfl
  have HR := Lib.hid hr
  clear hr
  have hmk := fun (w : World) => run_make w mn h35
  have H35 := Lib.hid h35
  clear h35
  go_enter Try.func6, Try.ntmps6
  go_wp2_with fail
  have A := Lib.hid (At.new (w := w) (g := w.heap.size) #[.int .u8 x0, .int .u8 x1, .int .u8 x2, .int .u8 x3, .int .u8 x4, .int .u8 x5] 29 rfl)
  have B0 := Lib.hid ((Below.refl w.heap.size w).alloc (Nat.le_refl _) (.cells #[.int .u8 x0, .int .u8 x1, .int .u8 x2, .int .u8 x3, .int .u8 x4, .int .u8 x5] 29))
  refine (awake_any _).mono ?_
  rintro e w1 ⟨rfl, hb'⟩
  have A := Lib.hid (A.out.below hb' A.out.lt)
  have B0 := Lib.hid (B0.out.trans (hb'.mono (up B0.out rfl)))
  have c0 := A.out.cell 0; have c1 := A.out.cell 1; have c2 := A.out.cell 2; have c3 := A.out.cell 3; have c4 := A.out.cell 4; have c5 := A.out.cell 5
  clear hb'
  go_wp2_with fail
  refine (SHP.out _).mono ?_
  rintro e w2 ⟨rfl, hb'⟩
  have B0 := Lib.hid (B0.out.trans (hb'.mono (up B0.out rfl)))
  clear hb' c0 c1 c2 c3 c4 c5 A
  go_upto_region 4 with (fail)
  have A := Lib.hid (At.new (w := w2) (g := w2.heap.size) #[.int .i64 (mn : Int), .int .i64 b, .int .i64 g, .int .i64 s, .int .i64 n, .int .i64 l] 23 rfl)
  have U := Lib.hid (up B0.out rfl)
  have B0 := Lib.hid (B0.out.alloc (up B0.out rfl) (.cells #[.int .i64 (mn : Int), .int .i64 b, .int .i64 g, .int .i64 s, .int .i64 n, .int .i64 l] 23))
  generalize w2.alloc (.cells #[.int .i64 (mn : Int), .int .i64 b, .int .i64 g, .int .i64 s, .int .i64 n, .int .i64 l] 23) = W at *
  generalize hG : w2.heap.size = G at *
  have UG := Lib.hid (show w.heap.size ≤ G from U.out)
  clear hG U
  have c0 := A.out.cell 0; have c1 := A.out.cell 1; have c2 := A.out.cell 2; have c3 := A.out.cell 3; have c4 := A.out.cell 4; have c5 := A.out.cell 5
  go_upto_region 6 with (fail)
  rw [hN]
  have Q0 := Lib.hid (At.new (w := W) (g := W.heap.size) (Array.replicate mn (Value.int .i64 0)) 3 rfl)
  have NE := Lib.hid (show ¬ W.heap.size = G by have := A.out.lt; omega)
  have UQ := Lib.hid (up B0.out rfl)
  have A := Lib.hid (A.out.alloc (.cells (Array.replicate mn (Value.int .i64 0)) 3))
  have B0 := Lib.hid (B0.out.alloc (up B0.out rfl) (.cells (Array.replicate mn (Value.int .i64 0)) 3))
  clear hmk hN c0 c1 c2 c3 c4 c5
  generalize W.alloc (.cells (Array.replicate mn (Value.int .i64 0)) 3) = W2 at *
  generalize W.heap.size = Q at *
  have c0 := A.out.cell 0; have c1 := A.out.cell 1; have c2 := A.out.cell 2; have c3 := A.out.cell 3; have c4 := A.out.cell 4; have c5 := A.out.cell 5
  go_wp2_with fail
  refine (parity_any (mn : Int) b g s n l (Nn : Int) (by omega) hm _).mono ?_
  rintro e w3 ⟨rfl, hb'⟩
  have A := Lib.hid (A.out.below hb' A.out.lt)
  have Q0 := Lib.hid (Q0.out.below hb' Q0.out.lt)
  have B0 := Lib.hid (B0.out.trans (hb'.mono (up B0.out rfl)))
  clear hb' c0 c1 c2 c3 c4 c5
  have c0 := A.out.cell 0; have c1 := A.out.cell 1; have c2 := A.out.cell 2; have c3 := A.out.cell 3; have c4 := A.out.cell 4; have c5 := A.out.cell 5
  have z0 : w3.cell? ⟨Q, r, none⟩ = some (.int .i64 0) := by rw [Q0.out.cell r, ← cntA_first hm5 hrm]; have := cntA_nought hm5 hrm (show 0 < mn by omega); rw [Nat.add_zero, Nat.mod_eq_of_lt hrm] at this; exact this
  have z1 : w3.frozen? ⟨Q, r, none⟩ = false := Q0.out.frozen r
  go_upto_region 10 with (fail)
  have Q0 : Hid (At (w3.setCell ⟨Q, r, none⟩ (.int .i64 1)) Q (cntA mn r 1) 3) := by
    have := Q0.out.set r (.int .i64 1)
    rw [← cntA_first hm5 hrm] at this
    have e := cntA_step hm5 hrm (show 0 < mn by omega)
    rw [Nat.add_zero, Nat.mod_eq_of_lt hrm] at e
    rw [e] at this
    exact this
  have A := Lib.hid (A.out.other (p := ⟨Q, r, none⟩) NE.out (.int .i64 1))
  have B0 := Lib.hid (B0.out.setCell (p := ⟨Q, r, none⟩) UQ.out (.int .i64 1))
  clear c0 c1 c2 c3 c4 c5 z0 z1
  generalize w3.setCell ⟨Q, r, none⟩ (.int .i64 1) = W3 at *
  have c0 := A.out.cell 0; have c1 := A.out.cell 1; have c2 := A.out.cell 2; have c3 := A.out.cell 3; have c4 := A.out.cell 4; have c5 := A.out.cell 5
  go_wp2_with fail
  simp only [hri]
  clear hri
  go_loopw [51] (fun i wr => ∃ k : Nat, k < mn ∧ i = .int .i64 k ∧ At wr Q (cntA mn r (k + 1)) 3 ∧ At wr G #[.int .i64 (mn : Int), .int .i64 b, .int .i64 g, .int .i64 s, .int .i64 n, .int .i64 l] 23 ∧ Below w.heap.size w wr) (fun i _ => mn - (intOf i).toNat)
  case atStart => exact ⟨0, by omega, rfl, Q0.out, A.out, B0.out⟩
  case round =>
    obtain ⟨k, hk, rfl, hQ, hA, hB⟩ := hrel
    have Q1 := Lib.hid hQ
    have A1 := Lib.hid hA
    have B1 := Lib.hid hB
    clear hQ hA hB c0 c1 c2 c3 c4 c5
    have c0 := A1.out.cell 0; have c1 := A1.out.cell 1; have c2 := A1.out.cell 2; have c3 := A1.out.cell 3; have c4 := A1.out.cell 4; have c5 := A1.out.cell 5
    by_cases hlt : (k : Int) < (mn : Int) - 1
    · obtain ⟨y, hy⟩ : ∃ y, y = (r + (k + 1)) % mn := ⟨_, rfl⟩
      have hyi : ((Nn : Int) + 1 + (k : Int)) % (mn : Int) = (y : Int) := by
        have : (Nn + 1 + k) % mn = y := by rw [turn_nat, ← HR.out, hy]
        rw [← this]
        rfl
      have hym : y < mn := by rw [hy]; exact Nat.mod_lt _ (by omega)
      have HY := Lib.hid hy
      clear hy
      go_wp2_with fail
      refine (member_any (mn : Int) b g s n l (Nn : Int) (by omega) (k : Int) (by omega) hm _).mono ?_
      rintro e w5 ⟨rfl, hb'⟩
      have A1 := Lib.hid (A1.out.below hb' A1.out.lt)
      have Q1 := Lib.hid (Q1.out.below hb' Q1.out.lt)
      have B1 := Lib.hid (B1.out.trans (hb'.mono (up B1.out rfl)))
      clear hb' c0 c1 c2 c3 c4 c5
      have c0 := A1.out.cell 0; have c1 := A1.out.cell 1; have c2 := A1.out.cell 2; have c3 := A1.out.cell 3; have c4 := A1.out.cell 4; have c5 := A1.out.cell 5
      have z0 : w5.cell? ⟨Q, y, none⟩ = some (.int .i64 0) := by rw [Q1.out.cell y, HY.out]; exact cntA_nought hm5 hrm (by omega)
      have z1 : w5.frozen? ⟨Q, y, none⟩ = false := Q1.out.frozen y
      go_wp2
      go_roundw
      case rel => exact ⟨k + 1, by omega, by go_num, by have := Q1.out.set y (.int .i64 1); rw [HY.out, cntA_step hm5 hrm (by omega), ← HY.out] at this; exact this, A1.out.other (p := ⟨Q, y, none⟩) NE.out _, B1.out.setCell (p := ⟨Q, y, none⟩) UQ.out _⟩
      case measure => simp [intOf]; omega
    · have Q1 : Hid (At wr Q (cntA mn r mn) 3) := by
        have := Q1.out
        rw [show k + 1 = mn by omega] at this
        exact this
      go_wp2_with fail
      clear hlt hk
      go_loopw [76] (fun i wx => ∃ j : Nat, j ≤ mn ∧ i = .int .i64 j ∧ wx = wr) (fun i _ => mn - (intOf i).toNat)
      case atStart => exact ⟨0, Nat.zero_le _, rfl, rfl⟩
      case round =>
        obtain ⟨j, hj, rfl, rfl⟩ := hrel
        by_cases hlt : j < mn
        · have hone : wr.cell? ⟨Q, j, none⟩ = some (.int .i64 1) := by rw [Q1.out.cell j]; exact cntA_last hm5 hrm hlt
          go_wp2
          go_roundw
          case rel => exact ⟨j + 1, by omega, by go_num, trivial⟩
          case measure => simp [intOf]; omega
        · go_wp2_with fail
          clear hlt hj
          go_loopw [86] (fun i wx => ∃ j : Nat, (j : Int) ≤ (mn : Int) - 2 ∧ i = .int .i64 j ∧ At wx G #[.int .i64 (mn : Int), .int .i64 b, .int .i64 g, .int .i64 s, .int .i64 n, .int .i64 l] 23 ∧ Below w.heap.size w wx) (fun i _ => mn - (intOf i).toNat)
          case atStart => exact ⟨0, by omega, rfl, A1.out, B1.out⟩
          case round =>
            obtain ⟨i, hi, rfl, hA, hB⟩ := hrel
            clear c0 c1 c2 c3 c4 c5
            have A2 := Lib.hid hA
            have B2 := Lib.hid hB
            clear hA hB
            have c0 := A2.out.cell 0; have c1 := A2.out.cell 1; have c2 := A2.out.cell 2; have c3 := A2.out.cell 3; have c4 := A2.out.cell 4; have c5 := A2.out.cell 5
            have hNm : 0 ≤ (Nn : Int) * ((mn : Int) - 2) ∧ (Nn : Int) * ((mn : Int) - 2) ≤ 1000 * 14 := ⟨Int.mul_nonneg (by omega) (by omega), Int.mul_le_mul (by omega) (by omega) (by omega) (by omega)⟩
            by_cases hlt : (i : Int) < (mn : Int) - 2
            · go_wp2_with fail
              refine (place_any (mn : Int) b g s n l (Nn : Int) (by omega) (i : Int) (by omega) hm _).mono ?_
              rintro e w6 ⟨rfl, hb'⟩
              have A2 := Lib.hid (A2.out.below hb' A2.out.lt)
              have B2 := Lib.hid (B2.out.trans (hb'.mono (up B2.out rfl)))
              clear hb' c0 c1 c2 c3 c4 c5
              have c0 := A2.out.cell 0; have c1 := A2.out.cell 1; have c2 := A2.out.cell 2; have c3 := A2.out.cell 3; have c4 := A2.out.cell 4; have c5 := A2.out.cell 5
              go_wp2_with fail
              refine (spot_at (mn : Int) b g s n l (Nn : Int) (i : Int) (by omega) hm (by omega) _).mono ?_
              rintro e w7 ⟨rfl, hb'⟩
              have A2 := Lib.hid (A2.out.below hb' A2.out.lt)
              have B2 := Lib.hid (B2.out.trans (hb'.mono (up B2.out rfl)))
              clear hb' c0 c1 c2 c3 c4 c5
              go_wp2
              go_roundw
              case rel => exact ⟨i + 1, by omega, by go_num, A2.out, B2.out⟩
              case measure => simp [intOf]; omega
            · go_wp2
              go_ret
              exact ⟨rfl, B2.out⟩

theorem places_walk (x0 x1 x2 x3 x4 x5 : Int) (y0 : Byte x0) (y1 : Byte x1) (y2 : Byte x2) (y3 : Byte x3) (y4 : Byte x4) (y5 : Byte x5) (t : Int) (ht : Byte t) (w : World) :
    Calls Try.prog 6 #[.agg #[.int .u8 x0, .int .u8 x1, .int .u8 x2, .int .u8 x3, .int .u8 x4, .int .u8 x5], .int .u8 t] w fun e w' => e = .returned (.bool true) ∧ Below w.heap.size w w' := by
  obtain ⟨m, b, g, s, n, l, hS, hsh⟩ := shape_small x0 x1 x2 x3 x4 x5 y0 y1 y2 y3 y4 y5
  obtain ⟨hm, hb, hg, hs, hl, hok⟩ := hS
  have hS : Small m b g s n l := ⟨hm, hb, hg, hs, hl, hok⟩
  have p3 : 1 ≤ g * s ∧ g * s ≤ 6 * 3 := ⟨Int.mul_pos (by omega) (by omega), Int.mul_le_mul (show g ≤ 6 by omega) (show s ≤ 3 by omega) (by omega) (by omega)⟩
  have r1 := Int.emod_nonneg t (show g * s ≠ 0 by omega)
  have r2 := Int.emod_lt_of_pos t (show 0 < g * s by omega)
  have r4 := ht.2
  exact places_of x0 x1 x2 x3 x4 x5 m b g s n l hS hsh m.toNat (by omega) (by omega) hg hs t ht (t % (g * s)).toNat (by omega) (by omega) w

end Go.Proofs.Ytimehgckgpdmbaa
