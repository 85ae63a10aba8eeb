/-
  THE WALK OF StageAgain.
-/
import Derived.Test.YtclbiidgggdniaaStageFindsWalk
import Derived.Deep.CutRange
namespace Go.Proofs.Ytclbiidgggdniaa
open Go.RowKit
set_option linter.unusedVariables false
set_option maxRecDepth 100000

set_option maxHeartbeats 3200000 in
theorem stageAgain_walk (A : Option Addr) (n c : Nat) (L : List It) (J : Int) (w : World) (h : Items w A n c L) (hJ : -128 ≤ J ∧ J ≤ 127) : Calls Try.prog 6 #[.slice A n c, .int .i8 J] w fun e w' => e = .returned (.bool true) ∧ Below w.heap.size w w' := by
  have H := Lib.hid h
  clear h
  go_enter Try.func6, Try.ntmps6
  go_wp2_with fail
  refine (awake_any w).mono ?_
  rintro e w0 ⟨rfl, hb0⟩
  have B0 := Lib.hid hb0
  clear hb0
  by_cases hbig : 60 < n
  · have hbi : (60 : Int) < (n : Int) := by omega
    go_wp2
    go_ret
    exact ⟨rfl, B0.out⟩
  have hbi : ¬ (60 : Int) < (n : Int) := by omega
  go_wp2_with fail
  refine (make_one A n c L w0 (by omega) (H.out.below B0.out)).mono ?_
  rintro e w1 ⟨v, M, rfl, hR, hM, hl, hb⟩
  obtain ⟨A1, c1, rfl, hc1, hcm, hs, _⟩ := hR.form
  rw [hl] at hs hc1
  rw [hl]
  have B1 := Lib.hid (B0.out.trans (hb.mono B0.out.size))
  have X1 := Lib.hid hs
  have M1 := Lib.hid hM
  clear hb hs hM hR hl
  go_wp2_with fail
  refine (view_any A1 n c1 M w1 (by omega) X1.out).mono ?_
  rintro e w2 ⟨v, V, rfl, hR, hV, _, hb⟩
  have B2 := Lib.hid (B1.out.trans (hb.mono B1.out.size))
  have X2 := Lib.hid (X1.out.below hb)
  obtain ⟨A2, c2, rfl, _, _, hs⟩ := hR.rs
  have V2 := Lib.hid hs
  have E2 := Lib.hid hV
  have hv : V.length ≤ 1000 := by have h1 := congrArg List.length hV; have h2 := vw_len Rr.lba (M.map Rc.abs); have h3 := X1.out.len; rw [List.length_map] at h1 h2; omega
  clear hR hb hs hV
  generalize hm : V.length = m at *
  have HM := Lib.hid hm
  clear hm
  go_wp2_with fail
  refine (find_any A1 n c1 M J w2 (by omega) X2.out (by unfold InU; omega)).mono ?_
  rintro e w3 ⟨y, rfl, hy, hya, hb⟩
  have B3 := Lib.hid (B2.out.trans (hb.mono B2.out.size))
  have V3 := Lib.hid (V2.out.below hb)
  obtain ⟨o, ho⟩ : ∃ o, fl Rr.lba J (M.map Rc.abs) = o := ⟨_, rfl⟩
  rw [ho] at hya ⊢
  have OO := Lib.hid (show fl Rr.lba J (V.map Rc.abs) = o by rw [E2.out, fl_vw, ho])
  have YA := Lib.hid hya
  obtain ⟨ok, hok⟩ : ∃ ok, o.isSome = ok := ⟨_, rfl⟩
  rw [hok]
  have OK := Lib.hid hok
  have Y3 := Lib.hid hy
  clear hb ho hya hok hy
  obtain ⟨ys, yk, yl, yA, yn, yc, yd⟩ := y
  have B4 := Lib.hid (B3.out.alloc B3.out.size (.cells (lit ys yk yl yA yn yc) 35))
  have V4 := Lib.hid (V3.out.below (below_new w3 (.cells (lit ys yk yl yA yn yc) 35)))
  have Y4 := Lib.hid (Y3.out.below (below_new w3 (.cells (lit ys yk yl yA yn yc) 35)))
  have G4 := Lib.hid (At.new (w := w3) (lit ys yk yl yA yn yc) 35 rfl)
  unfold lit at B4 V4 Y4 G4
  unfold lit
  go_wp2_with fail
  generalize w3.alloc (.cells #[.int .u64 (ys : Int), .int .i64 yk, .int .i64 yl, .slice yA yn yc] 35) = w4 at *
  generalize w3.heap.size = gb at *
  refine (find_any A2 m c2 V J w4 hv V4.out (by unfold InU; omega)).mono ?_
  rintro e w5 ⟨x, rfl, hy, hya, hb⟩
  rw [OO.out] at hya ⊢
  rw [OK.out]
  have B5 := Lib.hid (B4.out.trans (hb.mono B4.out.size))
  have V5 := Lib.hid (V4.out.below hb)
  have Y5 := Lib.hid (Y4.out.below hb)
  have G5 := Lib.hid (G4.out.below hb G4.out.lt)
  have XA := Lib.hid hya
  have X5 := Lib.hid hy
  clear hb hya hy
  obtain ⟨xs, xk, xl, xA, xn, xc, xd⟩ := x
  have EQ := Lib.hid (show Rc.abs ⟨ys, yk, yl, yA, yn, yc, yd⟩ = Rc.abs ⟨xs, xk, xl, xA, xn, xc, xd⟩ from YA.out.trans XA.out.symm)
  have BB := Lib.hid (below_new w5 (.cells (lit xs xk xl xA xn xc) 35))
  have B6 := Lib.hid (B5.out.trans (BB.out.mono B5.out.size))
  have V6 := Lib.hid (V5.out.below BB.out)
  have Y6 := Lib.hid (Y5.out.below BB.out)
  have X6 := Lib.hid (X5.out.below BB.out)
  have G6 := Lib.hid (G5.out.below BB.out G5.out.lt)
  have K6 := Lib.hid (At.new (w := w5) (lit xs xk xl xA xn xc) 35 rfl)
  clear BB
  unfold lit at B6 V6 Y6 X6 G6 K6
  unfold lit
  go_wp2_with fail
  generalize w5.alloc (.cells #[.int .u64 (xs : Int), .int .i64 xk, .int .i64 xl, .slice xA xn xc] 35) = w6 at *
  generalize w5.heap.size = gx at *
  refine (view_any A2 m c2 V w6 hv V6.out).mono ?_
  rintro e w7 ⟨v, U, rfl, hR, hV, _, hb⟩
  have hu : U.map Rc.abs = V.map Rc.abs := by rw [hV, E2.out, vw_vw]
  have hul : U.length = m := by have := congrArg List.length hu; simp only [List.length_map] at this; exact this.trans HM.out
  obtain ⟨A7, c7, rfl, _, _, hs⟩ := hR.rs
  rw [hul] at hs ⊢
  have UE := Lib.hid hu
  have U7 := Lib.hid hs
  have B7 := Lib.hid (B6.out.trans (hb.mono B6.out.size))
  have V7 := Lib.hid (V6.out.below hb)
  have Y7 := Lib.hid (Y6.out.below hb)
  have X7 := Lib.hid (X6.out.below hb)
  have G7 := Lib.hid (G6.out.below hb G6.out.lt)
  have K7 := Lib.hid (K6.out.below hb K6.out.lt)
  clear hR hV hb hs hu hul
  go_wp2_with fail
  refine (same_yes A7 A2 m c7 c2 U V w7 hv U7.out V7.out UE.out).mono ?_
  rintro e w8 ⟨rfl, q8, rfl⟩
  have B8 := Lib.hid (B7.out.trans ((below_drewN w7 q8).mono B7.out.size))
  have Y8 := Lib.hid (Y7.out.below (below_drewN w7 q8))
  have X8 := Lib.hid (X7.out.below (below_drewN w7 q8))
  have G8 := Lib.hid (show At (w7.drewN q8) gb _ 35 from G7.out)
  have K8 := Lib.hid (show At (w7.drewN q8) gx _ 35 from K7.out)
  generalize w7.drewN q8 = w8 at *
  have hee : (ok == ok) = true := by simp
  obtain ⟨g0, g1, g2, g3⟩ := Rs.box (x := ⟨ys, yk, yl, yA, yn, yc, yd⟩) (G8.out)
  simp only at g0 g1 g2 g3
  obtain ⟨f0, f1, f2, f3⟩ := Rs.box (w := ((w8).alloc (.cells #[.int .u64 (ys : Int), .int .i64 yk, .int .i64 yl, .slice yA yn yc] 35))) (x := ⟨xs, xk, xl, xA, xn, xc, xd⟩) ((K8.out).alloc _)
  simp only at f0 f1 f2 f3
  have AY := Lib.hid (show At (((w8).alloc (.cells #[.int .u64 (ys : Int), .int .i64 yk, .int .i64 yl, .slice yA yn yc] 35)).alloc (.cells #[.int .u64 (xs : Int), .int .i64 xk, .int .i64 xl, .slice xA xn xc] 35)) (w8.heap.size) #[.int .u64 (ys : Int), .int .i64 yk, .int .i64 yl, .slice yA yn yc] 35 from (At.new _ 35 (by simp)).alloc _)
  have AX := Lib.hid (show At (((w8).alloc (.cells #[.int .u64 (ys : Int), .int .i64 yk, .int .i64 yl, .slice yA yn yc] 35)).alloc (.cells #[.int .u64 (xs : Int), .int .i64 xk, .int .i64 xl, .slice xA xn xc] 35)) (w8.heap.size + 1) #[.int .u64 (xs : Int), .int .i64 xk, .int .i64 xl, .slice xA xn xc] 35 from At.new _ 35 (by simp))
  have BT := Lib.hid (two_new (w8) (.cells #[.int .u64 (ys : Int), .int .i64 yk, .int .i64 yl, .slice yA yn yc] 35) (.cells #[.int .u64 (xs : Int), .int .i64 xk, .int .i64 xl, .slice xA xn xc] 35))
  have TY := Lib.hid (Rs.single (x := ⟨ys, yk, yl, yA, yn, yc, yd⟩) AY.out ((Y8.out).below BT.out))
  have TX := Lib.hid (Rs.single (x := ⟨xs, xk, xl, xA, xn, xc, xd⟩) AX.out ((X8.out).below BT.out))
  have BZ := Lib.hid ((B8.out).trans (BT.out.mono (B8.out).size))
  go_wp2_with fail
  refine (same_yes (some ⟨w8.heap.size, 0, none⟩) (some ⟨w8.heap.size + 1, 0, none⟩) 1 1 1 [⟨ys, yk, yl, yA, yn, yc, yd⟩] [⟨xs, xk, xl, xA, xn, xc, xd⟩] _ (by omega) TY.out TX.out (by simp only [List.map_cons, List.map_nil]; rw [EQ.out])).mono ?_
  rintro e w9 ⟨rfl, q, rfl⟩
  have BE := Lib.hid (BZ.out.trans ((below_drewN _ q).mono BZ.out.size))
  go_wp2
  go_ret
  exact ⟨rfl, BE.out⟩

end Go.Proofs.Ytclbiidgggdniaa
