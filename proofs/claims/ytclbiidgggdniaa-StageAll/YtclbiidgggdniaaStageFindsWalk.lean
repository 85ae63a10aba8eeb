/-
  THE WALK OF StageFinds.
-/
import Derived.Test.YtclbiidgggdniaaStageViewsWalk
import Derived.Test.YtclbiidgggdniaaFind
import Derived.Deep.CutRange
namespace Go.Proofs.Ytclbiidgggdniaa
open Go.RowKit
set_option linter.unusedVariables false
set_option maxRecDepth 100000

theorem make_one (A : Option Addr) (n c : Nat) (L : List It) (w : World) (hn : n ≤ 1000) (h : Items w A n c L) :
    Calls Try.prog 9 #[.slice A n c, .int .u16 1] w fun e w' => ∃ v M, e = .returned v ∧ Rw w' w.heap.size v M ∧ M.map Rc.abs = recs 1 L ∧ M.length = n ∧ Below w.heap.size w w' := make_any A n c L 1 w hn (by omega) h
theorem Rs.box {w : World} {g : Nat} {x : Rc} (h : At w g (lit x.seq x.kind x.lba x.A x.n x.c) 35) : w.cell? ⟨g, 0, none⟩ = some (.int .u64 (x.seq : Int)) ∧ w.cell? ⟨g, 1, none⟩ = some (.int .i64 x.kind) ∧ w.cell? ⟨g, 2, none⟩ = some (.int .i64 x.lba) ∧ w.cell? ⟨g, 3, none⟩ = some (.slice x.A x.n x.c) :=
  ⟨h.cell 0, h.cell 1, h.cell 2, h.cell 3⟩
theorem none_left {V : List Rc} {M : List Rc} {J : Int} (hV : V = vw Rc.lba M) (h : ∀ r ∈ V, r.lba ≠ J) : fl Rr.lba J (M.map Rc.abs) = none := by
  subst hV
  rw [fl_abs, fl_none]
  · rfl
  · rw [← free_vw, free_iff]
    exact h
theorem one_left {V : List Rc} {M : List Rc} {y : Rc} (hV : V = vw Rc.lba M) (h : y ∈ V) : fl Rr.lba y.lba (M.map Rc.abs) = some y.abs := by
  subst hV
  rw [fl_abs, fl_of_vw h]
  rfl
set_option maxHeartbeats 3200000 in
theorem stageFinds_walk (A : Option Addr) (n c : Nat) (L : List It) (J : Int) (w : World) (h : Items w A n c L) (hJ : -128 ≤ J ∧ J ≤ 127) : Calls Try.prog 4 #[.slice A n c, .int .i8 J] w fun e w' => e = .returned (.bool true) ∧ Below w.heap.size w w' := by
  have H := Lib.hid h
  clear h
  go_enter Try.func4, Try.ntmps4
  go_wp2_with fail
  refine (awake_any w).mono ?_
  rintro e w0 ⟨rfl, hb0⟩
  have B0 := Lib.hid hb0
  clear hb0
  by_cases hbig : 60 < n
  · have hbi : (60 : Int) < (n : Int) := by omega
    go_wp2
    go_ret
    exact ⟨rfl, B0.out⟩
  have hbi : ¬ (60 : Int) < (n : Int) := by omega
  go_wp2_with fail
  refine (make_one A n c L w0 (by omega) (H.out.below B0.out)).mono ?_
  rintro e w1 ⟨v, M, rfl, hR, hM, hl, hb⟩
  obtain ⟨A1, c1, rfl, hc1, hcm, hs, _⟩ := hR.form
  rw [hl] at hs hc1
  rw [hl]
  have B1 := Lib.hid (B0.out.trans (hb.mono B0.out.size))
  have X1 := Lib.hid hs
  have M1 := Lib.hid hM
  clear hb hs hM hR hl
  go_wp2_with fail
  refine (find_any A1 n c1 M J w1 (by omega) X1.out (by unfold InU; omega)).mono ?_
  rintro e w2 ⟨y, rfl, hy, hya, hb⟩
  have B2 := Lib.hid (B1.out.trans (hb.mono B1.out.size))
  have X2 := Lib.hid (X1.out.below hb)
  obtain ⟨o, ho⟩ : ∃ o, fl Rr.lba J (M.map Rc.abs) = o := ⟨_, rfl⟩
  rw [ho] at hya ⊢
  have OO := Lib.hid ho
  have YA := Lib.hid hya
  obtain ⟨ok, hok⟩ : ∃ ok, o.isSome = ok := ⟨_, rfl⟩
  rw [hok]
  have OK := Lib.hid hok
  have Y2 := Lib.hid hy
  clear hb ho hya hok hy
  obtain ⟨ys, yk, yl, yA, yn, yc, yd⟩ := y
  have B3 := Lib.hid (B2.out.alloc B2.out.size (.cells (lit ys yk yl yA yn yc) 35))
  have X3 := Lib.hid (X2.out.below (below_new w2 (.cells (lit ys yk yl yA yn yc) 35)))
  have Y3 := Lib.hid (Y2.out.below (below_new w2 (.cells (lit ys yk yl yA yn yc) 35)))
  have G3 := Lib.hid (At.new (w := w2) (lit ys yk yl yA yn yc) 35 rfl)
  unfold lit at B3 X3 Y3 G3
  unfold lit
  go_wp2_with fail
  generalize w2.alloc (.cells #[.int .u64 (ys : Int), .int .i64 yk, .int .i64 yl, .slice yA yn yc] 35) = w3 at *
  generalize w2.heap.size = gb at *
  refine (lview_any A1 n c1 M w3 (by omega) X3.out hc1 hcm).mono ?_
  rintro e w4 ⟨v, rfl, hR, hb⟩
  have B4 := Lib.hid (B3.out.trans (hb.mono B3.out.size))
  have Y4 := Lib.hid (Y3.out.below hb)
  have G4 := Lib.hid (G3.out.below hb G3.out.lt)
  obtain ⟨A3, c3, rfl, _, _, hs⟩ := hR.rs
  obtain ⟨V, hV⟩ : ∃ V, vw Rc.lba M = V := ⟨_, rfl⟩
  rw [hV] at hs ⊢
  have VE := Lib.hid hV
  have V4 := Lib.hid hs
  have hv : V.length ≤ 1000 := by have h1 := vw_len Rc.lba M; have h2 := X1.out.len; rw [hV] at h1; omega
  clear hR hb hs hV
  generalize hm : V.length = m at *
  have HM := Lib.hid hm
  clear hm
  go_wp2_with fail
  go_loopw [27] (fun i wr => ∃ k : Nat, k ≤ m ∧ i = .int .i64 k ∧ (∀ r ∈ V.take k, r.lba ≠ J) ∧ Below w4.heap.size w4 wr) (fun i _ => m - (intOf i).toNat)
  case atStart => exact ⟨0, Nat.zero_le _, rfl, fun r hr => (by simp at hr), Below.refl _ _⟩
  case round =>
    obtain ⟨k, hk, rfl, hno, hbw⟩ := hrel
    have NO := Lib.hid hno
    have BW := Lib.hid hbw
    by_cases hlt : k < m
    · obtain ⟨g2, o2, rfl, hgl2, hl2, x, hx, ox, r0, r1, r2, r3⟩ := (V4.out.below hbw).one hlt
      have XM := Lib.hid (show x ∈ V from by rw [← hx]; exact List.getElem_mem hl2)
      have HX := Lib.hid hx
      have OX := Lib.hid ox
      obtain ⟨xs, xk, xl, xA, xn, xc, xd⟩ := x
      simp only at r0 r1 r2 r3
      have BN := Lib.hid (hbw.trans ((below_new wr (.cells #[.int .u64 (xs : Int), .int .i64 xk, .int .i64 xl, .slice xA xn xc] 35)).mono hbw.size))
      have E5 := Lib.hid (At.new (w := wr) #[.int .u64 (xs : Int), .int .i64 xk, .int .i64 xl, .slice xA xn xc] 35 rfl)
      have e2 := E5.out.cell 2
      simp at e2
      clear hno hbw hx ox
      by_cases he : xl = J
      · subst he
        have heq : (xl == xl) = true := by simp
        have e1 : o = some ⟨xs, xk, xl, xd⟩ := OO.out.symm.trans (one_left VE.out.symm XM.out)
        obtain rfl : ok = true := by rw [← OK.out, e1]; rfl
        have EQ := Lib.hid (show Rc.abs ⟨ys, yk, yl, yA, yn, yc, yd⟩ = Rc.abs ⟨xs, xk, xl, xA, xn, xc, xd⟩ by rw [YA.out, e1]; rfl)
        have BX := Lib.hid (B4.out.trans (BN.out.mono B4.out.size))
        clear e1
        obtain ⟨g0, g1, g2, g3⟩ := Rs.box (x := ⟨ys, yk, yl, yA, yn, yc, yd⟩) (G4.out.below BN.out G4.out.lt)
        simp only at g0 g1 g2 g3
        obtain ⟨f0, f1, f2, f3⟩ := Rs.box (w := ((wr.alloc (.cells #[.int .u64 (xs : Int), .int .i64 xk, .int .i64 xl, .slice xA xn xc] 35)).alloc (.cells #[.int .u64 (ys : Int), .int .i64 yk, .int .i64 yl, .slice yA yn yc] 35))) (x := ⟨xs, xk, xl, xA, xn, xc, xd⟩) ((E5.out).alloc _)
        simp only at f0 f1 f2 f3
        have AY := Lib.hid (show At (((wr.alloc (.cells #[.int .u64 (xs : Int), .int .i64 xk, .int .i64 xl, .slice xA xn xc] 35)).alloc (.cells #[.int .u64 (ys : Int), .int .i64 yk, .int .i64 yl, .slice yA yn yc] 35)).alloc (.cells #[.int .u64 (xs : Int), .int .i64 xk, .int .i64 xl, .slice xA xn xc] 35)) (wr.heap.size + 1) #[.int .u64 (ys : Int), .int .i64 yk, .int .i64 yl, .slice yA yn yc] 35 from (At.new _ 35 (by simp)).alloc _)
        have AX := Lib.hid (show At (((wr.alloc (.cells #[.int .u64 (xs : Int), .int .i64 xk, .int .i64 xl, .slice xA xn xc] 35)).alloc (.cells #[.int .u64 (ys : Int), .int .i64 yk, .int .i64 yl, .slice yA yn yc] 35)).alloc (.cells #[.int .u64 (xs : Int), .int .i64 xk, .int .i64 xl, .slice xA xn xc] 35)) (wr.heap.size + 1 + 1) #[.int .u64 (xs : Int), .int .i64 xk, .int .i64 xl, .slice xA xn xc] 35 from At.new _ 35 (by simp))
        have BT := Lib.hid (two_new (wr.alloc (.cells #[.int .u64 (xs : Int), .int .i64 xk, .int .i64 xl, .slice xA xn xc] 35)) (.cells #[.int .u64 (ys : Int), .int .i64 yk, .int .i64 yl, .slice yA yn yc] 35) (.cells #[.int .u64 (xs : Int), .int .i64 xk, .int .i64 xl, .slice xA xn xc] 35))
        have TY := Lib.hid (Rs.single (x := ⟨ys, yk, yl, yA, yn, yc, yd⟩) AY.out ((Y4.out.below BN.out).below BT.out))
        have TX := Lib.hid (Rs.single (x := ⟨xs, xk, xl, xA, xn, xc, xd⟩) AX.out ((OX.out.below (below_new _ _)).below BT.out))
        have BZ := Lib.hid ((BX.out).trans (BT.out.mono (BX.out).size))
        go_wp2_with fail
        refine (same_yes (some ⟨wr.heap.size + 1, 0, none⟩) (some ⟨wr.heap.size + 1 + 1, 0, none⟩) 1 1 1 [⟨ys, yk, yl, yA, yn, yc, yd⟩] [⟨xs, xk, xl, xA, xn, xc, xd⟩] _ (by omega) TY.out TX.out (by simp only [List.map_cons, List.map_nil]; rw [EQ.out])).mono ?_
        rintro e w9 ⟨rfl, q, rfl⟩
        have BE := Lib.hid (BZ.out.trans ((below_drewN _ q).mono BZ.out.size))
        go_wp2
        go_ret
        exact ⟨rfl, BE.out⟩
      · have hne : (xl == J) = false := by simp [he]
        have NE := Lib.hid he
        clear he
        go_wp2_with fail
        go_roundw
        case rel =>
          refine ⟨k + 1, by omega, by go_num, fun r hr => ?_, BN.out⟩
          rw [List.take_succ_eq_append_getElem hl2, HX.out] at hr
          rcases List.mem_append.1 hr with hr | hr
          · exact NO.out r hr
          · simp at hr; subst hr; exact NE.out
        case measure => simp [intOf]; omega
    · obtain rfl : k = m := by omega
      have NO2 := NO.out
      rw [← HM.out, List.take_of_length_le (Nat.le_refl _)] at NO2
      have e1 : o = none := OO.out.symm.trans (none_left VE.out.symm NO2)
      obtain rfl : ok = false := by rw [← OK.out, e1]; rfl
      have EQ := Lib.hid (show Rc.abs ⟨ys, yk, yl, yA, yn, yc, yd⟩ = Rc.abs ⟨0, 0, 0, none, 0, 0, []⟩ by rw [YA.out, e1]; rfl)
      have BX := Lib.hid (B4.out.trans (hbw.mono B4.out.size))
      clear e1 NO2 hno hbw
      obtain ⟨g0, g1, g2, g3⟩ := Rs.box (x := ⟨ys, yk, yl, yA, yn, yc, yd⟩) (G4.out.below BW.out G4.out.lt)
      simp only at g0 g1 g2 g3
      have AY := Lib.hid (show At (((wr).alloc (.cells #[.int .u64 (ys : Int), .int .i64 yk, .int .i64 yl, .slice yA yn yc] 35)).alloc (.cells #[.int .u64 0, .int .i64 0, .int .i64 0, .slice none 0 0] 35)) (wr.heap.size) #[.int .u64 (ys : Int), .int .i64 yk, .int .i64 yl, .slice yA yn yc] 35 from (At.new _ 35 (by simp)).alloc _)
      have AX := Lib.hid (show At (((wr).alloc (.cells #[.int .u64 (ys : Int), .int .i64 yk, .int .i64 yl, .slice yA yn yc] 35)).alloc (.cells #[.int .u64 0, .int .i64 0, .int .i64 0, .slice none 0 0] 35)) (wr.heap.size + 1) #[.int .u64 0, .int .i64 0, .int .i64 0, .slice none 0 0] 35 from At.new _ 35 (by simp))
      have BT := Lib.hid (two_new (wr) (.cells #[.int .u64 (ys : Int), .int .i64 yk, .int .i64 yl, .slice yA yn yc] 35) (.cells #[.int .u64 0, .int .i64 0, .int .i64 0, .slice none 0 0] 35))
      have TY := Lib.hid (Rs.single (x := ⟨ys, yk, yl, yA, yn, yc, yd⟩) AY.out ((Y4.out.below BW.out).below BT.out))
      have TX := Lib.hid (Rs.single (x := ⟨0, 0, 0, none, 0, 0, []⟩) AX.out (((show Ok wr ⟨0, 0, 0, none, 0, 0, []⟩ from ⟨Has.nil _ _, by simp, by simp, by simp⟩)).below BT.out))
      have BZ := Lib.hid ((BX.out).trans (BT.out.mono (BX.out).size))
      go_wp2_with fail
      refine (same_yes (some ⟨wr.heap.size, 0, none⟩) (some ⟨wr.heap.size + 1, 0, none⟩) 1 1 1 [⟨ys, yk, yl, yA, yn, yc, yd⟩] [⟨0, 0, 0, none, 0, 0, []⟩] _ (by omega) TY.out TX.out (by simp only [List.map_cons, List.map_nil]; rw [EQ.out])).mono ?_
      rintro e w9 ⟨rfl, q, rfl⟩
      have BE := Lib.hid (BZ.out.trans ((below_drewN _ q).mono BZ.out.size))
      go_wp2
      go_ret
      exact ⟨rfl, BE.out⟩
end Go.Proofs.Ytclbiidgggdniaa
