/-
  THE WALK OF StageBatches.
-/
import Derived.Test.YtclbiidgggdniaaContains
import Derived.Test.YtclbiidgggdniaaBatch
import Derived.Deep.CutRange
import Derived.Deep.CutBlock
import Derived.Deep.DeepCutAuto
import Derived.BigQuiet
namespace Go.Proofs.Ytclbiidgggdniaa
open Go.RowKit
set_option linter.unusedVariables false
set_option maxRecDepth 100000

theorem batch_done {M G : List Rc} {k K u : Nat} {x : Rc} {b : Bool} (hk : k < M.length) (hx : M[k] = x) (hu : Up Rr.seq (M.map Rc.abs)) (h0 : 0 < K) (hK : K ≤ (vw Rr.lba (M.map Rc.abs)).length)
    (hG : G.map Rc.abs = (vw Rr.lba (M.map Rc.abs)).take K) (he : u = upTo Rr.lba Rr.seq (M.map Rc.abs) K) (hle : x.seq ≤ u) (hb : b = true ↔ ∃ s ∈ G, s.seq = x.seq) : free Rc.lba x.lba (M.drop (k + 1)) = b := by
  have hi : k < (M.map Rc.abs).length := by simpa using hk
  have e : (M.map Rc.abs)[k] = x.abs := by simp [hx]
  have h := vw_done (f := Rr.lba) (g := Rr.seq) (l := M.map Rc.abs) (m := K) (i := k) hi hu h0 hK (by rw [e, ← he]; exact hle)
  rw [e, free_abs, ← hG] at h
  rw [Bool.eq_iff_iff, h, hb]
  constructor
  · rintro ⟨s, hs, e⟩
    obtain ⟨r, hr, rfl⟩ := List.mem_map.1 hs
    exact ⟨r, hr, e⟩
  · rintro ⟨r, hr, e⟩
    exact ⟨r.abs, List.mem_map.2 ⟨r, hr, rfl⟩, e⟩
/-- What was there is as it was. -/
structure Bst (w wr : World) : Prop where
  bel : Below w.heap.size w wr
theorem Bst.up {w wr w2 : World} (h : Bst w wr) (hb : Below wr.heap.size wr w2) : Bst w w2 := ⟨h.bel.trans (hb.mono h.bel.size)⟩
set_option maxHeartbeats 6400000 in
theorem stageBatches_walk (A : Option Addr) (n c : Nat) (L : List It) (a J : Int) (w : World) (h : Items w A n c L) (ha : 0 ≤ a ∧ a ≤ 65535) (hJ : -128 ≤ J ∧ J ≤ 127) : Calls Try.prog 5 #[.slice A n c, .int .u16 a, .int .i8 J] w fun e w' => e = .returned (.bool true) ∧ Below w.heap.size w w' := by
  obtain ⟨f, rfl⟩ : ∃ f : Nat, a = (f : Int) := ⟨a.toNat, by omega⟩
  have hmax := fun (w : World) => run_max2 (P := Try.prog) w #[3, 3] 3 J 0 (max J 0) rfl
  have H := Lib.hid h
  clear h
  go_enter Try.func5, Try.ntmps5
  go_wp2_with fail
  refine (awake_any w).mono ?_
  rintro e w0 ⟨rfl, hb0⟩
  have B0 := Lib.hid hb0
  clear hb0
  by_cases hbig : 60 < n
  · have hbi : (60 : Int) < (n : Int) := by omega
    go_wp2
    go_ret
    exact ⟨rfl, B0.out⟩
  have hbi : ¬ (60 : Int) < (n : Int) := by omega
  go_wp2_with fail
  refine (make_any A n c L f w0 (by omega) (by omega) (H.out.below B0.out)).mono ?_
  rintro e w1 ⟨v, M, rfl, hR, hM, hl, hb⟩
  obtain ⟨A1, c1, rfl, hc1, hcm, hs, _⟩ := hR.form
  rw [hl] at hs hc1
  rw [hl]
  have B1 := Lib.hid (B0.out.trans (hb.mono B0.out.size))
  have X1 := Lib.hid hs
  have M1 := Lib.hid hM
  clear hb hs hM hR hl
  have HU := Lib.hid (show Up Rr.seq (M.map Rc.abs) by rw [M1.out]; exact recs_up f L)
  go_wp2_with fail
  refine (batch_any A1 n c1 M J w1 (by omega) X1.out).mono ?_
  rintro e w2 ⟨Ag, cg, G, u, rfl, hG, hGe, _, hu0, hu1, hb⟩
  have B2 := Lib.hid (B1.out.trans (hb.mono B1.out.size))
  have X2 := Lib.hid (X1.out.below hb)
  have G2 := Lib.hid hG
  have GE := Lib.hid hGe
  have U0 := Lib.hid hu0
  have U1 := Lib.hid hu1
  clear hb hG hGe hu0 hu1
  go_wp2_with fail
  refine (lview_any A1 n c1 M w2 (by omega) X2.out hc1 hcm).mono ?_
  rintro e w3 ⟨v, rfl, hR, hb⟩
  have B3 := Lib.hid (B2.out.trans (hb.mono B2.out.size))
  have X3 := Lib.hid (X2.out.below hb)
  have G3 := Lib.hid (G2.out.below hb)
  obtain ⟨A3, c3, rfl, hc3, _, hs⟩ := hR.rs
  obtain ⟨V, hV⟩ : ∃ V, vw Rc.lba M = V := ⟨_, rfl⟩
  rw [hV] at hs hc3 ⊢
  have VE := Lib.hid (show V.map Rc.abs = vw Rr.lba (M.map Rc.abs) by rw [← hV]; exact abs_vw M)
  have VL := Lib.hid (show (vw Rr.lba (M.map Rc.abs)).length = V.length by rw [← VE.out]; simp)
  have V3 := Lib.hid hs
  have hv : V.length ≤ 1000 := by have h1 := vw_len Rc.lba M; have h2 := X1.out.len; rw [hV] at h1; omega
  have hmin := fun (w : World) => run_min2 (P := Try.prog) w #[3, 3] 3 V.length (max J 0) (many J V.length : Int) ((many_eq J V.length).trans (by omega))
  have LE := Lib.hid (many_le J V.length)
  clear hR hb hs hV
  generalize hq : many J V.length = K at *
  have GL := Lib.hid (show G.length = K by
    have h1 := congrArg List.length GE.out
    rw [VL.out, hq, List.length_map, List.length_take, VL.out] at h1
    have := LE.out
    omega)
  have GK := Lib.hid (show G.map Rc.abs = (vw Rr.lba (M.map Rc.abs)).take K by rw [GE.out, VL.out, hq])
  have SK := Lib.hid (show G.map Rc.abs = (V.take K).map Rc.abs by rw [GK.out, ← VE.out, List.map_take])
  have V4 := Lib.hid (V3.out.take K LE.out)
  have hKc : K ≤ c3 := Nat.le_trans LE.out hc3
  have hK1 : K ≤ 1000 := Nat.le_trans LE.out hv
  rw [GL.out] at U0 U1 G3 ⊢
  clear hq GE
  generalize max J 0 = X at *
  generalize hm : V.length = m at *
  have HM := Lib.hid hm
  clear hm
  go_wp2_with fail
  refine (same_yes Ag A3 K cg c3 G (V.take K) w3 (by omega) G3.out V4.out SK.out).mono ?_
  rintro e w4 ⟨rfl, q, rfl⟩
  have B4 := Lib.hid (B3.out.trans ((below_drewN w3 q).mono B3.out.size))
  have X4 := Lib.hid (X3.out.below (below_drewN w3 q))
  have G4 := Lib.hid (G3.out.below (below_drewN w3 q))
  have V5 := Lib.hid (V4.out.below (below_drewN w3 q))
  generalize w3.drewN q = w4 at *
  rcases Nat.eq_zero_or_pos K with h0 | h0
  · subst h0
    have hu : u = 0 := U0.out rfl
    subst hu
    go_wp2
    go_ret
    exact ⟨rfl, B4.out⟩
  · have K0 := Lib.hid h0
    obtain ⟨p, rfl⟩ : ∃ p, K = p + 1 := ⟨K - 1, by omega⟩
    obtain ⟨g3, o3, rfl, _, hl3, z, hz, _, z0, _⟩ := V5.out.one (k := p) (by omega)
    have hzu : z.seq = u := by
      have h1 := U1.out (by omega)
      rw [h1]
      unfold upTo
      rw [← VE.out, Nat.add_sub_cancel, List.getElem?_map]
      rw [List.getElem_take] at hz
      rw [List.getElem?_eq_getElem (by have := LE.out; have := HM.out; omega), hz]
      rfl
    rw [hzu] at z0
    clear hz hzu hl3
    have hne : ((u : Int) != (u : Int)) = false := by simp
    go_wp2_with fail
    clear z0 V4 V5
    go_loopw [62] (fun i wr => ∃ k : Nat, k ≤ n ∧ i = .int .i64 k ∧ Bst w4 wr) (fun i _ => n - (intOf i).toNat)
    case atStart => exact ⟨0, Nat.zero_le _, rfl, ⟨Below.refl _ _⟩⟩
    case round =>
      obtain ⟨k, hk, rfl, hV⟩ := hrel
      have VV := Lib.hid hV
      by_cases hlt : k < n
      · obtain ⟨g, off, rfl, hgl, hl, x, hx, ox, q0, q1, q2, q3⟩ := (X4.out.below hV.bel).one hlt
        have HX := Lib.hid hx
        have R4 := Lib.hid ((X4.out.below hV.bel).below (below_new wr (.cells (lit x.seq x.kind x.lba x.A x.n x.c) 35)))
        have V4 := Lib.hid (hV.up (below_new wr (.cells (lit x.seq x.kind x.lba x.A x.n x.c) 35)))
        have D4 := Lib.hid (At.new (w := wr) (lit x.seq x.kind x.lba x.A x.n x.c) 35 rfl)
        clear hV hx ox
        obtain ⟨xs, xk, xl, xA, xn, xc, xd⟩ := x
        simp only at q0 q1 q2 q3 V4 D4 R4
        have hk1 : k + 1 ≤ c1 := by omega
        unfold lit at V4 D4 R4
        go_upto_region 18 with (fail)
        clear q0 q1 q2 q3
        generalize wr.alloc (.cells #[.int .u64 (xs : Int), .int .i64 xk, .int .i64 xl, .slice xA xn xc] 35) = W at *
        generalize wr.heap.size = X at *
        go_upto_region 19 with (fail)
        have WB := Lib.hid (show w4.heap.size ≤ W.heap.size from V4.out.bel.size)
        go_cut [70, 71, 72] (fun s19 s20 s21 wd => ∃ (A2 : Option Addr) (m c2 : Nat), s19 = .slice A2 m c2 ∧ s20 = .int .i64 (m : Int) ∧ s21 = .int .i64 0 ∧ Rs W A2 m (M.drop (k + 1)) ∧ wd = W)
        case first =>
          by_cases hck : c1 = k + 1
          · have R0 := Lib.hid (show Rs W (some ⟨g, off, none⟩) (n - (k + 1)) (M.drop (k + 1)) from R4.out.drop (k + 1) (by omega) (fun h => absurd h (by omega)))
            go_wp2_with fail
            go_meet
            exact ⟨_, _, _, rfl, rfl, rfl, R0.out, rfl⟩
          · have R0 := Lib.hid (show Rs W (some ⟨g, off + (k + 1) * 4, none⟩) (n - (k + 1)) (M.drop (k + 1)) from R4.out.drop (k + 1) (by omega) (fun _ => rfl))
            go_wp2_with fail
            go_meet
            exact ⟨_, _, _, rfl, rfl, rfl, R0.out, rfl⟩
        case rest =>
          obtain ⟨A2, N, c2, rfl, rfl, rfl, hR, hw⟩ := hcut
          subst hw
          have RR := Lib.hid hR
          have NL := Lib.hid hR.len
          have hN1 : N ≤ 1000 := by have h1 := hR.len; rw [List.length_drop] at h1; have := X1.out.len; omega
          clear hR
          go_wp2_with fail
          go_loopw [13, 72] (fun s i wy => ∃ m : Nat, m ≤ N ∧ i = .int .i64 m ∧ s = .bool (free Rc.lba xl ((M.drop (k + 1)).take m)) ∧ Below wc.heap.size wc wy) (fun _ i _ => N - (intOf i).toNat)
          case atStart => exact ⟨0, Nat.zero_le _, rfl, rfl, Below.refl _ _⟩
          case round =>
            obtain ⟨m, hm, rfl, rfl, hbm⟩ := hrel
            have BM := Lib.hid hbm
            by_cases hlm : m < N
            · obtain ⟨g2, o2, rfl, hgl2, hl2, y, hy, oy, r0, r1, r2, r3⟩ := (RR.out.below hbm).one hlm
              have D5 := D4.out.below hbm D4.out.lt
              have FN := Lib.hid (free_next xl (M.drop (k + 1)) m (by rw [NL.out]; exact hlm))
              rw [hy] at FN
              obtain ⟨ys, yk, yl, yA, yn, yc, yd⟩ := y
              simp only at r0 r1 r2 r3 FN
              have BN := Lib.hid (hbm.trans ((below_new wr (.cells #[.int .u64 (ys : Int), .int .i64 yk, .int .i64 yl, .slice yA yn yc] 35)).mono hbm.size))
              have E5 := At.new (w := wr) #[.int .u64 (ys : Int), .int .i64 yk, .int .i64 yl, .slice yA yn yc] 35 rfl
              have e2 := E5.cell 2
              have d2 := (D5.alloc (.cells #[.int .u64 (ys : Int), .int .i64 yk, .int .i64 yl, .slice yA yn yc] 35)).cell 2
              simp at e2 d2
              clear hbm hy oy D5 E5
              cases hb : free Rc.lba xl ((M.drop (k + 1)).take m) with
              | false =>
                rw [hb, Bool.false_and] at FN
                have FB := Lib.hid hb
                clear hb
                go_wp2_with fail
                go_roundw
                case rel => exact ⟨m + 1, by omega, by go_num, by rw [FN.out], BN.out⟩
                case measure => simp [intOf]; omega
              | true =>
                rw [hb, Bool.true_and] at FN
                have FB := Lib.hid hb
                clear hb
                by_cases hne : yl = xl
                · have hn0 : (yl != xl) = false := by simp [hne]
                  rw [decide_eq_false (fun h => h hne)] at FN
                  have HNE := Lib.hid hne
                  clear hne
                  go_wp2_with fail
                  go_roundw
                  case rel => exact ⟨m + 1, by omega, by go_num, by rw [FN.out], BN.out⟩
                  case measure => simp [intOf]; omega
                · have hn0 : (yl != xl) = true := bne_iff_ne.mpr hne
                  rw [decide_eq_true hne] at FN
                  have HNE := Lib.hid hne
                  clear hne
                  go_wp2_with fail
                  go_roundw
                  case rel => exact ⟨m + 1, by omega, by go_num, by rw [FN.out], BN.out⟩
                  case measure => simp [intOf]; omega
            · obtain rfl : m = N := by omega
              have V5 := Lib.hid (V4.out.up hbm)
              have D5 := Lib.hid (D4.out.below hbm D4.out.lt)
              have B5 := Lib.hid hbm
              clear hbm
              rw [List.take_of_length_le (by rw [NL.out]; exact Nat.le_refl _)]
              have GW := Lib.hid (G4.out.below V5.out.bel)
              have BW := Lib.hid (B4.out.trans (V5.out.bel.mono B4.out.size))
              go_wp2_with fail
              refine (contains_any xs xk xl xA xn xc X Ag (p + 1) cg G wr hK1 GW.out D5.out).mono ?_
              rintro e w7 ⟨b, rfl, hb, hbw⟩
              have HB := Lib.hid hb
              have V7 := Lib.hid (V5.out.up hbw)
              have d0 := (D5.out.below hbw D5.out.lt).cell 0
              simp at d0
              clear hb hbw
              by_cases hle : xs ≤ u
              · have hi : (xs : Int) ≤ (u : Int) := by omega
                have FB := Lib.hid (batch_done (x := ⟨xs, xk, xl, xA, xn, xc, xd⟩) hl HX.out HU.out K0.out (by rw [VL.out]; have := LE.out; have := HM.out; omega) GK.out (U1.out (by omega)) hle HB.out)
                have hbb : (b != b) = false := by simp
                rw [show free Rc.lba xl (M.drop (k + 1)) = b from FB.out]
                go_wp2_with fail
                go_roundw
                case rel => (repeat apply Exists.intro); exact ⟨⟨k + 1, by omega, by go_num, V7.out⟩, rfl⟩
                case measure => simp [intOf]; omega
              · have hi : ¬ (xs : Int) ≤ (u : Int) := by omega
                go_wp2_with fail
                go_roundw
                case rel => (repeat apply Exists.intro); exact ⟨⟨k + 1, by omega, by go_num, V7.out⟩, rfl⟩
                case measure => simp [intOf]; omega
      · obtain rfl : k = n := by omega
        have BW := Lib.hid (B4.out.trans (hV.bel.mono B4.out.size))
        clear hV
        go_wp2
        go_ret
        exact ⟨rfl, BW.out⟩
end Go.Proofs.Ytclbiidgggdniaa
