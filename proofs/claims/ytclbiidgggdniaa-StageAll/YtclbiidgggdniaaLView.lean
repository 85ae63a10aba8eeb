/-
  THE WALK OF THE LAW's OWN View.
-/
import Derived.Test.YtclbiidgggdniaaSView
import Derived.Deep.CutRange
import Derived.Deep.CutBlock
import Derived.Deep.DeepCutAuto
namespace Go.Proofs.Ytclbiidgggdniaa
open Go.RowKit
set_option linter.unusedVariables false
set_option maxRecDepth 100000

/-- The view as far as the first k records. -/
structure Lst (w wr : World) (L : List Rc) (k : Nat) (v : Value) (M : List Rc) : Prop where
  rw : Rw wr w.heap.size v M
  out : M ++ vw Rc.lba (L.drop k) = vw Rc.lba L
  bel : Below w.heap.size w wr
  len : M.length ≤ k
section
variable {w wr : World} {L M : List Rc} {k : Nat} {v : Value}
theorem Lst.start (w : World) (L : List Rc) : Lst w w L 0 (.slice none 0 0) [] := ⟨Rw.nil _ _, rfl, Below.refl _ _, Nat.le_refl _⟩
theorem Lst.up {w2 : World} (h : Lst w wr L k v M) (hb : Below wr.heap.size wr w2) : Lst w w2 L k v M := ⟨h.rw.up hb, h.out, h.bel.trans (hb.mono h.bel.size), h.len⟩
theorem Lst.skip {x : Rc} (h : Lst w wr L k v M) (hk : k < L.length) (hx : L[k] = x) (hf : free Rc.lba x.lba (L.drop (k + 1)) = false) : Lst w wr L (k + 1) v M := by
  refine ⟨h.rw, ?_, h.bel, Nat.le_succ_of_le h.len⟩
  rw [← h.out, vw_no hk hx hf]
theorem Lst.take {w2 : World} {x : Rc} {A : Option Addr} {c : Nat} (h : Lst w wr L k v M) (hk : k < L.length) (hx : L[k] = x) (hf : free Rc.lba x.lba (L.drop (k + 1)) = true)
    (hown : w2.ownsRow w.heap.size 35 4 (.slice A (M.length + 1) c) (M.length + 1) (flat (M ++ [x]))) (hg : wr.grownBy w2 v.ownBlock) (hn : ∀ g, (Value.slice A (M.length + 1) c).ownBlock = some g → v.ownBlock = some g ∨ wr.heap.size ≤ g)
    (ho : Ok w x) : Lst w w2 L (k + 1) (.slice A (M.length + 1) c) (M ++ [x]) := by
  have bt : But (fun k => v.ownBlock = some k) wr w2 := (But.refl _ _).grown hg (fun k hk _ => hk)
  refine ⟨h.rw.push hown hg hn (fun y hy => by simp at hy; subst hy; exact ho.below h.bel) (fun y hy h0 a haa e => ?_), ?_, h.bel.trans (bt.below (fun i e => (h.rw.own.lt i e).1) h.bel.size), by simp; exact h.len⟩
  · simp at hy; subst hy
    have := (h.rw.own.lt _ e).1
    have := ho.has.low h0 a haa
    omega
  · rw [← h.out, vw_yes hk hx hf]
    simp
theorem Lst.done (h : Lst w wr L L.length v M) : M = vw Rc.lba L := by
  rw [← h.out, List.drop_eq_nil_of_le (Nat.le_refl _)]
  simp [vw]
end
theorem free_next (k : Int) (l : List Rc) (m : Nat) (hm : m < l.length) : free Rc.lba k (l.take (m + 1)) = (free Rc.lba k (l.take m) && decide (l[m].lba ≠ k)) := by
  rw [List.take_succ_eq_append_getElem hm]
  unfold free
  rw [List.all_append]
  simp

set_option maxHeartbeats 1600000 in
theorem lview_any (A : Option Addr) (n c : Nat) (L : List Rc) (w : World) (hn : n ≤ 1000) (h : Rs w A n L) (hc : n ≤ c) (hcm : c ≤ maxLen) :
    Calls Try.prog 12 #[.slice A n c] w fun e w' => ∃ v, e = .returned v ∧ Rw w' w.heap.size v (vw Rc.lba L) ∧ Below w.heap.size w w' := by
  have H := Lib.hid h
  clear h
  go_enter Try.func12, Try.ntmps12
  go_wp2_with fail
  go_loopw [3, 11] (fun v i wr => ∃ (k : Nat) (M : List Rc), k ≤ n ∧ i = .int .i64 k ∧ Lst w wr L k v M) (fun _ i _ => n - (intOf i).toNat)
  case atStart => exact ⟨0, [], Nat.zero_le _, rfl, Lst.start _ _⟩
  case round =>
    obtain ⟨k, M, hk, rfl, hV⟩ := hrel
    obtain ⟨Av, cv, rfl, _⟩ := hV.rw.form
    have VV := Lib.hid hV
    by_cases hlt : k < n
    · obtain ⟨g, off, rfl, hgl, hl, x, hx, ox, q0, q1, q2, q3⟩ := (H.out.below hV.bel).one hlt
      have HX := Lib.hid hx
      have OX := Lib.hid (H.out.ok x (by rw [← hx]; exact List.getElem_mem hl))
      have hn4 := hV.len
      have R4 := Lib.hid ((H.out.below hV.bel).below (below_new wr (.cells (lit x.seq x.kind x.lba x.A x.n x.c) 35)))
      have V4 := Lib.hid (hV.up (below_new wr (.cells (lit x.seq x.kind x.lba x.A x.n x.c) 35)))
      have D4 := Lib.hid (At.new (w := wr) (lit x.seq x.kind x.lba x.A x.n x.c) 35 rfl)
      clear hV hx ox
      obtain ⟨xs, xk, xl, xA, xn, xc, xd⟩ := x
      simp only at q0 q1 q2 q3 V4 D4 R4
      have hk1 : k + 1 ≤ c := by omega
      unfold lit at V4 D4 R4
      go_upto_region 5 with (fail)
      clear q0 q1 q2 q3
      generalize wr.alloc (.cells #[.int .u64 (xs : Int), .int .i64 xk, .int .i64 xl, .slice xA xn xc] 35) = W at *
      generalize wr.heap.size = X at *
      go_upto_region 6 with (fail)
      have WB := Lib.hid (show w.heap.size ≤ W.heap.size from V4.out.bel.size)
      go_cut [19, 20, 21] (fun s19 s20 s21 wd => ∃ (A2 : Option Addr) (m c2 : Nat), s19 = .slice A2 m c2 ∧ s20 = .int .i64 (m : Int) ∧ s21 = .int .i64 0 ∧ Rs W A2 m (L.drop (k + 1)) ∧ wd = W)
      case first =>
        by_cases hck : c = k + 1
        · have R0 := Lib.hid (show Rs W (some ⟨g, off, none⟩) (n - (k + 1)) (L.drop (k + 1)) from R4.out.drop (k + 1) (by omega) (fun h => absurd h (by omega)))
          go_wp2_with fail
          go_meet
          exact ⟨_, _, _, rfl, rfl, rfl, R0.out, rfl⟩
        · have R0 := Lib.hid (show Rs W (some ⟨g, off + (k + 1) * 4, none⟩) (n - (k + 1)) (L.drop (k + 1)) from R4.out.drop (k + 1) (by omega) (fun _ => rfl))
          go_wp2_with fail
          go_meet
          exact ⟨_, _, _, rfl, rfl, rfl, R0.out, rfl⟩
      case rest =>
        obtain ⟨A2, N, c2, rfl, rfl, rfl, hR, hw⟩ := hcut
        subst hw
        have RR := Lib.hid hR
        have NL := Lib.hid hR.len
        have hN1 : N ≤ 1000 := by have h1 := hR.len; rw [List.length_drop] at h1; have := H.out.len; omega
        clear hR
        go_wp2_with fail
        go_loopw [6, 21] (fun s i wy => ∃ m : Nat, m ≤ N ∧ i = .int .i64 m ∧ s = .bool (free Rc.lba xl ((L.drop (k + 1)).take m)) ∧ Below wc.heap.size wc wy) (fun _ i _ => N - (intOf i).toNat)
        case atStart => exact ⟨0, Nat.zero_le _, rfl, rfl, Below.refl _ _⟩
        case round =>
          obtain ⟨m, hm, rfl, rfl, hbm⟩ := hrel
          have BM := Lib.hid hbm
          by_cases hlm : m < N
          · obtain ⟨g2, o2, rfl, hgl2, hl2, y, hy, oy, r0, r1, r2, r3⟩ := (RR.out.below hbm).one hlm
            have D5 := D4.out.below hbm D4.out.lt
            have FN := Lib.hid (free_next xl (L.drop (k + 1)) m (by rw [NL.out]; exact hlm))
            rw [hy] at FN
            obtain ⟨ys, yk, yl, yA, yn, yc, yd⟩ := y
            simp only at r0 r1 r2 r3 FN
            have BN := Lib.hid (hbm.trans ((below_new wr (.cells #[.int .u64 (ys : Int), .int .i64 yk, .int .i64 yl, .slice yA yn yc] 35)).mono hbm.size))
            have E5 := At.new (w := wr) #[.int .u64 (ys : Int), .int .i64 yk, .int .i64 yl, .slice yA yn yc] 35 rfl
            have e2 := E5.cell 2
            have d2 := (D5.alloc (.cells #[.int .u64 (ys : Int), .int .i64 yk, .int .i64 yl, .slice yA yn yc] 35)).cell 2
            simp at e2 d2
            clear hbm hy oy D5 E5
            cases hb : free Rc.lba xl ((L.drop (k + 1)).take m) with
            | false =>
              rw [hb, Bool.false_and] at FN
              have FB := Lib.hid hb
              clear hb
              go_wp2_with fail
              go_roundw
              case rel => exact ⟨m + 1, by omega, by go_num, by rw [FN.out], BN.out⟩
              case measure => simp [intOf]; omega
            | true =>
              rw [hb, Bool.true_and] at FN
              have FB := Lib.hid hb
              clear hb
              by_cases hne : yl = xl
              · have hn0 : (yl != xl) = false := by simp [hne]
                rw [decide_eq_false (fun h => h hne)] at FN
                have HNE := Lib.hid hne
                clear hne
                go_wp2_with fail
                go_roundw
                case rel => exact ⟨m + 1, by omega, by go_num, by rw [FN.out], BN.out⟩
                case measure => simp [intOf]; omega
              · have hn0 : (yl != xl) = true := bne_iff_ne.mpr hne
                rw [decide_eq_true hne] at FN
                have HNE := Lib.hid hne
                clear hne
                go_wp2_with fail
                go_roundw
                case rel => exact ⟨m + 1, by omega, by go_num, by rw [FN.out], BN.out⟩
                case measure => simp [intOf]; omega
          · obtain rfl : m = N := by omega
            have V5 := Lib.hid (V4.out.up hbm)
            have D5 := Lib.hid (D4.out.below hbm D4.out.lt)
            have B5 := Lib.hid hbm
            clear hbm
            rw [List.take_of_length_le (by rw [NL.out]; exact Nat.le_refl _)]
            cases hb : free Rc.lba xl (L.drop (k + 1)) with
            | false =>
              have NX := Lib.hid (V5.out.skip hl HX.out hb)
              clear hb
              go_wp2_with fail
              go_roundw
              case rel => exact ⟨k + 1, _, by omega, by go_num, NX.out⟩
              case measure => simp [intOf]; omega
            | true =>
              have FR := Lib.hid hb
              clear hb
              have d0 := D5.out.cell 0
              have d1 := D5.out.cell 1
              have d2 := D5.out.cell 2
              have d3 := D5.out.cell 3
              simp at d0 d1 d2 d3
              have V6 := Lib.hid (V5.out.up (below_new wr (.cells (lit xs xk xl xA xn xc) 35)))
              unfold lit at V6
              go_wp2_with (at_builtin; refine wpList_append_rec rfl (.tmp 35) (.tmp 37) rfl w.heap.size (.slice Av M.length cv) M.length M rfl V6.out.rw.own ⟨wr.heap.size, 0, none⟩ 1 1 [⟨xs, xk, xl, xA, xn, xc, xd⟩] rfl (Src.one ⟨xs, xk, xl, xA, xn, xc, xd⟩ (At.new _ 35 rfl)) (by omega) V6.out.bel.size ?_; intro A3 c3 w6 hown hg hf; have NX := Lib.hid (V6.out.take hl HX.out FR.out hown hg hf OX.out); clear hown hg hf)
              go_roundw
              case rel => exact ⟨k + 1, _, by omega, by go_num, NX.out⟩
              case measure => simp [intOf]; omega
    · obtain rfl : k = n := by omega
      clear hV
      go_wp2
      go_ret
      have V2 := VV.out
      rw [← H.out.len] at V2
      have e := V2.done
      refine ⟨_, rfl, by rw [← e]; exact V2.rw, V2.bel⟩
end Go.Proofs.Ytclbiidgggdniaa
