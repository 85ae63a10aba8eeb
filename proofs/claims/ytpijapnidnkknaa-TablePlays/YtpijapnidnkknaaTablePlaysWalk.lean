/-
  THE WALK OF TablePlays.
-/
import Derived.Test.YtpijapnidnkknaaRight
import Derived.Deep.CutRange
import Derived.Deep.CutBlock
import Derived.Deep.DeepCutAuto
namespace Go.Proofs.Ytpijapnidnkknaa
open Go.RowKit
set_option linter.unusedVariables false
set_option maxRecDepth 100000


/-- 'make([]Segment, n)' as one operation. -/
theorem wp_make_seg {w : World} {o : Oper} {a : Act} {K : Act → World → Prop} {Q : Exit → Act → World → Prop} (l c : Operand) (ho : o.op = .makeSlice 26 l c) (n : Nat) (hl : a.eval l = .int .i64 (n : Int)) (hc : a.eval c = .int .i64 (n : Int)) (hn : n ≤ 1000000)
    (h : ∀ w', Rg w' w.heap.size (List.replicate n Sg.zero) → Below w.heap.size w w' → w.heap.size < w'.heap.size → K (a.put o.dst (.slice (some ⟨w.heap.size, 0, none⟩) n n)) w') : Oper.wp Try.prog o a w K Q := by
  obtain ⟨i0, hi, hz0, hz1, hz2⟩ := info_parts seg_info
  obtain ⟨w', hrun, r1, r2⟩ := run_make_full (P := Try.prog) w w.heap.size 26 33 i0 _ 3 Try.underlying26 hi hz0 hz1 .i64 .i64 n (by rw [hz2]; omega) (by unfold maxLen; omega) (Nat.le_refl _)
  unfold Oper.wp
  simp [execOp, ho, hl, hc, hrun, Result.andThen]
  exact h w' (made_segs r1) ((Below.refl _ _).grown r2 (Nat.le_refl _) (by simp)) (At.lt (made_segs r1))
theorem put_seg (T : List Sg) (i : Int) (f : Sg → Sg) : put T i f = put T i fun _ => f (seg T i) := by
  unfold put seg
  split <;> rfl
theorem put_same (T : List Sg) (i : Int) : put T i (fun _ => seg T i) = T := by
  unfold put seg
  split
  · apply List.ext_getElem (by simp)
    intro j h1 h2
    rw [List.getElem_set]
    split
    · rename_i e
      simp [e]
    · rfl
  · rfl
theorem seg_mild {T : List Sg} {k : Nat} (h : Mild T k) (i : Int) : -(128 * (k : Int)) ≤ (seg T i).lv ∧ (seg T i).lv ≤ 128 * (k : Int) := by
  unfold seg
  split
  · exact h _ (List.getElem_mem _)
  · show -(128 * (k : Int)) ≤ (0 : Int) ∧ (0 : Int) ≤ 128 * (k : Int)
    omega
theorem seg_ok {T : List Sg} (h : ∀ x ∈ T, x.ok) (i : Int) : (seg T i).ok := by
  unfold seg
  split
  · exact h _ (List.getElem_mem _)
  · exact .inl rfl

/-- The table, and what the law has of it. -/
structure Pp (w0 w : World) (g r h m : Nat) (T : List Sg) (k : Nat) : Prop where
  tb : Tb w g r T
  hv : Rg w h T
  bel : Below w0.heap.size w0 w
  low : w0.heap.size ≤ g ∧ w0.heap.size ≤ r ∧ w0.heap.size ≤ h
  off : ¬ h = g ∧ ¬ h = r
  len : T.length = m
  mild : Mild T k
  ok : ∀ x ∈ T, x.ok
theorem Pp.up {w0 w w' : World} {g r h m k : Nat} {T : List Sg} (P : Pp w0 w g r h m T k) (hb : Below w.heap.size w w') : Pp w0 w' g r h m T k :=
  ⟨P.tb.below hb, P.hv.but (S := fun _ => False) (But.of_below hb) (fun h => h), P.bel.trans (hb.mono P.bel.size), P.low, P.off, P.len, P.mild, P.ok⟩
/-- In a round: the act's block, the segment's. -/
structure Qq (w0 w : World) (g r h m : Nat) (T T' : List Sg) (k : Nat) (a b : Nat) (x : Ac) (y : Sg) : Prop where
  tb : Tb w g r T'
  hv : Rg w h T
  ab : At w a #[.int .i8 x.d, .int .i8 x.at_, .int .u8 (x.st : Int), .int .i8 x.lv, .int .u64 x.bo] 30
  sb : At w b y.ag 33
  bel : Below w0.heap.size w0 w
  low : w0.heap.size ≤ g ∧ w0.heap.size ≤ r ∧ w0.heap.size ≤ h ∧ w0.heap.size ≤ b
  off : ¬ h = g ∧ ¬ h = r ∧ ¬ a = g ∧ ¬ a = r ∧ ¬ a = h ∧ ¬ b = g ∧ ¬ b = r ∧ ¬ b = h ∧ ¬ a = b
  len : T.length = m
  mild : Mild T k
  ok : ∀ x ∈ T, x.ok
section
variable {w0 w w' : World} {g r h m k a b : Nat} {T T' T2 : List Sg} {x : Ac} {y : Sg}
theorem Qq.up (P : Qq w0 w g r h m T T' k a b x y) (hb : Below w.heap.size w w') : Qq w0 w' g r h m T T' k a b x y :=
  ⟨P.tb.below hb, P.hv.but (S := fun _ => False) (But.of_below hb) (fun h => h), P.ab.below hb P.ab.lt, P.sb.below hb P.sb.lt, P.bel.trans (hb.mono P.bel.size), P.low, P.off, P.len, P.mild, P.ok⟩
theorem Qq.turn (P : Qq w0 w g r h m T T' k a b x y) (ht : Tb w' g r T2) (hb : But (fun k => k = r) w w') : Qq w0 w' g r h m T T2 k a b x y := by
  obtain ⟨o1, o2, o3, o4, o5, o6, o7, o8, o9⟩ := P.off
  exact ⟨ht, P.hv.but hb o2, P.ab.but hb o4, P.sb.but hb o7, P.bel.trans (hb.below (fun k e => by have := P.low; omega) P.bel.size), P.low, P.off, P.len, P.mild, P.ok⟩
theorem Qq.set {y2 : Sg} (P : Qq w0 w g r h m T T' k a b x y) (ht : At w' b y2.ag 33) (hb : But (fun k => k = b) w w') : Qq w0 w' g r h m T T' k a b x y2 := by
  obtain ⟨o1, o2, o3, o4, o5, o6, o7, o8, o9⟩ := P.off
  exact ⟨P.tb.but hb (fun e => o6 e.symm) (fun e => o7 e.symm), P.hv.but hb (fun e => o8 e.symm), P.ab.but hb o9, ht, P.bel.trans (hb.below (fun k e => by have := P.low; omega) P.bel.size), P.low, P.off, P.len, P.mild, P.ok⟩
end
set_option maxHeartbeats 6400000 in
theorem tablePlays_walk (x : Int) (A : Option Addr) (n c : Nat) (M : List Ac) (w : World) (hx : 0 ≤ x ∧ x ≤ 255) (h : Acts w A n c M) : Calls Try.prog 3 #[.int .u8 x, .slice A n c] w fun e w' => e = .returned (.bool true) ∧ Below w.heap.size w w' := by
  have H := Lib.hid h
  obtain ⟨m, hm, hm8⟩ : ∃ m : Nat, x % 9 = (m : Int) ∧ m ≤ 8 := ⟨(x % 9).toNat, by omega, by omega⟩
  have HM := Lib.hid hm
  clear h
  go_enter Try.func3, Try.ntmps3
  go_wp2_with fail
  refine (awake_any w).mono ?_
  rintro e w0 ⟨rfl, hb0⟩
  have B0 := Lib.hid hb0
  clear hb0
  by_cases hbig : 80 < n
  · have hbi : (80 : Int) < (n : Int) := by omega
    go_wp2
    go_ret
    exact ⟨rfl, B0.out⟩
  have hbi : ¬ (80 : Int) < (n : Int) := by omega
  go_upto_region 6 with (fail)
  go_cut [6, 7] (fun s6 s7 wx => ∃ g r h : Nat, s6 = .pointer (some ⟨g, 0, none⟩) ∧ s7 = .slice (some ⟨h, 0, none⟩) m m ∧ Pp w wx g r h m (List.replicate m Sg.zero) 0)
  case first =>
    refine wp_region_early (fun w' => True) (fun i => true) (by kernel_rfl) ?_
    change wpEarly _ _ _ _ _ _ 6 (Array.replicate 6 false) _ w0.drew
    have BD := Lib.hid (show Below w.heap.size w w0.drew from below_drewN B0.out 1)
    generalize w0.drew = u0 at *
    have S0 : (fun w' : World => True) u0 := trivial
    refine early_take (i := 0) 21 (.int .i64 (m : Int)) rfl rfl (by kernel_rfl) (by kernel_rfl) (by kernel_rfl) (by kernel_rfl) rfl (fun _ _ _ h => h) (fun w' hw' => by go_simp) S0 ?_
    simp only [Act.put, List.setIfInBounds_toArray, List.set_cons_zero, List.set_cons_succ]
    refine early_take (i := 2) 23 (.int .i64 (m : Int)) rfl rfl (by kernel_rfl) (by kernel_rfl) (by kernel_rfl) (by kernel_rfl) rfl (fun _ _ _ h => h) (fun w' hw' => by go_simp) S0 ?_
    simp only [Act.put, List.setIfInBounds_toArray, List.set_cons_zero, List.set_cons_succ]
    refine early_two (i := 1) (j := 3) (by kernel_rfl) ⟨rfl, fun K hK => ?_⟩ ⟨rfl, fun K hK => ?_⟩
    · simp only [opWp, List.getElem?_toArray, List.getElem?_cons_succ, List.getElem?_cons_zero]
      go_simp
      go_at_call 7
      refine (new_any m _ (by omega)).mono ?_
      rintro e u1 ⟨g, r, rfl, hT, hg, hr, hb⟩
      have T1 := Lib.hid hT
      have B1 := Lib.hid hb
      clear hT hb
      refine hK _ _ (fun _ => trivial) ?_
      refine early_take (i := 4) 6 (.pointer (some ⟨g, 0, none⟩)) rfl rfl (by kernel_rfl) (by kernel_rfl) (by kernel_rfl) (by kernel_rfl) rfl (fun _ _ _ h => h) (fun w' hw' => by go_simp) trivial ?_
      simp only [Act.put, List.setIfInBounds_toArray, List.set_cons_zero, List.set_cons_succ]
      refine early_only (i := 3) (by kernel_rfl) rfl (fun K hK => ?_)
      simp only [opWp, List.getElem?_toArray, List.getElem?_cons_succ, List.getElem?_cons_zero]
      refine wp_make_seg (.tmp 23) (.tmp 23) rfl m rfl rfl (by omega) ?_
      intro u2 hR hb hs
      refine hK _ _ (fun _ => trivial) ?_
      refine early_take (i := 5) 7 (.slice (some ⟨u1.heap.size, 0, none⟩) m m) rfl rfl (by kernel_rfl) (by kernel_rfl) (by kernel_rfl) (by kernel_rfl) rfl (fun _ _ _ h => h) (fun w' hw' => by go_simp) trivial ?_
      simp only [Act.put, List.setIfInBounds_toArray, List.set_cons_zero, List.set_cons_succ]
      refine early_done (by kernel_rfl) ?_
      go_wp2
      go_meet
      have lt := T1.out.lt
      have sz := BD.out.size
      exact ⟨g, r, u1.heap.size, rfl, rfl, T1.out.below hb, hR, (BD.out.trans (B1.out.mono BD.out.size)).trans (hb.mono (by have := B1.out.size; omega)), ⟨by omega, by omega, by have := B1.out.size; omega⟩, ⟨by omega, by omega⟩, by simp, mild_zero m, ok_zero m⟩
    · simp only [opWp, List.getElem?_toArray, List.getElem?_cons_succ, List.getElem?_cons_zero]
      refine wp_make_seg (.tmp 23) (.tmp 23) rfl m rfl rfl (by omega) ?_
      intro u1 hR hb1 hs
      refine hK _ _ (fun _ => trivial) ?_
      refine early_only (i := 1) (by kernel_rfl) rfl (fun K hK => ?_)
      simp only [opWp, List.getElem?_toArray, List.getElem?_cons_succ, List.getElem?_cons_zero]
      go_simp
      go_at_call 7
      refine (new_any m _ (by omega)).mono ?_
      rintro e u2 ⟨g, r, rfl, hT, hg, hr, hb⟩
      have T1 := Lib.hid hT
      refine hK _ _ (fun _ => trivial) ?_
      refine early_take (i := 4) 6 (.pointer (some ⟨g, 0, none⟩)) rfl rfl (by kernel_rfl) (by kernel_rfl) (by kernel_rfl) (by kernel_rfl) rfl (fun _ _ _ h => h) (fun w' hw' => by go_simp) trivial ?_
      simp only [Act.put, List.setIfInBounds_toArray, List.set_cons_zero, List.set_cons_succ]
      refine early_take (i := 5) 7 (.slice (some ⟨u0.heap.size, 0, none⟩) m m) rfl rfl (by kernel_rfl) (by kernel_rfl) (by kernel_rfl) (by kernel_rfl) rfl (fun _ _ _ h => h) (fun w' hw' => by go_simp) trivial ?_
      simp only [Act.put, List.setIfInBounds_toArray, List.set_cons_zero, List.set_cons_succ]
      refine early_done (by kernel_rfl) ?_
      go_wp2
      go_meet
      have sz := BD.out.size
      exact ⟨g, r, u0.heap.size, rfl, rfl, hT, hR.but (S := fun _ => False) (But.of_below hb) (fun h => h), (BD.out.trans (hb1.mono BD.out.size)).trans (hb.mono (by omega)), ⟨by omega, by omega, by omega⟩, ⟨by omega, by omega⟩, by simp, mild_zero m, ok_zero m⟩
  case rest =>
    obtain ⟨g, r, h, rfl, rfl, hP⟩ := hcut
    have P0 := Lib.hid hP
    clear hP B0
    go_wp2_with fail
    go_loopg [9, 10, 11, 12, 27] n (fun gg _ _ _ _ s27 wr => ∃ (k : Nat) (T : List Sg), k ≤ n ∧ n - k ≤ gg ∧ s27 = .int .i64 (k : Int) ∧ Pp w wr g r h m T k)
    case atStart => exact ⟨0, _, Nat.zero_le _, by omega, rfl, P0.out⟩
    case round =>
      obtain ⟨k, T, hk0, hgg, rfl, hP⟩ := hrel
      have PP := Lib.hid hP
      clear hP
      by_cases hlt : k < n
      · have hk80 : k < 80 := by omega
        obtain ⟨ba, off, rfl, hacts⟩ := H.out.2.2.2 (by omega)
        have hkl : k < M.length := by rw [H.out.1]; exact hlt
        have hact := (hacts k hkl).below PP.out.bel
        generalize M[k] = X at hact
        have AX := Lib.hid (And.intro hact.hd (And.intro hact.hat (And.intro hact.hst (And.intro hact.hlv hact.hbo))))
        obtain ⟨xd, xa, xs, xl, xb⟩ := X
        obtain ⟨c0, c1, c2, c3, c4, hdd, hda, hds, hdl, hdb, _⟩ := hact
        simp only at c0 c1 c2 c3 c4 hdd hda hds hdl hdb AX
        clear hacts
        have TL := Lib.hid PP.out.len
        go_upto_region 11 with (fail)
        obtain ⟨wa, hwa⟩ : ∃ wa, wa = wr.alloc (.cells #[.int .i8 xd, .int .i8 xa, .int .u8 (xs : Int), .int .i8 xl, .int .u64 xb] 30) := ⟨_, rfl⟩
        have PA := Lib.hid (show Pp w wa g r h m T k by rw [hwa]; exact PP.out.up ((Below.refl _ _).alloc (Nat.le_refl _) _))
        have AA := Lib.hid (show At wa wr.heap.size #[.int .i8 xd, .int .i8 xa, .int .u8 (xs : Int), .int .i8 xl, .int .u64 xb] 30 by rw [hwa]; exact At.new _ _ rfl)
        rw [← hwa]
        have lt := PP.out.tb.lt
        have lth := At.lt PP.out.hv
        have LB := Lib.hid (show ¬ wr.heap.size = g ∧ ¬ wr.heap.size = r ∧ ¬ wr.heap.size = h by omega)
        clear hwa c0 c1 c2 c3 c4 PP lt lth
        generalize wr.heap.size = ab at *
        go_cut [11] (fun s11 wx => wx = wa ∧ s11 = .bool (decide (0 ≤ xa ∧ xa < (m : Int))))
        case first =>
          by_cases h0 : 0 ≤ xa
          · by_cases h1 : xa < (m : Int)
            · have hd := Lib.hid (show decide (0 ≤ xa ∧ xa < (m : Int)) = true by simpa using ⟨h0, h1⟩)
              go_wp2
              go_meet
              exact ⟨rfl, by rw [hd.out]⟩
            · have hd := Lib.hid (show decide (0 ≤ xa ∧ xa < (m : Int)) = false by simp; omega)
              go_wp2
              go_meet
              exact ⟨rfl, by rw [hd.out]⟩
          · have hd := Lib.hid (show decide (0 ≤ xa ∧ xa < (m : Int)) = false by simp; omega)
            go_wp2
            go_meet
            exact ⟨rfl, by rw [hd.out]⟩
        case rest =>
          obtain ⟨hwc, rfl⟩ := hcut
          subst hwc
          obtain ⟨ib, hib⟩ : ∃ b : Bool, decide (0 ≤ xa ∧ xa < (m : Int)) = b := ⟨_, rfl⟩
          have IB := Lib.hid hib
          rw [hib]
          clear hib
          go_upto_if 41 with (fail)
          obtain ⟨wb, hwb⟩ : ∃ wb, wb = wc.alloc (.cells #[.int .i64 0, .int .i64 0, .int .u64 0] 33) := ⟨_, rfl⟩
          rw [← hwb]
          have Q0 := Lib.hid (show Qq w wb g r h m T T k ab wc.heap.size ⟨xd, xa, xs, xl, xb⟩ Sg.zero by
            have UP := (Below.refl wc.heap.size wc).alloc (Nat.le_refl _) (.cells #[.int .i64 0, .int .i64 0, .int .u64 0] 33)
            have PB := PA.out.up UP
            have lt := PA.out.tb.lt
            have lth := At.lt PA.out.hv
            have lta := AA.out.lt
            have := PA.out.bel.size
            rw [hwb]
            exact ⟨PB.tb, PB.hv, AA.out.alloc _, At.new _ _ rfl, PB.bel, ⟨PB.low.1, PB.low.2.1, PB.low.2.2, this⟩, ⟨PB.off.1, PB.off.2, LB.out.1, LB.out.2.1, LB.out.2.2, by omega, by omega, by omega, by omega⟩, PB.len, PB.mild, PB.ok⟩)
          clear hwb PA AA
          generalize wc.heap.size = sb at *
          go_cut [12] (fun s12 wx => s12 = .pointer (some ⟨sb, 0, none⟩) ∧ Qq w wx g r h m T T k ab sb ⟨xd, xa, xs, xl, xb⟩ (seg T xa))
          case first =>
            cases ib
            · have SE := Lib.hid (seg_off (T := T) (i := xa) (by have h1 := of_decide_eq_false IB.out; rw [TL.out]; exact h1))
              go_wp2
              go_meet
              exact ⟨rfl, by rw [SE.out]; exact Q0.out⟩
            · obtain ⟨j, hj⟩ : ∃ j : Nat, xa = (j : Int) := ⟨xa.toNat, by have := of_decide_eq_true IB.out; omega⟩
              subst hj
              have hjm : j < m := by have := of_decide_eq_true IB.out; omega
              have hjT : j < T.length := by rw [TL.out]; exact hjm
              have SE := Lib.hid (seg_in hjT)
              have HC := Lib.hid (Q0.out.hv.cell hjT)
              generalize T[j] = y at HC SE
              obtain ⟨ys, yl, yb⟩ := y
              go_wp2_with (first
                | (refine wpList_load_part rfl 33 (.tmp 44) rfl h (j * 3) (Sg.ag ⟨ys, yl, yb⟩) _ rfl HC.out Try.underlying33 rfl seg_size ?_)
                | (refine wpList_store_part rfl 33 (.tmp 12) (.tmp 45) rfl sb 0 33 Sg.zero.ag (Sg.ag ⟨ys, yl, yb⟩) rfl rfl Q0.out.sb seg_size (by show 0 + 3 ≤ 3; omega) (ag_one _) ?_; intro wd hat hb))
              rw [part_whole] at hat
              go_meet
              exact ⟨rfl, by rw [SE.out]; exact Q0.out.set hat hb⟩
          case rest =>
            obtain ⟨rfl, hQ⟩ := hcut
            have QQ := Lib.hid hQ
            clear hQ Q0
            have a0 : wc.cell? ⟨ab, 0, none⟩ = some (.int .i8 xd) := QQ.out.ab.cell 0
            have a1 : wc.cell? ⟨ab, 1, none⟩ = some (.int .i8 xa) := QQ.out.ab.cell 1
            have a2 : wc.cell? ⟨ab, 2, none⟩ = some (.int .u8 (xs : Int)) := QQ.out.ab.cell 2
            have a3 : wc.cell? ⟨ab, 3, none⟩ = some (.int .i8 xl) := QQ.out.ab.cell 3
            have a4 : wc.cell? ⟨ab, 4, none⟩ = some (.int .u64 xb) := QQ.out.ab.cell 4
            have SM := Lib.hid (seg_mild QQ.out.mild xa)
            have SO := Lib.hid (seg_ok QQ.out.ok xa)
            have PS := Lib.hid (fun f => put_seg T xa f)
            have PE := Lib.hid (put_same T xa)
            generalize seg T xa = y at QQ SM SO PS PE
            obtain ⟨ys, yl, yb⟩ := y
            have sm := SM.out
            simp only at sm
            have b0 : wc.cell? ⟨sb, 0, none⟩ = some (.int .i64 ys) := QQ.out.sb.cell 0
            have b1 : wc.cell? ⟨sb, 1, none⟩ = some (.int .i64 yl) := QQ.out.sb.cell 1
            have b2 : wc.cell? ⟨sb, 2, none⟩ = some (.int .u64 yb) := QQ.out.sb.cell 2
            have g0 := QQ.out.sb.frozen 0
            have g1 := QQ.out.sb.frozen 1
            have g2 := QQ.out.sb.frozen 2
            go_upto_block 2 with (fail)
            obtain ⟨q, hq⟩ : ∃ q : Nat, xd % 256 % 6 = (q : Int) := ⟨(xd % 256 % 6).toNat, by omega⟩
            have hq5 : q ≤ 5 := by omega
            simp only [hq]
            clear hq
            go_cut [12] (fun s12 wx => s12 = .pointer (some ⟨sb, 0, none⟩) ∧ ∃ y2 : Sg, Qq w wx g r h m T (put T xa fun _ => y2) k ab sb ⟨xd, xa, xs, xl, xb⟩ y2 ∧ y2.ok ∧ -(128 * ((k + 1 : Nat) : Int)) ≤ y2.lv ∧ y2.lv ≤ 128 * ((k + 1 : Nat) : Int))
            case first =>
              by_cases h0 : q = 0
              · subst h0
                clear b0 b1 b2 g0 g1 g2
                go_wp2_with (refine wpList_store_part rfl 33 (.tmp 12) (.tmp 63) rfl sb 0 33 (Sg.ag ⟨ys, yl, yb⟩) (Sg.ag ⟨(xs : Int) % 3, xl, xb⟩) rfl rfl QQ.out.sb seg_size (by show 0 + 3 ≤ 3; omega) (ag_one _) ?_)
                intro w5 hat hb
                rw [part_whole] at hat
                have Q5 := Lib.hid (QQ.out.set hat hb)
                clear hat hb a0 a1 a2 a3 a4
                go_wp2_with (refine wpList_load_part rfl 33 (.tmp 12) rfl sb 0 (Sg.ag ⟨(xs : Int) % 3, xl, xb⟩) _ rfl (fun j hj => by rw [Nat.zero_add]; exact Q5.out.sb.cell j) Try.underlying33 rfl seg_size ?_)
                refine (set_any xa ⟨(xs : Int) % 3, xl, xb⟩ Q5.out.tb).mono ?_
                rintro e w6 ⟨rfl, hT, hb⟩
                have Q6 := Lib.hid (Q5.out.turn hT hb)
                clear hT hb
                go_wp2
                go_meet
                exact ⟨rfl, ⟨(xs : Int) % 3, xl, xb⟩, Q6.out, (by show (xs : Int) % 3 = 0 ∨ (xs : Int) % 3 = 1 ∨ (xs : Int) % 3 = 2; omega), by show -(128 * ((k + 1 : Nat) : Int)) ≤ xl; omega, by show xl ≤ 128 * ((k + 1 : Nat) : Int); omega⟩
              by_cases h1 : q = 1
              · subst h1
                clear b0 b2 g0 g2
                have Q5 := Lib.hid (QQ.out.set (y2 := ⟨ys, yl + xl, yb⟩) (QQ.out.sb.set 1 (.int .i64 (yl + xl))) ((But.refl (fun k => k = sb) wc).setCell (p := ⟨sb, 1, none⟩) (fun _ => rfl) (.int .i64 (yl + xl))))
                have a3' := Q5.out.ab.cell 3
                clear a0 a1 a2 a4
                go_wp2_with fail
                refine (live_any xa xl (fun j hj => by have := QQ.out.mild _ (List.getElem_mem hj); omega) Q5.out.tb).mono ?_
                rintro e w6 ⟨rfl, hT, hb⟩
                rw [PS.out] at hT
                have Q6 := Lib.hid (Q5.out.turn hT hb)
                clear hT hb
                go_wp2
                go_meet
                exact ⟨rfl, ⟨ys, yl + xl, yb⟩, Q6.out, SO.out, by show -(128 * ((k + 1 : Nat) : Int)) ≤ yl + xl; omega, by show yl + xl ≤ 128 * ((k + 1 : Nat) : Int); omega⟩
              by_cases h2 : q = 2
              · subst h2
                clear b1 b2 g1 g2
                have Q5 := Lib.hid (QQ.out.set (y2 := ⟨1, yl, yb⟩) (QQ.out.sb.set 0 (.int .i64 1)) ((But.refl (fun k => k = sb) wc).setCell (p := ⟨sb, 0, none⟩) (fun _ => rfl) (.int .i64 1)))
                clear a0 a1 a2 a3 a4
                go_wp2_with fail
                refine (open_any xa Q5.out.tb).mono ?_
                rintro e w6 ⟨rfl, hT, hb⟩
                rw [PS.out] at hT
                have Q6 := Lib.hid (Q5.out.turn hT hb)
                clear hT hb
                go_wp2
                go_meet
                exact ⟨rfl, ⟨1, yl, yb⟩, Q6.out, .inr (.inl rfl), by show -(128 * ((k + 1 : Nat) : Int)) ≤ yl; omega, by show yl ≤ 128 * ((k + 1 : Nat) : Int); omega⟩
              by_cases h3 : q = 3
              · subst h3
                clear b1 g1 a0 a1 a2 a3
                go_wp2_with fail
                refine wp_region_early (fun w' => w'.cell? ⟨ab, 4, none⟩ = some (.int .u64 xb)) (fun i => i != 5) (by kernel_rfl) ?_
                change wpEarly _ _ _ _ _ _ 6 (Array.replicate 6 false) _ wc.drew
                have S0 : (fun w' : World => w'.cell? ⟨ab, 4, none⟩ = some (.int .u64 xb)) wc.drew := a4
                have QD := Lib.hid (show Qq w wc.drew g r h m T T k ab sb ⟨xd, xa, xs, xl, xb⟩ ⟨ys, yl, yb⟩ from QQ.out.up (below_drewN (Below.refl _ _) 1))
                generalize wc.drew = v0 at *
                clear a4 b0 b2 g0 g2 QQ
                refine early_take (i := 0) 91 (.pointer (some ⟨ab, 4, none⟩)) rfl rfl (by kernel_rfl) (by kernel_rfl) (by kernel_rfl) (by kernel_rfl) rfl (fun _ _ _ h => h) (fun w' hw' => by go_simp) S0 ?_
                simp only [Act.put, List.setIfInBounds_toArray, List.set_cons_zero, List.set_cons_succ]
                refine early_take (i := 1) 92 (.int .u64 xb) rfl rfl (by kernel_rfl) (by kernel_rfl) (by kernel_rfl) (by kernel_rfl) rfl (fun _ _ _ h => h) (fun w' hw' => by have k1 : w'.cell? _ = _ := hw'; go_simp) S0 ?_
                simp only [Act.put, List.setIfInBounds_toArray, List.set_cons_zero, List.set_cons_succ]
                refine early_take (i := 2) 93 (.pointer (some ⟨sb, 0, none⟩)) rfl rfl (by kernel_rfl) (by kernel_rfl) (by kernel_rfl) (by kernel_rfl) rfl (fun _ _ _ h => h) (fun w' hw' => by go_simp) S0 ?_
                simp only [Act.put, List.setIfInBounds_toArray, List.set_cons_zero, List.set_cons_succ]
                refine early_only (i := 3) (by kernel_rfl) rfl (fun K hK => ?_)
                simp only [opWp, List.getElem?_toArray, List.getElem?_cons_succ, List.getElem?_cons_zero]
                have b0 : v0.cell? ⟨sb, 0, none⟩ = some (.int .i64 ys) := QD.out.sb.cell 0
                have g0 := QD.out.sb.frozen 0
                have QE := Lib.hid (QD.out.set (y2 := ⟨2, yl, yb⟩) (QD.out.sb.set 0 (.int .i64 2)) ((But.refl (fun k => k = sb) v0).setCell (p := ⟨sb, 0, none⟩) (fun _ => rfl) (.int .i64 2)))
                go_simp
                refine hK _ _ (fun _ => QE.out.ab.cell 4) ?_
                clear b0 g0 QD S0 hK
                generalize v0.setCell ⟨sb, 0, none⟩ (.int .i64 2) = v1 at *
                have S0 : (fun w' : World => w'.cell? ⟨ab, 4, none⟩ = some (.int .u64 xb)) v1 := QE.out.ab.cell 4
                refine early_take (i := 4) 94 (.pointer (some ⟨sb, 2, none⟩)) rfl rfl (by kernel_rfl) (by kernel_rfl) (by kernel_rfl) (by kernel_rfl) rfl (fun _ _ _ h => h) (fun w' hw' => by go_simp) S0 ?_
                simp only [Act.put, List.setIfInBounds_toArray, List.set_cons_zero, List.set_cons_succ]
                refine early_only (i := 5) (by kernel_rfl) rfl (fun K hK => ?_)
                simp only [opWp, List.getElem?_toArray, List.getElem?_cons_succ, List.getElem?_cons_zero]
                have b2 : v1.cell? ⟨sb, 2, none⟩ = some (.int .u64 yb) := QE.out.sb.cell 2
                have g2 := QE.out.sb.frozen 2
                have QF := Lib.hid (QE.out.set (y2 := ⟨2, yl, xb⟩) (QE.out.sb.set 2 (.int .u64 xb)) ((But.refl (fun k => k = sb) v1).setCell (p := ⟨sb, 2, none⟩) (fun _ => rfl) (.int .u64 xb)))
                go_simp
                refine hK _ _ (fun h => by simp at h) ?_
                refine early_done (by kernel_rfl) ?_
                clear b2 g2 QE S0 hK
                generalize v1.setCell ⟨sb, 2, none⟩ (.int .u64 xb) = v2 at *
                have a4 : v2.cell? ⟨ab, 4, none⟩ = some (.int .u64 xb) := QF.out.ab.cell 4
                go_wp2_with fail
                refine (seal_any xa xb QF.out.tb).mono ?_
                rintro e w6 ⟨rfl, hT, hb⟩
                rw [PS.out] at hT
                have Q6 := Lib.hid (QF.out.turn hT hb)
                clear hT hb
                go_wp2
                go_meet
                exact ⟨rfl, ⟨2, yl, xb⟩, Q6.out, .inr (.inr rfl), by show -(128 * ((k + 1 : Nat) : Int)) ≤ yl; omega, by show yl ≤ 128 * ((k + 1 : Nat) : Int); omega⟩
              by_cases h4 : q = 4
              · subst h4
                clear b0 b1 b2 g0 g1 g2 a0 a1 a2 a3 a4
                go_wp2_with (refine wpList_store_part rfl 33 (.tmp 12) (.tmp 102) rfl sb 0 33 (Sg.ag ⟨ys, yl, yb⟩) Sg.zero.ag rfl rfl QQ.out.sb seg_size (by show 0 + 3 ≤ 3; omega) (ag_one _) ?_)
                intro w5 hat hb
                rw [part_whole] at hat
                have Q5 := Lib.hid (QQ.out.set hat hb)
                clear hat hb
                have QA := Lib.hid (Q5.out.up ((Below.refl _ _).alloc (Nat.le_refl _) (.cells #[.int .i64 xa] 3)))
                have lt5 := Q5.out.tb.lt
                go_wp2_with fail
                refine (clear_any (some ⟨w5.heap.size, 0, none⟩) 1 1 [xa] (by omega) (HasI.one (At.new _ 3 rfl)) (fun x e => by injection e with e; subst e; show ¬ w5.heap.size = r; omega) QA.out.tb).mono ?_
                rintro e w6 ⟨rfl, hT, hb⟩
                rw [clr_one] at hT
                have Q6 := Lib.hid (QA.out.turn hT hb)
                clear hT hb
                go_wp2
                go_meet
                exact ⟨rfl, Sg.zero, Q6.out, .inl rfl, by show -(128 * ((k + 1 : Nat) : Int)) ≤ (0 : Int); omega, by show (0 : Int) ≤ 128 * ((k + 1 : Nat) : Int); omega⟩
              obtain rfl : q = 5 := by omega
              clear b0 b1 b2 g0 g1 g2 a0 a1 a2 a3 a4
              go_wp2_with fail
              refine (clear_any none 0 0 [] (by omega) (HasI.nil _ _) (fun x e => by cases e) QQ.out.tb).mono ?_
              rintro e w6 ⟨rfl, hT, hb⟩
              have hT : Tb w6 g r (put T xa fun _ => ⟨ys, yl, yb⟩) := by rw [PE.out]; exact hT
              have Q6 := Lib.hid (QQ.out.turn hT hb)
              clear hT hb
              go_wp2
              go_meet
              exact ⟨rfl, ⟨ys, yl, yb⟩, Q6.out, SO.out, by show -(128 * ((k + 1 : Nat) : Int)) ≤ yl; omega, by show yl ≤ 128 * ((k + 1 : Nat) : Int); omega⟩
            case rest =>
              obtain ⟨rfl, y2, hQ, hyo, hy1, hy2⟩ := hcut
              have QQ := Lib.hid hQ
              have YO := Lib.hid hyo
              have YL := Lib.hid (And.intro hy1 hy2)
              clear hQ hyo hy1 hy2
              go_upto_if 107 with (fail)
              go_cut [12] (fun s12 wx => Pp w wx g r h m (put T xa fun _ => y2) (k + 1))
              case first =>
                have MI := Lib.hid (QQ.out.mild.put (i := xa) (f := fun _ => y2) (fun _ _ => YL.out))
                have OK := Lib.hid (ok_put (i := xa) (f := fun _ => y2) QQ.out.ok (fun _ _ => YO.out))
                cases ib
                · have PO := Lib.hid (put_off (T := T) (i := xa) (by have h1 := of_decide_eq_false IB.out; rw [TL.out]; exact h1) (fun _ => y2))
                  go_wp2
                  go_meet
                  have hv := QQ.out.hv
                  exact ⟨QQ.out.tb, by rw [PO.out]; exact hv, QQ.out.bel, ⟨QQ.out.low.1, QQ.out.low.2.1, QQ.out.low.2.2.1⟩, ⟨QQ.out.off.1, QQ.out.off.2.1⟩, by rw [put_len]; exact QQ.out.len, MI.out, OK.out⟩
                · obtain ⟨j, hj⟩ : ∃ j : Nat, xa = (j : Int) := ⟨xa.toNat, by have := of_decide_eq_true IB.out; omega⟩
                  subst hj
                  have hjm : j < m := by have := of_decide_eq_true IB.out; omega
                  have hjT : j < T.length := by rw [TL.out]; exact hjm
                  have PI := Lib.hid (put_in hjT fun _ => y2)
                  obtain ⟨ys, yl, yb⟩ := y2
                  go_wp2_with (first
                    | (refine wpList_load_part rfl 33 (.tmp 12) rfl sb 0 (Sg.ag ⟨ys, yl, yb⟩) _ rfl (fun j hj => by rw [Nat.zero_add]; exact QQ.out.sb.cell j) Try.underlying33 rfl seg_size ?_)
                    | (refine wpList_store_part rfl 33 (.tmp 111) (.tmp 110) rfl h (j * 3) 33 (flat T).toArray (Sg.ag ⟨ys, yl, yb⟩) rfl rfl QQ.out.hv seg_size (by rw [show (flat T).toArray.size = T.length * 3 by rw [List.size_toArray, flat_len]]; show j * 3 + 3 ≤ _; omega) (ag_one _) ?_; intro wd hat hb))
                  rw [flat_part T j hjT] at hat
                  go_meet
                  obtain ⟨o1, o2, o3, o4, o5, o6, o7, o8, o9⟩ := QQ.out.off
                  exact ⟨QQ.out.tb.but hb (fun e => o1 e.symm) (fun e => o2 e.symm), by rw [PI.out]; exact hat, QQ.out.bel.trans (hb.below (fun k e => by have := QQ.out.low; omega) QQ.out.bel.size), ⟨QQ.out.low.1, QQ.out.low.2.1, QQ.out.low.2.2.1⟩, ⟨o1, o2⟩, by rw [put_len]; exact QQ.out.len, MI.out, OK.out⟩
              case rest =>
                have P7 := Lib.hid hcut
                clear hcut QQ YO YL
                generalize put T xa (fun _ => y2) = T2 at P7
                go_wp2_with fail
                refine (show Calls Try.prog 13 #[.pointer (some ⟨g, 0, none⟩), .slice (some ⟨h, 0, none⟩) m m] wc _ from by have := right_any P7.out.tb P7.out.hv P7.out.ok; rw [P7.out.len] at this; exact this).mono ?_
                rintro e w8 ⟨rfl, hb⟩
                have P8 := Lib.hid (P7.out.up hb)
                clear hb
                go_wp2_with fail
                refine (at_any (-1) P8.out.tb).mono ?_
                rintro e w9 ⟨rfl, hb⟩
                have P9 := Lib.hid (P8.out.up hb)
                have SE1 := Lib.hid (seg_off (T := T2) (i := -1) (by omega))
                rw [SE1.out]
                clear hb
                have hq := fun w => seg_neq_no 0 0 0 w
                go_wp2_with fail
                refine (at_any (m : Int) P9.out.tb).mono ?_
                rintro e w10 ⟨rfl, hb⟩
                have P10 := Lib.hid (P9.out.up hb)
                have SE2 := Lib.hid (seg_off (T := T2) (i := (m : Int)) (by rw [P9.out.len]; omega))
                rw [SE2.out]
                clear hb
                go_wp2
                go_roundg (n - (k + 1))
                case measure => omega
                case rel => exact ⟨k + 1, T2, by omega, Nat.le_refl _, by go_num, P10.out⟩
      · obtain rfl : k = n := by omega
        go_wp2_with fail
        refine (len_any PP.out.tb).mono ?_
        rintro e w5 ⟨rfl, hw⟩
        rw [hw, PP.out.len]
        clear hw
        go_wp2
        go_ret
        exact ⟨rfl, PP.out.bel⟩
end Go.Proofs.Ytpijapnidnkknaa
