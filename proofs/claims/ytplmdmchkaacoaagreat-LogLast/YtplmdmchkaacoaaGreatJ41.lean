/-
  TEXTS JOINED: LgC.
-/
import Derived.Test.YtplmdmchkaacoaaGreatJ40

/-
  THE WALK OF Apply.
-/
namespace Go.Proofs.YtplmdmchkaacoaaGreat
open Go.RowKit
open L7 (Rr Rc)
open L12 (Sg)
open L13 (setN)
set_option linter.unusedVariables false
set_option maxRecDepth 100000

theorem stripe_call {w : World} {P : Pl} {q : Ql} {O : Nat → Prop} {x : LS} {l : Int} (h : LG w P q O x l) (hw : x.Wf) : Calls Tryz.prog 42 #[.pointer (some ⟨q.b, 0, none⟩)] w fun e w' => e = .returned (.int .i64 x.stripe) ∧ Below w.heap.size w w' := by
  refine (stripe_any h hw).mono ?_
  rintro e w' ⟨rfl, n, rfl⟩
  exact ⟨rfl, ⟨rfl, rfl, rfl, Nat.le_refl _, fun _ _ => rfl⟩⟩
theorem enters_yes {x : LS} {t : Int} {es : List L9.En} {j : Nat} (hj : j < es.length) (hs : j < x.a.sl) : x.enters t es (j + 1) = (x.enters t es j).enter es[j] (t * ((x.a.M : Int) - 2) + (j : Int)) := by
  rw [LS.enters, dif_pos hj, if_pos hs]
theorem enters_no {x : LS} {t : Int} {es : List L9.En} {j : Nat} (hj : j < es.length) (hs : ¬ j < x.a.sl) : x.enters t es (j + 1) = x.enters t es j := by
  rw [LS.enters, dif_pos hj, if_neg hs]
theorem Dg.drewN {w w' : World} {P : Pl} {q : Ql} {O : Nat → Prop} {x : LS} {l : Int} (h : Dg w P q O x l w') (n : Nat) : Dg w P q O x l (w'.drewN n) := by
  obtain ⟨O', a, b, c⟩ := h
  exact ⟨O', a.drewN n, b, c.drewN n⟩
theorem Dg.of_drew {w w' : World} {P : Pl} {q : Ql} {O : Nat → Prop} {x : LS} {l : Int} (h : Dg w.drew P q O x l w') : Dg w P q O x l w' := by
  obtain ⟨O', a, b, c⟩ := h
  exact ⟨O', a, b, But.of_drewN 1 c⟩
theorem ent_lt {w : World} {A : Option Addr} {n : Nat} {es : List L9.En} (h : L9.Ers w A n es) (h0 : 0 < n) : ∀ a, A = some a → a.block < w.heap.size := by
  obtain ⟨b, off, e, hb, _⟩ := h.2 h0
  rintro a rfl
  injection e with e
  subst e
  exact hb
section
variable {w w' : World} {P : Pl} {q : Ql} {O : Nat → Prop} {x : LS} {l : Int}
set_option maxHeartbeats 3200000 in
theorem apply_any (h : LG w P q O x l) (hw : x.Wf) (n : L9.Nt) (A : Option Addr) (len c : Nat) (hE : L9.Ers w A len n.es) (hO : ∀ a, A = some a → ¬ O a.block) (hlen : len ≤ 1000) (hq : n.q < 18446744073709551616) (hz : -9223372036854775808 ≤ n.z ∧ n.z ≤ 9223372036854775807) :
    Calls Tryz.prog 29 #[.pointer (some ⟨q.b, 0, none⟩), .agg #[.int .u64 (n.q : Int), .int .i64 n.z, .slice A len c]] w fun e w' => e = .returned (.tuple #[]) ∧ Dg w P q O (x.apply n) l w' := by
  have HA := Lib.hid h.wf
  have SM := Lib.hid h.wf.small.hm
  have NN := Lib.hid h.wf.n
  have HW := Lib.hid hw
  have STI := Lib.hid (stripe_in hw h.wf)
  have HE0 := Lib.hid hE
  obtain ⟨W, hW⟩ : ∃ W, W = w.alloc (.cells #[.int .u64 (n.q : Int), .int .i64 n.z, .slice A len c] 66) := ⟨_, rfl⟩
  have bel : Below w.heap.size w W := by rw [hW]; exact (Below.refl _ _).alloc (Nat.le_refl _) _
  have GW := Lib.hid (show LG W P q O x l by rw [hW]; exact h.alloc _)
  have BW := Lib.hid bel
  have NB := Lib.hid (show At W w.heap.size #[.int .u64 (n.q : Int), .int .i64 n.z, .slice A len c] 66 by rw [hW]; exact At.new _ _ rfl)
  have NO := Lib.hid (show ¬ O w.heap.size from fun e => by have := h.lt _ e; omega)
  have HE := Lib.hid (hE.below bel)
  have HO := Lib.hid hO
  have c2 := GW.out.c2
  have z0 : W.cell? ⟨w.heap.size, 0, none⟩ = some (.int .u64 (n.q : Int)) := NB.out.cell 0
  have z1 : W.cell? ⟨w.heap.size, 1, none⟩ = some (.int .i64 n.z) := NB.out.cell 1
  have z2 : W.cell? ⟨w.heap.size, 2, none⟩ = some (.slice A len c) := NB.out.cell 2
  have HW2 := Lib.hid hW
  clear h hw hE bel hO hW
  cases hl : x.last with
  | false =>
    go_enter Tryz.func29, Tryz.ntmps29
    go_wp2_with fail
    rw [← HW2.out]
    refine (last_call GW.out HW.out).mono ?_
    rintro e w1 ⟨rfl, n1, rfl⟩
    rw [hl]
    go_wp2
    go_quiet (fail)
    go_wp2_with fail
    go_loopw [24] (fun i wr => ∃ j : Nat, j ≤ len ∧ i = .int .i64 (j : Int) ∧ Dg W P q O (x.enters x.stripe n.es j) l wr) (fun i _ => len - (RowKit.intOf i).toNat)
    case atStart =>
      refine ⟨0, Nat.zero_le _, rfl, ?_⟩
      first | exact DW2.out | exact Dg.of_up GW.out ⟨rfl, rfl, rfl, Nat.le_refl _, fun _ _ => rfl⟩
    case round =>
      obtain ⟨j, hj, rfl, hD⟩ := hrel
      obtain ⟨y, hy⟩ : ∃ y, y = x.enters x.stripe n.es j := ⟨_, rfl⟩
      rw [← hy] at hD
      have HD := Lib.hid hD
      obtain ⟨O2, g2, s2, b2⟩ := hD
      have G2 := Lib.hid g2
      have S2 := Lib.hid s2
      have B2 := Lib.hid b2
      have HY := Lib.hid hy
      have YA := Lib.hid (show y.a = x.a by rw [hy]; exact (enters_same _ _ j).1)
      have YW := Lib.hid (show y.Wf by rw [hy]; exact enters_wf HW.out HA.out STI.out _ j)
      have YS := Lib.hid (show y.stripe = x.stripe by unfold LS.stripe; rw [hy, (enters_same _ _ j).1, (enters_same _ _ j).2.2.1, (enters_same _ _ j).2.2.2.1])
      clear g2 s2 b2 hy
      by_cases hlt : j < len
      · have hje : j < n.es.length := by have := HE.out.1; omega
        obtain ⟨b, off, rfl⟩ := HE.out.some_ (by omega)
        have hEr : L9.Ers wr (some ⟨b, off, none⟩) len n.es := HE.out.but B2.out (fun _ a ha => HO.out a ha)
        obtain ⟨q0, q1⟩ := hEr.cell j hlt
        obtain ⟨ek, hek⟩ : ∃ ek, ek = n.es[j].k := ⟨_, rfl⟩
        obtain ⟨eb, heb⟩ : ∃ eb, eb = n.es[j].b := ⟨_, rfl⟩
        rw [← hek] at q0
        rw [← heb] at q1
        have EE := Lib.hid (show n.es[j] = ⟨ek, eb⟩ by rw [hek, heb])
        clear hek heb hEr
        have k0 := G2.out.lb.range
        have gw := Lib.hid (G2.out.alloc (.cells #[.int .i64 (ek : Int), .int .i64 (eb : Int)] 73))
        have k1 := gw.out.lb.range
        have E3 := Lib.hid (At.new (w := wr) (g := wr.heap.size) #[.int .i64 (ek : Int), .int .i64 (eb : Int)] 73 rfl)
        have SL := Lib.hid (slots_any (x.a.M : Int) x.a.b x.a.g x.a.s x.a.n x.a.l ⟨by have := SM.out; omega, by have := SM.out; omega⟩)
        have kk := k1
        rw [YA.out] at kk
        clear k0 k1
        go_wp2_with (first | (refine wpList_load_mid rfl 27 (.tmp 32) rfl q.b 0 rfl x.a.sh _ kk Tryz.underlying27 rfl rfl ?_) | fail)
        refine (SL.out _).mono ?_
        rintro e w3 ⟨rfl, hb⟩
        have G3 := Lib.hid (gw.out.up hb)
        have E4 := Lib.hid (At.below E3.out hb E3.out.lt)
        have B3 := Lib.hid ((But.of_below (S := O2) ((Below.refl wr.heap.size wr).alloc (Nat.le_refl _) (.cells #[.int .i64 (ek : Int), .int .i64 (eb : Int)] 73))).trans (But.of_below (S := fun _ => False) hb) (fun _ h _ => h.elim))
        have EO := Lib.hid (show ¬ O2 wr.heap.size from fun e => by have := G2.out.lt _ e; omega)
        clear hb q0 q1 kk gw E3
        go_wp2_with fail
        refine (lhas_any (j : Int) ((x.a.M : Int) - 2) _).mono ?_
        rintro e w4 ⟨rfl, hw4⟩
        subst hw4
        have JL := Lib.hid (show (j : Int) ≤ 1000 by omega)
        by_cases hs : j < x.a.sl
        · have hd : decide (0 ≤ (j : Int) ∧ (j : Int) < (x.a.M : Int) - 2) = true := decide_eq_true (by have := (small_nats HA.out).1; omega)
          have NX := Lib.hid (show x.enters x.stripe n.es (j + 1) = y.enter ⟨ek, eb⟩ (x.stripe * ((x.a.M : Int) - 2) + (j : Int)) by rw [enters_yes hje hs, ← HY.out, EE.out])
          have PLI := Lib.hid (place_in HA.out STI.out hs)
          have G4 := Lib.hid G3.out.drew
          have S0 : (fun w' : World => LB w' P q y ∧ At w' wr.heap.size #[.int .i64 (ek : Int), .int .i64 (eb : Int)] 73) w4.drew := ⟨G3.out.lb, E4.out⟩
          rw [hd]
          clear hd hs
          go_wp2_with fail
          refine wp_region_early (fun w' : World => LB w' P q y ∧ At w' wr.heap.size #[.int .i64 (ek : Int), .int .i64 (eb : Int)] 73) (fun _ => true) (by kernel_rfl) ?_
          change wpEarly _ _ _ _ _ _ 11 (Array.replicate 11 false) _ _
          refine early_take (i := 0) 36 (.pointer (some ⟨q.b, 0, none⟩)) rfl rfl (by kernel_rfl) (by kernel_rfl) (by kernel_rfl) (by kernel_rfl) rfl (fun _ _ _ h => h) (fun w' hw' => by go_simp) S0 ?_
          simp only [Act.put, List.setIfInBounds_toArray, List.set_cons_zero, List.set_cons_succ]
          refine early_take (i := 1) 37 (.agg #[.int .i64 (ek : Int), .int .i64 (eb : Int)]) rfl rfl (by kernel_rfl) (by kernel_rfl) (by kernel_rfl) (by kernel_rfl) rfl (fun _ _ _ h => h) (fun w' hw' => by have k0 := hw'.2.cell 0; have k1 := hw'.2.cell 1; go_simp) S0 ?_
          simp only [Act.put, List.setIfInBounds_toArray, List.set_cons_zero, List.set_cons_succ]
          refine early_take (i := 2) 38 (.pointer (some ⟨q.b, 0, none⟩)) rfl rfl (by kernel_rfl) (by kernel_rfl) (by kernel_rfl) (by kernel_rfl) rfl (fun _ _ _ h => h) (fun w' hw' => by go_simp) S0 ?_
          simp only [Act.put, List.setIfInBounds_toArray, List.set_cons_zero, List.set_cons_succ]
          refine early_take (i := 3) 39 (.pointer (some ⟨q.b, 0, none⟩)) rfl rfl (by kernel_rfl) (by kernel_rfl) (by kernel_rfl) (by kernel_rfl) rfl (fun _ _ _ h => h) (fun w' hw' => by go_simp) S0 ?_
          simp only [Act.put, List.setIfInBounds_toArray, List.set_cons_zero, List.set_cons_succ]
          refine early_take (i := 4) 40 (.pointer (some ⟨q.b, 0, none⟩)) rfl rfl (by kernel_rfl) (by kernel_rfl) (by kernel_rfl) (by kernel_rfl) rfl (fun _ _ _ h => h) (fun w' hw' => by go_simp) S0 ?_
          simp only [Act.put, List.setIfInBounds_toArray, List.set_cons_zero, List.set_cons_succ]
          refine early_take (i := 5) 41 (sv (x.a.M : Int) x.a.b x.a.g x.a.s x.a.n x.a.l) rfl rfl (by kernel_rfl) (by kernel_rfl) (by kernel_rfl) (by kernel_rfl) rfl (fun _ _ _ h => h) (fun w' hw' => exec_shape (s := x.a) (x := .tmp 40) rfl rfl (YA.out ▸ hw'.1.range)) S0 ?_
          simp only [Act.put, List.setIfInBounds_toArray, List.set_cons_zero, List.set_cons_succ]
          refine early_take (i := 6) 42 (.pointer (some ⟨q.b, 0, none⟩)) rfl rfl (by kernel_rfl) (by kernel_rfl) (by kernel_rfl) (by kernel_rfl) rfl (fun _ _ _ h => h) (fun w' hw' => by go_simp) S0 ?_
          simp only [Act.put, List.setIfInBounds_toArray, List.set_cons_zero, List.set_cons_succ]
          refine early_take (i := 8) 44 (.int .i64 (j : Int)) rfl rfl (by kernel_rfl) (by kernel_rfl) (by kernel_rfl) (by kernel_rfl) rfl (fun _ _ _ h => h) (fun w' hw' => by go_simp) S0 ?_
          simp only [Act.put, List.setIfInBounds_toArray, List.set_cons_zero, List.set_cons_succ]
          refine early_only (i := 7) (by kernel_rfl) rfl (fun K hK => ?_)
          simp only [opWp, List.getElem?_toArray, List.getElem?_cons_succ, List.getElem?_cons_zero]
          go_simp
          go_at_call 42
          refine (stripe_call G4.out YW.out).mono ?_
          rintro e w5 ⟨rfl, hb⟩
          rw [YS.out]
          have G5 := Lib.hid (G4.out.up hb)
          have S5 : (fun w' : World => LB w' P q y ∧ At w' wr.heap.size #[.int .i64 (ek : Int), .int .i64 (eb : Int)] 73) w5 := ⟨G5.out.lb, At.below S0.2 hb S0.2.lt⟩
          have B5 := Lib.hid (But.of_below (S := O2) (below_drew hb))
          clear hb
          refine hK _ _ (fun _ => S5) ?_
          refine early_only (i := 9) (by kernel_rfl) rfl (fun K hK => ?_)
          simp only [opWp, List.getElem?_toArray, List.getElem?_cons_succ, List.getElem?_cons_zero]
          go_simp
          go_at_call 78
          refine (L5.place_any (x.a.M : Int) x.a.b x.a.g x.a.s x.a.n x.a.l x.stripe ⟨by have := STI.out; omega, by have := STI.out; have := NN.out; omega⟩ (j : Int) ⟨by omega, by have := JL.out; omega⟩ ⟨by have := SM.out; omega, by have := SM.out; omega⟩ _).mono ?_
          rintro e w6 ⟨rfl, hb⟩
          have G6 := Lib.hid (G5.out.up hb)
          have S6 : (fun w' : World => LB w' P q y ∧ At w' wr.heap.size #[.int .i64 (ek : Int), .int .i64 (eb : Int)] 73) w6 := ⟨G6.out.lb, At.below S5.2 hb S5.2.lt⟩
          have B6 := Lib.hid (B5.out.trans (But.of_below (S := fun _ => False) hb) (fun _ h _ => h.elim))
          clear hb S5
          refine hK _ _ (fun _ => S6) ?_
          refine early_only (i := 10) (by kernel_rfl) rfl (fun K hK => ?_)
          simp only [opWp, List.getElem?_toArray, List.getElem?_cons_succ, List.getElem?_cons_zero]
          go_simp
          go_at_call 77
          refine (enter_any G6.out YW.out ⟨ek, eb⟩ (x.stripe * ((x.a.M : Int) - 2) + (j : Int)) (by have := PLI.out; rw [YA.out]; omega)).mono ?_
          rintro e w7 ⟨rfl, hD⟩
          have D7 := Lib.hid (Dg.trans (fun _ h => .inl h) B6.out hD)
          have S7 : (fun w' : World => LB w' P q y ∧ At w' wr.heap.size #[.int .i64 (ek : Int), .int .i64 (eb : Int)] 73) w7 := ⟨hD.lb (enter_same _ _).1 (enter_same _ _).2.2.1 (enter_same _ _).2.2.2.1, by obtain ⟨O7, _, _, b7⟩ := hD; exact S6.2.but b7 EO.out⟩
          clear hD
          refine hK _ _ (fun _ => S7) ?_
          refine early_done (by kernel_rfl) ?_
          have D8 := Lib.hid (Dg.trans S2.out B2.out (Dg.trans (fun _ h => .inl h) B3.out D7.out))
          go_wp2
          go_roundw
          case rel => exact ⟨j + 1, by omega, by go_num, by rw [NX.out]; exact D8.out⟩
          case measure => simp [RowKit.intOf]; omega
        · have hd : decide (0 ≤ (j : Int) ∧ (j : Int) < (x.a.M : Int) - 2) = false := decide_eq_false (by have := (small_nats HA.out).1; omega)
          have NX := Lib.hid (show x.enters x.stripe n.es (j + 1) = y by rw [enters_no hje hs, ← HY.out])
          rw [hd]
          clear hd hs
          go_wp2
          go_roundw
          case rel => exact ⟨j + 1, by omega, by go_num, by rw [NX.out]; exact Dg.trans S2.out B2.out ⟨O2, G3.out, fun k hk => .inl hk, B3.out⟩⟩
          case measure => simp [RowKit.intOf]; omega
      · obtain rfl : j = len := by omega
        have EL := Lib.hid (show y = x.enters x.stripe n.es n.es.length by rw [HY.out, HE.out.1])
        have k11 := G2.out.lb.c11
        have fr := G2.out.frozen 11
        have IX := Lib.hid (show y.idx = x.idx by rw [HY.out]; exact (enters_same _ _ _).2.2.2.1)
        have e1 : IntKind.i64.wrap ((y.idx : Int) + 1) = (y.idx : Int) + 1 := wrap_of (by have := YW.out.ix; have := HA.out.small.hs; rw [YA.out] at *; omega) (by have := YW.out.ix; have := HA.out.small.hs; rw [YA.out] at *; omega)
        go_wp2
        refine bodyPost_ret (results_none rfl _ _ _) rfl ?_
        have ec : (y.idx : Int) + 1 = ((y.idx + 1 : Nat) : Int) := by omega
        rw [ec]
        have D9 := G2.out.zoomB.2.2 (wr.setCell ⟨q.b, 11, none⟩ (.int .i64 ((y.idx + 1 : Nat) : Int))) y.seg (y.idx + 1) (At.set G2.out.lb 11 _) ((But.refl (fun k => k = q.b) wr).setCell (p := ⟨q.b, 11, none⟩) (fun _ => rfl) _)
        have E9 : x.apply n = { y with seg := y.seg, idx := y.idx + 1 } := by
          unfold LS.apply
          rw [if_neg (fun h => by rw [hl] at h; exact absurd h.1 (by decide)), if_neg (by rw [hl]; decide), ← EL.out, IX.out]
        rw [E9]
        exact ⟨rfl, Dg.trans (fun _ h => .inl h) (But.of_below BW.out) (Dg.trans S2.out B2.out D9)⟩
  | true =>
    by_cases hz0 : 0 ≤ n.z ∧ n.z < x.a.g
    · obtain ⟨zn, hzn⟩ := Int.eq_ofNat_of_zero_le hz0.1
      have dz : decide (0 ≤ (zn : Int) ∧ (zn : Int) < x.a.g) = true := decide_eq_true (by rw [← hzn]; exact hz0)
      rw [hzn] at NB HW2 z1
      rw [hzn]
      go_enter Tryz.func29, Tryz.ntmps29
      go_wp2_with fail
      rw [← HW2.out]
      refine (last_call GW.out HW.out).mono ?_
      rintro e w1 ⟨rfl, n1, rfl⟩
      rw [hl]
      go_wp2
      have S0 : (fun w' : World => LB w' P q x ∧ At w' w.heap.size #[.int .u64 (n.q : Int), .int .i64 (zn : Int), .slice A len c] 66) (W.drewN n1).drew := ⟨GW.out.lb, NB.out⟩
      refine wp_region_early (fun w' : World => LB w' P q x ∧ At w' w.heap.size #[.int .u64 (n.q : Int), .int .i64 (zn : Int), .slice A len c] 66) (fun _ => true) (by kernel_rfl) ?_
      change wpEarly _ _ _ _ _ _ 12 (Array.replicate 12 false) _ _
      refine early_take (i := 0) 9 (.bool true) rfl rfl (by kernel_rfl) (by kernel_rfl) (by kernel_rfl) (by kernel_rfl) rfl (fun _ _ _ h => h) (fun w' hw' => by go_simp) S0 ?_
      simp only [Act.put, List.setIfInBounds_toArray, List.set_cons_zero, List.set_cons_succ]
      refine early_take (i := 1) 10 (.bool true) rfl rfl (by kernel_rfl) (by kernel_rfl) (by kernel_rfl) (by kernel_rfl) rfl (fun _ _ _ h => h) (fun w' hw' => by go_simp) S0 ?_
      simp only [Act.put, List.setIfInBounds_toArray, List.set_cons_zero, List.set_cons_succ]
      refine early_take (i := 2) 11 (.pointer (some ⟨w.heap.size, 1, none⟩)) rfl rfl (by kernel_rfl) (by kernel_rfl) (by kernel_rfl) (by kernel_rfl) rfl (fun _ _ _ h => h) (fun w' hw' => by go_simp) S0 ?_
      simp only [Act.put, List.setIfInBounds_toArray, List.set_cons_zero, List.set_cons_succ]
      refine early_take (i := 3) 12 (.int .i64 (zn : Int)) rfl rfl (by kernel_rfl) (by kernel_rfl) (by kernel_rfl) (by kernel_rfl) rfl (fun _ _ _ h => h) (fun w' hw' => by have k : w'.cell? ⟨w.heap.size, 1, none⟩ = some (.int .i64 (zn : Int)) := hw'.2.cell 1; go_simp) S0 ?_
      simp only [Act.put, List.setIfInBounds_toArray, List.set_cons_zero, List.set_cons_succ]
      refine early_take (i := 4) 13 (.pointer (some ⟨q.b, 0, none⟩)) rfl rfl (by kernel_rfl) (by kernel_rfl) (by kernel_rfl) (by kernel_rfl) rfl (fun _ _ _ h => h) (fun w' hw' => by go_simp) S0 ?_
      simp only [Act.put, List.setIfInBounds_toArray, List.set_cons_zero, List.set_cons_succ]
      refine early_take (i := 5) 14 (.pointer (some ⟨q.b, 0, none⟩)) rfl rfl (by kernel_rfl) (by kernel_rfl) (by kernel_rfl) (by kernel_rfl) rfl (fun _ _ _ h => h) (fun w' hw' => by go_simp) S0 ?_
      simp only [Act.put, List.setIfInBounds_toArray, List.set_cons_zero, List.set_cons_succ]
      refine early_take (i := 6) 15 (.pointer (some ⟨q.b, 0, none⟩)) rfl rfl (by kernel_rfl) (by kernel_rfl) (by kernel_rfl) (by kernel_rfl) rfl (fun _ _ _ h => h) (fun w' hw' => by go_simp) S0 ?_
      simp only [Act.put, List.setIfInBounds_toArray, List.set_cons_zero, List.set_cons_succ]
      refine early_take (i := 7) 16 (.pointer (some ⟨q.b, 2, none⟩)) rfl rfl (by kernel_rfl) (by kernel_rfl) (by kernel_rfl) (by kernel_rfl) rfl (fun _ _ _ h => h) (fun w' hw' => by go_simp) S0 ?_
      simp only [Act.put, List.setIfInBounds_toArray, List.set_cons_zero, List.set_cons_succ]
      refine early_take (i := 8) 17 (.int .i64 x.a.g) rfl rfl (by kernel_rfl) (by kernel_rfl) (by kernel_rfl) (by kernel_rfl) rfl (fun _ _ _ h => h) (fun w' hw' => by have k := hw'.1.c2; go_simp) S0 ?_
      simp only [Act.put, List.setIfInBounds_toArray, List.set_cons_zero, List.set_cons_succ]
      refine early_only (i := 9) (by kernel_rfl) rfl (fun K hK => ?_)
      simp only [opWp, List.getElem?_toArray, List.getElem?_cons_succ, List.getElem?_cons_zero]
      go_simp
      go_at_call 58
      refine (lhas_any (zn : Int) x.a.g _).mono ?_
      rintro e w2 ⟨rfl, hw2⟩
      rw [dz]
      have SR : (fun w' : World => LB w' P q x ∧ At w' w.heap.size #[.int .u64 (n.q : Int), .int .i64 (zn : Int), .slice A len c] 66) w2 := by rw [hw2]; exact S0
      have BW2 := Lib.hid hw2
      clear hw2
      refine hK _ _ (fun _ => SR) ?_
      refine early_take (i := 10) 19 (.bool false) rfl rfl (by kernel_rfl) (by kernel_rfl) (by kernel_rfl) (by kernel_rfl) rfl (fun _ _ _ h => h) (fun w' hw' => by go_simp) SR ?_
      simp only [Act.put, List.setIfInBounds_toArray, List.set_cons_zero, List.set_cons_succ]
      refine early_take (i := 11) 20 (.bool false) rfl rfl (by kernel_rfl) (by kernel_rfl) (by kernel_rfl) (by kernel_rfl) rfl (fun _ _ _ h => h) (fun w' hw' => by go_simp) SR ?_
      simp only [Act.put, List.setIfInBounds_toArray, List.set_cons_zero, List.set_cons_succ]
      refine early_done (by kernel_rfl) ?_
      have z2 : w2.cell? ⟨w.heap.size, 2, none⟩ = some (.slice A len c) := SR.2.cell 2
      clear SR S0
      have DW2 := Lib.hid (show Dg W P q O x l w2 by rw [BW2.out]; exact Dg.of_up GW.out ⟨rfl, rfl, rfl, Nat.le_refl _, fun _ _ => rfl⟩)
      go_wp2_with fail
      go_loopw [24] (fun i wr => ∃ j : Nat, j ≤ len ∧ i = .int .i64 (j : Int) ∧ Dg W P q O (x.enters x.stripe n.es j) l wr) (fun i _ => len - (RowKit.intOf i).toNat)
      case atStart =>
        refine ⟨0, Nat.zero_le _, rfl, ?_⟩
        first | exact DW2.out | exact Dg.of_up GW.out ⟨rfl, rfl, rfl, Nat.le_refl _, fun _ _ => rfl⟩
      case round =>
        obtain ⟨j, hj, rfl, hD⟩ := hrel
        obtain ⟨y, hy⟩ : ∃ y, y = x.enters x.stripe n.es j := ⟨_, rfl⟩
        rw [← hy] at hD
        have HD := Lib.hid hD
        obtain ⟨O2, g2, s2, b2⟩ := hD
        have G2 := Lib.hid g2
        have S2 := Lib.hid s2
        have B2 := Lib.hid b2
        have HY := Lib.hid hy
        have YA := Lib.hid (show y.a = x.a by rw [hy]; exact (enters_same _ _ j).1)
        have YW := Lib.hid (show y.Wf by rw [hy]; exact enters_wf HW.out HA.out STI.out _ j)
        have YS := Lib.hid (show y.stripe = x.stripe by unfold LS.stripe; rw [hy, (enters_same _ _ j).1, (enters_same _ _ j).2.2.1, (enters_same _ _ j).2.2.2.1])
        clear g2 s2 b2 hy
        by_cases hlt : j < len
        · have hje : j < n.es.length := by have := HE.out.1; omega
          obtain ⟨b, off, rfl⟩ := HE.out.some_ (by omega)
          have hEr : L9.Ers wr (some ⟨b, off, none⟩) len n.es := HE.out.but B2.out (fun _ a ha => HO.out a ha)
          obtain ⟨q0, q1⟩ := hEr.cell j hlt
          obtain ⟨ek, hek⟩ : ∃ ek, ek = n.es[j].k := ⟨_, rfl⟩
          obtain ⟨eb, heb⟩ : ∃ eb, eb = n.es[j].b := ⟨_, rfl⟩
          rw [← hek] at q0
          rw [← heb] at q1
          have EE := Lib.hid (show n.es[j] = ⟨ek, eb⟩ by rw [hek, heb])
          clear hek heb hEr
          have k0 := G2.out.lb.range
          have gw := Lib.hid (G2.out.alloc (.cells #[.int .i64 (ek : Int), .int .i64 (eb : Int)] 73))
          have k1 := gw.out.lb.range
          have E3 := Lib.hid (At.new (w := wr) (g := wr.heap.size) #[.int .i64 (ek : Int), .int .i64 (eb : Int)] 73 rfl)
          have SL := Lib.hid (slots_any (x.a.M : Int) x.a.b x.a.g x.a.s x.a.n x.a.l ⟨by have := SM.out; omega, by have := SM.out; omega⟩)
          have kk := k1
          rw [YA.out] at kk
          clear k0 k1
          go_wp2_with (first | (refine wpList_load_mid rfl 27 (.tmp 32) rfl q.b 0 rfl x.a.sh _ kk Tryz.underlying27 rfl rfl ?_) | fail)
          refine (SL.out _).mono ?_
          rintro e w3 ⟨rfl, hb⟩
          have G3 := Lib.hid (gw.out.up hb)
          have E4 := Lib.hid (At.below E3.out hb E3.out.lt)
          have B3 := Lib.hid ((But.of_below (S := O2) ((Below.refl wr.heap.size wr).alloc (Nat.le_refl _) (.cells #[.int .i64 (ek : Int), .int .i64 (eb : Int)] 73))).trans (But.of_below (S := fun _ => False) hb) (fun _ h _ => h.elim))
          have EO := Lib.hid (show ¬ O2 wr.heap.size from fun e => by have := G2.out.lt _ e; omega)
          clear hb q0 q1 kk gw E3
          go_wp2_with fail
          refine (lhas_any (j : Int) ((x.a.M : Int) - 2) _).mono ?_
          rintro e w4 ⟨rfl, hw4⟩
          subst hw4
          have JL := Lib.hid (show (j : Int) ≤ 1000 by omega)
          by_cases hs : j < x.a.sl
          · have hd : decide (0 ≤ (j : Int) ∧ (j : Int) < (x.a.M : Int) - 2) = true := decide_eq_true (by have := (small_nats HA.out).1; omega)
            have NX := Lib.hid (show x.enters x.stripe n.es (j + 1) = y.enter ⟨ek, eb⟩ (x.stripe * ((x.a.M : Int) - 2) + (j : Int)) by rw [enters_yes hje hs, ← HY.out, EE.out])
            have PLI := Lib.hid (place_in HA.out STI.out hs)
            have G4 := Lib.hid G3.out.drew
            have S0 : (fun w' : World => LB w' P q y ∧ At w' wr.heap.size #[.int .i64 (ek : Int), .int .i64 (eb : Int)] 73) w4.drew := ⟨G3.out.lb, E4.out⟩
            rw [hd]
            clear hd hs
            go_wp2_with fail
            refine wp_region_early (fun w' : World => LB w' P q y ∧ At w' wr.heap.size #[.int .i64 (ek : Int), .int .i64 (eb : Int)] 73) (fun _ => true) (by kernel_rfl) ?_
            change wpEarly _ _ _ _ _ _ 11 (Array.replicate 11 false) _ _
            refine early_take (i := 0) 36 (.pointer (some ⟨q.b, 0, none⟩)) rfl rfl (by kernel_rfl) (by kernel_rfl) (by kernel_rfl) (by kernel_rfl) rfl (fun _ _ _ h => h) (fun w' hw' => by go_simp) S0 ?_
            simp only [Act.put, List.setIfInBounds_toArray, List.set_cons_zero, List.set_cons_succ]
            refine early_take (i := 1) 37 (.agg #[.int .i64 (ek : Int), .int .i64 (eb : Int)]) rfl rfl (by kernel_rfl) (by kernel_rfl) (by kernel_rfl) (by kernel_rfl) rfl (fun _ _ _ h => h) (fun w' hw' => by have k0 := hw'.2.cell 0; have k1 := hw'.2.cell 1; go_simp) S0 ?_
            simp only [Act.put, List.setIfInBounds_toArray, List.set_cons_zero, List.set_cons_succ]
            refine early_take (i := 2) 38 (.pointer (some ⟨q.b, 0, none⟩)) rfl rfl (by kernel_rfl) (by kernel_rfl) (by kernel_rfl) (by kernel_rfl) rfl (fun _ _ _ h => h) (fun w' hw' => by go_simp) S0 ?_
            simp only [Act.put, List.setIfInBounds_toArray, List.set_cons_zero, List.set_cons_succ]
            refine early_take (i := 3) 39 (.pointer (some ⟨q.b, 0, none⟩)) rfl rfl (by kernel_rfl) (by kernel_rfl) (by kernel_rfl) (by kernel_rfl) rfl (fun _ _ _ h => h) (fun w' hw' => by go_simp) S0 ?_
            simp only [Act.put, List.setIfInBounds_toArray, List.set_cons_zero, List.set_cons_succ]
            refine early_take (i := 4) 40 (.pointer (some ⟨q.b, 0, none⟩)) rfl rfl (by kernel_rfl) (by kernel_rfl) (by kernel_rfl) (by kernel_rfl) rfl (fun _ _ _ h => h) (fun w' hw' => by go_simp) S0 ?_
            simp only [Act.put, List.setIfInBounds_toArray, List.set_cons_zero, List.set_cons_succ]
            refine early_take (i := 5) 41 (sv (x.a.M : Int) x.a.b x.a.g x.a.s x.a.n x.a.l) rfl rfl (by kernel_rfl) (by kernel_rfl) (by kernel_rfl) (by kernel_rfl) rfl (fun _ _ _ h => h) (fun w' hw' => exec_shape (s := x.a) (x := .tmp 40) rfl rfl (YA.out ▸ hw'.1.range)) S0 ?_
            simp only [Act.put, List.setIfInBounds_toArray, List.set_cons_zero, List.set_cons_succ]
            refine early_take (i := 6) 42 (.pointer (some ⟨q.b, 0, none⟩)) rfl rfl (by kernel_rfl) (by kernel_rfl) (by kernel_rfl) (by kernel_rfl) rfl (fun _ _ _ h => h) (fun w' hw' => by go_simp) S0 ?_
            simp only [Act.put, List.setIfInBounds_toArray, List.set_cons_zero, List.set_cons_succ]
            refine early_take (i := 8) 44 (.int .i64 (j : Int)) rfl rfl (by kernel_rfl) (by kernel_rfl) (by kernel_rfl) (by kernel_rfl) rfl (fun _ _ _ h => h) (fun w' hw' => by go_simp) S0 ?_
            simp only [Act.put, List.setIfInBounds_toArray, List.set_cons_zero, List.set_cons_succ]
            refine early_only (i := 7) (by kernel_rfl) rfl (fun K hK => ?_)
            simp only [opWp, List.getElem?_toArray, List.getElem?_cons_succ, List.getElem?_cons_zero]
            go_simp
            go_at_call 42
            refine (stripe_call G4.out YW.out).mono ?_
            rintro e w5 ⟨rfl, hb⟩
            rw [YS.out]
            have G5 := Lib.hid (G4.out.up hb)
            have S5 : (fun w' : World => LB w' P q y ∧ At w' wr.heap.size #[.int .i64 (ek : Int), .int .i64 (eb : Int)] 73) w5 := ⟨G5.out.lb, At.below S0.2 hb S0.2.lt⟩
            have B5 := Lib.hid (But.of_below (S := O2) (below_drew hb))
            clear hb
            refine hK _ _ (fun _ => S5) ?_
            refine early_only (i := 9) (by kernel_rfl) rfl (fun K hK => ?_)
            simp only [opWp, List.getElem?_toArray, List.getElem?_cons_succ, List.getElem?_cons_zero]
            go_simp
            go_at_call 78
            refine (L5.place_any (x.a.M : Int) x.a.b x.a.g x.a.s x.a.n x.a.l x.stripe ⟨by have := STI.out; omega, by have := STI.out; have := NN.out; omega⟩ (j : Int) ⟨by omega, by have := JL.out; omega⟩ ⟨by have := SM.out; omega, by have := SM.out; omega⟩ _).mono ?_
            rintro e w6 ⟨rfl, hb⟩
            have G6 := Lib.hid (G5.out.up hb)
            have S6 : (fun w' : World => LB w' P q y ∧ At w' wr.heap.size #[.int .i64 (ek : Int), .int .i64 (eb : Int)] 73) w6 := ⟨G6.out.lb, At.below S5.2 hb S5.2.lt⟩
            have B6 := Lib.hid (B5.out.trans (But.of_below (S := fun _ => False) hb) (fun _ h _ => h.elim))
            clear hb S5
            refine hK _ _ (fun _ => S6) ?_
            refine early_only (i := 10) (by kernel_rfl) rfl (fun K hK => ?_)
            simp only [opWp, List.getElem?_toArray, List.getElem?_cons_succ, List.getElem?_cons_zero]
            go_simp
            go_at_call 77
            refine (enter_any G6.out YW.out ⟨ek, eb⟩ (x.stripe * ((x.a.M : Int) - 2) + (j : Int)) (by have := PLI.out; rw [YA.out]; omega)).mono ?_
            rintro e w7 ⟨rfl, hD⟩
            have D7 := Lib.hid (Dg.trans (fun _ h => .inl h) B6.out hD)
            have S7 : (fun w' : World => LB w' P q y ∧ At w' wr.heap.size #[.int .i64 (ek : Int), .int .i64 (eb : Int)] 73) w7 := ⟨hD.lb (enter_same _ _).1 (enter_same _ _).2.2.1 (enter_same _ _).2.2.2.1, by obtain ⟨O7, _, _, b7⟩ := hD; exact S6.2.but b7 EO.out⟩
            clear hD
            refine hK _ _ (fun _ => S7) ?_
            refine early_done (by kernel_rfl) ?_
            have D8 := Lib.hid (Dg.trans S2.out B2.out (Dg.trans (fun _ h => .inl h) B3.out D7.out))
            go_wp2
            go_roundw
            case rel => exact ⟨j + 1, by omega, by go_num, by rw [NX.out]; exact D8.out⟩
            case measure => simp [RowKit.intOf]; omega
          · have hd : decide (0 ≤ (j : Int) ∧ (j : Int) < (x.a.M : Int) - 2) = false := decide_eq_false (by have := (small_nats HA.out).1; omega)
            have NX := Lib.hid (show x.enters x.stripe n.es (j + 1) = y by rw [enters_no hje hs, ← HY.out])
            rw [hd]
            clear hd hs
            go_wp2
            go_roundw
            case rel => exact ⟨j + 1, by omega, by go_num, by rw [NX.out]; exact Dg.trans S2.out B2.out ⟨O2, G3.out, fun k hk => .inl hk, B3.out⟩⟩
            case measure => simp [RowKit.intOf]; omega
        · obtain rfl : j = len := by omega
          have EL := Lib.hid (show y = x.enters x.stripe n.es n.es.length by rw [HY.out, HE.out.1])
          have NO2 := Lib.hid (show ¬ O2 w.heap.size from fun e => (S2.out _ e).elim NO.out (fun h => by have := NB.out.lt; omega))
          have NB2 := Lib.hid (NB.out.but B2.out NO.out)
          have SG := Lib.hid (show y.seg = x.seg by rw [HY.out]; exact (enters_same _ _ _).2.2.1)
          have S0 : (fun w' : World => LB w' P q y ∧ At w' w.heap.size #[.int .u64 (n.q : Int), .int .i64 (zn : Int), .slice A j c] 66) wr.drew := ⟨G2.out.lb, NB2.out⟩
          have G3 := Lib.hid G2.out.drew
          clear z0 z1 z2
          go_wp2_with fail
          refine wp_region_early (fun w' : World => LB w' P q y ∧ At w' w.heap.size #[.int .u64 (n.q : Int), .int .i64 (zn : Int), .slice A j c] 66) (fun _ => true) (by kernel_rfl) ?_
          change wpEarly _ _ _ _ _ _ 11 (Array.replicate 11 false) _ _
          refine early_take (i := 0) 57 (.pointer (some ⟨q.b, 0, none⟩)) rfl rfl (by kernel_rfl) (by kernel_rfl) (by kernel_rfl) (by kernel_rfl) rfl (fun _ _ _ h => h) (fun w' hw' => by go_simp) S0 ?_
          simp only [Act.put, List.setIfInBounds_toArray, List.set_cons_zero, List.set_cons_succ]
          refine early_take (i := 1) 58 (.pointer (some ⟨q.b, 0, none⟩)) rfl rfl (by kernel_rfl) (by kernel_rfl) (by kernel_rfl) (by kernel_rfl) rfl (fun _ _ _ h => h) (fun w' hw' => by go_simp) S0 ?_
          simp only [Act.put, List.setIfInBounds_toArray, List.set_cons_zero, List.set_cons_succ]
          refine early_take (i := 2) 59 (.pointer (some ⟨q.b, 9, none⟩)) rfl rfl (by kernel_rfl) (by kernel_rfl) (by kernel_rfl) (by kernel_rfl) rfl (fun _ _ _ h => h) (fun w' hw' => by go_simp) S0 ?_
          simp only [Act.put, List.setIfInBounds_toArray, List.set_cons_zero, List.set_cons_succ]
          refine early_take (i := 3) 60 (.pointer (some ⟨q.t, 0, none⟩)) rfl rfl (by kernel_rfl) (by kernel_rfl) (by kernel_rfl) (by kernel_rfl) rfl (fun _ _ _ h => h) (fun w' hw' => by have k := hw'.1.c9; go_simp) S0 ?_
          simp only [Act.put, List.setIfInBounds_toArray, List.set_cons_zero, List.set_cons_succ]
          refine early_take (i := 4) 61 (.pointer (some ⟨q.b, 0, none⟩)) rfl rfl (by kernel_rfl) (by kernel_rfl) (by kernel_rfl) (by kernel_rfl) rfl (fun _ _ _ h => h) (fun w' hw' => by go_simp) S0 ?_
          simp only [Act.put, List.setIfInBounds_toArray, List.set_cons_zero, List.set_cons_succ]
          refine early_take (i := 5) 62 (.pointer (some ⟨q.b, 0, none⟩)) rfl rfl (by kernel_rfl) (by kernel_rfl) (by kernel_rfl) (by kernel_rfl) rfl (fun _ _ _ h => h) (fun w' hw' => by go_simp) S0 ?_
          simp only [Act.put, List.setIfInBounds_toArray, List.set_cons_zero, List.set_cons_succ]
          refine early_take (i := 6) 63 (.pointer (some ⟨q.b, 10, none⟩)) rfl rfl (by kernel_rfl) (by kernel_rfl) (by kernel_rfl) (by kernel_rfl) rfl (fun _ _ _ h => h) (fun w' hw' => by go_simp) S0 ?_
          simp only [Act.put, List.setIfInBounds_toArray, List.set_cons_zero, List.set_cons_succ]
          refine early_take (i := 7) 64 (.int .i64 (y.seg : Int)) rfl rfl (by kernel_rfl) (by kernel_rfl) (by kernel_rfl) (by kernel_rfl) rfl (fun _ _ _ h => h) (fun w' hw' => by have k := hw'.1.c10; go_simp) S0 ?_
          simp only [Act.put, List.setIfInBounds_toArray, List.set_cons_zero, List.set_cons_succ]
          refine early_take (i := 8) 65 (.pointer (some ⟨w.heap.size, 0, none⟩)) rfl rfl (by kernel_rfl) (by kernel_rfl) (by kernel_rfl) (by kernel_rfl) rfl (fun _ _ _ h => h) (fun w' hw' => by go_simp) S0 ?_
          simp only [Act.put, List.setIfInBounds_toArray, List.set_cons_zero, List.set_cons_succ]
          refine early_take (i := 9) 66 (.int .u64 (n.q : Int)) rfl rfl (by kernel_rfl) (by kernel_rfl) (by kernel_rfl) (by kernel_rfl) rfl (fun _ _ _ h => h) (fun w' hw' => by have k := hw'.2.cell 0; go_simp) S0 ?_
          simp only [Act.put, List.setIfInBounds_toArray, List.set_cons_zero, List.set_cons_succ]
          refine early_only (i := 10) (by kernel_rfl) rfl (fun K hK => ?_)
          simp only [opWp, List.getElem?_toArray, List.getElem?_cons_succ, List.getElem?_cons_zero]
          go_simp
          go_at_call 79
          refine (L12.seal_any (y.seg : Int) (n.q : Int) G3.out.zoomT.1).mono ?_
          rintro e w4 ⟨rfl, k1, k2⟩
          have hD := G3.out.zoomT.2.2.2 w4 _ k1 k2
          have D4 := Lib.hid hD
          have S4 : (fun w' : World => LB w' P q y ∧ At w' w.heap.size #[.int .u64 (n.q : Int), .int .i64 (zn : Int), .slice A j c] 66) w4 := ⟨hD.lb rfl rfl rfl, by obtain ⟨O7, _, _, b7⟩ := hD; exact S0.2.but b7 NO2.out⟩
          clear k1 k2 hD
          refine hK _ _ (fun _ => S4) ?_
          refine early_done (by kernel_rfl) ?_
          obtain ⟨O4, g4, s4, b4⟩ := D4.out.of_drew
          have G4 := Lib.hid g4
          have S4' := Lib.hid s4
          have B4 := Lib.hid b4
          have z1 : w4.cell? ⟨w.heap.size, 1, none⟩ = some (.int .i64 (zn : Int)) := S4.2.cell 1
          have k10 := G4.out.lb.c10
          have k11 := G4.out.lb.c11
          have f10 := G4.out.frozen 10
          have f11 := G4.out.frozen 11
          clear g4 s4 b4 S0 S4 D4
          go_wp2_with fail
          obtain ⟨X5, hX5⟩ : ∃ X5 : LS, X5 = { y with T := L12.put y.T (y.seg : Int) fun z => ⟨2, z.lv, (n.q : Int)⟩, seg := zn, idx := 0 } := ⟨_, rfl⟩
          have hD5 := G4.out.zoomB.2.2 ((w4.setCell ⟨q.b, 10, none⟩ (.int .i64 (zn : Int))).setCell ⟨q.b, 11, none⟩ (.int .i64 0)) zn 0 (At.set (At.set G4.out.lb 10 _) 11 _) (((But.refl (fun k => k = q.b) w4).setCell (p := ⟨q.b, 10, none⟩) (fun _ => rfl) _).setCell (p := ⟨q.b, 11, none⟩) (fun _ => rfl) _)
          obtain ⟨O5, g5, s5, b5⟩ := hD5
          have G5 := Lib.hid (show LG ((w4.setCell ⟨q.b, 10, none⟩ (.int .i64 (zn : Int))).setCell ⟨q.b, 11, none⟩ (.int .i64 0)) P q O5 X5 l by rw [hX5]; exact g5)
          have S5' := Lib.hid s5
          have B5 := Lib.hid b5
          have X5s := Lib.hid (show (X5.seg : Int) = (zn : Int) by rw [hX5])
          have XA5 := Lib.hid (show X5.a = y.a by rw [hX5])
          have HX5 := Lib.hid hX5
          clear g5 s5 b5 hX5
          generalize (w4.setCell ⟨q.b, 10, none⟩ (.int .i64 (zn : Int))).setCell ⟨q.b, 11, none⟩ (.int .i64 0) = W5 at *
          have G5d := Lib.hid G5.out.drew
          have S1 : (fun w' : World => LB w' P q X5) W5.drew := G5.out.lb
          refine wp_region_early (fun w' : World => LB w' P q X5) (fun _ => true) (by kernel_rfl) ?_
          change wpEarly _ _ _ _ _ _ 9 (Array.replicate 9 false) _ _
          refine early_take (i := 0) 76 (.pointer (some ⟨q.b, 0, none⟩)) rfl rfl (by kernel_rfl) (by kernel_rfl) (by kernel_rfl) (by kernel_rfl) rfl (fun _ _ _ h => h) (fun w' hw' => by go_simp) S1 ?_
          simp only [Act.put, List.setIfInBounds_toArray, List.set_cons_zero, List.set_cons_succ]
          refine early_take (i := 1) 77 (.pointer (some ⟨q.b, 0, none⟩)) rfl rfl (by kernel_rfl) (by kernel_rfl) (by kernel_rfl) (by kernel_rfl) rfl (fun _ _ _ h => h) (fun w' hw' => by go_simp) S1 ?_
          simp only [Act.put, List.setIfInBounds_toArray, List.set_cons_zero, List.set_cons_succ]
          refine early_take (i := 2) 78 (.pointer (some ⟨q.b, 9, none⟩)) rfl rfl (by kernel_rfl) (by kernel_rfl) (by kernel_rfl) (by kernel_rfl) rfl (fun _ _ _ h => h) (fun w' hw' => by go_simp) S1 ?_
          simp only [Act.put, List.setIfInBounds_toArray, List.set_cons_zero, List.set_cons_succ]
          refine early_take (i := 3) 79 (.pointer (some ⟨q.t, 0, none⟩)) rfl rfl (by kernel_rfl) (by kernel_rfl) (by kernel_rfl) (by kernel_rfl) rfl (fun _ _ _ h => h) (fun w' hw' => by have k := hw'.c9; go_simp) S1 ?_
          simp only [Act.put, List.setIfInBounds_toArray, List.set_cons_zero, List.set_cons_succ]
          refine early_take (i := 4) 80 (.pointer (some ⟨q.b, 0, none⟩)) rfl rfl (by kernel_rfl) (by kernel_rfl) (by kernel_rfl) (by kernel_rfl) rfl (fun _ _ _ h => h) (fun w' hw' => by go_simp) S1 ?_
          simp only [Act.put, List.setIfInBounds_toArray, List.set_cons_zero, List.set_cons_succ]
          refine early_take (i := 5) 81 (.pointer (some ⟨q.b, 0, none⟩)) rfl rfl (by kernel_rfl) (by kernel_rfl) (by kernel_rfl) (by kernel_rfl) rfl (fun _ _ _ h => h) (fun w' hw' => by go_simp) S1 ?_
          simp only [Act.put, List.setIfInBounds_toArray, List.set_cons_zero, List.set_cons_succ]
          refine early_take (i := 6) 82 (.pointer (some ⟨q.b, 10, none⟩)) rfl rfl (by kernel_rfl) (by kernel_rfl) (by kernel_rfl) (by kernel_rfl) rfl (fun _ _ _ h => h) (fun w' hw' => by go_simp) S1 ?_
          simp only [Act.put, List.setIfInBounds_toArray, List.set_cons_zero, List.set_cons_succ]
          refine early_take (i := 7) 83 (.int .i64 (zn : Int)) rfl rfl (by kernel_rfl) (by kernel_rfl) (by kernel_rfl) (by kernel_rfl) rfl (fun _ _ _ h => h) (fun w' hw' => by have k := hw'.c10; rw [X5s.out] at k; go_simp) S1 ?_
          simp only [Act.put, List.setIfInBounds_toArray, List.set_cons_zero, List.set_cons_succ]
          refine early_only (i := 8) (by kernel_rfl) rfl (fun K hK => ?_)
          simp only [opWp, List.getElem?_toArray, List.getElem?_cons_succ, List.getElem?_cons_zero]
          go_simp
          go_at_call 80
          refine (L12.open_any (zn : Int) G5d.out.zoomT.1).mono ?_
          rintro e w6 ⟨rfl, k1, k2⟩
          have hD := (G5d.out.zoomT.2.2.2 w6 _ k1 k2).of_drew
          have D6 := Lib.hid hD
          have S6 : (fun w' : World => LB w' P q X5) w6 := hD.lb rfl rfl rfl
          clear k1 k2 hD
          refine hK _ _ (fun _ => S6) ?_
          refine early_done (by kernel_rfl) ?_
          have E9 : x.apply n = { X5 with T := L12.put X5.T (zn : Int) fun z => ⟨1, z.lv, z.bo⟩ } := by
            unfold LS.apply LS.turn
            rw [if_neg (fun h => h.2 hz0), if_pos hl, ← EL.out, HX5.out, hzn]
            rfl
          go_wp2
          go_end0
          exact ⟨rfl, Dg.trans (fun _ h => .inl h) (But.of_below BW.out) (Dg.trans S2.out B2.out (Dg.trans S4'.out B4.out (Dg.trans S5'.out B5.out D6.out)))⟩
    · have dz : decide (0 ≤ n.z ∧ n.z < x.a.g) = false := decide_eq_false hz0
      go_enter Tryz.func29, Tryz.ntmps29
      go_wp2_with fail
      rw [← HW2.out]
      refine (last_call GW.out HW.out).mono ?_
      rintro e w1 ⟨rfl, n1, rfl⟩
      rw [hl]
      go_wp2
      have S0 : (fun w' : World => LB w' P q x ∧ At w' w.heap.size #[.int .u64 (n.q : Int), .int .i64 n.z, .slice A len c] 66) (W.drewN n1).drew := ⟨GW.out.lb, NB.out⟩
      refine wp_region_early (fun w' : World => LB w' P q x ∧ At w' w.heap.size #[.int .u64 (n.q : Int), .int .i64 n.z, .slice A len c] 66) (fun _ => true) (by kernel_rfl) ?_
      change wpEarly _ _ _ _ _ _ 12 (Array.replicate 12 false) _ _
      refine early_take (i := 0) 9 (.bool true) rfl rfl (by kernel_rfl) (by kernel_rfl) (by kernel_rfl) (by kernel_rfl) rfl (fun _ _ _ h => h) (fun w' hw' => by go_simp) S0 ?_
      simp only [Act.put, List.setIfInBounds_toArray, List.set_cons_zero, List.set_cons_succ]
      refine early_take (i := 1) 10 (.bool true) rfl rfl (by kernel_rfl) (by kernel_rfl) (by kernel_rfl) (by kernel_rfl) rfl (fun _ _ _ h => h) (fun w' hw' => by go_simp) S0 ?_
      simp only [Act.put, List.setIfInBounds_toArray, List.set_cons_zero, List.set_cons_succ]
      refine early_take (i := 2) 11 (.pointer (some ⟨w.heap.size, 1, none⟩)) rfl rfl (by kernel_rfl) (by kernel_rfl) (by kernel_rfl) (by kernel_rfl) rfl (fun _ _ _ h => h) (fun w' hw' => by go_simp) S0 ?_
      simp only [Act.put, List.setIfInBounds_toArray, List.set_cons_zero, List.set_cons_succ]
      refine early_take (i := 3) 12 (.int .i64 n.z) rfl rfl (by kernel_rfl) (by kernel_rfl) (by kernel_rfl) (by kernel_rfl) rfl (fun _ _ _ h => h) (fun w' hw' => by have k : w'.cell? ⟨w.heap.size, 1, none⟩ = some (.int .i64 n.z) := hw'.2.cell 1; go_simp) S0 ?_
      simp only [Act.put, List.setIfInBounds_toArray, List.set_cons_zero, List.set_cons_succ]
      refine early_take (i := 4) 13 (.pointer (some ⟨q.b, 0, none⟩)) rfl rfl (by kernel_rfl) (by kernel_rfl) (by kernel_rfl) (by kernel_rfl) rfl (fun _ _ _ h => h) (fun w' hw' => by go_simp) S0 ?_
      simp only [Act.put, List.setIfInBounds_toArray, List.set_cons_zero, List.set_cons_succ]
      refine early_take (i := 5) 14 (.pointer (some ⟨q.b, 0, none⟩)) rfl rfl (by kernel_rfl) (by kernel_rfl) (by kernel_rfl) (by kernel_rfl) rfl (fun _ _ _ h => h) (fun w' hw' => by go_simp) S0 ?_
      simp only [Act.put, List.setIfInBounds_toArray, List.set_cons_zero, List.set_cons_succ]
      refine early_take (i := 6) 15 (.pointer (some ⟨q.b, 0, none⟩)) rfl rfl (by kernel_rfl) (by kernel_rfl) (by kernel_rfl) (by kernel_rfl) rfl (fun _ _ _ h => h) (fun w' hw' => by go_simp) S0 ?_
      simp only [Act.put, List.setIfInBounds_toArray, List.set_cons_zero, List.set_cons_succ]
      refine early_take (i := 7) 16 (.pointer (some ⟨q.b, 2, none⟩)) rfl rfl (by kernel_rfl) (by kernel_rfl) (by kernel_rfl) (by kernel_rfl) rfl (fun _ _ _ h => h) (fun w' hw' => by go_simp) S0 ?_
      simp only [Act.put, List.setIfInBounds_toArray, List.set_cons_zero, List.set_cons_succ]
      refine early_take (i := 8) 17 (.int .i64 x.a.g) rfl rfl (by kernel_rfl) (by kernel_rfl) (by kernel_rfl) (by kernel_rfl) rfl (fun _ _ _ h => h) (fun w' hw' => by have k := hw'.1.c2; go_simp) S0 ?_
      simp only [Act.put, List.setIfInBounds_toArray, List.set_cons_zero, List.set_cons_succ]
      refine early_only (i := 9) (by kernel_rfl) rfl (fun K hK => ?_)
      simp only [opWp, List.getElem?_toArray, List.getElem?_cons_succ, List.getElem?_cons_zero]
      go_simp
      go_at_call 58
      refine (lhas_any n.z x.a.g _).mono ?_
      rintro e w2 ⟨rfl, hw2⟩
      rw [dz]
      have SR : (fun w' : World => LB w' P q x ∧ At w' w.heap.size #[.int .u64 (n.q : Int), .int .i64 n.z, .slice A len c] 66) w2 := by rw [hw2]; exact S0
      have BW2 := Lib.hid hw2
      clear hw2
      refine hK _ _ (fun _ => SR) ?_
      refine early_take (i := 10) 19 (.bool true) rfl rfl (by kernel_rfl) (by kernel_rfl) (by kernel_rfl) (by kernel_rfl) rfl (fun _ _ _ h => h) (fun w' hw' => by go_simp) SR ?_
      simp only [Act.put, List.setIfInBounds_toArray, List.set_cons_zero, List.set_cons_succ]
      refine early_take (i := 11) 20 (.bool true) rfl rfl (by kernel_rfl) (by kernel_rfl) (by kernel_rfl) (by kernel_rfl) rfl (fun _ _ _ h => h) (fun w' hw' => by go_simp) SR ?_
      simp only [Act.put, List.setIfInBounds_toArray, List.set_cons_zero, List.set_cons_succ]
      refine early_done (by kernel_rfl) ?_
      have z2 : w2.cell? ⟨w.heap.size, 2, none⟩ = some (.slice A len c) := SR.2.cell 2
      clear SR S0
      have DW2 := Lib.hid (show Dg W P q O x l w2 by rw [BW2.out]; exact Dg.of_up GW.out ⟨rfl, rfl, rfl, Nat.le_refl _, fun _ _ => rfl⟩)
      go_wp2
      refine bodyPost_ret (results_none rfl _ _ _) rfl ?_
      have E9 : x.apply n = x := by
        unfold LS.apply
        rw [if_pos ⟨hl, hz0⟩]
      rw [E9]
      refine ⟨rfl, Dg.trans (fun _ h => .inl h) (But.of_below BW.out) ?_⟩
      exact DW2.out
end
end Go.Proofs.YtplmdmchkaacoaaGreat
