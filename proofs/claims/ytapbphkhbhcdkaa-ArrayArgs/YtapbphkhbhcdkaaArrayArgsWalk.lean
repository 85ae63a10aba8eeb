/-
  THE WALK OF ArrayArgs.
-/
import Derived.Test.YtapbphkhbhcdkaaRegM
import Derived.Test.YtapbphkhbhcdkaaBegin
import Derived.Deep.CutRange
import Derived.Deep.CutBlock
import Derived.Deep.DeepCutAuto
namespace Go.Proofs.Ytapbphkhbhcdkaa
open Go.RowKit Go.Maps
set_option linter.unusedVariables false
set_option maxRecDepth 100000

set_option maxHeartbeats 12800000 in
theorem args_walk (x0 x1 x2 x3 x4 x5 m t k i mo f0 : Int) (f : BitVec 8) (hf : f0 = (f.toNat : Int)) {w : World} (h0 : 0 ≤ x0 ∧ x0 ≤ 255) (h1 : 0 ≤ x1 ∧ x1 ≤ 255) (h2 : 0 ≤ x2 ∧ x2 ≤ 255) (h3 : 0 ≤ x3 ∧ x3 ≤ 255) (h4 : 0 ≤ x4 ∧ x4 ≤ 255) (h5 : 0 ≤ x5 ∧ x5 ≤ 255) (hmo : -128 ≤ mo ∧ mo ≤ 127) :
    Calls Try.prog 7 #[.agg #[.int .u8 x0, .int .u8 x1, .int .u8 x2, .int .u8 x3, .int .u8 x4, .int .u8 x5], .int .i64 m, .int .i64 t, .int .i64 k, .int .i64 i, .int .i8 mo, .int .u8 f0] w fun e w' => e = .returned (.bool true) ∧ Below w.heap.size w w' := by
  obtain ⟨M0, b, g, sg, n0, l0, hsm, hshape⟩ := shape_small x0 x1 x2 x3 x4 x5 h0 h1 h2 h3 h4 h5
  obtain ⟨M, rfl⟩ : ∃ M : Nat, M0 = (M : Int) := ⟨M0.toNat, by have := hsm.hm; omega⟩
  have SM := Lib.hid hsm
  have SH := Lib.hid hshape
  clear hsm hshape
  go_enter Try.func7, Try.ntmps7
  go_wp2_with fail
  have A0 := Lib.hid (show At (w.alloc (.cells #[.int .u8 x0, .int .u8 x1, .int .u8 x2, .int .u8 x3, .int .u8 x4, .int .u8 x5] 23)) w.heap.size #[.int .u8 x0, .int .u8 x1, .int .u8 x2, .int .u8 x3, .int .u8 x4, .int .u8 x5] 23 from At.new _ 23 rfl)
  have B0 := Lib.hid ((Below.refl w.heap.size w).alloc (Nat.le_refl _) (.cells #[.int .u8 x0, .int .u8 x1, .int .u8 x2, .int .u8 x3, .int .u8 x4, .int .u8 x5] 23))
  refine (awake_any _).mono ?_
  rintro e w1 ⟨rfl, hbl⟩
  have A1 := Lib.hid (A0.out.below hbl A0.out.lt)
  have B1 := Lib.hid (B0.out.trans (hbl.mono B0.out.size))
  clear hbl A0 B0
  have c0 : w1.cell? ⟨w.heap.size, 0, none⟩ = some (.int .u8 x0) := A1.out.cell 0
  have c1 : w1.cell? ⟨w.heap.size, 1, none⟩ = some (.int .u8 x1) := A1.out.cell 1
  have c2 : w1.cell? ⟨w.heap.size, 2, none⟩ = some (.int .u8 x2) := A1.out.cell 2
  have c3 : w1.cell? ⟨w.heap.size, 3, none⟩ = some (.int .u8 x3) := A1.out.cell 3
  have c4 : w1.cell? ⟨w.heap.size, 4, none⟩ = some (.int .u8 x4) := A1.out.cell 4
  have c5 : w1.cell? ⟨w.heap.size, 5, none⟩ = some (.int .u8 x5) := A1.out.cell 5
  go_wp2_with fail
  refine (SH.out w1).mono ?_
  rintro e w2 ⟨rfl, hbl⟩
  have B2 := Lib.hid (B1.out.trans (hbl.mono B1.out.size))
  clear hbl A1 c0 c1 c2 c3 c4 c5 SH
  go_wp2_with fail
  have A0 := Lib.hid (show At (w2.alloc (.cells #[.int .i64 (M : Int), .int .i64 b, .int .i64 g, .int .i64 sg, .int .i64 n0, .int .i64 l0] 30)) w2.heap.size #[.int .i64 (M : Int), .int .i64 b, .int .i64 g, .int .i64 sg, .int .i64 n0, .int .i64 l0] 30 from At.new _ 30 rfl)
  have B2 := Lib.hid (B2.out.alloc B2.out.size (.cells #[.int .i64 (M : Int), .int .i64 b, .int .i64 g, .int .i64 sg, .int .i64 n0, .int .i64 l0] 30))
  obtain ⟨X, hX⟩ : ∃ X, X = w2.heap.size := ⟨_, rfl⟩
  rw [← hX] at A0 ⊢
  generalize w2.alloc (.cells #[.int .i64 (M : Int), .int .i64 b, .int .i64 g, .int .i64 sg, .int .i64 n0, .int .i64 l0] 30) = v2 at *
  clear hX
  refine (New_any M b g sg n0 l0 SM.out v2).mono ?_
  rintro e w3 ⟨R, q, cap, P, O, S0, z, rfl, hsys, hS, hz⟩
  obtain ⟨s, hy, hcalm, hu, rfl, rfl, rfl, rfl, rfl, rfl, hd⟩ := init_facts hsys hz
  have HY := Lib.hid hy
  have CM := Lib.hid hcalm
  have UU := Lib.hid (show s.u ≤ 1 by omega)
  have B2' := Lib.hid B2.out.size
  have WF := Lib.hid hy.rg.arr.wf
  have RI := Lib.hid (show Ri v2.heap.size v2 R q cap P s 1 w3 O s from ⟨hy, hcalm, Same.refl s, by omega⟩)
  clear h0 h1 h2 h3 h4 h5 hf
  have BX := Lib.hid (show ∀ wx O s', Sys v2.heap.size v2 wx R q cap P O s' → At wx X #[.int .i64 (s.M : Int), .int .i64 s.b, .int .i64 s.g, .int .i64 s.s, .int .i64 s.n, .int .i64 s.l] 30 ∧ Below w.heap.size w wx ∧ ¬ O X ∧ X < v2.heap.size from fun wx O s' h => ⟨A0.out.below h.below A0.out.lt, B2.out.trans (h.below.mono B2.out.size), fun e => by have := h.own _ e; have := A0.out.lt; omega, A0.out.lt⟩)
  have hMs := hy.rg.arr.many
  clear hsys hS hz hy hcalm hu hd B1 SM A0
  have NB := Lib.hid HY.out.rg.arr.wf.small.hb
  have BO := (BX.out _ _ _ HY.out).1
  have c0 : w3.cell? ⟨X, 0, none⟩ = some (.int .i64 (s.M : Int)) := BO.cell 0
  have c1 : w3.cell? ⟨X, 1, none⟩ = some (.int .i64 s.b) := BO.cell 1
  have c2 : w3.cell? ⟨X, 2, none⟩ = some (.int .i64 s.g) := BO.cell 2
  have c3 : w3.cell? ⟨X, 3, none⟩ = some (.int .i64 s.s) := BO.cell 3
  have c4 : w3.cell? ⟨X, 4, none⟩ = some (.int .i64 s.n) := BO.cell 4
  have c5 : w3.cell? ⟨X, 5, none⟩ = some (.int .i64 s.l) := BO.cell 5
  clear BO
  go_wp2_with fail
  refine (Chunks_cap s.M s.b s.g s.s s.n s.l s.b.toNat (by have := NB.out; omega) (by have := NB.out; omega) (by omega) f (f.toNat : Int) rfl w3).mono ?_
  rintro e w4 ⟨v, L, rfl, hcl, hL, hLm, hLn, hbl⟩
  have Y4 := Lib.hid (HY.out.up hbl)
  have CL4 := Lib.hid hcl
  have LL := Lib.hid (And.intro hL hLn)
  obtain ⟨A4, c4', rfl, hln⟩ := hcl.ln (by omega)
  have B43 := Lib.hid hbl
  have Z3 := Lib.hid (show ∀ k, w3.heap.size ≤ k → ¬ O k from fun k hk => (HY.out.new k hk).1)
  have LN := Lib.hid hln
  clear hbl hcl hL hLm hLn hln
  clear c0 c1 c2 c3 c4 c5
  go_upto_if 48 with (fail)
  go_cut [18] (fun s18 wx => ∃ A KC c L', s18 = .slice A KC c ∧ KC ≤ 100 ∧ Cz wx A KC L' O ∧ (((KC : Int) = (s.M : Int) - 1 ∧ Fits L' s.b) ↔ decide (mo = 0) = true) ∧ Sys v2.heap.size v2 wx R q cap P O s)
  case first =>
    by_cases hp : 0 < mo
    · have hdm := Lib.hid (show ¬ mo = 0 by omega)
      have BO := (BX.out _ _ _ Y4.out).1
      have c0 : w4.cell? ⟨X, 0, none⟩ = some (.int .i64 (s.M : Int)) := BO.cell 0
      have c1 : w4.cell? ⟨X, 1, none⟩ = some (.int .i64 s.b) := BO.cell 1
      have c2 : w4.cell? ⟨X, 2, none⟩ = some (.int .i64 s.g) := BO.cell 2
      have c3 : w4.cell? ⟨X, 3, none⟩ = some (.int .i64 s.s) := BO.cell 3
      have c4 : w4.cell? ⟨X, 4, none⟩ = some (.int .i64 s.n) := BO.cell 4
      have c5 : w4.cell? ⟨X, 5, none⟩ = some (.int .i64 s.l) := BO.cell 5
      clear BO
      go_wp2_with fail
      refine (Block_any (s.M : Int) s.b s.g s.s s.n s.l s.b.toNat (by have := NB.out; omega) (by have := NB.out; omega) 1#8 _ rfl w4).mono ?_
      rintro e w5 ⟨bb, rfl, hown, hb⟩
      obtain ⟨hh, _, ha⟩ := own_slice hown
      have H2 := Lib.hid hh
      have HQ := Lib.hid ha
      have X2 := Lib.hid hb
      have bel : Below w5.heap.size w5 (w5.alloc (.cells #[.slice (some ⟨bb, 0, none⟩) s.b.toNat s.b.toNat] 46)) := (Below.refl _ _).alloc (Nat.le_refl _) _
      have BL := Lib.hid bel
      have OW := Lib.hid (own_below (own_below CL4.out.own hb) bel)
      have Y5 := Lib.hid ((Y4.out.up hb).up bel)
      have SZ := Lib.hid (show w3.heap.size ≤ w4.heap.size ∧ w4.heap.size ≤ w5.heap.size from ⟨B43.out.size, hb.size⟩)
      clear hown hb hh ha bel c0 c1 c2 c3 c4 c5
      have n48 := NB.out
      go_wp2_with (at_builtin; refine wpList_append_ln rfl (.tmp 49) (.tmp 52) rfl w3.heap.size (.slice A4 L.length c4') L.length L rfl OW.out ⟨w5.heap.size, 0, none⟩ 1 1 [⟨some ⟨bb, 0, none⟩, s.b.toNat, s.b.toNat, List.replicate s.b.toNat 1#8⟩] rfl (one_row ⟨some ⟨bb, 0, none⟩, s.b.toNat, s.b.toNat, List.replicate s.b.toNat 1#8⟩ (At.new #[.slice (some ⟨bb, 0, none⟩) s.b.toNat s.b.toNat] 46 rfl)) (by have := LL.out.1; omega) (by have := SZ.out; simp; omega) ?_; intro A3 c3 w6 hown3 hg3 hf3; have C3 := Lib.hid (CL4.out.push (S := fun _ => False) (w1 := w5.alloc (.cells #[.slice (some ⟨bb, 0, none⟩) s.b.toNat s.b.toNat] 46)) (x := ⟨some ⟨bb, 0, none⟩, s.b.toNat, s.b.toNat, List.replicate s.b.toNat 1#8⟩) ((But.of_below X2.out).trans (But.of_below (S := fun _ => False) BL.out) (fun _ h _ => h)) (fun _ _ h => h) SZ.out.1 (H2.out.below BL.out) (by show s.b.toNat ≤ 48; omega) (fun a ha => by have := HQ.out a ha; simp; omega) hown3 hg3 hf3); have Y6 := Lib.hid (Y5.out.but (S := fun k => (Value.slice A4 L.length c4').ownBlock = some k) ((But.refl _ _).grown hg3 (fun k hk _ => hk)) (fun k hk => HY.out.new k (CL4.out.own.lt k hk).1)); clear hown3 hg3 hf3)
      go_meet
      refine ⟨A3, L.length + 1, c3, _, rfl, by have := LL.out.1; omega, Cz.of_cl C3.out (by simp) (by have := LL.out.1; omega) Z3.out, ⟨fun e => ?_, fun e => (hdm.out (of_decide_eq_true e)).elim⟩, Y6.out⟩
      have := LL.out.1
      omega
    · by_cases hn : mo < 0
      · have hdm := Lib.hid (show ¬ mo = 0 by omega)
        obtain ⟨gr, cur, x, L2, hLx, hA4, hgr, hat, hc0, htk, _⟩ := CL4.out.first (by have := LL.out.1; omega)
        have hxn := LL.out.2 x (by rw [hLx]; simp)
        obtain ⟨xb, xo, hxA⟩ := (LN.out.has x (by rw [hLx]; simp)).some_ (by have := NB.out; omega)
        have CZ4 := Lib.hid (Cz.of_cl CL4.out rfl (by have := LL.out.1; omega) Z3.out)
        have d0 := (hat.cell 0).trans hc0
        have g0 := hat.frozen 0
        rw [hxA, hxn.1, hxn.2] at d0
        have n48 := NB.out
        have l4 := LL.out.1
        have e1 : (s.b.toNat : Int) - 1 = ((s.b.toNat - 1 : Nat) : Int) := by omega
        subst hA4
        go_wp2
        go_meet
        subst hLx
        have HX := (LN.out.has x (by simp))
        rw [hxA] at HX
        have hxo := CL4.out.off x (by simp) _ hxA
        have YS := Y4.out.but (S := fun k => k = gr) ((But.refl (fun k => k = gr) w4).setCell (p := ⟨gr, 0, none⟩) (fun _ => rfl) (.slice (some ⟨xb, xo + 1, none⟩) (s.b.toNat - 1) (s.b.toNat - 1))) (fun k e => by rw [e]; exact HY.out.new gr hgr)
        refine ⟨some ⟨gr, 0, none⟩, (x :: L2).length, c4', _, rfl, by have := LL.out.1; omega, CZ4.out.set (w' := w4) (y := ⟨some ⟨xb, xo + 1, none⟩, s.b.toNat - 1, s.b.toNat - 1, x.l.drop 1⟩) rfl hat htk (by have := HX.drop 1 (by omega); rw [hxn.1] at this; exact this) (by show s.b.toNat - 1 ≤ 100; omega) (fun a ha => ?_) (fun z hz a ha => ?_), ⟨fun e => ?_, fun e => (hdm.out (of_decide_eq_true e)).elim⟩, YS⟩
        · injection ha with ha
          subst ha
          exact ⟨Z3.out _ hxo.2.1, hxo.2.2, fun e => hxo.1 (by rw [e]; rfl)⟩
        · have h5 := CL4.out.off z (by simp [hz]) a ha
          exact fun e => h5.1 (by rw [e]; rfl)
        · have := e.2 ⟨some ⟨xb, xo + 1, none⟩, s.b.toNat - 1, s.b.toNat - 1, x.l.drop 1⟩ (by simp)
          simp only at this
          omega
      · obtain rfl : mo = 0 := by omega
        go_wp2
        go_meet
        refine ⟨A4, L.length, c4', L, rfl, by have := LL.out.1; omega, Cz.of_cl CL4.out rfl (by have := LL.out.1; omega) Z3.out, ?_, Y4.out⟩
        · refine ⟨fun _ => rfl, fun _ => ⟨by have := LL.out.1; omega, fun x hx => by have := (LL.out.2 x hx).1; have := NB.out; omega⟩⟩
  case rest =>
    obtain ⟨A, KC, c, L', rfl, hK, hC, hI, hY⟩ := hcut
    have KI := Lib.hid (And.intro hK hI)
    have CZ := Lib.hid hC
    have YI := Lib.hid (show Ri v2.heap.size v2 R q cap P s 1 wc O s from ⟨hY, CM.out, Same.refl s, UU.out⟩)
    have r9 : wc.cell? ⟨R, 9, none⟩ = some (ptr P.a) := hY.rg.rig.cell 9
    clear hK hC hI hY Y4 CL4 LL LN Z3 B43 HY CM UU RI
    go_wp2_with fail
    refine (chunk_ri t k YI.out (by decide)).mono ?_
    rintro e w6 ⟨v6, rfl, O6, s6, hR, hO, hB⟩
    have Y6 := Lib.hid hR
    have C6 := Lib.hid (CZ.out.went hB hO)
    clear hR hO hB CZ YI r9
    obtain ⟨bt, hbt⟩ : ∃ x : Bool, decide (0 ≤ t ∧ t < s.N) = x := ⟨_, rfl⟩
    obtain ⟨bk, hbk⟩ : ∃ x : Bool, decide (0 ≤ k ∧ k < (s.M : Int) - 1) = x := ⟨_, rfl⟩
    obtain ⟨bi, hbi⟩ : ∃ x : Bool, decide (0 ≤ i ∧ i < (s.S : Int)) = x := ⟨_, rfl⟩
    obtain ⟨bm, hbm⟩ : ∃ x : Bool, decide (0 ≤ m ∧ m < (s.M : Int)) = x := ⟨_, rfl⟩
    have BT := Lib.hid hbt
    have BK := Lib.hid hbk
    have BI := Lib.hid hbi
    have BM := Lib.hid hbm
    rw [hbt, hbk]
    clear hbt hbk hbi hbm
    go_upto_region 13 with (fail)
    refine r13_any t BT.out (BX.out _ _ _ Y6.out.sys).1 WF.out _ _ _ _ _ _ _ _ _ _ _ _ _ _ _ _ _ _ _ _ _ _ _ _ _ _ _ _ _ _ _ _ _ _ _ _ _ _ _ _ _ _ _ _ _ _ _ _ _ _ _ _ _ _ _ _ _ _ _ _ _ _ _ _ _ _ _ _ _ _ _ _ _ _ _ _ _ _ _ _ _ _ _ _ _ _ _ _ _ _ _ _ _ _ _ _ _ _ _ _ _ _ _ _ _ _ _ _ _ _ _ _ _ _ _ _ _ _ _ _ _ _ _ _ _ _ _ _ _ _ _ _ _ _ _ _ _ _ _ _ _ _ _ _ _ _ _ _ _ _ _ _ _ _ _ _ _ _ _ _ _ _ _ _ _ _ _ _ _ _ _ _ _ _ _ _ _ _ _ _ _ _ _ _ _ _ _ _ _ _ _ _ _ _ _ _ _ _ _ _ _ _ _ _ _ _ _ _ _ _ _ _ _ _ _ _ _ _ _ _ _ _ _ _ _ _ _ _ _ _ _ _ _ _ _ _ _ _ _ _ _ _ _ _ _ _ _ _ _ _ _ _ _ ?_
    intro w7 d72 d73 d74 d75 d76 d77 d78 d79 hb
    have Y7 := Lib.hid (Y6.out.up hb)
    have C7 := Lib.hid (C6.out.up hb)
    clear hb Y6 C6
    go_upto_region 14 with (fail)
    refine r14_any t k mo BT.out BK.out Y7.out (by decide) C7.out KI.out.1 KI.out.2 ((BX.out _ _ _ Y7.out.sys).1.cell 0) hMs _ _ _ _ _ _ _ _ _ _ _ _ _ _ _ _ _ _ _ _ _ _ _ _ _ _ _ _ _ _ _ _ _ _ _ _ _ _ _ _ _ _ _ _ _ _ _ _ _ _ _ _ _ _ _ _ _ _ _ _ _ _ _ _ _ _ _ _ _ _ _ _ _ _ _ _ _ _ _ _ _ _ _ _ _ _ _ _ _ _ _ _ _ _ _ _ _ _ _ _ _ _ _ _ _ _ _ _ _ _ _ _ _ _ _ _ _ _ _ _ _ _ _ _ _ _ _ _ _ _ _ _ _ _ _ _ _ _ _ _ _ _ _ _ _ _ _ _ _ _ _ _ _ _ _ _ _ _ _ _ _ _ _ _ _ _ _ _ _ _ _ _ _ _ _ _ _ _ _ _ _ _ _ _ _ _ _ _ _ _ _ _ _ _ _ _ _ _ _ _ _ _ _ _ _ _ _ _ _ _ _ _ _ _ _ _ _ _ _ _ _ _ _ _ _ _ _ _ _ _ _ _ _ _ _ _ _ _ _ _ _ _ _ _ _ _ _ ?_
    intro w9 O9 s9 d80 d81 d82 d83 d84 d85 d86 d87 d88 d89 d90 d91 d92 d93 d94 d95 d96 d97 d98 d99 d100 d101 d102 d103 d104 d105 d106 d107 d108 d109 d110 d111 d112 d113 d114 d115 d116 d117 d118 d119 d120 d121 d122 hR
    have Y9 := Lib.hid hR
    have r9 : w9.cell? ⟨R, 9, none⟩ = some (ptr P.a) := hR.sys.rg.rig.cell 9
    clear hR Y7 C7
    go_wp2_with fail
    refine (same_ri i Y9.out (by decide)).mono ?_
    rintro e w10 ⟨v10, rfl, O10, s10, hR, hO, hB⟩
    rw [BI.out]
    have Y10 := Lib.hid hR
    clear hR hO hB Y9 r9
    go_upto_region 17 with (fail)
    refine r17_any i BI.out (BX.out _ _ _ Y10.out.sys).1 WF.out _ _ _ _ _ _ _ _ _ _ _ _ _ _ _ _ _ _ _ _ _ _ _ _ _ _ _ _ _ _ _ _ _ _ _ _ _ _ _ _ _ _ _ _ _ _ _ _ _ _ _ _ _ _ _ _ _ _ _ _ _ _ _ _ _ _ _ _ _ _ _ _ _ _ _ _ _ _ _ _ _ _ _ _ _ _ _ _ _ _ _ _ _ _ _ _ _ _ _ _ _ _ _ _ _ _ _ _ _ _ _ _ _ _ _ _ _ _ _ _ _ _ _ _ _ _ _ _ _ _ _ _ _ _ _ _ _ _ _ _ _ _ _ _ _ _ _ _ _ _ _ _ _ _ _ _ _ _ _ _ _ _ _ _ _ _ _ _ _ _ _ _ _ _ _ _ _ _ _ _ _ _ _ _ _ _ _ _ _ _ _ _ _ _ _ _ _ _ _ _ _ _ _ _ _ _ _ _ _ _ _ _ _ _ _ _ _ _ _ _ _ _ _ _ _ _ _ _ _ _ _ _ _ _ _ _ _ _ _ _ _ _ _ _ _ _ _ _ _ _ _ _ _ ?_
    intro w11 d133 d134 d135 d136 d137 d138 d139 d140 hb
    have Y11 := Lib.hid (Y10.out.up hb)
    clear hb Y10
    go_upto_region 18 with (fail)
    refine r18_any i BI.out Y11.out (by decide) (fun wx O' s' h => (BX.out _ _ _ h.sys).1.range) NB.out _ _ _ _ _ _ _ _ _ _ _ _ _ _ _ _ _ _ _ _ _ _ _ _ _ _ _ _ _ _ _ _ _ _ _ _ _ _ _ _ _ _ _ _ _ _ _ _ _ _ _ _ _ _ _ _ _ _ _ _ _ _ _ _ _ _ _ _ _ _ _ _ _ _ _ _ _ _ _ _ _ _ _ _ _ _ _ _ _ _ _ _ _ _ _ _ _ _ _ _ _ _ _ _ _ _ _ _ _ _ _ _ _ _ _ _ _ _ _ _ _ _ _ _ _ _ _ _ _ _ _ _ _ _ _ _ _ _ _ _ _ _ _ _ _ _ _ _ _ _ _ _ _ _ _ _ _ _ _ _ _ _ _ _ _ _ _ _ _ _ _ _ _ _ _ _ _ _ _ _ _ _ _ _ _ _ _ _ _ _ _ _ _ _ _ _ _ _ _ _ _ _ _ _ _ _ _ _ _ _ _ _ _ _ _ _ _ _ _ _ _ _ _ _ _ _ _ _ _ _ _ _ _ _ _ _ _ _ _ _ _ _ _ _ _ _ _ _ _ _ (fun _ _ _ _ _ h => h) ?_
    intro w12 O12 s12 d141 d142 d143 d144 d145 d146 d147 d148 d149 d150 d151 d152 d153 d154 d155 d156 d157 d158 d159 d160 d161 d162 d163 d164 d165 d166 d167 d168 d169 d170 d171 d172 d173 hR
    have Y12 := Lib.hid hR
    clear hR Y11
    go_upto_region 20 with (fail)
    refine r20_any m BM.out (BX.out _ _ _ Y12.out.sys).1 WF.out _ _ _ _ _ _ _ _ _ _ _ _ _ _ _ _ _ _ _ _ _ _ _ _ _ _ _ _ _ _ _ _ _ _ _ _ _ _ _ _ _ _ _ _ _ _ _ _ _ _ _ _ _ _ _ _ _ _ _ _ _ _ _ _ _ _ _ _ _ _ _ _ _ _ _ _ _ _ _ _ _ _ _ _ _ _ _ _ _ _ _ _ _ _ _ _ _ _ _ _ _ _ _ _ _ _ _ _ _ _ _ _ _ _ _ _ _ _ _ _ _ _ _ _ _ _ _ _ _ _ _ _ _ _ _ _ _ _ _ _ _ _ _ _ _ _ _ _ _ _ _ _ _ _ _ _ _ _ _ _ _ _ _ _ _ _ _ _ _ _ _ _ _ _ _ _ _ _ _ _ _ _ _ _ _ _ _ _ _ _ _ _ _ _ _ _ _ _ _ _ _ _ _ _ _ _ _ _ _ _ _ _ _ _ _ _ _ _ _ _ _ _ _ _ _ _ _ _ _ _ _ _ _ _ _ _ _ _ _ _ _ _ _ _ _ _ _ _ _ _ _ _ _ ?_
    intro w13 d175 d176 d177 d178 d179 d180 d181 d182 hb
    have Y13 := Lib.hid (Y12.out.up hb)
    clear hb Y12
    go_upto_region 21 with (fail)
    refine r21_any m BM.out Y13.out (by decide) _ _ _ _ _ _ _ _ _ _ _ _ _ _ _ _ _ _ _ _ _ _ _ _ _ _ _ _ _ _ _ _ _ _ _ _ _ _ _ _ _ _ _ _ _ _ _ _ _ _ _ _ _ _ _ _ _ _ _ _ _ _ _ _ _ _ _ _ _ _ _ _ _ _ _ _ _ _ _ _ _ _ _ _ _ _ _ _ _ _ _ _ _ _ _ _ _ _ _ _ _ _ _ _ _ _ _ _ _ _ _ _ _ _ _ _ _ _ _ _ _ _ _ _ _ _ _ _ _ _ _ _ _ _ _ _ _ _ _ _ _ _ _ _ _ _ _ _ _ _ _ _ _ _ _ _ _ _ _ _ _ _ _ _ _ _ _ _ _ _ _ _ _ _ _ _ _ _ _ _ _ _ _ _ _ _ _ _ _ _ _ _ _ _ _ _ _ _ _ _ _ _ _ _ _ _ _ _ _ _ _ _ _ _ _ _ _ _ _ _ _ _ _ _ _ _ _ _ _ _ _ _ _ _ _ _ _ _ _ _ _ _ _ _ _ _ _ _ _ _ _ _ ?_
    intro w14 O14 s14 d183 d184 d185 d186 d187 d188 d189 d190 d191 d192 d193 d194 d195 d196 d197 d198 d199 hS hSm hu14
    clear Y13
    dsimp only [Exit.then]
    apply_assumption
    refine wp_cond_false rfl ?_
    refine wp_skip ?_
    dsimp only [Exit.then]
    apply_assumption
    refine tail_any hS hSm hu14 (fun wx O' s' h => (BX.out _ _ _ h).1.range) _ _ _ _ _ _ _ _ _ _ _ _ _ _ _ _ _ _ _ _ _ _ _ _ _ _ _ _ _ _ _ _ _ _ _ _ _ _ _ _ _ _ _ _ _ _ _ _ _ _ _ _ _ _ _ _ _ _ _ _ _ _ _ _ _ _ _ _ _ _ _ _ _ _ _ _ _ _ _ _ _ _ _ _ _ _ _ _ _ _ _ _ _ _ _ _ _ _ _ _ _ _ _ _ _ _ _ _ _ _ _ _ _ _ _ _ _ _ _ _ _ _ _ _ _ _ _ _ _ _ _ _ _ _ _ _ _ _ _ _ _ _ _ _ _ _ _ _ _ _ _ _ _ _ _ _ _ _ _ _ _ _ _ _ _ _ _ _ _ _ _ _ _ _ _ _ _ _ _ _ _ _ _ _ _ _ _ _ _ _ _ _ _ _ _ _ _ _ _ _ _ _ _ _ _ _ _ _ _ _ _ _ _ _ _ _ _ _ _ _ _ _ _ _ _ _ _ _ _ _ _ _ _ _ _ _ _ _ _ _ _ _ _ _ _ _ _ _ _ _ _ _ _ (fun _ _ _ _ _ h => h) ?_
    intro w20 e26 e28 e29 e30 e31 e32 e201 e202 e203 e204 e205 e206 e207 e208 e209 e210 e211 e212 e213 e214 e215 e216 e217 e218 e219 e220 e221 e222 e223 e224 e225 e226 e227 e228 e229 e230 e231 e232 e233 e234 e235 e236 e237 e238 e239 e240 e241 e242 e243 e244 e245 e246 e247 e248 e249 e250 e251 e252 e253 hb
    have B20 := Lib.hid (B2.out.trans (hb.mono B2'.out))
    go_ret
    exact ⟨rfl, B20.out⟩
end Go.Proofs.Ytapbphkhbhcdkaa
