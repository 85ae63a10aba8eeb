/-
  THE WALK OF PageBack.
-/
import Derived.Test.YtlmponcoghfghaaTells
import Derived.Test.YtlmponcoghfghaaPageGensWalk
import Derived.Deep.CutRange
import Derived.Deep.CutBlock
import Derived.Deep.DeepCutAuto
namespace Go.Proofs.Ytlmponcoghfghaa
open Go.RowKit
set_option linter.unusedVariables false
set_option maxRecDepth 100000


theorem told_lns {w : World} {B0 n P : Nat} {v : Value} {L : List Sl} (h : w.ownsRow B0 42 1 v n (L.map Sl.v)) (hp : ∀ x ∈ L, x.n = P + 15 ∧ w.ownsRow B0 5 1 x.v x.n (x.l.map val)) (hP : P ≤ 1000) : ∃ A c, v = .slice A n c ∧ n ≤ c ∧ c ≤ maxLen ∧ Lns w A n L := by
  obtain ⟨A, c, rfl, h1, h2, hr, _⟩ := Row.of_own h
  refine ⟨A, c, rfl, h1, h2, hr, fun x hx => ?_, fun x hx => ?_⟩
  · obtain ⟨A', c', e, _, _, hh, _⟩ := Has.of_own (hp x hx).2
    unfold Sl.v at e
    injection e with e1 e2 e3
    rw [e1]
    exact hh
  · obtain ⟨A', c', e, h3, h4, hh, _⟩ := Has.of_own (hp x hx).2
    unfold Sl.v at e
    injection e with e1 e2 e3
    rw [e3]
    exact ⟨by rw [(hp x hx).1]; omega, h3, h4⟩
set_option maxHeartbeats 4000000 in
theorem back_walk (x0 x1 x2 x3 x4 x5 : Int) (m b g s n l : Nat) (ok : OkN m b g s n l) (fw : Few m b g s l) (SHP : Hid (Filled (sm x0 x1 x2 x3 x4 x5) m b g s n l)) (q : Nat) (z : Int) (ix : Nat) (A : Option Addr) (na ca : Nat) (B : Option Addr) (nb cb : Nat) (L : List Sg) (M : List Nat) (gen : Nat) (w : World)
    (hq : q < 18446744073709551616) (hz : -128 ≤ z ∧ z ≤ 127) (hix : ix < 256) (hL : Cls w A na L) (hM : Row w B nb (shrt M)) (hMl : ∀ p ∈ M, p < 65536) (hgen : gen < 18446744073709551616) :
    Calls Try.prog 3 #[sm x0 x1 x2 x3 x4 x5, .agg #[.int .u64 (q : Int), .int .i8 z, .int .u8 (ix : Int), .slice A na ca, .slice B nb cb], .int .u64 (gen : Int)] w fun e w' => e = .returned (.bool true) ∧ Below w.heap.size w w' := by
  have OK := Lib.hid ok
  have BN := Lib.hid ok.bnd
  have HL := Lib.hid hL
  have HM := Lib.hid hM
  have ML := Lib.hid hMl
  have FT := Lib.hid (mkI_fits (q := q) (ix := ix) (z := z) (L := L) (M := M) ok.bnd hq hL.2.2)
  have FI := Lib.hid (mkI_fine (q := q) (ix := ix) (z := z) (L := L) (M := M) (m := m) (g := g) (s := s) (l := l) (by have := fw.g; omega) (by have := fw.s; omega))
  have hb := fw.b
  have hgb := fw.g; have hlb := fw.l
  have hnp := npg_few2 fw ok.bnd
  have NG := Lib.hid (npg_ge ok.bnd)
  have LG := Lib.hid (show (mkI q z ix L M m g s l).gs.length = g from mkGs_len _ _)
  have LM := Lib.hid (show (mkI q z ix L M m g s l).mp.length = l from mkPs_len _ _ _)
  have DS := Lib.hid (dec_sheets (m := m) (b := b) (g := g) (s := s) (l := l) (n := npg b g l) (gen := gen) (x := mkI q z ix L M m g s l) (by omega) (by omega) hgen FT.out FI.out LG.out LM.out NG.out)
  obtain ⟨np, hnpe⟩ : ∃ y, y = npg b g l := ⟨_, rfl⟩
  have NE := Lib.hid hnpe
  rw [← hnpe] at hnp NG DS
  clear hL hM hMl ok fw hnpe
  unfold sm at *
  go_enter Try.func3, Try.ntmps3
  go_wp2_with fail
  refine (awake_any _).mono ?_
  rintro e w1 ⟨rfl, hb1⟩
  have B1 := Lib.hid (show Below w.heap.size w w1 from (BB2 w _ _).trans (hb1.mono (BB2 w _ _).size))
  have TB := Lib.hid (show At w1 (w.heap.size + 1) #[.int .u64 (q : Int), .int .i8 z, .int .u8 (ix : Int), .slice A na ca, .slice B nb cb] 29 from (At.new _ _ (by simp)).below hb1 (by simp))
  have SB := Lib.hid (show At w1 w.heap.size #[.int .u8 x0, .int .u8 x1, .int .u8 x2, .int .u8 x3, .int .u8 x4, .int .u8 x5] 23 from ((At.new _ _ rfl).alloc _).below hb1 (by simp; omega))
  clear hb1
  have k0 := SB.out.cell 0; have k1 := SB.out.cell 1; have k2 := SB.out.cell 2; have k3 := SB.out.cell 3; have k4 := SB.out.cell 4; have k5 := SB.out.cell 5
  go_wp2_with fail
  clear k0 k1 k2 k3 k4 k5 SB
  refine (SHP.out _).mono ?_
  rintro e w2 ⟨rfl, hb2⟩
  unfold sv
  have B1 := Lib.hid (B1.out.trans (hb2.mono B1.out.size))
  have TB := Lib.hid ((TB.out.below hb2 TB.out.lt).alloc (.cells #[.int .i64 (m : Int), .int .i64 (b : Int), .int .i64 (g : Int), .int .i64 (s : Int), .int .i64 (n : Int), .int .i64 (l : Int)] 32))
  have KW := Lib.hid (show Lw w (w2.alloc (.cells #[.int .i64 (m : Int), .int .i64 (b : Int), .int .i64 (g : Int), .int .i64 (s : Int), .int .i64 (n : Int), .int .i64 (l : Int)] 32)) w2.heap.size #[.int .i64 (m : Int), .int .i64 (b : Int), .int .i64 (g : Int), .int .i64 (s : Int), .int .i64 (n : Int), .int .i64 (l : Int)] from ⟨At.new _ _ rfl, B1.out.size, B1.out.alloc B1.out.size _⟩)
  clear hb2 B1
  have j0 := TB.out.cell 0; have j1 := TB.out.cell 1; have j2 := TB.out.cell 2; have j3 := TB.out.cell 3; have j4 := TB.out.cell 4
  go_wp2_with fail
  clear j0 j1 j2 j3 j4 TB
  refine (make_any m b g s n l BN.out q z ix A na ca B nb cb L M _ hz hix (HL.out.below KW.out.bel) (HM.out.below KW.out.bel) ML.out).mono ?_
  rintro e wb ⟨A2, n2, c2, B2, m2, d2, rfl, hI, HB⟩
  obtain rfl : n2 = g := by rw [← hI.lg, LG.out]
  obtain rfl : m2 = l := by rw [← hI.lm, LM.out]
  have KW := Lib.hid (KW.out.up HB)
  have IM := Lib.hid hI
  clear HB hI HL HM ML LG LM
  generalize mkI q z ix L M m n2 s m2 = X at *
  obtain ⟨Xq, Xs, Xi, Xg, Xm⟩ := X
  simp only
  generalize w2.heap.size = S at *
  have KW := Lib.hid (KW.out.up (BB1 wb (.cells (ics Xq Xs Xi A2 n2 c2 B2 m2 d2) 37)))
  have IM := Lib.hid (IM.out.below (BB1 wb (.cells (ics Xq Xs Xi A2 n2 c2 B2 m2 d2) 37)))
  have IB := Lib.hid (At.new (w := wb) (g := wb.heap.size) (ics Xq Xs Xi A2 n2 c2 B2 m2 d2) 37 rfl)
  have k0 := KW.out.shp.cell 0; have k1 := KW.out.shp.cell 1; have k2 := KW.out.shp.cell 2; have k3 := KW.out.shp.cell 3; have k4 := KW.out.shp.cell 4; have k5 := KW.out.shp.cell 5
  go_wp2_with fail
  clear k0 k1 k2 k3 k4 k5
  refine (encode_any m b n2 s n m2 gen Xq Xs Xi A2 c2 B2 d2 Xg Xm _ OK.out hgen FT.out IM.out).mono ?_
  rintro e wc ⟨A3, c3, P, rfl, hc3, hm3, hLn, hby, _, HB⟩
  rw [← NE.out] at hLn hby hc3 ⊢
  have KW := Lib.hid (KW.out.up HB)
  have IM := Lib.hid (IM.out.below HB)
  have IB := Lib.hid (IB.out.below HB IB.out.lt)
  have LN := Lib.hid hLn
  have BY := Lib.hid hby
  clear HB hLn hby hc3 hm3
  generalize wb.heap.size = SI at *
  have k0 := KW.out.shp.cell 0; have k1 := KW.out.shp.cell 1; have k2 := KW.out.shp.cell 2; have k3 := KW.out.shp.cell 3; have k4 := KW.out.shp.cell 4; have k5 := KW.out.shp.cell 5
  have i0 := IB.out.cell 0; have i1 := IB.out.cell 1; have i2 := IB.out.cell 2; have i3 := IB.out.cell 3; have i4 := IB.out.cell 4
  go_wp2_with fail
  clear k0 k1 k2 k3 k4 k5 i0 i1 i2 i3 i4
  refine (tells_any m b n2 s n m2 gen Xq Xs Xi A2 c2 B2 d2 Xg Xm _ OK.out hgen FT.out IM.out).mono ?_
  rintro e wd ⟨v5, P5, rfl, hown5, hby5, hpg5, _, _, HB⟩
  rw [← NE.out] at hown5 hby5
  obtain ⟨A5, c5, rfl, hc5, hm5, hLn5⟩ := told_lns hown5 hpg5 (by omega)
  have KW := Lib.hid (KW.out.up HB)
  have IM := Lib.hid (IM.out.below HB)
  have IB := Lib.hid (IB.out.below HB IB.out.lt)
  have LN := Lib.hid (LN.out.below HB)
  have L5 := Lib.hid hLn5
  have B5 := Lib.hid (show byts P5 = byts P by rw [BY.out, hby5])
  clear HB hown5 hby5 hpg5 hc5 hm5 hLn5
  go_wp2
  go_loopw [36] (fun i wr => ∃ k p : Nat, k ≤ np ∧ i = .int .i64 k ∧ wr = wd.drewN p) (fun i _ => np - (intOf i).toNat)
  case atStart => exact ⟨0, 0, Nat.zero_le _, rfl, rfl⟩
  case round =>
    obtain ⟨k, p, hk, rfl, rfl⟩ := hrel
    by_cases hlt : k < np
    · obtain ⟨hkl, bb, off, rfl, hc, hh, hx1, _, _⟩ := LN.out.one hlt
      obtain ⟨hkl5, bb5, off5, rfl, hc5, hh5, hx5, _, _⟩ := L5.out.one hlt
      have EB := Lib.hid (show P[k].l = P5[k].l by
        rw [← byts_get P k hkl, ← byts_get P5 k hkl5]
        exact List.getElem_of_eq B5.out.symm (by rw [byts_len]; exact hkl))
      generalize P[k] = y at hc hh hx1 EB
      generalize P5[k] = y5 at hc5 hh5 hx5 EB
      obtain ⟨yA, yn, yc, yl⟩ := y
      obtain ⟨zA, zn, zc, zl⟩ := y5
      simp only at hc hc5 hh hh5 hx1 hx5 EB
      obtain rfl : yl = zl := EB.out
      have HA := Lib.hid hh
      have HB := Lib.hid hh5
      go_wp2_with fail
      refine wp_region_early (fun w' : World => w'.cell? ⟨bb, off + k, none⟩ = some (.slice yA yn yc) ∧ w'.cell? ⟨bb5, off5 + k, none⟩ = some (.slice zA zn zc)) (fun _ => true) (by kernel_rfl) ?_
      change wpEarly _ _ _ _ _ _ 10 (Array.replicate 10 false) _ (wd.drewN p).drew
      have S0 := Lib.hid (show (wd.drewN p).drew.cell? ⟨bb, off + k, none⟩ = some (.slice yA yn yc) ∧ (wd.drewN p).drew.cell? ⟨bb5, off5 + k, none⟩ = some (.slice zA zn zc) from ⟨hc, hc5⟩)
      clear hc hc5 hh hh5
      refine early_take (i := 0) 39 (.slice (some ⟨bb, off, none⟩) np c3) rfl rfl (by kernel_rfl) (by kernel_rfl) (by kernel_rfl) (by kernel_rfl) rfl (fun _ _ _ h => h) (fun w' hw' => by go_simp) S0.out ?_
      simp only [Act.put, List.setIfInBounds_toArray, List.set_cons_zero, List.set_cons_succ]
      refine early_take (i := 1) 40 (.int .i64 (k : Int)) rfl rfl (by kernel_rfl) (by kernel_rfl) (by kernel_rfl) (by kernel_rfl) rfl (fun _ _ _ h => h) (fun w' hw' => by go_simp) S0.out ?_
      simp only [Act.put, List.setIfInBounds_toArray, List.set_cons_zero, List.set_cons_succ]
      refine early_take (i := 2) 41 (.pointer (some ⟨bb, off + k, none⟩)) rfl rfl (by kernel_rfl) (by kernel_rfl) (by kernel_rfl) (by kernel_rfl) rfl (fun _ _ _ h => h) (fun w' hw' => by go_simp) S0.out ?_
      simp only [Act.put, List.setIfInBounds_toArray, List.set_cons_zero, List.set_cons_succ]
      refine early_take (i := 3) 42 (.slice yA yn yc) rfl rfl (by kernel_rfl) (by kernel_rfl) (by kernel_rfl) (by kernel_rfl) rfl (fun _ _ _ h => h) (fun w' hw' => by have hc0 := hw'.1; go_simp) S0.out ?_
      simp only [Act.put, List.setIfInBounds_toArray, List.set_cons_zero, List.set_cons_succ]
      refine early_take (i := 4) 43 (.slice (some ⟨bb5, off5, none⟩) np c5) rfl rfl (by kernel_rfl) (by kernel_rfl) (by kernel_rfl) (by kernel_rfl) rfl (fun _ _ _ h => h) (fun w' hw' => by go_simp) S0.out ?_
      simp only [Act.put, List.setIfInBounds_toArray, List.set_cons_zero, List.set_cons_succ]
      refine early_take (i := 5) 44 (.int .i64 (k : Int)) rfl rfl (by kernel_rfl) (by kernel_rfl) (by kernel_rfl) (by kernel_rfl) rfl (fun _ _ _ h => h) (fun w' hw' => by go_simp) S0.out ?_
      simp only [Act.put, List.setIfInBounds_toArray, List.set_cons_zero, List.set_cons_succ]
      refine early_take (i := 6) 45 (.pointer (some ⟨bb5, off5 + k, none⟩)) rfl rfl (by kernel_rfl) (by kernel_rfl) (by kernel_rfl) (by kernel_rfl) rfl (fun _ _ _ h => h) (fun w' hw' => by go_simp) S0.out ?_
      simp only [Act.put, List.setIfInBounds_toArray, List.set_cons_zero, List.set_cons_succ]
      refine early_take (i := 7) 46 (.slice zA zn zc) rfl rfl (by kernel_rfl) (by kernel_rfl) (by kernel_rfl) (by kernel_rfl) rfl (fun _ _ _ h => h) (fun w' hw' => by have hc0 := hw'.2; go_simp) S0.out ?_
      simp only [Act.put, List.setIfInBounds_toArray, List.set_cons_zero, List.set_cons_succ]
      refine early_only (i := 8) (by kernel_rfl) rfl (fun K hK => ?_)
      simp only [opWp, List.getElem?_toArray, List.getElem?_cons_succ, List.getElem?_cons_zero]
      go_simp
      go_at_call 12
      refine (equal_any yA zA yn zn yc zc yl yl _ hx1 hx5 (show Has (wd.drewN p).drew yA yn yl from HA.out) (show Has (wd.drewN p).drew zA zn yl from HB.out)).mono ?_
      rintro e we ⟨rfl, p2, rfl⟩
      rw [decide_eq_true (show yl = yl from rfl)]
      refine hK _ _ (fun _ => S0.out) ?_
      clear hK
      refine early_take (i := 9) 48 (.bool false) rfl rfl (by kernel_rfl) (by kernel_rfl) (by kernel_rfl) (by kernel_rfl) rfl (fun _ _ _ h => h) (fun w' hw' => by go_simp) S0.out ?_
      simp only [Act.put, List.setIfInBounds_toArray, List.set_cons_zero, List.set_cons_succ]
      refine early_done (by kernel_rfl) ?_
      clear S0
      go_wp2_with fail
      exact ⟨⟨k + 1, p + 1 + p2, by omega, by go_num, rfl⟩, by simp [intOf]; omega⟩
    · obtain rfl : k = np := by omega
      have KW := Lib.hid (show Lw w (wd.drewN p) S #[.int .i64 (m : Int), .int .i64 (b : Int), .int .i64 (n2 : Int), .int .i64 (s : Int), .int .i64 (n : Int), .int .i64 (m2 : Int)] from ⟨KW.out.shp, KW.out.lt, below_drewN KW.out.bel p⟩)
      have IM := Lib.hid (IM.out.heap (w' := wd.drewN p) rfl)
      have IB := Lib.hid (show At (wd.drewN p) SI (ics Xq Xs Xi A2 n2 c2 B2 m2 d2) 37 from IB.out)
      have LN := Lib.hid (LN.out.heap (w' := wd.drewN p) rfl)
      generalize wd.drewN p = wx at *
      have k0 := KW.out.shp.cell 0; have k1 := KW.out.shp.cell 1; have k2 := KW.out.shp.cell 2; have k3 := KW.out.shp.cell 3; have k4 := KW.out.shp.cell 4; have k5 := KW.out.shp.cell 5
      go_wp2_with fail
      clear k0 k1 k2 k3 k4 k5
      refine (decode_any m b n2 s n m2 gen A3 k c3 P _ OK.out (by omega) LN.out).mono ?_
      rintro e wy ⟨r, hD, A7, c7, B7, d7, rfl, hI7, HB⟩
      rw [← NE.out, BY.out] at hD
      obtain rfl := hD.one DS.out
      simp only at hI7 ⊢
      obtain ⟨eg, em⟩ : Xg.length = n2 ∧ Xm.length = m2 := ⟨IM.out.lg, IM.out.lm⟩
      rw [eg, em] at hI7 ⊢
      have KW := Lib.hid (KW.out.up HB)
      have IM := Lib.hid (IM.out.below HB)
      have IB := Lib.hid (IB.out.below HB IB.out.lt)
      have I7 := Lib.hid (hI7.below (BB1 wy (.cells (ics Xq Xs Xi A7 n2 c7 B7 m2 d7) 37)))
      have KW := Lib.hid (KW.out.up (BB1 wy (.cells (ics Xq Xs Xi A7 n2 c7 B7 m2 d7) 37)))
      have IM := Lib.hid (IM.out.below (BB1 wy (.cells (ics Xq Xs Xi A7 n2 c7 B7 m2 d7) 37)))
      have IB := Lib.hid (IB.out.alloc (.cells (ics Xq Xs Xi A7 n2 c7 B7 m2 d7) 37))
      clear HB hI7 hD eg em
      have i0 := IB.out.cell 0; have i1 := IB.out.cell 1; have i2 := IB.out.cell 2; have i3 := IB.out.cell 3; have i4 := IB.out.cell 4
      go_wp2_with fail
      clear i0 i1 i2 i3 i4
      refine (same_yes ⟨Xq, Xs, Xi, Xg, Xm⟩ A2 n2 c2 B2 m2 d2 A7 c7 B7 d7 _ (by omega) (by omega) IM.out I7.out).mono ?_
      rintro e wz ⟨rfl, HB⟩
      have KW := Lib.hid (KW.out.up HB)
      clear HB
      go_wp2
      go_ret
      exact ⟨rfl, KW.out.bel⟩

theorem back_in (x0 x1 x2 x3 x4 x5 : Int) (y0 : Byte x0) (y1 : Byte x1) (y2 : Byte x2) (y3 : Byte x3) (y4 : Byte x4) (y5 : Byte x5) (q : Nat) (z : Int) (ix : Nat) (A : Option Addr) (na ca : Nat) (B : Option Addr) (nb cb : Nat) (L : List Sg) (M : List Nat) (gen : Int) (w : World)
    (hq : q < 18446744073709551616) (hz : -128 ≤ z ∧ z ≤ 127) (hix : ix < 256) (hL : Cls w A na L) (hM : Row w B nb (shrt M)) (hMl : ∀ p ∈ M, p < 65536) (hgen : 0 ≤ gen ∧ gen ≤ 18446744073709551615) :
    Calls Try.prog 3 #[sm x0 x1 x2 x3 x4 x5, .agg #[.int .u64 (q : Int), .int .i8 z, .int .u8 (ix : Int), .slice A na ca, .slice B nb cb], .int .u64 gen] w fun e w' => e = .returned (.bool true) ∧ Below w.heap.size w w' := by
  obtain ⟨m, b, g, s, n, l, ok, fw, sh⟩ := full_nat x0 x1 x2 x3 x4 x5 y0 y1 y2 y3 y4 y5
  obtain ⟨gen, rfl⟩ := Int.eq_ofNat_of_zero_le hgen.1
  exact back_walk x0 x1 x2 x3 x4 x5 m b g s n l ok fw sh q z ix A na ca B nb cb L M gen w hq hz hix hL hM hMl (by omega)
end Go.Proofs.Ytlmponcoghfghaa
