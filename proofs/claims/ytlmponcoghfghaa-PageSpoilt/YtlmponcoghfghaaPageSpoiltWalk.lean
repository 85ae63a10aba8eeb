/-
  THE WALK OF PageSpoilt.
-/
import Derived.Test.YtlmponcoghfghaaReads
import Derived.Test.YtlmponcoghfghaaTurned
import Derived.Deep.CutRange
import Derived.Deep.CutBlock
import Derived.Deep.DeepCutAuto
namespace Go.Proofs.Ytlmponcoghfghaa
open Go.RowKit
set_option linter.unusedVariables false
set_option maxRecDepth 100000


section
variable {P : Program} {md : Region.Mode} {ops : Array Oper} {Q : Exit → Act → World → Prop} {S : World → Prop} {E : Nat → Bool}
/-- Operations that look at no memory come first: of the rest more is known. -/
theorem early_weak : ∀ (fuel : Nat) (listed : Array Bool) (a : Act) (w : World), wpEarly P md ops Q S E fuel listed a w → wpEarly P md ops Q (fun _ => True) (fun _ => true) fuel listed a w
  | 0, _, _, _, h => h
  | fuel + 1, _, _, _, h => ⟨h.1, fun i hi => wpOp_mono (fun a' w' h' => ⟨fun _ => trivial, early_weak fuel _ a' w' h'.2⟩) (h.2 i hi)⟩
end
theorem Dec.few {m b g s l n gen : Nat} {L : List (List (BitVec 8))} {r : Im × Nat} (h : Dec m b g s l n gen L r) : r.1.gs.length ≤ g ∧ r.1.mp.length ≤ l := by
  cases h <;> simp [Im.zero, img, sgUpto_len, mpUpto_len]
theorem wrap_gen (g : Nat) : ∃ k : Nat, IntKind.u64.wrap ((g : Int) + 1) = (k : Int) ∧ k < 18446744073709551616 := by
  refine ⟨(g + 1) % 18446744073709551616, ?_, Nat.mod_lt _ (by omega)⟩
  rw [show IntKind.u64.wrap ((g : Int) + 1) = ((g : Int) + 1) % (18446744073709551616 : Int) by simp [IntKind.wrap, IntKind.signed, IntKind.bits]]
  omega
theorem Lns.take {w : World} {A : Option Addr} {n : Nat} {L : List Sl} (h : Lns w A n L) (m : Nat) (hm : m ≤ n) : Lns w A m (L.take m) :=
  ⟨by rw [List.map_take]; exact h.row.take m hm, fun x hx => h.has x (List.mem_of_mem_take hx), fun x hx => h.cap x (List.mem_of_mem_take hx)⟩
theorem Pg2.push {w w2 : World} {B0 a n c cap : Nat} {L : List Sl} {x : Sl} {A : Option Addr} (h : Pg2 w B0 a n c L) (hx : x ∈ L) (o : Obj) (hown : w2.ownsRow B0 42 1 (.slice A (n + 1) cap) (n + 1) ((L ++ [x]).map Sl.v)) (hg : (w.alloc o).grownBy w2 (some a)) : Lns w2 A (n + 1) (L ++ [x]) ∧ But (fun k => k = a) w w2 := by
  have bs : But (fun k => k = a) w w2 := ((But.refl _ _).alloc o).grown hg (fun k e _ => by injection e with e; exact e.symm)
  have hall : ∀ y ∈ L ++ [x], y ∈ L := fun y hy => by
    rcases List.mem_append.1 hy with hy | hy
    · exact hy
    · simp at hy; subst hy; exact hx
  obtain ⟨A', c', e, _, _, hr, _⟩ := Row.of_own hown
  injection e with e1 _ _
  rw [← e1] at hr
  exact ⟨⟨hr, fun y hy => (h.has y (hall y hy)).but bs (h.off y (hall y hy)), fun y hy => ⟨by have := (h.cap y (hall y hy)).2.1; omega, (h.cap y (hall y hy)).2.2⟩⟩, bs⟩
theorem size49 : (Try.prog.info? 49).map (·.size) = some 5 := by kernel_rfl
/-- The shape's box at S, what is turned at S2. -/
structure Spt (w0 w : World) (S S2 : Nat) (sc pc : Array Value) : Prop where
  shp : At w S sc 32
  sp : At w S2 pc 49
  lt : w0.heap.size ≤ S
  bel : Below w0.heap.size w0 w
theorem Spt.up {w0 w w' : World} {S S2 : Nat} {sc pc : Array Value} (h : Spt w0 w S S2 sc pc) (hb : Below w.heap.size w w') : Spt w0 w' S S2 sc pc := ⟨h.shp.below hb h.shp.lt, h.sp.below hb h.sp.lt, h.lt, h.bel.trans (hb.mono h.bel.size)⟩
theorem Spt.but {w0 w w' : World} {S S2 a : Nat} {sc pc : Array Value} (h : Spt w0 w S S2 sc pc) (hb : But (fun k => k = a) w w') (h1 : S < a) (h2 : S2 < a) : Spt w0 w' S S2 sc pc := ⟨h.shp.but hb (by omega), h.sp.but hb (by omega), h.lt, h.bel.trans (hb.below (fun k e => by have := h.lt; omega) h.bel.size)⟩
set_option maxHeartbeats 8000000 in
theorem spoilt_walk (x0 x1 x2 x3 x4 x5 : Int) (m b g s n l : Nat) (ok : OkN m b g s n l) (fw : Few m b g s l) (SHP : Hid (Filled (sm x0 x1 x2 x3 x4 x5) m b g s n l)) (q : Nat) (z : Int) (ix : Nat) (A : Option Addr) (na ca : Nat) (B : Option Addr) (nb cb : Nat) (L : List Sg) (M : List Nat) (gen pg at_ by_ wh : Nat) (se : Bool) (w : World)
    (hq : q < 18446744073709551616) (hz : -128 ≤ z ∧ z ≤ 127) (hix : ix < 256) (hL : Cls w A na L) (hM : Row w B nb (shrt M)) (hMl : ∀ p ∈ M, p < 65536) (hgen : gen < 18446744073709551616) (hpg : pg < 256) (hat : at_ < 256) (hby : by_ < 256) (hwh : wh < 256) :
    Calls Try.prog 4 #[sm x0 x1 x2 x3 x4 x5, .agg #[.int .u64 (q : Int), .int .i8 z, .int .u8 (ix : Int), .slice A na ca, .slice B nb cb], .int .u64 (gen : Int), .agg #[.int .u8 (pg : Int), .int .u8 (at_ : Int), .int .u8 (by_ : Int), .int .u8 (wh : Int), .bool se]] w fun e w' => e = .returned (.bool true) ∧ Below w.heap.size w w' := by
  have OK := Lib.hid ok
  have BN := Lib.hid ok.bnd
  have HL := Lib.hid hL
  have HM := Lib.hid hM
  have ML := Lib.hid hMl
  have FT := Lib.hid (mkI_fits (q := q) (ix := ix) (z := z) (L := L) (M := M) ok.bnd hq hL.2.2)
  have hb := fw.b
  have hnp := npg_few2 fw ok.bnd
  have LG := Lib.hid (show (mkI q z ix L M m g s l).gs.length = g from mkGs_len _ _)
  have LM := Lib.hid (show (mkI q z ix L M m g s l).mp.length = l from mkPs_len _ _ _)
  obtain ⟨np, hnpe⟩ : ∃ y, y = npg b g l := ⟨_, rfl⟩
  have NE := Lib.hid hnpe
  rw [← hnpe] at hnp
  clear hL hM hMl ok fw hnpe
  unfold sm at *
  go_enter Try.func4, Try.ntmps4
  go_wp2_with fail
  refine (awake_any _).mono ?_
  rintro e w1 ⟨rfl, hb1⟩
  have B1 := Lib.hid (show Below w.heap.size w w1 from (BB3 w _ _ _).trans (hb1.mono (BB3 w _ _ _).size))
  have SB := Lib.hid (show At w1 w.heap.size #[.int .u8 x0, .int .u8 x1, .int .u8 x2, .int .u8 x3, .int .u8 x4, .int .u8 x5] 23 from (((At.new _ _ rfl).alloc _).alloc _).below hb1 (by simp; omega))
  have TB := Lib.hid (show At w1 (w.heap.size + 1) #[.int .u64 (q : Int), .int .i8 z, .int .u8 (ix : Int), .slice A na ca, .slice B nb cb] 29 from ((At.new _ _ (by simp)).alloc _).below hb1 (by simp))
  have PB := Lib.hid (show At w1 (w.heap.size + 1 + 1) #[.int .u8 (pg : Int), .int .u8 (at_ : Int), .int .u8 (by_ : Int), .int .u8 (wh : Int), .bool se] 49 from (At.new _ _ (by simp)).below hb1 (by simp))
  clear hb1
  have k0 := SB.out.cell 0; have k1 := SB.out.cell 1; have k2 := SB.out.cell 2; have k3 := SB.out.cell 3; have k4 := SB.out.cell 4; have k5 := SB.out.cell 5
  go_wp2_with fail
  clear k0 k1 k2 k3 k4 k5 SB
  refine (SHP.out _).mono ?_
  rintro e w2 ⟨rfl, hb2⟩
  unfold sv
  have B1 := Lib.hid (B1.out.trans (hb2.mono B1.out.size))
  have TB := Lib.hid ((TB.out.below hb2 TB.out.lt).alloc (.cells #[.int .i64 (m : Int), .int .i64 (b : Int), .int .i64 (g : Int), .int .i64 (s : Int), .int .i64 (n : Int), .int .i64 (l : Int)] 32))
  have KW := Lib.hid (show Spt w (w2.alloc (.cells #[.int .i64 (m : Int), .int .i64 (b : Int), .int .i64 (g : Int), .int .i64 (s : Int), .int .i64 (n : Int), .int .i64 (l : Int)] 32)) w2.heap.size (w.heap.size + 1 + 1) #[.int .i64 (m : Int), .int .i64 (b : Int), .int .i64 (g : Int), .int .i64 (s : Int), .int .i64 (n : Int), .int .i64 (l : Int)] #[.int .u8 (pg : Int), .int .u8 (at_ : Int), .int .u8 (by_ : Int), .int .u8 (wh : Int), .bool se] from ⟨At.new _ _ rfl, (PB.out.below hb2 PB.out.lt).alloc _, B1.out.size, B1.out.alloc B1.out.size _⟩)
  clear hb2 B1 PB
  go_wp2_with fail
  refine wp_region_early (fun w' : World => At w' w2.heap.size #[.int .i64 (m : Int), .int .i64 (b : Int), .int .i64 (g : Int), .int .i64 (s : Int), .int .i64 (n : Int), .int .i64 (l : Int)] 32 ∧ At w' (w.heap.size + 1) #[.int .u64 (q : Int), .int .i8 z, .int .u8 (ix : Int), .slice A na ca, .slice B nb cb] 29) (fun _ => true) (by kernel_rfl) ?_
  change wpEarly _ _ _ _ _ _ 7 (Array.replicate 7 false) _ (w2.alloc (.cells #[.int .i64 (m : Int), .int .i64 (b : Int), .int .i64 (g : Int), .int .i64 (s : Int), .int .i64 (n : Int), .int .i64 (l : Int)] 32)).drew
  have KW := Lib.hid (KW.out.up (below_drew (Below.refl _ _)))
  have S0 := Lib.hid (show At (w2.alloc (.cells #[.int .i64 (m : Int), .int .i64 (b : Int), .int .i64 (g : Int), .int .i64 (s : Int), .int .i64 (n : Int), .int .i64 (l : Int)] 32)).drew w2.heap.size #[.int .i64 (m : Int), .int .i64 (b : Int), .int .i64 (g : Int), .int .i64 (s : Int), .int .i64 (n : Int), .int .i64 (l : Int)] 32 ∧ At (w2.alloc (.cells #[.int .i64 (m : Int), .int .i64 (b : Int), .int .i64 (g : Int), .int .i64 (s : Int), .int .i64 (n : Int), .int .i64 (l : Int)] 32)).drew (w.heap.size + 1) #[.int .u64 (q : Int), .int .i8 z, .int .u8 (ix : Int), .slice A na ca, .slice B nb cb] 29 from ⟨KW.out.shp, TB.out⟩)
  generalize (w2.alloc (.cells #[.int .i64 (m : Int), .int .i64 (b : Int), .int .i64 (g : Int), .int .i64 (s : Int), .int .i64 (n : Int), .int .i64 (l : Int)] 32)).drew = wa at *
  generalize w2.heap.size = S at *
  clear TB
  refine early_take (i := 0) 21 (.agg #[.int .i64 (m : Int), .int .i64 (b : Int), .int .i64 (g : Int), .int .i64 (s : Int), .int .i64 (n : Int), .int .i64 (l : Int)]) rfl rfl (by kernel_rfl) (by kernel_rfl) (by kernel_rfl) (by kernel_rfl) rfl (fun _ _ _ h => h) (fun w' hw' => exec_load_whole rfl rfl hw'.1 Try.underlying32 info32) S0.out ?_
  simp only [Act.put, List.setIfInBounds_toArray, List.set_cons_zero, List.set_cons_succ]
  refine early_take (i := 1) 22 (.int .u64 (gen : Int)) rfl rfl (by kernel_rfl) (by kernel_rfl) (by kernel_rfl) (by kernel_rfl) rfl (fun _ _ _ h => h) (fun w' hw' => by go_simp) S0.out ?_
  simp only [Act.put, List.setIfInBounds_toArray, List.set_cons_zero, List.set_cons_succ]
  refine early_take (i := 2) 23 (.agg #[.int .i64 (m : Int), .int .i64 (b : Int), .int .i64 (g : Int), .int .i64 (s : Int), .int .i64 (n : Int), .int .i64 (l : Int)]) rfl rfl (by kernel_rfl) (by kernel_rfl) (by kernel_rfl) (by kernel_rfl) rfl (fun _ _ _ h => h) (fun w' hw' => exec_load_whole rfl rfl hw'.1 Try.underlying32 info32) S0.out ?_
  simp only [Act.put, List.setIfInBounds_toArray, List.set_cons_zero, List.set_cons_succ]
  refine early_take (i := 3) 24 (.agg #[.int .u64 (q : Int), .int .i8 z, .int .u8 (ix : Int), .slice A na ca, .slice B nb cb]) rfl rfl (by kernel_rfl) (by kernel_rfl) (by kernel_rfl) (by kernel_rfl) rfl (fun _ _ _ h => h) (fun w' hw' => exec_load_whole rfl rfl hw'.2 Try.underlying29 size29) S0.out ?_
  simp only [Act.put, List.setIfInBounds_toArray, List.set_cons_zero, List.set_cons_succ]
  refine early_only (i := 4) (by kernel_rfl) rfl (fun K hK => ?_)
  simp only [opWp, List.getElem?_toArray, List.getElem?_cons_succ, List.getElem?_cons_zero]
  go_simp
  go_at_call 9
  refine (make_any m b g s n l BN.out q z ix A na ca B nb cb L M _ hz hix (HL.out.below KW.out.bel) (HM.out.below KW.out.bel) ML.out).mono ?_
  rintro e wb ⟨A2, n2, c2, B2, m2, d2, rfl, hI, HB⟩
  obtain rfl : n2 = g := by rw [← hI.lg, LG.out]
  obtain rfl : m2 = l := by rw [← hI.lm, LM.out]
  have KW := Lib.hid (KW.out.up HB)
  have S0 := Lib.hid (And.intro (S0.out.1.below HB S0.out.1.lt) (S0.out.2.below HB S0.out.2.lt))
  have IM := Lib.hid hI
  clear HB hI HL HM ML LG LM
  generalize mkI q z ix L M m n2 s m2 = X at *
  obtain ⟨Xq, Xs, Xi, Xg, Xm⟩ := X
  refine hK _ _ (fun _ => S0.out) ?_
  clear hK
  refine early_only (i := 5) (by kernel_rfl) rfl (fun K hK => ?_)
  simp only [opWp, List.getElem?_toArray, List.getElem?_cons_succ, List.getElem?_cons_zero]
  go_simp
  go_at_call 11
  refine (tells_any m b n2 s n m2 gen Xq Xs Xi A2 c2 B2 d2 Xg Xm _ OK.out hgen FT.out IM.out).mono ?_
  rintro e wc ⟨v5, P5, rfl, hown5, _, hpg5, hoff5, hdis5, HB⟩
  rw [← NE.out] at hown5
  have LTS := Lib.hid (And.intro KW.out.shp.lt KW.out.sp.lt)
  obtain ⟨La, c5, rfl, hc5, hm5, hba, hPg⟩ := told_pgs (by omega) hown5 hpg5 hoff5 hdis5 b (by omega)
  have KW := Lib.hid (KW.out.up HB)
  have S0 := Lib.hid (And.intro (S0.out.1.below HB S0.out.1.lt) (S0.out.2.below HB S0.out.2.lt))
  have GP := Lib.hid hPg
  have NA := Lib.hid (show S < La ∧ w.heap.size + 1 + 1 < La ∧ ∀ x ∈ P5, ∀ j, x.v.ownBlock = some j → S < j ∧ w.heap.size + 1 + 1 < j from ⟨by have := LTS.out.1; omega, by have := LTS.out.2; omega, fun x hx j hj => by have := ((hPg.pg x hx).1.lt j hj).1; have := LTS.out.1; have := LTS.out.2; omega⟩)
  have C5 := Lib.hid (And.intro hc5 hm5)
  generalize wb.heap.size = B00 at *
  clear HB hown5 hpg5 hoff5 hdis5 IM FT hc5 hm5 hba hPg LTS
  refine hK _ _ (fun _ => S0.out) ?_
  clear hK
  refine early_take (i := 6) 10 (.slice (some ⟨La, 0, none⟩) np c5) rfl rfl (by kernel_rfl) (by kernel_rfl) (by kernel_rfl) (by kernel_rfl) rfl (fun _ _ _ h => h) (fun w' hw' => by go_simp) S0.out ?_
  simp only [Act.put, List.setIfInBounds_toArray, List.set_cons_zero, List.set_cons_succ]
  refine early_done (by kernel_rfl) ?_
  clear S0
  obtain ⟨k, hk⟩ : ∃ k, k = pg % np := ⟨_, rfl⟩
  have hki : (pg : Int) % (np : Int) = (k : Int) := by rw [hk]; rfl
  have hklt : k < np := by rw [hk]; exact Nat.mod_lt _ (by omega)
  obtain ⟨i1, hi1⟩ : ∃ k, k = at_ % b := ⟨_, rfl⟩
  have hii : (at_ : Int) % (b : Int) = (i1 : Int) := by rw [hi1]; rfl
  have hi1b : i1 < b := by rw [hi1]; exact Nat.mod_lt _ (by omega)
  clear hk hi1
  have p0 := KW.out.sp.cell 0; have p1 := KW.out.sp.cell 1; have k1 := KW.out.shp.cell 1
  go_upto_if 42 with (fail)
  simp only [hki, hii]
  clear hki hii
  go_cut [12] (fun s12 wx => ∃ i : Nat, s12 = .int .i64 (i : Int) ∧ i < b ∧ wx = wc)
  case first =>
    by_cases h3 : at_ % 3 = 0
    · have q3 : ((at_ : Int) % 3 == 0) = true := by simp; omega
      obtain ⟨i2, hi2⟩ : ∃ k, k = at_ / 3 % 24 := ⟨_, rfl⟩
      have h24 : (at_ : Int) / 3 % 24 = (i2 : Int) := by rw [hi2]; rfl
      have hi2b : i2 < 24 := by rw [hi2]; exact Nat.mod_lt _ (by omega)
      clear hi2
      go_wp2
      go_meet
      exact ⟨i2, congrArg (Value.int .i64) h24, by omega, rfl⟩
    · have q3 : ((at_ : Int) % 3 == 0) = false := by simp; omega
      go_wp2
      go_meet
      exact ⟨i1, rfl, hi1b, rfl⟩
  case rest =>
    obtain ⟨i, rfl, hib, rfl⟩ := hcut
    clear p0 p1 k1 hi1b
    have LP := Lib.hid GP.out.len
    have hkP : k < P5.length := by rw [LP.out]; exact hklt
    obtain ⟨gk, hgk, hgne, hhk, hkn, hkc, hkm⟩ := GP.out.one (by omega) hkP
    have BYT := Lib.hid (fun y => GP.out.byte (i := i) hkP hgk y)
    have G2 := Lib.hid (GP.out.two (by omega))
    obtain ⟨_, hck, hfk⟩ := G2.out.cells hklt
    have NGK := Lib.hid (show S < gk ∧ w.heap.size + 1 + 1 < gk from NA.out.2.2 P5[k] (List.getElem_mem hkP) gk (by unfold Sl.v; rw [hgk]; rfl))
    have FZ := Lib.hid (show wc.frozen? ⟨gk, i, none⟩ = false from by
      have h1 := (GP.out.pg P5[k] (List.getElem_mem hkP)).1
      rw [show P5[k].v = .slice (some ⟨gk, 0, none⟩) P5[k].n P5[k].c by unfold Sl.v; rw [hgk]] at h1
      exact h1.frozenAt i)
    generalize P5[k] = y at *
    obtain ⟨yA, yn, yc, yl⟩ := y
    simp only at hgk hhk hkn hkc hkm hck
    subst hgk hkn
    have hyl : i < yl.length := by rw [hhk.1]; exact hib
    have hcy := hhk.cell i hib
    rw [Nat.zero_add] at hcy
    obtain ⟨xb, hxb⟩ : ∃ x, yl[i] = x := ⟨_, rfl⟩
    rw [hxb] at hcy
    have hx8 := lt8 xb
    obtain ⟨zb, hzb⟩ : ∃ x : BitVec 8, (x.toNat : Int) = (by_ : Int) := ⟨BitVec.ofNat 8 by_, by rw [BitVec.toNat_ofNat]; omega⟩
    obtain ⟨yb, hyb⟩ : ∃ y, y = xb ^^^ zb := ⟨_, rfl⟩
    have HX := Lib.hid (show bits BinOp.xor IntKind.u8 (xb.toNat : Int) (by_ : Int) = (yb.toNat : Int) by rw [← hzb, hyb]; exact xor8 xb zb)
    unfold maxLen at hkm
    clear hxb hzb hyb
    go_wp2_with fail
    refine wp_region_early (fun w' : World => At w' (w.heap.size + 1 + 1) #[.int .u8 (pg : Int), .int .u8 (at_ : Int), .int .u8 (by_ : Int), .int .u8 (wh : Int), .bool se] 49 ∧ w'.cell? ⟨La, k, none⟩ = some (.slice (some ⟨gk, 0, none⟩) yn yc) ∧ w'.cell? ⟨gk, i, none⟩ = some (.int .u8 (xb.toNat : Int))) (fun i => i != 11) (by kernel_rfl) ?_
    change wpEarly _ _ _ _ _ _ 12 (Array.replicate 12 false) _ wc.drew
    have S0 := Lib.hid (show At wc.drew (w.heap.size + 1 + 1) #[.int .u8 (pg : Int), .int .u8 (at_ : Int), .int .u8 (by_ : Int), .int .u8 (wh : Int), .bool se] 49 ∧ wc.drew.cell? ⟨La, k, none⟩ = some (.slice (some ⟨gk, 0, none⟩) yn yc) ∧ wc.drew.cell? ⟨gk, i, none⟩ = some (.int .u8 (xb.toNat : Int)) from ⟨KW.out.sp, hck, hcy⟩)
    have KW := Lib.hid (KW.out.up (below_drew (Below.refl _ _)))
    have FZ := Lib.hid (show wc.drew.frozen? ⟨gk, i, none⟩ = false from FZ.out)
    have BYT := Lib.hid (show ∃ L', Pgs (wc.drew.setCell ⟨gk, i, none⟩ (.int .u8 (yb.toNat : Int))) B00 La np c5 yn L' from by
      obtain ⟨L', h9⟩ := BYT.out yb
      exact ⟨L', h9.up (w' := wc.drew.setCell ⟨gk, i, none⟩ (.int .u8 (yb.toNat : Int))) ⟨rfl, rfl, rfl, Nat.le_refl _, fun _ _ => rfl⟩⟩)
    clear hck hcy hfk hhk G2 GP
    generalize wc.drew = wa at *
    refine early_take (i := 0) 48 (.slice (some ⟨La, 0, none⟩) np c5) rfl rfl (by kernel_rfl) (by kernel_rfl) (by kernel_rfl) (by kernel_rfl) rfl (fun _ _ _ h => h) (fun w' hw' => by go_simp) S0.out ?_
    simp only [Act.put, List.setIfInBounds_toArray, List.set_cons_zero, List.set_cons_succ]
    refine early_take (i := 1) 49 (.int .i64 (k : Int)) rfl rfl (by kernel_rfl) (by kernel_rfl) (by kernel_rfl) (by kernel_rfl) rfl (fun _ _ _ h => h) (fun w' hw' => by go_simp) S0.out ?_
    simp only [Act.put, List.setIfInBounds_toArray, List.set_cons_zero, List.set_cons_succ]
    refine early_take (i := 2) 50 (.pointer (some ⟨La, k, none⟩)) rfl rfl (by kernel_rfl) (by kernel_rfl) (by kernel_rfl) (by kernel_rfl) rfl (fun _ _ _ h => h) (fun w' hw' => by go_simp) S0.out ?_
    simp only [Act.put, List.setIfInBounds_toArray, List.set_cons_zero, List.set_cons_succ]
    refine early_take (i := 3) 51 (.slice (some ⟨gk, 0, none⟩) yn yc) rfl rfl (by kernel_rfl) (by kernel_rfl) (by kernel_rfl) (by kernel_rfl) rfl (fun _ _ _ h => h) (fun w' hw' => by have hc0 := hw'.2.1; go_simp) S0.out ?_
    simp only [Act.put, List.setIfInBounds_toArray, List.set_cons_zero, List.set_cons_succ]
    refine early_take (i := 4) 52 (.int .i64 (i : Int)) rfl rfl (by kernel_rfl) (by kernel_rfl) (by kernel_rfl) (by kernel_rfl) rfl (fun _ _ _ h => h) (fun w' hw' => by go_simp) S0.out ?_
    simp only [Act.put, List.setIfInBounds_toArray, List.set_cons_zero, List.set_cons_succ]
    refine early_take (i := 5) 53 (.pointer (some ⟨gk, i, none⟩)) rfl rfl (by kernel_rfl) (by kernel_rfl) (by kernel_rfl) (by kernel_rfl) rfl (fun _ _ _ h => h) (fun w' hw' => by go_simp) S0.out ?_
    simp only [Act.put, List.setIfInBounds_toArray, List.set_cons_zero, List.set_cons_succ]
    refine early_take (i := 6) 54 (.int .u8 (xb.toNat : Int)) rfl rfl (by kernel_rfl) (by kernel_rfl) (by kernel_rfl) (by kernel_rfl) rfl (fun _ _ _ h => h) (fun w' hw' => by have hc0 := hw'.2.2; go_simp) S0.out ?_
    simp only [Act.put, List.setIfInBounds_toArray, List.set_cons_zero, List.set_cons_succ]
    refine early_take (i := 7) 55 (.pointer (some ⟨w.heap.size + 1 + 1, 2, none⟩)) rfl rfl (by kernel_rfl) (by kernel_rfl) (by kernel_rfl) (by kernel_rfl) rfl (fun _ _ _ h => h) (fun w' hw' => by go_simp) S0.out ?_
    simp only [Act.put, List.setIfInBounds_toArray, List.set_cons_zero, List.set_cons_succ]
    refine early_take (i := 8) 56 (.int .u8 (by_ : Int)) rfl rfl (by kernel_rfl) (by kernel_rfl) (by kernel_rfl) (by kernel_rfl) rfl (fun _ _ _ h => h) (fun w' hw' => by have hc0 := hw'.1.cell 2; go_simp) S0.out ?_
    simp only [Act.put, List.setIfInBounds_toArray, List.set_cons_zero, List.set_cons_succ]
    refine early_take (i := 9) 57 (.int .u8 (yb.toNat : Int)) rfl rfl (by kernel_rfl) (by kernel_rfl) (by kernel_rfl) (by kernel_rfl) rfl (fun _ _ _ h => h) (fun w' hw' => by go_simp; exact HX.out) S0.out ?_
    simp only [Act.put, List.setIfInBounds_toArray, List.set_cons_zero, List.set_cons_succ]
    refine early_take (i := 10) 58 (.pointer (some ⟨gk, i, none⟩)) rfl rfl (by kernel_rfl) (by kernel_rfl) (by kernel_rfl) (by kernel_rfl) rfl (fun _ _ _ h => h) (fun w' hw' => by go_simp) S0.out ?_
    simp only [Act.put, List.setIfInBounds_toArray, List.set_cons_zero, List.set_cons_succ]
    refine early_only (i := 11) (by kernel_rfl) rfl (fun K hK => ?_)
    simp only [opWp, List.getElem?_toArray, List.getElem?_cons_succ, List.getElem?_cons_zero]
    have ca := S0.out.2.2
    have fa := FZ.out
    go_simp
    clear ca fa
    refine hK _ _ (fun h => by cases h) ?_
    refine early_done (by kernel_rfl) ?_
    clear hK S0
    obtain ⟨L6, hL6⟩ := BYT.out
    have KW := Lib.hid (KW.out.but ((But.refl (fun x => x = gk) wa).setCell (p := ⟨gk, i, none⟩) (fun _ => rfl) (.int .u8 (yb.toNat : Int))) NGK.out.1 NGK.out.2)
    have G2 := Lib.hid (hL6.two (by omega))
    have NB := Lib.hid (show ∀ x ∈ L6, x.n = yn from fun x hx => (hL6.pg x hx).2)
    clear BYT hL6 FZ HX
    generalize wa.setCell ⟨gk, i, none⟩ (.int .u8 (yb.toNat : Int)) = w6 at *
    have p4 := KW.out.sp.cell 4
    have c5n := C5.out.1
    have c5m := C5.out.2
    unfold maxLen at c5m
    go_upto_if 60 with (fail)
    clear p4
    go_cut [] (fun wx => ∃ L7, Pg2 wx B00 La np c5 L7 ∧ (∀ x ∈ L7, x.n = yn) ∧ Spt w wx S (w.heap.size + 1 + 1) #[.int .i64 (m : Int), .int .i64 (yn : Int), .int .i64 (n2 : Int), .int .i64 (s : Int), .int .i64 (n : Int), .int .i64 (m2 : Int)] #[.int .u8 (pg : Int), .int .u8 (at_ : Int), .int .u8 (by_ : Int), .int .u8 (wh : Int), .bool se])
    case first =>
      cases se
      · go_wp2
        go_meet
        exact ⟨L6, G2.out, NB.out, KW.out⟩
      · obtain ⟨hk6, hc6, hf6⟩ := G2.out.cells hklt
        have hH6 := G2.out.has L6[k] (List.getElem_mem hk6)
        have hC6 := G2.out.cap L6[k] (List.getElem_mem hk6)
        have hN6 := NB.out L6[k] (List.getElem_mem hk6)
        generalize L6[k] = y6 at hc6 hH6 hC6 hN6
        obtain ⟨zA, zn, zc, zl⟩ := y6
        simp only at hc6 hH6 hC6 hN6
        subst hN6
        obtain ⟨_, _, hzc, hzm⟩ := hC6
        unfold maxLen at hzm
        obtain ⟨gz, oz, rfl⟩ := hH6.some_ (by omega)
        have H6 := Lib.hid hH6
        have hb4 : (zn : Int) - 4 = ((zn - 4 : Nat) : Int) := by omega
        go_wp2_with fail
        refine wp_region_early (fun w' : World => At w' S #[.int .i64 (m : Int), .int .i64 (zn : Int), .int .i64 (n2 : Int), .int .i64 (s : Int), .int .i64 (n : Int), .int .i64 (m2 : Int)] 32 ∧ w'.cell? ⟨La, k, none⟩ = some (.slice (some ⟨gz, oz, none⟩) zn zc)) (fun i => i != 12) (by kernel_rfl) ?_
        change wpEarly _ _ _ _ _ _ 13 (Array.replicate 13 false) _ w6.drew
        have S0 := Lib.hid (show At w6.drew S #[.int .i64 (m : Int), .int .i64 (zn : Int), .int .i64 (n2 : Int), .int .i64 (s : Int), .int .i64 (n : Int), .int .i64 (m2 : Int)] 32 ∧ w6.drew.cell? ⟨La, k, none⟩ = some (.slice (some ⟨gz, oz, none⟩) zn zc) from ⟨KW.out.shp, hc6⟩)
        have KW := Lib.hid (KW.out.up (below_drew (Below.refl _ _)))
        have G2 := Lib.hid (G2.out.up (below_drew (Below.refl _ _)))
        have H6 := Lib.hid (H6.out.below (below_drew (Below.refl _ _)))
        have LAL := Lib.hid (show La < w6.drew.heap.size from (G2.out.own.lt La rfl).2)
        clear hH6 hc6 hf6
        generalize w6.drew = wa at *
        refine early_take (i := 0) 61 (.slice (some ⟨La, 0, none⟩) np c5) rfl rfl (by kernel_rfl) (by kernel_rfl) (by kernel_rfl) (by kernel_rfl) rfl (fun _ _ _ h => h) (fun w' hw' => by go_simp) S0.out ?_
        simp only [Act.put, List.setIfInBounds_toArray, List.set_cons_zero, List.set_cons_succ]
        refine early_take (i := 1) 62 (.int .i64 (k : Int)) rfl rfl (by kernel_rfl) (by kernel_rfl) (by kernel_rfl) (by kernel_rfl) rfl (fun _ _ _ h => h) (fun w' hw' => by go_simp) S0.out ?_
        simp only [Act.put, List.setIfInBounds_toArray, List.set_cons_zero, List.set_cons_succ]
        refine early_take (i := 2) 63 (.slice (some ⟨La, 0, none⟩) np c5) rfl rfl (by kernel_rfl) (by kernel_rfl) (by kernel_rfl) (by kernel_rfl) rfl (fun _ _ _ h => h) (fun w' hw' => by go_simp) S0.out ?_
        simp only [Act.put, List.setIfInBounds_toArray, List.set_cons_zero, List.set_cons_succ]
        refine early_take (i := 3) 64 (.int .i64 (k : Int)) rfl rfl (by kernel_rfl) (by kernel_rfl) (by kernel_rfl) (by kernel_rfl) rfl (fun _ _ _ h => h) (fun w' hw' => by go_simp) S0.out ?_
        simp only [Act.put, List.setIfInBounds_toArray, List.set_cons_zero, List.set_cons_succ]
        refine early_take (i := 4) 65 (.pointer (some ⟨La, k, none⟩)) rfl rfl (by kernel_rfl) (by kernel_rfl) (by kernel_rfl) (by kernel_rfl) rfl (fun _ _ _ h => h) (fun w' hw' => by go_simp) S0.out ?_
        simp only [Act.put, List.setIfInBounds_toArray, List.set_cons_zero, List.set_cons_succ]
        refine early_take (i := 5) 66 (.slice (some ⟨gz, oz, none⟩) zn zc) rfl rfl (by kernel_rfl) (by kernel_rfl) (by kernel_rfl) (by kernel_rfl) rfl (fun _ _ _ h => h) (fun w' hw' => by have hc0 := hw'.2; go_simp) S0.out ?_
        simp only [Act.put, List.setIfInBounds_toArray, List.set_cons_zero, List.set_cons_succ]
        refine early_take (i := 6) 67 (.pointer (some ⟨S, 1, none⟩)) rfl rfl (by kernel_rfl) (by kernel_rfl) (by kernel_rfl) (by kernel_rfl) rfl (fun _ _ _ h => h) (fun w' hw' => by go_simp) S0.out ?_
        simp only [Act.put, List.setIfInBounds_toArray, List.set_cons_zero, List.set_cons_succ]
        refine early_take (i := 7) 68 (.int .i64 (zn : Int)) rfl rfl (by kernel_rfl) (by kernel_rfl) (by kernel_rfl) (by kernel_rfl) rfl (fun _ _ _ h => h) (fun w' hw' => by have hc0 := hw'.1.cell 1; go_simp) S0.out ?_
        simp only [Act.put, List.setIfInBounds_toArray, List.set_cons_zero, List.set_cons_succ]
        refine early_take (i := 8) 69 (.int .i64 ((zn - 4 : Nat) : Int)) rfl rfl (by kernel_rfl) (by kernel_rfl) (by kernel_rfl) (by kernel_rfl) rfl (fun _ _ _ h => h) (fun w' hw' => by go_simp; exact wrap_of (by omega) (by omega)) S0.out ?_
        simp only [Act.put, List.setIfInBounds_toArray, List.set_cons_zero, List.set_cons_succ]
        refine early_take (i := 9) 70 (.slice (some ⟨gz, oz, none⟩) (zn - 4) zc) rfl rfl (by kernel_rfl) (by kernel_rfl) (by kernel_rfl) (by kernel_rfl) rfl (fun _ _ _ h => h) (fun w' hw' => by go_simp <;> (intro h9; omega)) S0.out ?_
        simp only [Act.put, List.setIfInBounds_toArray, List.set_cons_zero, List.set_cons_succ]
        refine early_only (i := 10) (by kernel_rfl) rfl (fun K hK => ?_)
        simp only [opWp, List.getElem?_toArray, List.getElem?_cons_succ, List.getElem?_cons_zero]
        go_simp
        go_at_call 15
        refine (sealed_any (some ⟨gz, oz, none⟩) (zn - 4) zc (zl.take (zn - 4)) _ (by omega) (H6.out.take (zn - 4) (by omega))).mono ?_
        rintro e w7 ⟨v7, rfl, hf7⟩
        rw [show zn - 4 + 4 = zn by omega] at hf7
        obtain ⟨A7, c7, rfl, hc7, hm7, _, hh7, hx7⟩ := own_slice hf7.1
        have S0 := Lib.hid (show At w7 S #[.int .i64 (m : Int), .int .i64 (zn : Int), .int .i64 (n2 : Int), .int .i64 (s : Int), .int .i64 (n : Int), .int .i64 (m2 : Int)] 32 ∧ w7.cell? ⟨La, k, none⟩ = some (.slice (some ⟨gz, oz, none⟩) zn zc) from ⟨S0.out.1.below hf7.2 S0.out.1.lt, (hf7.2.cell (p := ⟨La, k, none⟩) LAL.out).trans S0.out.2⟩)
        have KW := Lib.hid (KW.out.up hf7.2)
        have G2 := Lib.hid (G2.out.up hf7.2)
        have ST := Lib.hid (G2.out.store k ⟨A7, zn, c7, sealL (zl.take (zn - 4))⟩ hh7 (fun x hx e => by have := (hx7 x hx).1; have := LAL.out; omega) ⟨by show 16 ≤ zn; omega, by show zn ≤ 1000; omega, hc7, hm7⟩)
        have FR := Lib.hid (G2.out.own.frozenAt k)
        clear hf7 hc7 hm7 hh7 hx7
        refine hK _ _ (fun _ => S0.out) ?_
        clear hK
        refine early_take (i := 11) 72 (.pointer (some ⟨La, k, none⟩)) rfl rfl (by kernel_rfl) (by kernel_rfl) (by kernel_rfl) (by kernel_rfl) rfl (fun _ _ _ h => h) (fun w' hw' => by go_simp) S0.out ?_
        simp only [Act.put, List.setIfInBounds_toArray, List.set_cons_zero, List.set_cons_succ]
        refine early_only (i := 12) (by kernel_rfl) rfl (fun K hK => ?_)
        simp only [opWp, List.getElem?_toArray, List.getElem?_cons_succ, List.getElem?_cons_zero]
        have ca := S0.out.2
        have fa := FR.out
        go_simp
        clear ca fa
        refine hK _ _ (fun h => by cases h) ?_
        refine early_done (by kernel_rfl) ?_
        clear hK S0
        have KW := Lib.hid (KW.out.but ((But.refl (fun x => x = La) w7).setCell (p := ⟨La, k, none⟩) (fun _ => rfl) (.slice A7 zn c7)) NA.out.1 NA.out.2.1)
        have NB2 := Lib.hid (show ∀ x ∈ L6.set k ⟨A7, zn, c7, sealL (zl.take (zn - 4))⟩, x.n = zn from fun x hx => by
          rcases List.mem_or_eq_of_mem_set hx with hx | rfl
          · exact NB.out x hx
          · rfl)
        go_wp2_with fail
        go_meet
        exact ⟨_, ST.out, NB2.out, KW.out⟩
    case rest =>
      clear KW G2 NB
      clear L6 w6
      obtain ⟨L7, hG, hN, hK7⟩ := hcut
      have KW := Lib.hid hK7
      have G2 := Lib.hid hG
      have NB := Lib.hid hN
      clear hK7 hG hN
      have p3 := KW.out.sp.cell 3
      go_upto_block 0 with (fail)
      clear p3
      obtain ⟨w8, hw8⟩ : ∃ x : Nat, x = wh % 8 := ⟨_, rfl⟩
      have h8i : (wh : Int) % 8 = (w8 : Int) := by rw [hw8]; rfl
      have h8l : w8 < 8 := by rw [hw8]; exact Nat.mod_lt _ (by omega)
      simp only [h8i]
      clear h8i hw8
      go_cut [2, 10] (fun s2 s10 wx => ∃ (gen' : Nat) (A' : Option Addr) (n' c' : Nat) (L' : List Sl), s2 = .int .u64 (gen' : Int) ∧ gen' < 18446744073709551616 ∧ s10 = .slice A' n' c' ∧ n' ≤ 1000 ∧ Lns wx A' n' L' ∧ Spt w wx S (w.heap.size + 1 + 1) #[.int .i64 (m : Int), .int .i64 (yn : Int), .int .i64 (n2 : Int), .int .i64 (s : Int), .int .i64 (n : Int), .int .i64 (m2 : Int)] #[.int .u8 (pg : Int), .int .u8 (at_ : Int), .int .u8 (by_ : Int), .int .u8 (wh : Int), .bool se])
      case first =>
        by_cases e1 : w8 = 1
        · subst e1
          obtain ⟨hk0, hc0, _⟩ := G2.out.cells (k := 0) (by omega)
          have ME := Lib.hid (List.getElem_mem hk0)
          generalize L7[0] = y0 at hc0 ME
          obtain ⟨zA, zn, zc, zl⟩ := y0
          simp only at hc0
          have BL := Lib.hid (G2.out.own.lt La rfl)
          go_wp2_with (at_builtin; refine wpList_append_ln rfl (.tmp 78) (.tmp 82) rfl B00 (.slice (some ⟨La, 0, none⟩) np c5) np L7 rfl (own_below G2.out.own (BB1 _ _)) ⟨wc.heap.size, 0, none⟩ 1 1 [⟨zA, zn, zc, zl⟩] rfl rfl (ln_src ⟨zA, zn, zc, zl⟩ (At.new _ 42 rfl)) (by omega) (by have := BL.out; simp; omega) ?_; intro A10 c10 w10 hown hgr hfr; have R := Lib.hid (G2.out.push ME.out _ hown hgr); clear hown hgr hfr)
          go_meet
          exact ⟨gen, A10, np + 1, c10, _, rfl, hgen, rfl, by omega, R.out.1, KW.out.but R.out.2 NA.out.1 NA.out.2.1⟩
        by_cases e2 : w8 = 2
        · subst e2
          have hnp1 : (np : Int) - 1 = ((np - 1 : Nat) : Int) := by omega
          go_wp2
          go_meet
          exact ⟨gen, _, np - 1, c5, _, rfl, hgen, rfl, by omega, G2.out.lns.take (np - 1) (by omega), KW.out⟩
        by_cases e3 : w8 = 3
        · subst e3
          obtain ⟨hk6, hc6, hf6⟩ := G2.out.cells hklt
          obtain ⟨hk0, hc0, hf0⟩ := G2.out.cells (k := 0) (by omega)
          have hE6 := List.getElem_mem hk6
          have hE0 := List.getElem_mem hk0
          generalize L7[k] = y6 at hc6 hE6
          generalize L7[0] = y0 at hc0 hE0
          obtain ⟨zA, zn, zc, zl⟩ := y6
          obtain ⟨tA, tn, tc, tl⟩ := y0
          simp only at hc6 hc0
          have BS := Lib.hid (fun (v : Value) => (But.refl (fun x => x = La) wc).setCell (p := ⟨La, 0, none⟩) (fun _ => rfl) v)
          have E0 := Lib.hid hE0
          have G3 := Lib.hid (G2.out.store 0 ⟨zA, zn, zc, zl⟩ (G2.out.has _ hE6) (G2.out.off _ hE6) (G2.out.cap _ hE6))
          have G4 := Lib.hid (G3.out.store k ⟨tA, tn, tc, tl⟩ ((G2.out.has _ hE0).but (BS.out _) (G2.out.off _ hE0)) (G2.out.off _ hE0) (G2.out.cap _ hE0))
          have K4 := Lib.hid ((KW.out.but (BS.out (.slice zA zn zc)) NA.out.1 NA.out.2.1).but ((But.refl (fun x => x = La) (wc.setCell ⟨La, 0, none⟩ (.slice zA zn zc))).setCell (p := ⟨La, k, none⟩) (fun _ => rfl) (.slice tA tn tc)) NA.out.1 NA.out.2.1)
          obtain ⟨_, hck3, _⟩ := G3.out.cells hklt
          have CK := Lib.hid (show ∃ x, (wc.setCell ⟨La, 0, none⟩ (.slice zA zn zc)).cell? ⟨La, k, none⟩ = some x ∧ (wc.setCell ⟨La, 0, none⟩ (.slice zA zn zc)).frozen? ⟨La, k, none⟩ = false from ⟨_, hck3, G3.out.own.frozenAt k⟩)
          have FR := Lib.hid (And.intro hc0 hf0)
          go_wp2_with fail
          refine wp_region_early (fun _ => True) (fun _ => true) (by kernel_rfl) ?_
          change wpEarly _ _ _ _ _ _ 14 (Array.replicate 14 false) _ wc.drew
          have S0 := Lib.hid (show wc.drew.cell? ⟨La, k, none⟩ = some (.slice zA zn zc) ∧ wc.drew.cell? ⟨La, 0, none⟩ = some (.slice tA tn tc) from ⟨hc6, hc0⟩)
          have FR := Lib.hid (show wc.drew.cell? ⟨La, 0, none⟩ = some (.slice tA tn tc) ∧ wc.drew.frozen? ⟨La, 0, none⟩ = false from FR.out)
          have CK := Lib.hid (show ∃ x, (wc.drew.setCell ⟨La, 0, none⟩ (.slice zA zn zc)).cell? ⟨La, k, none⟩ = some x ∧ (wc.drew.setCell ⟨La, 0, none⟩ (.slice zA zn zc)).frozen? ⟨La, k, none⟩ = false from CK.out)
          have R4 := Lib.hid (show Lns ((wc.drew.setCell ⟨La, 0, none⟩ (.slice zA zn zc)).setCell ⟨La, k, none⟩ (.slice tA tn tc)) (some ⟨La, 0, none⟩) np ((L7.set 0 ⟨zA, zn, zc, zl⟩).set k ⟨tA, tn, tc, tl⟩) from G4.out.lns.heap rfl)
          have K4 := Lib.hid (show Spt w ((wc.drew.setCell ⟨La, 0, none⟩ (.slice zA zn zc)).setCell ⟨La, k, none⟩ (.slice tA tn tc)) S (w.heap.size + 1 + 1) #[.int .i64 (m : Int), .int .i64 (yn : Int), .int .i64 (n2 : Int), .int .i64 (s : Int), .int .i64 (n : Int), .int .i64 (m2 : Int)] #[.int .u8 (pg : Int), .int .u8 (at_ : Int), .int .u8 (by_ : Int), .int .u8 (wh : Int), .bool se] from ⟨K4.out.shp, K4.out.sp, K4.out.lt, ⟨K4.out.bel.os, K4.out.bel.tape, K4.out.bel.output, K4.out.bel.size, K4.out.bel.block⟩⟩)
          clear hc6 hf6 hc0 hf0 hE6 hE0 G3 G4 BS E0 hck3
          generalize wc.drew = wa at *
          refine early_take (i := 0) 93 (.slice (some ⟨La, 0, none⟩) np c5) rfl rfl (by kernel_rfl) (by kernel_rfl) (by kernel_rfl) (by kernel_rfl) rfl (fun _ _ _ h => h) (fun w' hw' => by go_simp) trivial ?_
          simp only [Act.put, List.setIfInBounds_toArray, List.set_cons_zero, List.set_cons_succ]
          refine early_take (i := 1) 94 (.slice (some ⟨La, 0, none⟩) np c5) rfl rfl (by kernel_rfl) (by kernel_rfl) (by kernel_rfl) (by kernel_rfl) rfl (fun _ _ _ h => h) (fun w' hw' => by go_simp) trivial ?_
          simp only [Act.put, List.setIfInBounds_toArray, List.set_cons_zero, List.set_cons_succ]
          refine early_take (i := 2) 95 (.int .i64 (k : Int)) rfl rfl (by kernel_rfl) (by kernel_rfl) (by kernel_rfl) (by kernel_rfl) rfl (fun _ _ _ h => h) (fun w' hw' => by go_simp) trivial ?_
          simp only [Act.put, List.setIfInBounds_toArray, List.set_cons_zero, List.set_cons_succ]
          refine early_take (i := 3) 96 (.slice (some ⟨La, 0, none⟩) np c5) rfl rfl (by kernel_rfl) (by kernel_rfl) (by kernel_rfl) (by kernel_rfl) rfl (fun _ _ _ h => h) (fun w' hw' => by go_simp) trivial ?_
          simp only [Act.put, List.setIfInBounds_toArray, List.set_cons_zero, List.set_cons_succ]
          refine early_take (i := 4) 97 (.int .i64 (k : Int)) rfl rfl (by kernel_rfl) (by kernel_rfl) (by kernel_rfl) (by kernel_rfl) rfl (fun _ _ _ h => h) (fun w' hw' => by go_simp) trivial ?_
          simp only [Act.put, List.setIfInBounds_toArray, List.set_cons_zero, List.set_cons_succ]
          refine early_take (i := 5) 98 (.pointer (some ⟨La, k, none⟩)) rfl rfl (by kernel_rfl) (by kernel_rfl) (by kernel_rfl) (by kernel_rfl) rfl (fun _ _ _ h => h) (fun w' hw' => by go_simp) trivial ?_
          simp only [Act.put, List.setIfInBounds_toArray, List.set_cons_zero, List.set_cons_succ]
          refine early_take (i := 7) 100 (.slice (some ⟨La, 0, none⟩) np c5) rfl rfl (by kernel_rfl) (by kernel_rfl) (by kernel_rfl) (by kernel_rfl) rfl (fun _ _ _ h => h) (fun w' hw' => by go_simp) trivial ?_
          simp only [Act.put, List.setIfInBounds_toArray, List.set_cons_zero, List.set_cons_succ]
          refine early_take (i := 8) 101 (.pointer (some ⟨La, 0, none⟩)) rfl rfl (by kernel_rfl) (by kernel_rfl) (by kernel_rfl) (by kernel_rfl) rfl (fun _ _ _ h => h) (fun w' hw' => by go_simp <;> (intro h9; omega)) trivial ?_
          simp only [Act.put, List.setIfInBounds_toArray, List.set_cons_zero, List.set_cons_succ]
          refine early_weak (S := fun w' : World => w'.cell? ⟨La, k, none⟩ = some (.slice zA zn zc) ∧ w'.cell? ⟨La, 0, none⟩ = some (.slice tA tn tc)) (E := fun i => i != 11 && i != 12 && i != 13) _ _ _ _ ?_
          refine early_take (i := 6) 99 (.slice zA zn zc) rfl rfl (by kernel_rfl) (by kernel_rfl) (by kernel_rfl) (by kernel_rfl) rfl (fun _ _ _ h => h) (fun w' hw' => by have hc0 := hw'.1; go_simp) S0.out ?_
          simp only [Act.put, List.setIfInBounds_toArray, List.set_cons_zero, List.set_cons_succ]
          refine early_take (i := 9) 102 (.slice tA tn tc) rfl rfl (by kernel_rfl) (by kernel_rfl) (by kernel_rfl) (by kernel_rfl) rfl (fun _ _ _ h => h) (fun w' hw' => by have hc0 := hw'.2; go_simp) S0.out ?_
          simp only [Act.put, List.setIfInBounds_toArray, List.set_cons_zero, List.set_cons_succ]
          refine early_take (i := 10) 103 (.pointer (some ⟨La, 0, none⟩)) rfl rfl (by kernel_rfl) (by kernel_rfl) (by kernel_rfl) (by kernel_rfl) rfl (fun _ _ _ h => h) (fun w' hw' => by go_simp <;> (intro h9; omega)) S0.out ?_
          simp only [Act.put, List.setIfInBounds_toArray, List.set_cons_zero, List.set_cons_succ]
          refine early_only (i := 11) (by kernel_rfl) rfl (fun K hK => ?_)
          simp only [opWp, List.getElem?_toArray, List.getElem?_cons_succ, List.getElem?_cons_zero]
          have ca := FR.out.1
          have fa := FR.out.2
          go_simp
          clear ca fa
          refine hK _ _ (fun h => by cases h) ?_
          clear hK
          refine early_only (i := 12) (by kernel_rfl) rfl (fun K hK => ?_)
          simp only [opWp, List.getElem?_toArray, List.getElem?_cons_succ, List.getElem?_cons_zero]
          go_simp
          refine hK _ _ (fun h => by cases h) ?_
          clear hK
          refine early_only (i := 13) (by kernel_rfl) rfl (fun K hK => ?_)
          simp only [opWp, List.getElem?_toArray, List.getElem?_cons_succ, List.getElem?_cons_zero]
          obtain ⟨x9, ca, fa⟩ := CK.out
          go_simp
          clear ca fa
          refine hK _ _ (fun h => by cases h) ?_
          refine early_done (by kernel_rfl) ?_
          clear hK S0
          go_wp2_with fail
          go_meet
          exact ⟨gen, _, np, c5, _, rfl, hgen, rfl, by omega, R4.out, K4.out⟩
        by_cases e4 : w8 = 4
        · subst e4
          obtain ⟨gen4, hg4, hl4⟩ := wrap_gen gen
          go_wp2
          go_meet
          exact ⟨gen4, _, np, c5, _, rfl, hl4, rfl, by omega, G2.out.lns, KW.out⟩
        by_cases e5 : w8 = 5
        · subst e5
          obtain ⟨hk6, hc6, hf6⟩ := G2.out.cells hklt
          have hH6 := G2.out.has L7[k] (List.getElem_mem hk6)
          have hC6 := G2.out.cap L7[k] (List.getElem_mem hk6)
          have hN6 := NB.out L7[k] (List.getElem_mem hk6)
          have hO6 := G2.out.off L7[k] (List.getElem_mem hk6)
          generalize L7[k] = y6 at hc6 hH6 hC6 hN6 hO6
          obtain ⟨zA, zn, zc, zl⟩ := y6
          simp only at hc6 hH6 hC6 hN6 hO6
          subst hN6
          obtain ⟨_, _, hzc, hzm⟩ := hC6
          unfold maxLen at hzm
          obtain ⟨gz, oz, rfl⟩ := hH6.some_ (by omega)
          have ST := Lib.hid (G2.out.store k ⟨some ⟨gz, oz + 1, none⟩, zn - 1, zc - 1, zl.drop 1⟩ (hH6.drop 1 (by omega)) (fun y hy => by have := hO6 ⟨gz, oz, none⟩ rfl; injection hy with hy; subst hy; exact this) ⟨by show 16 ≤ zn - 1; omega, by show zn - 1 ≤ 1000; omega, by show zn - 1 ≤ zc - 1; omega, by show zc - 1 ≤ maxLen; unfold maxLen; omega⟩)
          clear hH6 hO6
          have K5 := Lib.hid (KW.out.but ((But.refl (fun x => x = La) wc).setCell (p := ⟨La, k, none⟩) (fun _ => rfl) (.slice (some ⟨gz, oz + 1, none⟩) (zn - 1) (zc - 1))) NA.out.1 NA.out.2.1)
          go_wp2
          go_meet
          exact ⟨gen, _, np, c5, _, rfl, hgen, rfl, by omega, ST.out.lns, K5.out⟩
        go_wp2
        go_meet
        exact ⟨gen, _, np, c5, _, rfl, hgen, rfl, by omega, G2.out.lns, KW.out⟩
      case rest =>
        clear KW G2 NB
        obtain ⟨gen8, A8, n8, c8, L8, rfl, hgen8, rfl, hn8, hLn, hK8⟩ := hcut
        have KW := Lib.hid hK8
        have LN := Lib.hid hLn
        clear hK8 hLn
        have k0 := KW.out.shp.cell 0; have k1 := KW.out.shp.cell 1; have k2 := KW.out.shp.cell 2; have k3 := KW.out.shp.cell 3; have k4 := KW.out.shp.cell 4; have k5 := KW.out.shp.cell 5
        go_wp2_with fail
        clear k0 k1 k2 k3 k4 k5
        refine (decode_any m yn n2 s n m2 gen8 A8 n8 c8 L8 _ OK.out (by omega) LN.out).mono ?_
        rintro e wy ⟨r, hD, A7, c7, B7, d7, rfl, hI7, HB⟩
        have RS := Lib.hid (hD.few)
        have DD := Lib.hid hD
        obtain ⟨⟨rq, rs, ri, rg, rm⟩, rc⟩ := r
        have hrg := RS.out.1; have hrm := RS.out.2
        simp only at hI7 hrg hrm ⊢
        have hgb := BN.out.g; have hlb := BN.out.l
        obtain ⟨G, hG⟩ : ∃ x, x = rg.length := ⟨_, rfl⟩
        obtain ⟨H, hH⟩ : ∃ x, x = rm.length := ⟨_, rfl⟩
        rw [← hG, ← hH] at hI7
        rw [← hG] at hrg
        rw [← hH] at hrm
        simp only [← hG, ← hH]
        have HG := Lib.hid (And.intro hG hH)
        clear hG hH
        have hGl : G ≤ 64 := by omega
        have hHl : H ≤ 12810 := by omega
        have KW := Lib.hid ((KW.out.up HB).up (BB1 wy (.cells (ics rq rs ri A7 G c7 B7 H d7) 37)))
        have LN := Lib.hid ((LN.out.below HB).below (BB1 wy (.cells (ics rq rs ri A7 G c7 B7 H d7) 37)))
        have I7 := Lib.hid (hI7.below (BB1 wy (.cells (ics rq rs ri A7 G c7 B7 H d7) 37)))
        have IB := Lib.hid (At.new (w := wy) (g := wy.heap.size) (ics rq rs ri A7 G c7 B7 H d7) 37 rfl)
        clear HB hI7 hD RS hrg hrm hgb hlb
        have k0 := KW.out.shp.cell 0; have k1 := KW.out.shp.cell 1; have k2 := KW.out.shp.cell 2; have k3 := KW.out.shp.cell 3; have k4 := KW.out.shp.cell 4; have k5 := KW.out.shp.cell 5
        go_wp2_with fail
        clear k0 k1 k2 k3 k4 k5
        generalize wy.heap.size = SI at *
        generalize wy.alloc (.cells (ics rq rs ri A7 G c7 B7 H d7) 37) = wz at *
        refine (reads_any m yn n2 s n m2 gen8 A8 n8 c8 L8 _ OK.out hgen8 (by omega) LN.out).mono ?_
        rintro e wv ⟨r, hD, A9, c9, B9, d9, rfl, hI9, HB⟩
        obtain rfl := DD.out.one hD
        simp only [← HG.out.1, ← HG.out.2] at hI9 ⊢
        have KW := Lib.hid ((KW.out.up HB).up (BB1 wv (.cells (ics rq rs ri A9 G c9 B9 H d9) 37)))
        have IB := Lib.hid ((IB.out.below HB IB.out.lt).alloc (.cells (ics rq rs ri A9 G c9 B9 H d9) 37))
        have I7 := Lib.hid ((I7.out.below HB).below (BB1 wv (.cells (ics rq rs ri A9 G c9 B9 H d9) 37)))
        have I9 := Lib.hid (hI9.below (BB1 wv (.cells (ics rq rs ri A9 G c9 B9 H d9) 37)))
        clear HB hI9 hD DD LN
        have i0 := IB.out.cell 0; have i1 := IB.out.cell 1; have i2 := IB.out.cell 2; have i3 := IB.out.cell 3; have i4 := IB.out.cell 4
        go_wp2_with fail
        clear i0 i1 i2 i3 i4
        refine (same_yes ⟨rq, rs, ri, rg, rm⟩ A7 G c7 B7 H d7 A9 c9 B9 d9 _ (by omega) (by omega) I7.out I9.out).mono ?_
        rintro e wu ⟨rfl, HB⟩
        have KW := Lib.hid (KW.out.up HB)
        clear HB
        go_wp2
        go_ret
        exact ⟨rfl, KW.out.bel⟩

theorem spoilt_in (x0 x1 x2 x3 x4 x5 : Int) (y0 : Byte x0) (y1 : Byte x1) (y2 : Byte x2) (y3 : Byte x3) (y4 : Byte x4) (y5 : Byte x5) (q : Nat) (z : Int) (ix : Nat) (A : Option Addr) (na ca : Nat) (B : Option Addr) (nb cb : Nat) (L : List Sg) (M : List Nat) (gen : Int) (pg at_ by_ wh : Nat) (se : Bool) (w : World)
    (hq : q < 18446744073709551616) (hz : -128 ≤ z ∧ z ≤ 127) (hix : ix < 256) (hL : Cls w A na L) (hM : Row w B nb (shrt M)) (hMl : ∀ p ∈ M, p < 65536) (hgen : 0 ≤ gen ∧ gen ≤ 18446744073709551615) (hpg : pg < 256) (hat : at_ < 256) (hby : by_ < 256) (hwh : wh < 256) :
    Calls Try.prog 4 #[sm x0 x1 x2 x3 x4 x5, .agg #[.int .u64 (q : Int), .int .i8 z, .int .u8 (ix : Int), .slice A na ca, .slice B nb cb], .int .u64 gen, .agg #[.int .u8 (pg : Int), .int .u8 (at_ : Int), .int .u8 (by_ : Int), .int .u8 (wh : Int), .bool se]] w fun e w' => e = .returned (.bool true) ∧ Below w.heap.size w w' := by
  obtain ⟨m, b, g, s, n, l, ok, fw, sh⟩ := full_nat x0 x1 x2 x3 x4 x5 y0 y1 y2 y3 y4 y5
  obtain ⟨gen, rfl⟩ := Int.eq_ofNat_of_zero_le hgen.1
  exact spoilt_walk x0 x1 x2 x3 x4 x5 m b g s n l ok fw (Lib.hid sh) q z ix A na ca B nb cb L M gen pg at_ by_ wh se w hq hz hix hL hM hMl (by omega) hpg hat hby hwh
end Go.Proofs.Ytlmponcoghfghaa
