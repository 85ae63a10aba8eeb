/-
  THE WALK OF PageGens.
-/
import Derived.Test.YtlmponcoghfghaaIn
import Derived.Deep.CutRange
import Derived.Deep.CutBlock
import Derived.Deep.DeepCutAuto
namespace Go.Proofs.Ytlmponcoghfghaa
open Go.RowKit
set_option linter.unusedVariables false
set_option maxRecDepth 100000


set_option maxHeartbeats 400000 in
theorem cloneL_any (x : Addr) (n c : Nat) (L : List Sl) (w : World) (hn : n ≤ 100000) (h : Row w (some x) n (L.map Sl.v)) :
    Calls Try.prog 18 #[.slice (some x) n c] w fun e w' => ∃ v, e = .returned v ∧ w'.ownsRow w.heap.size 42 1 v n (L.map Sl.v) ∧ Below w.heap.size w w' := by
  have hnil := fun (w : World) (a : Option Addr) (n c : Nat) => Lib.run_eql_slice_nil (P := Try.prog) w 39 42 a n c 0 0 Try.underlying39
  have H := Lib.hid h
  have HL := Lib.hid (show L.length = n by have := h.1; rw [List.length_map] at this; exact this)
  clear h
  go_enter Try.func18, Try.ntmps18
  go_wp2_with (at_builtin; refine wpList_append_ln rfl (.tmp 5) (.tmp 6) rfl w.heap.size (.slice (some ⟨w.heap.size, 0, none⟩) 0 0) 0 [] rfl (World.ownsRow_made w #[] 0 (Nat.le_refl _) (by unfold maxLen; omega) rfl) x n c L rfl HL.out (H.out.below (BB1 w _)).cells (by omega) (by simp) ?_; intro A3 c3 w3 hown3 hg3 hf3)
  go_ret
  refine ⟨_, rfl, by simpa using hown3, (BB1 w _).grown hg3 (by simp) (fun k hk => ?_)⟩
  simp [Value.ownBlock] at hk
  omega

/-- The shape's box at S. -/
structure Lw (w0 w : World) (S : Nat) (sc : Array Value) : Prop where
  shp : At w S sc 32
  lt : w0.heap.size ≤ S
  bel : Below w0.heap.size w0 w
theorem Lw.up {w0 w w' : World} {S : Nat} {sc : Array Value} (h : Lw w0 w S sc) (hb : Below w.heap.size w w') : Lw w0 w' S sc := ⟨h.shp.below hb h.shp.lt, h.lt, h.bel.trans (hb.mono h.bel.size)⟩
theorem size29 : (Try.prog.info? 29).map (·.size) = some 5 := by kernel_rfl
theorem Bnd.of_few {m b g s n l : Nat} (ok : OkN m b g s n l) : Bnd m b g s l := ok.bnd
theorem npg_small {m b g s l : Nat} (h : Few m b g s l) (ok : Bnd m b g s l) : npg b g l * (b - 15) ≤ 170 := by
  have := npg_le ok
  have := h.b; have := h.g; have := h.l
  omega
theorem npg_few2 {m b g s l : Nat} (h : Few m b g s l) (ok : Bnd m b g s l) : 1 ≤ npg b g l ∧ npg b g l ≤ 170 := by
  have h1 := npg_few ok
  have h2 := npg_small h ok
  have hb := h.b
  exact ⟨h1.1, Nat.le_trans (Nat.le_mul_of_pos_right _ (by omega)) h2⟩
/-- Rotated pages are none. -/
theorem rot_dec {m b g s l np gen k : Nat} {D : List (BitVec 8)} {L : List (List (BitVec 8))} {r : Im × Nat} (hb : 15 ≤ b) (hD : D.length = np * (b - 15)) (hn : np < 65536) (hg : gen < 18446744073709551616) (hL : L = sheets D gen (b - 15) np) (hk : k < np) (hk0 : ¬ k = 0) (h : Dec m b g s l np gen (L.drop k ++ L.take k) r) : r = (Im.zero, 4) := by
  subst hL
  have hlen : (sheets D gen (b - 15) np).length = np := sheets_len _ _ _ _
  have hl2 : ((sheets D gen (b - 15) np).drop k ++ (sheets D gen (b - 15) np).take k).length = np := by simp [hlen]; omega
  have e0 : ((sheets D gen (b - 15) np).drop k ++ (sheets D gen (b - 15) np).take k)[0]'(by omega) = sheet gen k (cut D (b - 15) k) := by
    rw [List.getElem_append_left (by rw [List.length_drop, hlen]; omega), List.getElem_drop, sheets_get]
    simp
  refine h.one (dec_other (gen := 0) (k := 0) (x := Im.zero) hl2 (by omega) ?_)
  rw [e0]
  exact sheet_other (by rw [cut_len hD hk]; omega) hg (by omega) (fun e => hk0 e.2.symm)
theorem gen_dec {m b g s l np gen other : Nat} {D : List (BitVec 8)} {L : List (List (BitVec 8))} {r : Im × Nat} (hb : 15 ≤ b) (hD : D.length = np * (b - 15)) (h1 : 1 ≤ np) (hn : np < 65536) (hg : gen < 18446744073709551616) (hL : L = sheets D gen (b - 15) np) (hne : ¬ gen = other) (h : Dec m b g s l np other L r) : r = (Im.zero, 4) := by
  subst hL
  have hlen : (sheets D gen (b - 15) np).length = np := sheets_len _ _ _ _
  refine h.one (dec_other (gen := 0) (k := 0) (x := Im.zero) hlen (by omega) ?_)
  rw [sheets_get]
  exact sheet_other (by rw [cut_len hD (by omega)]; omega) hg (by omega) (fun e => hne e.1.symm)
theorem drop_byts (L : List Sl) (k : Nat) : byts (L.drop k ++ L.take k) = (byts L).drop k ++ (byts L).take k := by simp [byts]

set_option maxHeartbeats 4000000 in
theorem gens_walk (x0 x1 x2 x3 x4 x5 : Int) (m b g s n l : Nat) (ok : OkN m b g s n l) (fw : Few m b g s l) (SHP : Hid (Filled (sm x0 x1 x2 x3 x4 x5) m b g s n l)) (q : Nat) (z : Int) (ix : Nat) (A : Option Addr) (na ca : Nat) (B : Option Addr) (nb cb : Nat) (L : List Sg) (M : List Nat) (gen other tn : Nat) (w : World)
    (hq : q < 18446744073709551616) (hz : -128 ≤ z ∧ z ≤ 127) (hix : ix < 256) (hL : Cls w A na L) (hM : Row w B nb (shrt M)) (hMl : ∀ p ∈ M, p < 65536) (hgen : gen < 18446744073709551616) (hoth : other < 18446744073709551616) (htn : tn < 256) :
    Calls Try.prog 6 #[sm x0 x1 x2 x3 x4 x5, .agg #[.int .u64 (q : Int), .int .i8 z, .int .u8 (ix : Int), .slice A na ca, .slice B nb cb], .int .u64 (gen : Int), .int .u64 (other : Int), .int .u8 (tn : Int)] w fun e w' => e = .returned (.bool true) ∧ Below w.heap.size w w' := by
  have OK := Lib.hid ok
  have BN := Lib.hid ok.bnd
  have HL := Lib.hid hL
  have HM := Lib.hid hM
  have ML := Lib.hid hMl
  have FT := Lib.hid (mkI_fits (q := q) (ix := ix) (z := z) (L := L) (M := M) ok.bnd hq hL.2.2)
  have FI := Lib.hid (mkI_fine (q := q) (ix := ix) (z := z) (L := L) (M := M) (m := m) (g := g) (s := s) (l := l) (by have := fw.g; omega) (by have := fw.s; omega))
  have hb := fw.b
  have hnp := npg_few2 fw ok.bnd
  have NG := Lib.hid (npg_ge ok.bnd)
  have LG := Lib.hid (show (mkI q z ix L M m g s l).gs.length = g from mkGs_len _ _)
  have LM := Lib.hid (show (mkI q z ix L M m g s l).mp.length = l from mkPs_len _ _ _)
  have PL := Lib.hid (show (pad (mkI q z ix L M m g s l).body (npg b g l * (b - 15))).length = npg b g l * (b - 15) from pad_len _ _ (by rw [body_len, LG.out, LM.out]; exact npg_ge ok.bnd))
  have DS := Lib.hid (dec_sheets (m := m) (b := b) (g := g) (s := s) (l := l) (n := npg b g l) (gen := gen) (x := mkI q z ix L M m g s l) (by omega) (by omega) hgen FT.out FI.out LG.out LM.out NG.out)
  obtain ⟨np, hnpe⟩ : ∃ y, y = npg b g l := ⟨_, rfl⟩
  have NE := Lib.hid hnpe
  rw [← hnpe] at hnp NG PL DS
  clear hL hM hMl ok fw hnpe
  unfold sm at *
  go_enter Try.func6, Try.ntmps6
  go_wp2_with fail
  refine (awake_any _).mono ?_
  rintro e w1 ⟨rfl, hb1⟩
  have B1 := Lib.hid (show Below w.heap.size w w1 from (BB2 w _ _).trans (hb1.mono (BB2 w _ _).size))
  have TB := Lib.hid (show At w1 (w.heap.size + 1) #[.int .u64 (q : Int), .int .i8 z, .int .u8 (ix : Int), .slice A na ca, .slice B nb cb] 29 from (At.new _ _ (by simp)).below hb1 (by simp))
  have SB := Lib.hid (show At w1 w.heap.size #[.int .u8 x0, .int .u8 x1, .int .u8 x2, .int .u8 x3, .int .u8 x4, .int .u8 x5] 23 from ((At.new _ _ rfl).alloc _).below hb1 (by simp; omega))
  clear hb1
  have k0 := SB.out.cell 0; have k1 := SB.out.cell 1; have k2 := SB.out.cell 2; have k3 := SB.out.cell 3; have k4 := SB.out.cell 4; have k5 := SB.out.cell 5
  go_wp2_with fail
  clear k0 k1 k2 k3 k4 k5 SB
  refine (SHP.out _).mono ?_
  rintro e w2 ⟨rfl, hb2⟩
  unfold sv
  have B1 := Lib.hid (B1.out.trans (hb2.mono B1.out.size))
  have TB := Lib.hid ((TB.out.below hb2 TB.out.lt).alloc (.cells #[.int .i64 (m : Int), .int .i64 (b : Int), .int .i64 (g : Int), .int .i64 (s : Int), .int .i64 (n : Int), .int .i64 (l : Int)] 32))
  have KW := Lib.hid (show Lw w (w2.alloc (.cells #[.int .i64 (m : Int), .int .i64 (b : Int), .int .i64 (g : Int), .int .i64 (s : Int), .int .i64 (n : Int), .int .i64 (l : Int)] 32)) w2.heap.size #[.int .i64 (m : Int), .int .i64 (b : Int), .int .i64 (g : Int), .int .i64 (s : Int), .int .i64 (n : Int), .int .i64 (l : Int)] from ⟨At.new _ _ rfl, B1.out.size, B1.out.alloc B1.out.size _⟩)
  clear hb2 B1
  go_wp2_with fail
  refine wp_region_early (fun w' : World => At w' w2.heap.size #[.int .i64 (m : Int), .int .i64 (b : Int), .int .i64 (g : Int), .int .i64 (s : Int), .int .i64 (n : Int), .int .i64 (l : Int)] 32 ∧ At w' (w.heap.size + 1) #[.int .u64 (q : Int), .int .i8 z, .int .u8 (ix : Int), .slice A na ca, .slice B nb cb] 29) (fun _ => true) (by kernel_rfl) ?_
  change wpEarly _ _ _ _ _ _ 7 (Array.replicate 7 false) _ (w2.alloc (.cells #[.int .i64 (m : Int), .int .i64 (b : Int), .int .i64 (g : Int), .int .i64 (s : Int), .int .i64 (n : Int), .int .i64 (l : Int)] 32)).drew
  have KW := Lib.hid (KW.out.up (below_drew (Below.refl _ _)))
  have S0 := Lib.hid (show At (w2.alloc (.cells #[.int .i64 (m : Int), .int .i64 (b : Int), .int .i64 (g : Int), .int .i64 (s : Int), .int .i64 (n : Int), .int .i64 (l : Int)] 32)).drew w2.heap.size #[.int .i64 (m : Int), .int .i64 (b : Int), .int .i64 (g : Int), .int .i64 (s : Int), .int .i64 (n : Int), .int .i64 (l : Int)] 32 ∧ At (w2.alloc (.cells #[.int .i64 (m : Int), .int .i64 (b : Int), .int .i64 (g : Int), .int .i64 (s : Int), .int .i64 (n : Int), .int .i64 (l : Int)] 32)).drew (w.heap.size + 1) #[.int .u64 (q : Int), .int .i8 z, .int .u8 (ix : Int), .slice A na ca, .slice B nb cb] 29 from ⟨KW.out.shp, TB.out⟩)
  generalize (w2.alloc (.cells #[.int .i64 (m : Int), .int .i64 (b : Int), .int .i64 (g : Int), .int .i64 (s : Int), .int .i64 (n : Int), .int .i64 (l : Int)] 32)).drew = wa at *
  generalize w2.heap.size = S at *
  clear TB
  refine early_take (i := 0) 22 (.agg #[.int .i64 (m : Int), .int .i64 (b : Int), .int .i64 (g : Int), .int .i64 (s : Int), .int .i64 (n : Int), .int .i64 (l : Int)]) rfl rfl (by kernel_rfl) (by kernel_rfl) (by kernel_rfl) (by kernel_rfl) rfl (fun _ _ _ h => h) (fun w' hw' => exec_load_whole rfl rfl hw'.1 Try.underlying32 info32) S0.out ?_
  simp only [Act.put, List.setIfInBounds_toArray, List.set_cons_zero, List.set_cons_succ]
  refine early_take (i := 1) 23 (.int .u64 (gen : Int)) rfl rfl (by kernel_rfl) (by kernel_rfl) (by kernel_rfl) (by kernel_rfl) rfl (fun _ _ _ h => h) (fun w' hw' => by go_simp) S0.out ?_
  simp only [Act.put, List.setIfInBounds_toArray, List.set_cons_zero, List.set_cons_succ]
  refine early_take (i := 2) 24 (.agg #[.int .i64 (m : Int), .int .i64 (b : Int), .int .i64 (g : Int), .int .i64 (s : Int), .int .i64 (n : Int), .int .i64 (l : Int)]) rfl rfl (by kernel_rfl) (by kernel_rfl) (by kernel_rfl) (by kernel_rfl) rfl (fun _ _ _ h => h) (fun w' hw' => exec_load_whole rfl rfl hw'.1 Try.underlying32 info32) S0.out ?_
  simp only [Act.put, List.setIfInBounds_toArray, List.set_cons_zero, List.set_cons_succ]
  refine early_take (i := 3) 25 (.agg #[.int .u64 (q : Int), .int .i8 z, .int .u8 (ix : Int), .slice A na ca, .slice B nb cb]) rfl rfl (by kernel_rfl) (by kernel_rfl) (by kernel_rfl) (by kernel_rfl) rfl (fun _ _ _ h => h) (fun w' hw' => exec_load_whole rfl rfl hw'.2 Try.underlying29 size29) S0.out ?_
  simp only [Act.put, List.setIfInBounds_toArray, List.set_cons_zero, List.set_cons_succ]
  refine early_only (i := 4) (by kernel_rfl) rfl (fun K hK => ?_)
  simp only [opWp, List.getElem?_toArray, List.getElem?_cons_succ, List.getElem?_cons_zero]
  go_simp
  go_at_call 9
  refine (make_any m b g s n l BN.out q z ix A na ca B nb cb L M _ hz hix (HL.out.below KW.out.bel) (HM.out.below KW.out.bel) ML.out).mono ?_
  rintro e wb ⟨A2, n2, c2, B2, m2, d2, rfl, hI, HB⟩
  obtain rfl : n2 = g := by rw [← hI.lg, LG.out]
  obtain rfl : m2 = l := by rw [← hI.lm, LM.out]
  have KW := Lib.hid (KW.out.up HB)
  have S0 := Lib.hid (And.intro (S0.out.1.below HB S0.out.1.lt) (S0.out.2.below HB S0.out.2.lt))
  have IM := Lib.hid hI
  clear HB hI HL HM ML LG LM
  generalize mkI q z ix L M m n2 s m2 = X at *
  obtain ⟨Xq, Xs, Xi, Xg, Xm⟩ := X
  refine hK _ _ (fun _ => S0.out) ?_
  clear hK
  refine early_only (i := 5) (by kernel_rfl) rfl (fun K hK => ?_)
  simp only [opWp, List.getElem?_toArray, List.getElem?_cons_succ, List.getElem?_cons_zero]
  go_simp
  go_at_call 10
  refine (encode_any m b n2 s n m2 gen Xq Xs Xi A2 c2 B2 d2 Xg Xm _ OK.out hgen FT.out IM.out).mono ?_
  rintro e wc ⟨A3, c3, P, rfl, hc3, hm3, hLn, hby, _, HB⟩
  rw [← NE.out] at hLn hby hc3
  have KW := Lib.hid (KW.out.up HB)
  have S0 := Lib.hid (And.intro (S0.out.1.below HB S0.out.1.lt) (S0.out.2.below HB S0.out.2.lt))
  have LN := Lib.hid hLn
  have BY := Lib.hid hby
  have C3 := Lib.hid (And.intro hc3 hm3)
  rw [← NE.out]
  clear HB hLn hby IM FT FI hc3 hm3
  generalize pad (Im.mk Xq Xs Xi Xg Xm).body (np * (b - 15)) = D at *
  refine hK _ _ (fun _ => S0.out) ?_
  clear hK
  refine early_take (i := 6) 12 (.slice A3 np c3) rfl rfl (by kernel_rfl) (by kernel_rfl) (by kernel_rfl) (by kernel_rfl) rfl (fun _ _ _ h => h) (fun w' hw' => by go_simp) S0.out ?_
  simp only [Act.put, List.setIfInBounds_toArray, List.set_cons_zero, List.set_cons_succ]
  refine early_done (by kernel_rfl) ?_
  clear S0
  have hnp0 : ((np : Int) == 0) = false := by simp; omega
  have k0 := KW.out.shp.cell 0; have k1 := KW.out.shp.cell 1; have k2 := KW.out.shp.cell 2; have k3 := KW.out.shp.cell 3; have k4 := KW.out.shp.cell 4; have k5 := KW.out.shp.cell 5
  go_wp2_with fail
  clear k0 k1 k2 k3 k4 k5
  refine (decode_any m b n2 s n m2 other A3 np c3 P _ OK.out (by omega) LN.out).mono ?_
  rintro e wd ⟨r, hD, A4, c4, B4, d4, rfl, hI4, HB⟩
  rw [← NE.out] at hD
  have R1 := Lib.hid (show (gen = other ∧ r.2 = 0) ∨ (¬ gen = other ∧ r.2 = 4) from by
    by_cases e : gen = other
    · subst e
      rw [BY.out] at hD
      exact .inl ⟨rfl, by rw [hD.one DS.out]⟩
    · exact .inr ⟨e, by rw [gen_dec (by omega) PL.out hnp.1 (by omega) hgen BY.out e hD]⟩)
  obtain ⟨⟨rq, rs, ri, rg, rm⟩, E1⟩ := r
  simp only at R1
  have hE1 : E1 ≤ 4 := by rcases R1.out with h | h <;> omega
  have KW := Lib.hid (KW.out.up HB)
  have LN := Lib.hid (LN.out.below HB)
  have KW := Lib.hid (KW.out.up (BB1 wd (.cells (ics rq rs ri A4 rg.length c4 B4 rm.length d4) 37)))
  have LN := Lib.hid (LN.out.below (BB1 wd (.cells (ics rq rs ri A4 rg.length c4 B4 rm.length d4) 37)))
  clear HB hD hI4
  simp only
  obtain ⟨k, hk⟩ : ∃ k, k = tn % np := ⟨_, rfl⟩
  have hki : (tn : Int) % (np : Int) = (k : Int) := by rw [hk]; rfl
  have hklt : k < np := by rw [hk]; exact Nat.mod_lt _ (by omega)
  clear hk
  obtain ⟨bb, off, rfl⟩ := LN.out.row.some_ (by omega)
  have hC1 := C3.out.1
  have hC2 := C3.out.2
  unfold maxLen at hC2
  go_upto_region 9 with (fail)
  simp only [hki]
  clear hki
  go_cut [16, 17] (fun _ s17 wc => s17 = .int .i64 (if k = 0 then 0 else 4) ∧ Below w.heap.size w wc)
  case first =>
    refine wp_region_early (fun w' : World => At w' S #[.int .i64 (m : Int), .int .i64 (b : Int), .int .i64 (n2 : Int), .int .i64 (s : Int), .int .i64 (n : Int), .int .i64 (m2 : Int)] 32) (fun _ => true) (by kernel_rfl) ?_
    change wpEarly _ _ _ _ _ _ 17 (Array.replicate 17 false) _ (wd.alloc (.cells (ics rq rs ri A4 rg.length c4 B4 rm.length d4) 37)).drew
    have KW := Lib.hid (KW.out.up (below_drew (Below.refl _ _)))
    have LN := Lib.hid (LN.out.below (below_drew (Below.refl _ _)))
    generalize (wd.alloc (.cells (ics rq rs ri A4 rg.length c4 B4 rm.length d4) 37)).drew = wf at *
    have LL := Lib.hid (show P.length = np from LN.out.len)
    refine early_take (i := 0) 44 (.agg #[.int .i64 (m : Int), .int .i64 (b : Int), .int .i64 (n2 : Int), .int .i64 (s : Int), .int .i64 (n : Int), .int .i64 (m2 : Int)]) rfl rfl (by kernel_rfl) (by kernel_rfl) (by kernel_rfl) (by kernel_rfl) rfl (fun _ _ _ h => h) (fun w' hw' => exec_load_whole rfl rfl hw' Try.underlying32 info32) KW.out.shp ?_
    simp only [Act.put, List.setIfInBounds_toArray, List.set_cons_zero, List.set_cons_succ]
    refine early_take (i := 1) 45 (.int .u64 (gen : Int)) rfl rfl (by kernel_rfl) (by kernel_rfl) (by kernel_rfl) (by kernel_rfl) rfl (fun _ _ _ h => h) (fun w' hw' => by go_simp) KW.out.shp ?_
    simp only [Act.put, List.setIfInBounds_toArray, List.set_cons_zero, List.set_cons_succ]
    refine early_take (i := 2) 46 (.slice (some ⟨bb, off, none⟩) np c3) rfl rfl (by kernel_rfl) (by kernel_rfl) (by kernel_rfl) (by kernel_rfl) rfl (fun _ _ _ h => h) (fun w' hw' => by go_simp) KW.out.shp ?_
    simp only [Act.put, List.setIfInBounds_toArray, List.set_cons_zero, List.set_cons_succ]
    refine early_take (i := 3) 47 (.int .i64 (k : Int)) rfl rfl (by kernel_rfl) (by kernel_rfl) (by kernel_rfl) (by kernel_rfl) rfl (fun _ _ _ h => h) (fun w' hw' => by go_simp) KW.out.shp ?_
    simp only [Act.put, List.setIfInBounds_toArray, List.set_cons_zero, List.set_cons_succ]
    refine early_take (i := 4) 48 (.slice (some ⟨bb, off + k, none⟩) (np - k) (c3 - k)) rfl rfl (by kernel_rfl) (by kernel_rfl) (by kernel_rfl) (by kernel_rfl) rfl (fun _ _ _ h => h) (fun w' hw' => by go_simp; rw [if_pos (by omega), if_neg (by omega)]) KW.out.shp ?_
    simp only [Act.put, List.setIfInBounds_toArray, List.set_cons_zero, List.set_cons_succ]
    refine early_take (i := 6) 50 (.slice (some ⟨bb, off, none⟩) np c3) rfl rfl (by kernel_rfl) (by kernel_rfl) (by kernel_rfl) (by kernel_rfl) rfl (fun _ _ _ h => h) (fun w' hw' => by go_simp) KW.out.shp ?_
    simp only [Act.put, List.setIfInBounds_toArray, List.set_cons_zero, List.set_cons_succ]
    refine early_take (i := 7) 51 (.int .i64 (k : Int)) rfl rfl (by kernel_rfl) (by kernel_rfl) (by kernel_rfl) (by kernel_rfl) rfl (fun _ _ _ h => h) (fun w' hw' => by go_simp) KW.out.shp ?_
    simp only [Act.put, List.setIfInBounds_toArray, List.set_cons_zero, List.set_cons_succ]
    refine early_take (i := 8) 52 (.slice (some ⟨bb, off, none⟩) k c3) rfl rfl (by kernel_rfl) (by kernel_rfl) (by kernel_rfl) (by kernel_rfl) rfl (fun _ _ _ h => h) (fun w' hw' => by go_simp; intro h9; omega) KW.out.shp ?_
    simp only [Act.put, List.setIfInBounds_toArray, List.set_cons_zero, List.set_cons_succ]
    refine early_two (i := 5) (j := 14) (by kernel_rfl) ⟨rfl, fun K hK => ?_⟩ ⟨rfl, fun K hK => ?_⟩
    · simp only [opWp, List.getElem?_toArray, List.getElem?_cons_succ, List.getElem?_cons_zero]
      go_simp
      go_at_call 18
      refine (cloneL_any ⟨bb, off + k, none⟩ (np - k) (c3 - k) (P.drop k) _ (by omega) (by have := LN.out.row.drop k (by omega); rw [List.map_drop]; exact this)).mono ?_
      rintro e wg ⟨v5, rfl, hown, HB⟩
      have OV := Lib.hid (show wg.ownsRow w.heap.size 42 1 v5 (np - k) ((P.drop k).map Sl.v) from own_base hown (fun j hj => Nat.le_trans KW.out.bel.size (hown.lt j hj).1))
      have LO := Lib.hid (show ∀ j, v5.ownBlock = some j → ¬ j = S ∧ ∀ x ∈ P, ∀ a, x.A = some a → x.n = 0 ∨ ¬ a.block = j from fun j hj => ⟨by have := (hown.lt j hj).1; have := KW.out.shp.lt; omega, fun x hx a ha => by
        by_cases h0 : x.n = 0
        · exact .inl h0
        · refine .inr ?_
          obtain ⟨b', o', e1, hlt, _⟩ := (LN.out.has x hx).2 (by omega)
          rw [ha] at e1; injection e1 with e1; subst e1
          have := (hown.lt j hj).1
          show ¬ b' = j
          omega⟩)
      have KW := Lib.hid (KW.out.up HB)
      have LN := Lib.hid (LN.out.below HB)
      clear HB hown
      refine hK _ _ (fun _ => KW.out.shp) ?_
      clear hK
      refine early_two (i := 9) (j := 14) (by kernel_rfl) ⟨rfl, fun K hK => ?_⟩ ⟨rfl, fun K hK => ?_⟩
      · simp only [opWp, List.getElem?_toArray, List.getElem?_cons_succ, List.getElem?_cons_zero]
        refine wp_append_ln (.tmp 49) (.tmp 52) rfl w.heap.size v5 (np - k) (P.drop k) rfl OV.out ⟨bb, off, none⟩ k c3 (P.take k) rfl (by rw [List.length_take, LL.out]; omega) (by have := (LN.out.row.take k (by omega)).cells; rw [← List.map_take] at this; exact this) (by omega) KW.out.bel.size ?_
        intro A6 c6 wh hown hg6 hf6
        have bt := (But.refl (fun j => v5.ownBlock = some j) _).grown hg6 (fun j hj _ => hj)
        have NN := Lib.hid (show np - k + k = np by omega)
        rw [NN.out] at hown ⊢
        have L6 := Lib.hid (show Lns wh A6 np (P.drop k ++ P.take k) from by
          obtain ⟨A7, c7, e7, h71, h72, hrow, _⟩ := Row.of_own hown
          injection e7 with e7 _ _
          subst e7
          refine ⟨hrow, fun x hx => ?_, fun x hx => ?_⟩
          · have hx' : x ∈ P := by rcases List.mem_append.1 hx with h | h; exact List.mem_of_mem_drop h; exact List.mem_of_mem_take h
            refine ⟨(LN.out.has x hx').1, fun h0 => ?_⟩
            refine (((LN.out.has x hx').but bt (fun a ha e => ?_)).2 h0)
            rcases (LO.out _ e).2 x hx' a ha with h | h
            · omega
            · exact h rfl
          · have hx' : x ∈ P := by rcases List.mem_append.1 hx with h | h; exact List.mem_of_mem_drop h; exact List.mem_of_mem_take h
            exact LN.out.cap x hx')
        have KW := Lib.hid (show Lw w wh S #[.int .i64 (m : Int), .int .i64 (b : Int), .int .i64 (n2 : Int), .int .i64 (s : Int), .int .i64 (n : Int), .int .i64 (m2 : Int)] from ⟨KW.out.shp.but bt (fun e => (LO.out _ e).1 rfl), KW.out.lt, KW.out.bel.trans (bt.below (fun j e => (OV.out.lt j e).1) KW.out.bel.size)⟩)
        clear hown hg6 hf6 bt
        refine hK _ _ (fun _ => KW.out.shp) ?_
        clear hK
        simp only [Act.put, List.setIfInBounds_toArray, List.set_cons_zero, List.set_cons_succ]
        refine early_two (i := 10) (j := 14) (by kernel_rfl) ⟨rfl, fun K hK => ?_⟩ ⟨rfl, fun K hK => ?_⟩
        · simp only [opWp, List.getElem?_toArray, List.getElem?_cons_succ, List.getElem?_cons_zero]
          go_simp
          go_at_call 13
          refine (decode_any m b n2 s n m2 gen A6 np c6 (P.drop k ++ P.take k) _ OK.out (by omega) L6.out).mono ?_
          rintro e wi ⟨r, hD, A8, c8, B8, d8, rfl, hI8, HB⟩
          rw [← NE.out, drop_byts, BY.out] at hD
          have R2 := Lib.hid (show (k = 0 ∧ r.2 = 0) ∨ (¬ k = 0 ∧ r.2 = 4) from by
            by_cases e : k = 0
            · subst e
              rw [List.drop_zero, List.take_zero, List.append_nil] at hD
              exact .inl ⟨rfl, by rw [hD.one DS.out]⟩
            · exact .inr ⟨e, by rw [rot_dec (by omega) PL.out (by omega) hgen rfl hklt e hD]⟩)
          have KW := Lib.hid (KW.out.up HB)
          clear HB hD hI8 L6
          obtain ⟨⟨tq, ts, ti, tg, tm⟩, E2⟩ := r
          simp only at R2
          simp only
          refine hK _ _ (fun _ => KW.out.shp) ?_
          clear hK
          refine early_take (i := 11) 43 (.tuple #[.agg (ics tq ts ti A8 tg.length c8 B8 tm.length d8), .int .i64 (E2 : Int)]) rfl rfl (by kernel_rfl) (by kernel_rfl) (by kernel_rfl) (by kernel_rfl) rfl (fun _ _ _ h => h) (fun w' hw' => by go_simp) KW.out.shp ?_
          simp only [Act.put, List.setIfInBounds_toArray, List.set_cons_zero, List.set_cons_succ]
          refine early_take (i := 12) 55 (.agg (ics tq ts ti A8 tg.length c8 B8 tm.length d8)) rfl rfl (by kernel_rfl) (by kernel_rfl) (by kernel_rfl) (by kernel_rfl) rfl (fun _ _ _ h => h) (fun w' hw' => by go_simp) KW.out.shp ?_
          simp only [Act.put, List.setIfInBounds_toArray, List.set_cons_zero, List.set_cons_succ]
          refine early_take (i := 13) 56 (.int .i64 (E2 : Int)) rfl rfl (by kernel_rfl) (by kernel_rfl) (by kernel_rfl) (by kernel_rfl) rfl (fun _ _ _ h => h) (fun w' hw' => by go_simp) KW.out.shp ?_
          simp only [Act.put, List.setIfInBounds_toArray, List.set_cons_zero, List.set_cons_succ]
          refine early_only (i := 14) (by kernel_rfl) rfl (fun K hK => ?_)
          simp only [opWp, List.getElem?_toArray, List.getElem?_cons_succ, List.getElem?_cons_zero]
          go_simp
          have BX := Lib.hid (At.new (w := wi) (g := wi.heap.size) zcs 37 rfl)
          have HB := BB1 wi (.cells zcs 37)
          have PB := Lib.hid (show w.heap.size ≤ wi.heap.size from KW.out.bel.size)
          have NS := Lib.hid (show ¬ S = wi.heap.size from by have := KW.out.shp.lt; omega)
          have KW := Lib.hid (KW.out.up HB)
          clear HB
          refine hK _ _ (fun _ => KW.out.shp) ?_
          clear hK
          generalize wi.alloc (.cells zcs 37) = wp at *
          generalize wi.heap.size = P0 at *
          refine early_only (i := 15) (by kernel_rfl) rfl (fun K hK => ?_)
          simp only [opWp, List.getElem?_toArray, List.getElem?_cons_succ, List.getElem?_cons_zero]
          refine wp_store_part 37 (.tmp 16) (.tmp 55) rfl P0 0 37 zcs (ics tq ts ti A8 tg.length c8 B8 tm.length d8) rfl rfl BX.out size37 (by simp) (ics_one _ _ _ _ _ _ _ _ _) ?_
          intro wj hat hb
          have BE := Lib.hid (show Below w.heap.size w wj from KW.out.bel.trans (hb.below (fun x e => by have := PB.out; omega) KW.out.bel.size))
          have KW := Lib.hid (KW.out.shp.but hb NS.out)
          clear hat hb
          refine hK _ _ (fun _ => KW.out) ?_
          clear hK
          refine early_take (i := 16) 17 (.int .i64 (E2 : Int)) rfl rfl (by kernel_rfl) (by kernel_rfl) (by kernel_rfl) (by kernel_rfl) rfl (fun _ _ _ h => h) (fun w' hw' => by go_simp) KW.out ?_
          simp only [Act.put, List.setIfInBounds_toArray, List.set_cons_zero, List.set_cons_succ]
          refine early_done (by kernel_rfl) ?_
          go_wp2_with fail
          go_meet
          have e2 : Value.int IntKind.i64 (E2 : Int) = .int .i64 (if k = 0 then 0 else 4) := by
            rcases R2.out with ⟨h1, h2⟩ | ⟨h1, h2⟩
            · rw [if_pos h1, h2]; rfl
            · rw [if_neg h1, h2]; rfl
          exact ⟨e2, BE.out⟩
        · simp only [opWp, List.getElem?_toArray, List.getElem?_cons_succ, List.getElem?_cons_zero]
          go_simp
          have BX := Lib.hid (At.new (w := wh) (g := wh.heap.size) zcs 37 rfl)
          have HB := BB1 wh (.cells zcs 37)
          have PB := Lib.hid (show w.heap.size ≤ wh.heap.size from KW.out.bel.size)
          have NS := Lib.hid (show ¬ S = wh.heap.size from by have := KW.out.shp.lt; omega)
          have L6 := Lib.hid (L6.out.below HB)
          have KW := Lib.hid (KW.out.up HB)
          clear HB
          refine hK _ _ (fun _ => KW.out.shp) ?_
          clear hK
          generalize wh.alloc (.cells zcs 37) = wp at *
          generalize wh.heap.size = P0 at *
          refine early_only (i := 10) (by kernel_rfl) rfl (fun K hK => ?_)
          simp only [opWp, List.getElem?_toArray, List.getElem?_cons_succ, List.getElem?_cons_zero]
          go_simp
          go_at_call 13
          refine (decode_any m b n2 s n m2 gen A6 np c6 (P.drop k ++ P.take k) _ OK.out (by omega) L6.out).mono ?_
          rintro e wi ⟨r, hD, A8, c8, B8, d8, rfl, hI8, HB⟩
          rw [← NE.out, drop_byts, BY.out] at hD
          have R2 := Lib.hid (show (k = 0 ∧ r.2 = 0) ∨ (¬ k = 0 ∧ r.2 = 4) from by
            by_cases e : k = 0
            · subst e
              rw [List.drop_zero, List.take_zero, List.append_nil] at hD
              exact .inl ⟨rfl, by rw [hD.one DS.out]⟩
            · exact .inr ⟨e, by rw [rot_dec (by omega) PL.out (by omega) hgen rfl hklt e hD]⟩)
          have KW := Lib.hid (KW.out.up HB)
          have BX := Lib.hid (BX.out.below HB BX.out.lt)
          clear HB hD hI8 L6
          obtain ⟨⟨tq, ts, ti, tg, tm⟩, E2⟩ := r
          simp only at R2
          simp only
          refine hK _ _ (fun _ => KW.out.shp) ?_
          clear hK
          refine early_take (i := 11) 43 (.tuple #[.agg (ics tq ts ti A8 tg.length c8 B8 tm.length d8), .int .i64 (E2 : Int)]) rfl rfl (by kernel_rfl) (by kernel_rfl) (by kernel_rfl) (by kernel_rfl) rfl (fun _ _ _ h => h) (fun w' hw' => by go_simp) KW.out.shp ?_
          simp only [Act.put, List.setIfInBounds_toArray, List.set_cons_zero, List.set_cons_succ]
          refine early_take (i := 12) 55 (.agg (ics tq ts ti A8 tg.length c8 B8 tm.length d8)) rfl rfl (by kernel_rfl) (by kernel_rfl) (by kernel_rfl) (by kernel_rfl) rfl (fun _ _ _ h => h) (fun w' hw' => by go_simp) KW.out.shp ?_
          simp only [Act.put, List.setIfInBounds_toArray, List.set_cons_zero, List.set_cons_succ]
          refine early_take (i := 13) 56 (.int .i64 (E2 : Int)) rfl rfl (by kernel_rfl) (by kernel_rfl) (by kernel_rfl) (by kernel_rfl) rfl (fun _ _ _ h => h) (fun w' hw' => by go_simp) KW.out.shp ?_
          simp only [Act.put, List.setIfInBounds_toArray, List.set_cons_zero, List.set_cons_succ]
          refine early_only (i := 15) (by kernel_rfl) rfl (fun K hK => ?_)
          simp only [opWp, List.getElem?_toArray, List.getElem?_cons_succ, List.getElem?_cons_zero]
          refine wp_store_part 37 (.tmp 16) (.tmp 55) rfl P0 0 37 zcs (ics tq ts ti A8 tg.length c8 B8 tm.length d8) rfl rfl BX.out size37 (by simp) (ics_one _ _ _ _ _ _ _ _ _) ?_
          intro wj hat hb
          have BE := Lib.hid (show Below w.heap.size w wj from KW.out.bel.trans (hb.below (fun x e => by have := PB.out; omega) KW.out.bel.size))
          have KW := Lib.hid (KW.out.shp.but hb NS.out)
          clear hat hb
          refine hK _ _ (fun _ => KW.out) ?_
          clear hK
          refine early_take (i := 16) 17 (.int .i64 (E2 : Int)) rfl rfl (by kernel_rfl) (by kernel_rfl) (by kernel_rfl) (by kernel_rfl) rfl (fun _ _ _ h => h) (fun w' hw' => by go_simp) KW.out ?_
          simp only [Act.put, List.setIfInBounds_toArray, List.set_cons_zero, List.set_cons_succ]
          refine early_done (by kernel_rfl) ?_
          go_wp2_with fail
          go_meet
          have e2 : Value.int IntKind.i64 (E2 : Int) = .int .i64 (if k = 0 then 0 else 4) := by
            rcases R2.out with ⟨h1, h2⟩ | ⟨h1, h2⟩
            · rw [if_pos h1, h2]; rfl
            · rw [if_neg h1, h2]; rfl
          exact ⟨e2, BE.out⟩
      · simp only [opWp, List.getElem?_toArray, List.getElem?_cons_succ, List.getElem?_cons_zero]
        go_simp
        have BX := Lib.hid (At.new (w := wg) (g := wg.heap.size) zcs 37 rfl)
        have HB := BB1 wg (.cells zcs 37)
        have PB := Lib.hid (show w.heap.size ≤ wg.heap.size from KW.out.bel.size)
        have NS := Lib.hid (show ¬ S = wg.heap.size from by have := KW.out.shp.lt; omega)
        have NB := Lib.hid (show ¬ v5.ownBlock = some wg.heap.size from fun e => by have := (OV.out.lt _ e).2; omega)
        have OV := Lib.hid (own_below OV.out HB)
        have LN := Lib.hid (LN.out.below HB)
        have KW := Lib.hid (KW.out.up HB)
        clear HB
        refine hK _ _ (fun _ => KW.out.shp) ?_
        clear hK
        generalize wg.alloc (.cells zcs 37) = wp at *
        generalize wg.heap.size = P0 at *
        refine early_only (i := 9) (by kernel_rfl) rfl (fun K hK => ?_)
        simp only [opWp, List.getElem?_toArray, List.getElem?_cons_succ, List.getElem?_cons_zero]
        refine wp_append_ln (.tmp 49) (.tmp 52) rfl w.heap.size v5 (np - k) (P.drop k) rfl OV.out ⟨bb, off, none⟩ k c3 (P.take k) rfl (by rw [List.length_take, LL.out]; omega) (by have := (LN.out.row.take k (by omega)).cells; rw [← List.map_take] at this; exact this) (by omega) KW.out.bel.size ?_
        intro A6 c6 wh hown hg6 hf6
        have bt := (But.refl (fun j => v5.ownBlock = some j) _).grown hg6 (fun j hj _ => hj)
        have NN := Lib.hid (show np - k + k = np by omega)
        rw [NN.out] at hown ⊢
        have L6 := Lib.hid (show Lns wh A6 np (P.drop k ++ P.take k) from by
          obtain ⟨A7, c7, e7, h71, h72, hrow, _⟩ := Row.of_own hown
          injection e7 with e7 _ _
          subst e7
          refine ⟨hrow, fun x hx => ?_, fun x hx => ?_⟩
          · have hx' : x ∈ P := by rcases List.mem_append.1 hx with h | h; exact List.mem_of_mem_drop h; exact List.mem_of_mem_take h
            refine ⟨(LN.out.has x hx').1, fun h0 => ?_⟩
            refine (((LN.out.has x hx').but bt (fun a ha e => ?_)).2 h0)
            rcases (LO.out _ e).2 x hx' a ha with h | h
            · omega
            · exact h rfl
          · have hx' : x ∈ P := by rcases List.mem_append.1 hx with h | h; exact List.mem_of_mem_drop h; exact List.mem_of_mem_take h
            exact LN.out.cap x hx')
        have KW := Lib.hid (show Lw w wh S #[.int .i64 (m : Int), .int .i64 (b : Int), .int .i64 (n2 : Int), .int .i64 (s : Int), .int .i64 (n : Int), .int .i64 (m2 : Int)] from ⟨KW.out.shp.but bt (fun e => (LO.out _ e).1 rfl), KW.out.lt, KW.out.bel.trans (bt.below (fun j e => (OV.out.lt j e).1) KW.out.bel.size)⟩)
        have BX := Lib.hid (BX.out.but bt (fun e => NB.out e))
        clear hown hg6 hf6 bt
        refine hK _ _ (fun _ => KW.out.shp) ?_
        clear hK
        simp only [Act.put, List.setIfInBounds_toArray, List.set_cons_zero, List.set_cons_succ]
        refine early_only (i := 10) (by kernel_rfl) rfl (fun K hK => ?_)
        simp only [opWp, List.getElem?_toArray, List.getElem?_cons_succ, List.getElem?_cons_zero]
        go_simp
        go_at_call 13
        refine (decode_any m b n2 s n m2 gen A6 np c6 (P.drop k ++ P.take k) _ OK.out (by omega) L6.out).mono ?_
        rintro e wi ⟨r, hD, A8, c8, B8, d8, rfl, hI8, HB⟩
        rw [← NE.out, drop_byts, BY.out] at hD
        have R2 := Lib.hid (show (k = 0 ∧ r.2 = 0) ∨ (¬ k = 0 ∧ r.2 = 4) from by
          by_cases e : k = 0
          · subst e
            rw [List.drop_zero, List.take_zero, List.append_nil] at hD
            exact .inl ⟨rfl, by rw [hD.one DS.out]⟩
          · exact .inr ⟨e, by rw [rot_dec (by omega) PL.out (by omega) hgen rfl hklt e hD]⟩)
        have KW := Lib.hid (KW.out.up HB)
        have BX := Lib.hid (BX.out.below HB BX.out.lt)
        clear HB hD hI8 L6
        obtain ⟨⟨tq, ts, ti, tg, tm⟩, E2⟩ := r
        simp only at R2
        simp only
        refine hK _ _ (fun _ => KW.out.shp) ?_
        clear hK
        refine early_take (i := 11) 43 (.tuple #[.agg (ics tq ts ti A8 tg.length c8 B8 tm.length d8), .int .i64 (E2 : Int)]) rfl rfl (by kernel_rfl) (by kernel_rfl) (by kernel_rfl) (by kernel_rfl) rfl (fun _ _ _ h => h) (fun w' hw' => by go_simp) KW.out.shp ?_
        simp only [Act.put, List.setIfInBounds_toArray, List.set_cons_zero, List.set_cons_succ]
        refine early_take (i := 12) 55 (.agg (ics tq ts ti A8 tg.length c8 B8 tm.length d8)) rfl rfl (by kernel_rfl) (by kernel_rfl) (by kernel_rfl) (by kernel_rfl) rfl (fun _ _ _ h => h) (fun w' hw' => by go_simp) KW.out.shp ?_
        simp only [Act.put, List.setIfInBounds_toArray, List.set_cons_zero, List.set_cons_succ]
        refine early_take (i := 13) 56 (.int .i64 (E2 : Int)) rfl rfl (by kernel_rfl) (by kernel_rfl) (by kernel_rfl) (by kernel_rfl) rfl (fun _ _ _ h => h) (fun w' hw' => by go_simp) KW.out.shp ?_
        simp only [Act.put, List.setIfInBounds_toArray, List.set_cons_zero, List.set_cons_succ]
        refine early_only (i := 15) (by kernel_rfl) rfl (fun K hK => ?_)
        simp only [opWp, List.getElem?_toArray, List.getElem?_cons_succ, List.getElem?_cons_zero]
        refine wp_store_part 37 (.tmp 16) (.tmp 55) rfl P0 0 37 zcs (ics tq ts ti A8 tg.length c8 B8 tm.length d8) rfl rfl BX.out size37 (by simp) (ics_one _ _ _ _ _ _ _ _ _) ?_
        intro wj hat hb
        have BE := Lib.hid (show Below w.heap.size w wj from KW.out.bel.trans (hb.below (fun x e => by have := PB.out; omega) KW.out.bel.size))
        have KW := Lib.hid (KW.out.shp.but hb NS.out)
        clear hat hb
        refine hK _ _ (fun _ => KW.out) ?_
        clear hK
        refine early_take (i := 16) 17 (.int .i64 (E2 : Int)) rfl rfl (by kernel_rfl) (by kernel_rfl) (by kernel_rfl) (by kernel_rfl) rfl (fun _ _ _ h => h) (fun w' hw' => by go_simp) KW.out ?_
        simp only [Act.put, List.setIfInBounds_toArray, List.set_cons_zero, List.set_cons_succ]
        refine early_done (by kernel_rfl) ?_
        go_wp2_with fail
        go_meet
        have e2 : Value.int IntKind.i64 (E2 : Int) = .int .i64 (if k = 0 then 0 else 4) := by
          rcases R2.out with ⟨h1, h2⟩ | ⟨h1, h2⟩
          · rw [if_pos h1, h2]; rfl
          · rw [if_neg h1, h2]; rfl
        exact ⟨e2, BE.out⟩
    · simp only [opWp, List.getElem?_toArray, List.getElem?_cons_succ, List.getElem?_cons_zero]
      go_simp
      have BX := Lib.hid (At.new (w := wf) (g := wf.heap.size) zcs 37 rfl)
      have HB := BB1 wf (.cells zcs 37)
      have PB := Lib.hid (show w.heap.size ≤ wf.heap.size from KW.out.bel.size)
      have NS := Lib.hid (show ¬ S = wf.heap.size from by have := KW.out.shp.lt; omega)
      have LN := Lib.hid (LN.out.below HB)
      have KW := Lib.hid (KW.out.up HB)
      clear HB
      refine hK _ _ (fun _ => KW.out.shp) ?_
      clear hK
      generalize wf.alloc (.cells zcs 37) = wp at *
      generalize wf.heap.size = P0 at *
      refine early_only (i := 5) (by kernel_rfl) rfl (fun K hK => ?_)
      simp only [opWp, List.getElem?_toArray, List.getElem?_cons_succ, List.getElem?_cons_zero]
      go_simp
      go_at_call 18
      refine (cloneL_any ⟨bb, off + k, none⟩ (np - k) (c3 - k) (P.drop k) _ (by omega) (by have := LN.out.row.drop k (by omega); rw [List.map_drop]; exact this)).mono ?_
      rintro e wg ⟨v5, rfl, hown, HB⟩
      have OV := Lib.hid (show wg.ownsRow w.heap.size 42 1 v5 (np - k) ((P.drop k).map Sl.v) from own_base hown (fun j hj => Nat.le_trans KW.out.bel.size (hown.lt j hj).1))
      have LO := Lib.hid (show ∀ j, v5.ownBlock = some j → ¬ j = S ∧ ∀ x ∈ P, ∀ a, x.A = some a → x.n = 0 ∨ ¬ a.block = j from fun j hj => ⟨by have := (hown.lt j hj).1; have := KW.out.shp.lt; omega, fun x hx a ha => by
        by_cases h0 : x.n = 0
        · exact .inl h0
        · refine .inr ?_
          obtain ⟨b', o', e1, hlt, _⟩ := (LN.out.has x hx).2 (by omega)
          rw [ha] at e1; injection e1 with e1; subst e1
          have := (hown.lt j hj).1
          show ¬ b' = j
          omega⟩)
      have KW := Lib.hid (KW.out.up HB)
      have LN := Lib.hid (LN.out.below HB)
      have NB := Lib.hid (show ¬ v5.ownBlock = some P0 from fun e => by have := (hown.lt _ e).1; have := BX.out.lt; omega)
      have BX := Lib.hid (BX.out.below HB BX.out.lt)
      clear HB hown
      refine hK _ _ (fun _ => KW.out.shp) ?_
      clear hK
      refine early_only (i := 9) (by kernel_rfl) rfl (fun K hK => ?_)
      simp only [opWp, List.getElem?_toArray, List.getElem?_cons_succ, List.getElem?_cons_zero]
      refine wp_append_ln (.tmp 49) (.tmp 52) rfl w.heap.size v5 (np - k) (P.drop k) rfl OV.out ⟨bb, off, none⟩ k c3 (P.take k) rfl (by rw [List.length_take, LL.out]; omega) (by have := (LN.out.row.take k (by omega)).cells; rw [← List.map_take] at this; exact this) (by omega) KW.out.bel.size ?_
      intro A6 c6 wh hown hg6 hf6
      have bt := (But.refl (fun j => v5.ownBlock = some j) _).grown hg6 (fun j hj _ => hj)
      have NN := Lib.hid (show np - k + k = np by omega)
      rw [NN.out] at hown ⊢
      have L6 := Lib.hid (show Lns wh A6 np (P.drop k ++ P.take k) from by
        obtain ⟨A7, c7, e7, h71, h72, hrow, _⟩ := Row.of_own hown
        injection e7 with e7 _ _
        subst e7
        refine ⟨hrow, fun x hx => ?_, fun x hx => ?_⟩
        · have hx' : x ∈ P := by rcases List.mem_append.1 hx with h | h; exact List.mem_of_mem_drop h; exact List.mem_of_mem_take h
          refine ⟨(LN.out.has x hx').1, fun h0 => ?_⟩
          refine (((LN.out.has x hx').but bt (fun a ha e => ?_)).2 h0)
          rcases (LO.out _ e).2 x hx' a ha with h | h
          · omega
          · exact h rfl
        · have hx' : x ∈ P := by rcases List.mem_append.1 hx with h | h; exact List.mem_of_mem_drop h; exact List.mem_of_mem_take h
          exact LN.out.cap x hx')
      have KW := Lib.hid (show Lw w wh S #[.int .i64 (m : Int), .int .i64 (b : Int), .int .i64 (n2 : Int), .int .i64 (s : Int), .int .i64 (n : Int), .int .i64 (m2 : Int)] from ⟨KW.out.shp.but bt (fun e => (LO.out _ e).1 rfl), KW.out.lt, KW.out.bel.trans (bt.below (fun j e => (OV.out.lt j e).1) KW.out.bel.size)⟩)
      have BX := Lib.hid (BX.out.but bt (fun e => NB.out e))
      clear hown hg6 hf6 bt
      refine hK _ _ (fun _ => KW.out.shp) ?_
      clear hK
      simp only [Act.put, List.setIfInBounds_toArray, List.set_cons_zero, List.set_cons_succ]
      refine early_only (i := 10) (by kernel_rfl) rfl (fun K hK => ?_)
      simp only [opWp, List.getElem?_toArray, List.getElem?_cons_succ, List.getElem?_cons_zero]
      go_simp
      go_at_call 13
      refine (decode_any m b n2 s n m2 gen A6 np c6 (P.drop k ++ P.take k) _ OK.out (by omega) L6.out).mono ?_
      rintro e wi ⟨r, hD, A8, c8, B8, d8, rfl, hI8, HB⟩
      rw [← NE.out, drop_byts, BY.out] at hD
      have R2 := Lib.hid (show (k = 0 ∧ r.2 = 0) ∨ (¬ k = 0 ∧ r.2 = 4) from by
        by_cases e : k = 0
        · subst e
          rw [List.drop_zero, List.take_zero, List.append_nil] at hD
          exact .inl ⟨rfl, by rw [hD.one DS.out]⟩
        · exact .inr ⟨e, by rw [rot_dec (by omega) PL.out (by omega) hgen rfl hklt e hD]⟩)
      have KW := Lib.hid (KW.out.up HB)
      have BX := Lib.hid (BX.out.below HB BX.out.lt)
      clear HB hD hI8 L6
      obtain ⟨⟨tq, ts, ti, tg, tm⟩, E2⟩ := r
      simp only at R2
      simp only
      refine hK _ _ (fun _ => KW.out.shp) ?_
      clear hK
      refine early_take (i := 11) 43 (.tuple #[.agg (ics tq ts ti A8 tg.length c8 B8 tm.length d8), .int .i64 (E2 : Int)]) rfl rfl (by kernel_rfl) (by kernel_rfl) (by kernel_rfl) (by kernel_rfl) rfl (fun _ _ _ h => h) (fun w' hw' => by go_simp) KW.out.shp ?_
      simp only [Act.put, List.setIfInBounds_toArray, List.set_cons_zero, List.set_cons_succ]
      refine early_take (i := 12) 55 (.agg (ics tq ts ti A8 tg.length c8 B8 tm.length d8)) rfl rfl (by kernel_rfl) (by kernel_rfl) (by kernel_rfl) (by kernel_rfl) rfl (fun _ _ _ h => h) (fun w' hw' => by go_simp) KW.out.shp ?_
      simp only [Act.put, List.setIfInBounds_toArray, List.set_cons_zero, List.set_cons_succ]
      refine early_take (i := 13) 56 (.int .i64 (E2 : Int)) rfl rfl (by kernel_rfl) (by kernel_rfl) (by kernel_rfl) (by kernel_rfl) rfl (fun _ _ _ h => h) (fun w' hw' => by go_simp) KW.out.shp ?_
      simp only [Act.put, List.setIfInBounds_toArray, List.set_cons_zero, List.set_cons_succ]
      refine early_only (i := 15) (by kernel_rfl) rfl (fun K hK => ?_)
      simp only [opWp, List.getElem?_toArray, List.getElem?_cons_succ, List.getElem?_cons_zero]
      refine wp_store_part 37 (.tmp 16) (.tmp 55) rfl P0 0 37 zcs (ics tq ts ti A8 tg.length c8 B8 tm.length d8) rfl rfl BX.out size37 (by simp) (ics_one _ _ _ _ _ _ _ _ _) ?_
      intro wj hat hb
      have BE := Lib.hid (show Below w.heap.size w wj from KW.out.bel.trans (hb.below (fun x e => by have := PB.out; omega) KW.out.bel.size))
      have KW := Lib.hid (KW.out.shp.but hb NS.out)
      clear hat hb
      refine hK _ _ (fun _ => KW.out) ?_
      clear hK
      refine early_take (i := 16) 17 (.int .i64 (E2 : Int)) rfl rfl (by kernel_rfl) (by kernel_rfl) (by kernel_rfl) (by kernel_rfl) rfl (fun _ _ _ h => h) (fun w' hw' => by go_simp) KW.out ?_
      simp only [Act.put, List.setIfInBounds_toArray, List.set_cons_zero, List.set_cons_succ]
      refine early_done (by kernel_rfl) ?_
      go_wp2_with fail
      go_meet
      have e2 : Value.int IntKind.i64 (E2 : Int) = .int .i64 (if k = 0 then 0 else 4) := by
        rcases R2.out with ⟨h1, h2⟩ | ⟨h1, h2⟩
        · rw [if_pos h1, h2]; rfl
        · rw [if_neg h1, h2]; rfl
      exact ⟨e2, BE.out⟩
  case rest =>
    obtain ⟨rfl, hB⟩ := hcut
    have BE := Lib.hid hB
    clear hB
    rcases R1.out with ⟨h1, h2⟩ | ⟨h1, h2⟩
    · subst h1 h2
      by_cases hk0 : k = 0
      · subst hk0
        rw [if_pos rfl]
        go_wp2
        go_ret
        exact ⟨rfl, BE.out⟩
      · rw [if_neg hk0]
        have q1 : ((k : Int) == 0) = false := by simp; omega
        go_wp2
        go_ret
        exact ⟨rfl, BE.out⟩
    · subst h2
      have q0 : ((gen : Int) == (other : Int)) = false := by simp; omega
      by_cases hk0 : k = 0
      · subst hk0
        rw [if_pos rfl]
        go_wp2
        go_ret
        exact ⟨rfl, BE.out⟩
      · rw [if_neg hk0]
        have q1 : ((k : Int) == 0) = false := by simp; omega
        go_wp2
        go_ret
        exact ⟨rfl, BE.out⟩

theorem gens_in (x0 x1 x2 x3 x4 x5 : Int) (y0 : Byte x0) (y1 : Byte x1) (y2 : Byte x2) (y3 : Byte x3) (y4 : Byte x4) (y5 : Byte x5) (q : Nat) (z : Int) (ix : Nat) (A : Option Addr) (na ca : Nat) (B : Option Addr) (nb cb : Nat) (L : List Sg) (M : List Nat) (gen other tn : Int) (w : World)
    (hq : q < 18446744073709551616) (hz : -128 ≤ z ∧ z ≤ 127) (hix : ix < 256) (hL : Cls w A na L) (hM : Row w B nb (shrt M)) (hMl : ∀ p ∈ M, p < 65536) (hgen : 0 ≤ gen ∧ gen ≤ 18446744073709551615) (hoth : 0 ≤ other ∧ other ≤ 18446744073709551615) (htn : 0 ≤ tn ∧ tn ≤ 255) :
    Calls Try.prog 6 #[sm x0 x1 x2 x3 x4 x5, .agg #[.int .u64 (q : Int), .int .i8 z, .int .u8 (ix : Int), .slice A na ca, .slice B nb cb], .int .u64 gen, .int .u64 other, .int .u8 tn] w fun e w' => e = .returned (.bool true) ∧ Below w.heap.size w w' := by
  obtain ⟨m, b, g, s, n, l, ok, fw, sh⟩ := full_nat x0 x1 x2 x3 x4 x5 y0 y1 y2 y3 y4 y5
  obtain ⟨gen, rfl⟩ := Int.eq_ofNat_of_zero_le hgen.1
  obtain ⟨other, rfl⟩ := Int.eq_ofNat_of_zero_le hoth.1
  obtain ⟨tn, rfl⟩ := Int.eq_ofNat_of_zero_le htn.1
  exact gens_walk x0 x1 x2 x3 x4 x5 m b g s n l ok fw sh q z ix A na ca B nb cb L M gen other tn w hq hz hix hL hM hMl (by omega) (by omega) (by omega)
end Go.Proofs.Ytlmponcoghfghaa
