/-
  THE EXAMPLE THAT EVERY LAW ASKS FIRST: an image is found again.
-/
import Derived.Test.YtlmponcoghfghaaSame
import Derived.Deep.CutRange
import Derived.Deep.CutBlock
import Derived.Deep.DeepCutAuto
namespace Go.Proofs.Ytlmponcoghfghaa
open Go.RowKit
set_option linter.unusedVariables false
set_option maxRecDepth 100000


theorem ok_first : OkN 3 32 4 2 1 1 := by unfold OkN Ok Three Blk Nvs Lgs; omega
theorem shaped_first : Shaped (sm 0 0 0 0 0 0) 3 32 4 2 1 1 := fun w =>
  shape_any 0 0 0 0 0 0 (by omega) (by omega) (by omega) (by omega) (by omega) (by omega) 3 4 2 32 2 1 (by decide) (by decide) (by decide) (Lib.hid (by decide)) (by omega) (by omega) (by omega) (by omega) (by decide) (by omega) (by omega) (by decide) (by omega) (by omega) (by decide) (by decide) w
def xI : Im := mkI 7 0 0 [] [4] 3 4 2 1
theorem xI_q : xI.q = 7 := rfl
theorem xI_mp : xI.mp = [4] := by decide
theorem xI_fits : xI.fits := mkI_fits ok_first.bnd (by decide) (fun x hx => by cases hx)
theorem xI_fine : xI.fine 3 4 2 := mkI_fine (by decide) (by decide)
theorem xI_dec (r : Im × Nat) (h : Dec 3 32 4 2 1 (npg 32 4 1) 3 (sheets (pad xI.body (npg 32 4 1 * (32 - 15))) 3 (32 - 15) (npg 32 4 1)) r) : r = (xI, 0) :=
  h.one (dec_sheets (by decide) (by decide) (by decide) xI_fits xI_fine (mkGs_len _ _) (mkPs_len _ _ _) (by decide))
/-- The shape's box at S, which is not below B0. -/
structure Awk (w0 w : World) (S : Nat) : Prop where
  shp : At w S #[.int .i64 3, .int .i64 32, .int .i64 4, .int .i64 2, .int .i64 1, .int .i64 1] 32
  lt : w0.heap.size ≤ S
  bel : Below w0.heap.size w0 w
theorem Awk.up {w0 w w' : World} {S : Nat} (h : Awk w0 w S) (hb : Below w.heap.size w w') : Awk w0 w' S := ⟨h.shp.below hb h.shp.lt, h.lt, h.bel.trans (hb.mono h.bel.size)⟩
/-- And the image that was found again. -/
structure Awx (w0 w : World) (P : Nat) (A : Option Addr) (n c : Nat) (B : Option Addr) (d : Nat) : Prop where
  box : At w P (ics xI.q xI.s xI.i A n c B 1 d) 37
  mp : Row w B 1 (ints [4])
  bel : Below w0.heap.size w0 w
theorem zcs_no {off : Nat} (h : zcs[off]? = some (.int .i64 3)) : False := by
  match off, h with
  | 0, h => simp at h
  | 1, h => simp at h
  | 2, h => simp at h
  | 3, h => simp at h
  | 4, h => simp at h
  | k + 5, h => simp at h
theorem row_notin {w : World} {B : Option Addr} {P : Nat} (h : Row w B 1 (ints [4])) (hP : At w P zcs 37) : ∀ x, B = some x → ¬ x.block = P := by
  rintro x rfl e
  obtain ⟨b, off, e1⟩ := h.some_ (by omega)
  injection e1 with e1
  subst e1
  have h1 := h.cell 0 (by omega)
  have e2 : b = P := e
  subst e2
  rw [Nat.add_zero, hP.cell] at h1
  exact zcs_no h1
set_option maxHeartbeats 2000000 in
theorem awake_any (w : World) : Calls Try.prog 7 #[] w fun e w' => e = .returned (.bool true) ∧ Below w.heap.size w w' := by
  have BN := Lib.hid ok_first.bnd
  go_enter Try.func7, Try.ntmps7
  go_wp2_with fail
  refine (shaped_first w).mono ?_
  rintro e w1 ⟨rfl, hb1⟩
  have K := Lib.hid (show Awk w (w1.alloc (.cells #[.int .i64 3, .int .i64 32, .int .i64 4, .int .i64 2, .int .i64 1, .int .i64 1] 32)) w1.heap.size from ⟨At.new _ _ rfl, hb1.size, hb1.alloc hb1.size _⟩)
  clear hb1
  unfold sv
  go_upto_region 2 with (fail)
  go_cut [2, 3] (fun s2 s3 wc => ∃ (P : Nat) (A : Option Addr) (n c : Nat) (B : Option Addr) (d : Nat), s2 = .pointer (some ⟨P, 0, none⟩) ∧ s3 = .int .i64 0 ∧ Awx w wc P A n c B d)
  case first =>
    refine wp_region_early (fun w' : World => At w' w1.heap.size #[.int .i64 3, .int .i64 32, .int .i64 4, .int .i64 2, .int .i64 1, .int .i64 1] 32) (fun _ => true) (by kernel_rfl) ?_
    change wpEarly _ _ _ _ _ _ 14 (Array.replicate 14 false) _ (w1.alloc (.cells #[.int .i64 3, .int .i64 32, .int .i64 4, .int .i64 2, .int .i64 1, .int .i64 1] 32)).drew
    have K := Lib.hid (K.out.up (below_drew (Below.refl _ _)))
    generalize (w1.alloc (.cells #[.int .i64 3, .int .i64 32, .int .i64 4, .int .i64 2, .int .i64 1, .int .i64 1] 32)).drew = wa at *
    generalize w1.heap.size = S at *
    refine early_take (i := 0) 7 (.agg #[.int .i64 3, .int .i64 32, .int .i64 4, .int .i64 2, .int .i64 1, .int .i64 1]) rfl rfl (by kernel_rfl) (by kernel_rfl) (by kernel_rfl) (by kernel_rfl) rfl (fun _ _ _ h => h) (fun w' hw' => exec_load_whole rfl rfl hw' Try.underlying32 info32) K.out.shp ?_
    simp only [Act.put, List.setIfInBounds_toArray, List.set_cons_zero, List.set_cons_succ]
    refine early_take (i := 1) 8 (.agg #[.int .i64 3, .int .i64 32, .int .i64 4, .int .i64 2, .int .i64 1, .int .i64 1]) rfl rfl (by kernel_rfl) (by kernel_rfl) (by kernel_rfl) (by kernel_rfl) rfl (fun _ _ _ h => h) (fun w' hw' => exec_load_whole rfl rfl hw' Try.underlying32 info32) K.out.shp ?_
    simp only [Act.put, List.setIfInBounds_toArray, List.set_cons_zero, List.set_cons_succ]
    refine early_take (i := 2) 9 (.agg #[.int .i64 3, .int .i64 32, .int .i64 4, .int .i64 2, .int .i64 1, .int .i64 1]) rfl rfl (by kernel_rfl) (by kernel_rfl) (by kernel_rfl) (by kernel_rfl) rfl (fun _ _ _ h => h) (fun w' hw' => exec_load_whole rfl rfl hw' Try.underlying32 info32) K.out.shp ?_
    simp only [Act.put, List.setIfInBounds_toArray, List.set_cons_zero, List.set_cons_succ]
    refine early_two (i := 3) (j := 11) (by kernel_rfl) ⟨rfl, fun K9 hK => ?_⟩ ⟨rfl, fun K9 hK => ?_⟩
    · simp only [opWp, List.getElem?_toArray, List.getElem?_cons_succ, List.getElem?_cons_zero]
      go_simp
      have MS := Lib.hid (At.new (w := wa) (g := wa.heap.size) #[.int .u16 4] 56 rfl)
      have HB := BB1 wa (.cells #[.int .u16 4] 56)
      have K := Lib.hid (K.out.up HB)
      clear HB
      refine hK _ _ (fun _ => K.out.shp) ?_
      clear hK
      generalize wa.alloc (.cells #[.int .u16 4] 56) = wax at *
      generalize wa.heap.size = ms at *
      refine early_take (i := 4) 11 (.agg #[.int .u64 7, .int .i8 0, .int .u8 0, .slice none 0 0, .slice (some ⟨ms, 0, none⟩) 1 1]) rfl rfl (by kernel_rfl) (by kernel_rfl) (by kernel_rfl) (by kernel_rfl) rfl (fun _ _ _ h => h) (fun w' hw' => by go_simp) K.out.shp ?_
      simp only [Act.put, List.setIfInBounds_toArray, List.set_cons_zero, List.set_cons_succ]
      refine early_two (i := 5) (j := 11) (by kernel_rfl) ⟨rfl, fun K9 hK => ?_⟩ ⟨rfl, fun K9 hK => ?_⟩
      · simp only [opWp, List.getElem?_toArray, List.getElem?_cons_succ, List.getElem?_cons_zero]
        go_simp
        go_at_call 9
        refine (make_any 3 32 4 2 1 1 BN.out 7 0 0 none 0 0 (some ⟨ms, 0, none⟩) 1 1 [] [4] wax (by omega) (by omega) ⟨rfl, fun h => absurd h (by omega), fun x hx => (by cases hx)⟩ (Row.of_at MS.out rfl rfl) (fun p hp => by simp at hp; omega)).mono ?_
        rintro e waxx ⟨A2, n2, c2, B2, m2, d2, rfl, hI, HB⟩
        have IM := Lib.hid (show Img waxx A2 4 B2 1 xI by have e1 := hI.lg; have e2 := hI.lm; rw [show (mkI 7 0 0 [] [4] 3 4 2 1).gs.length = 4 from mkGs_len _ _] at e1; rw [show (mkI 7 0 0 [] [4] 3 4 2 1).mp.length = 1 from mkPs_len _ _ _] at e2; subst e1 e2; exact hI)
        obtain rfl : n2 = 4 := by have e1 := hI.lg; rw [show (mkI 7 0 0 [] [4] 3 4 2 1).gs.length = 4 from mkGs_len _ _] at e1; exact e1.symm
        obtain rfl : m2 = 1 := by have e2 := hI.lm; rw [show (mkI 7 0 0 [] [4] 3 4 2 1).mp.length = 1 from mkPs_len _ _ _] at e2; exact e2.symm
        have K := Lib.hid (K.out.up HB)
        clear HB hI MS
        refine hK _ _ (fun _ => K.out.shp) ?_
        clear hK
        refine early_two (i := 6) (j := 11) (by kernel_rfl) ⟨rfl, fun K9 hK => ?_⟩ ⟨rfl, fun K9 hK => ?_⟩
        · simp only [opWp, List.getElem?_toArray, List.getElem?_cons_succ, List.getElem?_cons_zero]
          go_simp
          go_at_call 10
          refine (encode_any 3 32 4 2 1 1 3 xI.q xI.s xI.i A2 c2 B2 d2 xI.gs xI.mp waxx ok_first (by decide) xI_fits IM.out).mono ?_
          rintro e waxxx ⟨A3, c3, L3, rfl, _, _, hL, hby, _, HB⟩
          have LN := Lib.hid hL
          have BY := Lib.hid (show byts L3 = sheets (pad xI.body (npg 32 4 1 * (32 - 15))) 3 (32 - 15) (npg 32 4 1) from hby)
          have K := Lib.hid (K.out.up HB)
          clear HB hL hby IM
          refine hK _ _ (fun _ => K.out.shp) ?_
          clear hK
          refine early_two (i := 7) (j := 11) (by kernel_rfl) ⟨rfl, fun K9 hK => ?_⟩ ⟨rfl, fun K9 hK => ?_⟩
          · simp only [opWp, List.getElem?_toArray, List.getElem?_cons_succ, List.getElem?_cons_zero]
            go_simp
            go_at_call 13
            refine (decode_any 3 32 4 2 1 1 3 A3 (npg 32 4 1) c3 L3 waxxx ok_first (by decide) LN.out).mono ?_
            rintro e waxxxx ⟨r, hD, hA⟩
            rw [BY.out] at hD
            obtain rfl := xI_dec r hD
            obtain ⟨A4, c4, B4, d4, rfl, hI4, HB⟩ := hA
            have M4 := Lib.hid (show Row waxxxx B4 1 (ints [4]) from xI_mp ▸ hI4.mp)
            have K := Lib.hid (K.out.up HB)
            clear HB hD hI4 LN BY
            refine hK _ _ (fun _ => K.out.shp) ?_
            clear hK
            refine early_take (i := 8) 6 (.tuple #[.agg (ics xI.q xI.s xI.i A4 xI.gs.length c4 B4 xI.mp.length d4), .int .i64 0]) rfl rfl (by kernel_rfl) (by kernel_rfl) (by kernel_rfl) (by kernel_rfl) rfl (fun _ _ _ h => h) (fun w' hw' => by go_simp) K.out.shp ?_
            simp only [Act.put, List.setIfInBounds_toArray, List.set_cons_zero, List.set_cons_succ]
            refine early_take (i := 9) 15 (.agg (ics xI.q xI.s xI.i A4 xI.gs.length c4 B4 xI.mp.length d4)) rfl rfl (by kernel_rfl) (by kernel_rfl) (by kernel_rfl) (by kernel_rfl) rfl (fun _ _ _ h => h) (fun w' hw' => by go_simp) K.out.shp ?_
            simp only [Act.put, List.setIfInBounds_toArray, List.set_cons_zero, List.set_cons_succ]
            refine early_take (i := 10) 16 (.int .i64 0) rfl rfl (by kernel_rfl) (by kernel_rfl) (by kernel_rfl) (by kernel_rfl) rfl (fun _ _ _ h => h) (fun w' hw' => by go_simp) K.out.shp ?_
            simp only [Act.put, List.setIfInBounds_toArray, List.set_cons_zero, List.set_cons_succ]
            refine early_only (i := 11) (by kernel_rfl) rfl (fun K9 hK => ?_)
            simp only [opWp, List.getElem?_toArray, List.getElem?_cons_succ, List.getElem?_cons_zero]
            go_simp
            have BX := Lib.hid (At.new (w := waxxxx) (g := waxxxx.heap.size) zcs 37 rfl)
            have HB := BB1 waxxxx (.cells zcs 37)
            have PB := Lib.hid (show w.heap.size ≤ waxxxx.heap.size from K.out.bel.size)
            have NS := Lib.hid (show ¬ S = waxxxx.heap.size from by have := K.out.shp.lt; omega)
            have M4 := Lib.hid (M4.out.below HB)
            have K := Lib.hid (K.out.up HB)
            clear HB
            refine hK _ _ (fun _ => K.out.shp) ?_
            clear hK
            generalize waxxxx.alloc (.cells zcs 37) = waxxxxp at *
            generalize waxxxx.heap.size = P at *
            refine early_only (i := 12) (by kernel_rfl) rfl (fun K9 hK => ?_)
            simp only [opWp, List.getElem?_toArray, List.getElem?_cons_succ, List.getElem?_cons_zero]
            refine wp_store_part 37 (.tmp 2) (.tmp 15) rfl P 0 37 zcs (ics xI.q xI.s xI.i A4 xI.gs.length c4 B4 xI.mp.length d4) rfl rfl BX.out size37 (by simp) (ics_one _ _ _ _ _ _ _ _ _) ?_
            intro we hat hb
            have R := Lib.hid (show Awx w we P A4 xI.gs.length c4 B4 d4 from ⟨hat, M4.out.but hb (fun h0 x hx => row_notin M4.out BX.out x hx), K.out.bel.trans (hb.below (fun x e => by have := PB.out; omega) K.out.bel.size)⟩)
            have K := Lib.hid (K.out.shp.but hb NS.out)
            clear hat hb
            refine hK _ _ (fun _ => K.out) ?_
            clear hK
            refine early_take (i := 13) 3 (.int .i64 0) rfl rfl (by kernel_rfl) (by kernel_rfl) (by kernel_rfl) (by kernel_rfl) rfl (fun _ _ _ h => h) (fun w' hw' => by go_simp) K.out ?_
            simp only [Act.put, List.setIfInBounds_toArray, List.set_cons_zero, List.set_cons_succ]
            refine early_done (by kernel_rfl) ?_
            go_wp2_with fail
            go_meet
            exact ⟨P, A4, xI.gs.length, c4, B4, d4, rfl, rfl, R.out⟩
          · simp only [opWp, List.getElem?_toArray, List.getElem?_cons_succ, List.getElem?_cons_zero]
            go_simp
            have BX := Lib.hid (At.new (w := waxxx) (g := waxxx.heap.size) zcs 37 rfl)
            have HB := BB1 waxxx (.cells zcs 37)
            have PB := Lib.hid (show w.heap.size ≤ waxxx.heap.size from K.out.bel.size)
            have NS := Lib.hid (show ¬ S = waxxx.heap.size from by have := K.out.shp.lt; omega)
            have LN := Lib.hid (LN.out.below HB)
            have K := Lib.hid (K.out.up HB)
            clear HB
            refine hK _ _ (fun _ => K.out.shp) ?_
            clear hK
            generalize waxxx.alloc (.cells zcs 37) = waxxxp at *
            generalize waxxx.heap.size = P at *
            refine early_only (i := 7) (by kernel_rfl) rfl (fun K9 hK => ?_)
            simp only [opWp, List.getElem?_toArray, List.getElem?_cons_succ, List.getElem?_cons_zero]
            go_simp
            go_at_call 13
            refine (decode_any 3 32 4 2 1 1 3 A3 (npg 32 4 1) c3 L3 waxxxp ok_first (by decide) LN.out).mono ?_
            rintro e waxxxpx ⟨r, hD, hA⟩
            rw [BY.out] at hD
            obtain rfl := xI_dec r hD
            obtain ⟨A4, c4, B4, d4, rfl, hI4, HB⟩ := hA
            have M4 := Lib.hid (show Row waxxxpx B4 1 (ints [4]) from xI_mp ▸ hI4.mp)
            have K := Lib.hid (K.out.up HB)
            have BX := Lib.hid (BX.out.below HB BX.out.lt)
            clear HB hD hI4 LN BY
            refine hK _ _ (fun _ => K.out.shp) ?_
            clear hK
            refine early_take (i := 8) 6 (.tuple #[.agg (ics xI.q xI.s xI.i A4 xI.gs.length c4 B4 xI.mp.length d4), .int .i64 0]) rfl rfl (by kernel_rfl) (by kernel_rfl) (by kernel_rfl) (by kernel_rfl) rfl (fun _ _ _ h => h) (fun w' hw' => by go_simp) K.out.shp ?_
            simp only [Act.put, List.setIfInBounds_toArray, List.set_cons_zero, List.set_cons_succ]
            refine early_take (i := 9) 15 (.agg (ics xI.q xI.s xI.i A4 xI.gs.length c4 B4 xI.mp.length d4)) rfl rfl (by kernel_rfl) (by kernel_rfl) (by kernel_rfl) (by kernel_rfl) rfl (fun _ _ _ h => h) (fun w' hw' => by go_simp) K.out.shp ?_
            simp only [Act.put, List.setIfInBounds_toArray, List.set_cons_zero, List.set_cons_succ]
            refine early_take (i := 10) 16 (.int .i64 0) rfl rfl (by kernel_rfl) (by kernel_rfl) (by kernel_rfl) (by kernel_rfl) rfl (fun _ _ _ h => h) (fun w' hw' => by go_simp) K.out.shp ?_
            simp only [Act.put, List.setIfInBounds_toArray, List.set_cons_zero, List.set_cons_succ]
            refine early_only (i := 12) (by kernel_rfl) rfl (fun K9 hK => ?_)
            simp only [opWp, List.getElem?_toArray, List.getElem?_cons_succ, List.getElem?_cons_zero]
            refine wp_store_part 37 (.tmp 2) (.tmp 15) rfl P 0 37 zcs (ics xI.q xI.s xI.i A4 xI.gs.length c4 B4 xI.mp.length d4) rfl rfl BX.out size37 (by simp) (ics_one _ _ _ _ _ _ _ _ _) ?_
            intro we hat hb
            have R := Lib.hid (show Awx w we P A4 xI.gs.length c4 B4 d4 from ⟨hat, M4.out.but hb (fun h0 x hx => row_notin M4.out BX.out x hx), K.out.bel.trans (hb.below (fun x e => by have := PB.out; omega) K.out.bel.size)⟩)
            have K := Lib.hid (K.out.shp.but hb NS.out)
            clear hat hb
            refine hK _ _ (fun _ => K.out) ?_
            clear hK
            refine early_take (i := 13) 3 (.int .i64 0) rfl rfl (by kernel_rfl) (by kernel_rfl) (by kernel_rfl) (by kernel_rfl) rfl (fun _ _ _ h => h) (fun w' hw' => by go_simp) K.out ?_
            simp only [Act.put, List.setIfInBounds_toArray, List.set_cons_zero, List.set_cons_succ]
            refine early_done (by kernel_rfl) ?_
            go_wp2_with fail
            go_meet
            exact ⟨P, A4, xI.gs.length, c4, B4, d4, rfl, rfl, R.out⟩
        · simp only [opWp, List.getElem?_toArray, List.getElem?_cons_succ, List.getElem?_cons_zero]
          go_simp
          have BX := Lib.hid (At.new (w := waxx) (g := waxx.heap.size) zcs 37 rfl)
          have HB := BB1 waxx (.cells zcs 37)
          have PB := Lib.hid (show w.heap.size ≤ waxx.heap.size from K.out.bel.size)
          have NS := Lib.hid (show ¬ S = waxx.heap.size from by have := K.out.shp.lt; omega)
          have IM := Lib.hid (IM.out.below HB)
          have K := Lib.hid (K.out.up HB)
          clear HB
          refine hK _ _ (fun _ => K.out.shp) ?_
          clear hK
          generalize waxx.alloc (.cells zcs 37) = waxxp at *
          generalize waxx.heap.size = P at *
          refine early_only (i := 6) (by kernel_rfl) rfl (fun K9 hK => ?_)
          simp only [opWp, List.getElem?_toArray, List.getElem?_cons_succ, List.getElem?_cons_zero]
          go_simp
          go_at_call 10
          refine (encode_any 3 32 4 2 1 1 3 xI.q xI.s xI.i A2 c2 B2 d2 xI.gs xI.mp waxxp ok_first (by decide) xI_fits IM.out).mono ?_
          rintro e waxxpx ⟨A3, c3, L3, rfl, _, _, hL, hby, _, HB⟩
          have LN := Lib.hid hL
          have BY := Lib.hid (show byts L3 = sheets (pad xI.body (npg 32 4 1 * (32 - 15))) 3 (32 - 15) (npg 32 4 1) from hby)
          have K := Lib.hid (K.out.up HB)
          have BX := Lib.hid (BX.out.below HB BX.out.lt)
          clear HB hL hby IM
          refine hK _ _ (fun _ => K.out.shp) ?_
          clear hK
          refine early_only (i := 7) (by kernel_rfl) rfl (fun K9 hK => ?_)
          simp only [opWp, List.getElem?_toArray, List.getElem?_cons_succ, List.getElem?_cons_zero]
          go_simp
          go_at_call 13
          refine (decode_any 3 32 4 2 1 1 3 A3 (npg 32 4 1) c3 L3 waxxpx ok_first (by decide) LN.out).mono ?_
          rintro e waxxpxx ⟨r, hD, hA⟩
          rw [BY.out] at hD
          obtain rfl := xI_dec r hD
          obtain ⟨A4, c4, B4, d4, rfl, hI4, HB⟩ := hA
          have M4 := Lib.hid (show Row waxxpxx B4 1 (ints [4]) from xI_mp ▸ hI4.mp)
          have K := Lib.hid (K.out.up HB)
          have BX := Lib.hid (BX.out.below HB BX.out.lt)
          clear HB hD hI4 LN BY
          refine hK _ _ (fun _ => K.out.shp) ?_
          clear hK
          refine early_take (i := 8) 6 (.tuple #[.agg (ics xI.q xI.s xI.i A4 xI.gs.length c4 B4 xI.mp.length d4), .int .i64 0]) rfl rfl (by kernel_rfl) (by kernel_rfl) (by kernel_rfl) (by kernel_rfl) rfl (fun _ _ _ h => h) (fun w' hw' => by go_simp) K.out.shp ?_
          simp only [Act.put, List.setIfInBounds_toArray, List.set_cons_zero, List.set_cons_succ]
          refine early_take (i := 9) 15 (.agg (ics xI.q xI.s xI.i A4 xI.gs.length c4 B4 xI.mp.length d4)) rfl rfl (by kernel_rfl) (by kernel_rfl) (by kernel_rfl) (by kernel_rfl) rfl (fun _ _ _ h => h) (fun w' hw' => by go_simp) K.out.shp ?_
          simp only [Act.put, List.setIfInBounds_toArray, List.set_cons_zero, List.set_cons_succ]
          refine early_take (i := 10) 16 (.int .i64 0) rfl rfl (by kernel_rfl) (by kernel_rfl) (by kernel_rfl) (by kernel_rfl) rfl (fun _ _ _ h => h) (fun w' hw' => by go_simp) K.out.shp ?_
          simp only [Act.put, List.setIfInBounds_toArray, List.set_cons_zero, List.set_cons_succ]
          refine early_only (i := 12) (by kernel_rfl) rfl (fun K9 hK => ?_)
          simp only [opWp, List.getElem?_toArray, List.getElem?_cons_succ, List.getElem?_cons_zero]
          refine wp_store_part 37 (.tmp 2) (.tmp 15) rfl P 0 37 zcs (ics xI.q xI.s xI.i A4 xI.gs.length c4 B4 xI.mp.length d4) rfl rfl BX.out size37 (by simp) (ics_one _ _ _ _ _ _ _ _ _) ?_
          intro we hat hb
          have R := Lib.hid (show Awx w we P A4 xI.gs.length c4 B4 d4 from ⟨hat, M4.out.but hb (fun h0 x hx => row_notin M4.out BX.out x hx), K.out.bel.trans (hb.below (fun x e => by have := PB.out; omega) K.out.bel.size)⟩)
          have K := Lib.hid (K.out.shp.but hb NS.out)
          clear hat hb
          refine hK _ _ (fun _ => K.out) ?_
          clear hK
          refine early_take (i := 13) 3 (.int .i64 0) rfl rfl (by kernel_rfl) (by kernel_rfl) (by kernel_rfl) (by kernel_rfl) rfl (fun _ _ _ h => h) (fun w' hw' => by go_simp) K.out ?_
          simp only [Act.put, List.setIfInBounds_toArray, List.set_cons_zero, List.set_cons_succ]
          refine early_done (by kernel_rfl) ?_
          go_wp2_with fail
          go_meet
          exact ⟨P, A4, xI.gs.length, c4, B4, d4, rfl, rfl, R.out⟩
      · simp only [opWp, List.getElem?_toArray, List.getElem?_cons_succ, List.getElem?_cons_zero]
        go_simp
        have BX := Lib.hid (At.new (w := wax) (g := wax.heap.size) zcs 37 rfl)
        have HB := BB1 wax (.cells zcs 37)
        have PB := Lib.hid (show w.heap.size ≤ wax.heap.size from K.out.bel.size)
        have NS := Lib.hid (show ¬ S = wax.heap.size from by have := K.out.shp.lt; omega)
        have MS := Lib.hid (MS.out.below HB MS.out.lt)
        have K := Lib.hid (K.out.up HB)
        clear HB
        refine hK _ _ (fun _ => K.out.shp) ?_
        clear hK
        generalize wax.alloc (.cells zcs 37) = waxp at *
        generalize wax.heap.size = P at *
        refine early_only (i := 5) (by kernel_rfl) rfl (fun K9 hK => ?_)
        simp only [opWp, List.getElem?_toArray, List.getElem?_cons_succ, List.getElem?_cons_zero]
        go_simp
        go_at_call 9
        refine (make_any 3 32 4 2 1 1 BN.out 7 0 0 none 0 0 (some ⟨ms, 0, none⟩) 1 1 [] [4] waxp (by omega) (by omega) ⟨rfl, fun h => absurd h (by omega), fun x hx => (by cases hx)⟩ (Row.of_at MS.out rfl rfl) (fun p hp => by simp at hp; omega)).mono ?_
        rintro e waxpx ⟨A2, n2, c2, B2, m2, d2, rfl, hI, HB⟩
        have IM := Lib.hid (show Img waxpx A2 4 B2 1 xI by have e1 := hI.lg; have e2 := hI.lm; rw [show (mkI 7 0 0 [] [4] 3 4 2 1).gs.length = 4 from mkGs_len _ _] at e1; rw [show (mkI 7 0 0 [] [4] 3 4 2 1).mp.length = 1 from mkPs_len _ _ _] at e2; subst e1 e2; exact hI)
        obtain rfl : n2 = 4 := by have e1 := hI.lg; rw [show (mkI 7 0 0 [] [4] 3 4 2 1).gs.length = 4 from mkGs_len _ _] at e1; exact e1.symm
        obtain rfl : m2 = 1 := by have e2 := hI.lm; rw [show (mkI 7 0 0 [] [4] 3 4 2 1).mp.length = 1 from mkPs_len _ _ _] at e2; exact e2.symm
        have K := Lib.hid (K.out.up HB)
        have BX := Lib.hid (BX.out.below HB BX.out.lt)
        clear HB hI MS
        refine hK _ _ (fun _ => K.out.shp) ?_
        clear hK
        refine early_only (i := 6) (by kernel_rfl) rfl (fun K9 hK => ?_)
        simp only [opWp, List.getElem?_toArray, List.getElem?_cons_succ, List.getElem?_cons_zero]
        go_simp
        go_at_call 10
        refine (encode_any 3 32 4 2 1 1 3 xI.q xI.s xI.i A2 c2 B2 d2 xI.gs xI.mp waxpx ok_first (by decide) xI_fits IM.out).mono ?_
        rintro e waxpxx ⟨A3, c3, L3, rfl, _, _, hL, hby, _, HB⟩
        have LN := Lib.hid hL
        have BY := Lib.hid (show byts L3 = sheets (pad xI.body (npg 32 4 1 * (32 - 15))) 3 (32 - 15) (npg 32 4 1) from hby)
        have K := Lib.hid (K.out.up HB)
        have BX := Lib.hid (BX.out.below HB BX.out.lt)
        clear HB hL hby IM
        refine hK _ _ (fun _ => K.out.shp) ?_
        clear hK
        refine early_only (i := 7) (by kernel_rfl) rfl (fun K9 hK => ?_)
        simp only [opWp, List.getElem?_toArray, List.getElem?_cons_succ, List.getElem?_cons_zero]
        go_simp
        go_at_call 13
        refine (decode_any 3 32 4 2 1 1 3 A3 (npg 32 4 1) c3 L3 waxpxx ok_first (by decide) LN.out).mono ?_
        rintro e waxpxxx ⟨r, hD, hA⟩
        rw [BY.out] at hD
        obtain rfl := xI_dec r hD
        obtain ⟨A4, c4, B4, d4, rfl, hI4, HB⟩ := hA
        have M4 := Lib.hid (show Row waxpxxx B4 1 (ints [4]) from xI_mp ▸ hI4.mp)
        have K := Lib.hid (K.out.up HB)
        have BX := Lib.hid (BX.out.below HB BX.out.lt)
        clear HB hD hI4 LN BY
        refine hK _ _ (fun _ => K.out.shp) ?_
        clear hK
        refine early_take (i := 8) 6 (.tuple #[.agg (ics xI.q xI.s xI.i A4 xI.gs.length c4 B4 xI.mp.length d4), .int .i64 0]) rfl rfl (by kernel_rfl) (by kernel_rfl) (by kernel_rfl) (by kernel_rfl) rfl (fun _ _ _ h => h) (fun w' hw' => by go_simp) K.out.shp ?_
        simp only [Act.put, List.setIfInBounds_toArray, List.set_cons_zero, List.set_cons_succ]
        refine early_take (i := 9) 15 (.agg (ics xI.q xI.s xI.i A4 xI.gs.length c4 B4 xI.mp.length d4)) rfl rfl (by kernel_rfl) (by kernel_rfl) (by kernel_rfl) (by kernel_rfl) rfl (fun _ _ _ h => h) (fun w' hw' => by go_simp) K.out.shp ?_
        simp only [Act.put, List.setIfInBounds_toArray, List.set_cons_zero, List.set_cons_succ]
        refine early_take (i := 10) 16 (.int .i64 0) rfl rfl (by kernel_rfl) (by kernel_rfl) (by kernel_rfl) (by kernel_rfl) rfl (fun _ _ _ h => h) (fun w' hw' => by go_simp) K.out.shp ?_
        simp only [Act.put, List.setIfInBounds_toArray, List.set_cons_zero, List.set_cons_succ]
        refine early_only (i := 12) (by kernel_rfl) rfl (fun K9 hK => ?_)
        simp only [opWp, List.getElem?_toArray, List.getElem?_cons_succ, List.getElem?_cons_zero]
        refine wp_store_part 37 (.tmp 2) (.tmp 15) rfl P 0 37 zcs (ics xI.q xI.s xI.i A4 xI.gs.length c4 B4 xI.mp.length d4) rfl rfl BX.out size37 (by simp) (ics_one _ _ _ _ _ _ _ _ _) ?_
        intro we hat hb
        have R := Lib.hid (show Awx w we P A4 xI.gs.length c4 B4 d4 from ⟨hat, M4.out.but hb (fun h0 x hx => row_notin M4.out BX.out x hx), K.out.bel.trans (hb.below (fun x e => by have := PB.out; omega) K.out.bel.size)⟩)
        have K := Lib.hid (K.out.shp.but hb NS.out)
        clear hat hb
        refine hK _ _ (fun _ => K.out) ?_
        clear hK
        refine early_take (i := 13) 3 (.int .i64 0) rfl rfl (by kernel_rfl) (by kernel_rfl) (by kernel_rfl) (by kernel_rfl) rfl (fun _ _ _ h => h) (fun w' hw' => by go_simp) K.out ?_
        simp only [Act.put, List.setIfInBounds_toArray, List.set_cons_zero, List.set_cons_succ]
        refine early_done (by kernel_rfl) ?_
        go_wp2_with fail
        go_meet
        exact ⟨P, A4, xI.gs.length, c4, B4, d4, rfl, rfl, R.out⟩
    · simp only [opWp, List.getElem?_toArray, List.getElem?_cons_succ, List.getElem?_cons_zero]
      go_simp
      have BX := Lib.hid (At.new (w := wa) (g := wa.heap.size) zcs 37 rfl)
      have HB := BB1 wa (.cells zcs 37)
      have PB := Lib.hid (show w.heap.size ≤ wa.heap.size from K.out.bel.size)
      have NS := Lib.hid (show ¬ S = wa.heap.size from by have := K.out.shp.lt; omega)
      have K := Lib.hid (K.out.up HB)
      clear HB
      refine hK _ _ (fun _ => K.out.shp) ?_
      clear hK
      generalize wa.alloc (.cells zcs 37) = wap at *
      generalize wa.heap.size = P at *
      refine early_only (i := 3) (by kernel_rfl) rfl (fun K9 hK => ?_)
      simp only [opWp, List.getElem?_toArray, List.getElem?_cons_succ, List.getElem?_cons_zero]
      go_simp
      have MS := Lib.hid (At.new (w := wap) (g := wap.heap.size) #[.int .u16 4] 56 rfl)
      have HB := BB1 wap (.cells #[.int .u16 4] 56)
      have K := Lib.hid (K.out.up HB)
      have BX := Lib.hid (BX.out.below HB BX.out.lt)
      clear HB
      refine hK _ _ (fun _ => K.out.shp) ?_
      clear hK
      generalize wap.alloc (.cells #[.int .u16 4] 56) = wapx at *
      generalize wap.heap.size = ms at *
      refine early_take (i := 4) 11 (.agg #[.int .u64 7, .int .i8 0, .int .u8 0, .slice none 0 0, .slice (some ⟨ms, 0, none⟩) 1 1]) rfl rfl (by kernel_rfl) (by kernel_rfl) (by kernel_rfl) (by kernel_rfl) rfl (fun _ _ _ h => h) (fun w' hw' => by go_simp) K.out.shp ?_
      simp only [Act.put, List.setIfInBounds_toArray, List.set_cons_zero, List.set_cons_succ]
      refine early_only (i := 5) (by kernel_rfl) rfl (fun K9 hK => ?_)
      simp only [opWp, List.getElem?_toArray, List.getElem?_cons_succ, List.getElem?_cons_zero]
      go_simp
      go_at_call 9
      refine (make_any 3 32 4 2 1 1 BN.out 7 0 0 none 0 0 (some ⟨ms, 0, none⟩) 1 1 [] [4] wapx (by omega) (by omega) ⟨rfl, fun h => absurd h (by omega), fun x hx => (by cases hx)⟩ (Row.of_at MS.out rfl rfl) (fun p hp => by simp at hp; omega)).mono ?_
      rintro e wapxx ⟨A2, n2, c2, B2, m2, d2, rfl, hI, HB⟩
      have IM := Lib.hid (show Img wapxx A2 4 B2 1 xI by have e1 := hI.lg; have e2 := hI.lm; rw [show (mkI 7 0 0 [] [4] 3 4 2 1).gs.length = 4 from mkGs_len _ _] at e1; rw [show (mkI 7 0 0 [] [4] 3 4 2 1).mp.length = 1 from mkPs_len _ _ _] at e2; subst e1 e2; exact hI)
      obtain rfl : n2 = 4 := by have e1 := hI.lg; rw [show (mkI 7 0 0 [] [4] 3 4 2 1).gs.length = 4 from mkGs_len _ _] at e1; exact e1.symm
      obtain rfl : m2 = 1 := by have e2 := hI.lm; rw [show (mkI 7 0 0 [] [4] 3 4 2 1).mp.length = 1 from mkPs_len _ _ _] at e2; exact e2.symm
      have K := Lib.hid (K.out.up HB)
      have BX := Lib.hid (BX.out.below HB BX.out.lt)
      clear HB hI MS
      refine hK _ _ (fun _ => K.out.shp) ?_
      clear hK
      refine early_only (i := 6) (by kernel_rfl) rfl (fun K9 hK => ?_)
      simp only [opWp, List.getElem?_toArray, List.getElem?_cons_succ, List.getElem?_cons_zero]
      go_simp
      go_at_call 10
      refine (encode_any 3 32 4 2 1 1 3 xI.q xI.s xI.i A2 c2 B2 d2 xI.gs xI.mp wapxx ok_first (by decide) xI_fits IM.out).mono ?_
      rintro e wapxxx ⟨A3, c3, L3, rfl, _, _, hL, hby, _, HB⟩
      have LN := Lib.hid hL
      have BY := Lib.hid (show byts L3 = sheets (pad xI.body (npg 32 4 1 * (32 - 15))) 3 (32 - 15) (npg 32 4 1) from hby)
      have K := Lib.hid (K.out.up HB)
      have BX := Lib.hid (BX.out.below HB BX.out.lt)
      clear HB hL hby IM
      refine hK _ _ (fun _ => K.out.shp) ?_
      clear hK
      refine early_only (i := 7) (by kernel_rfl) rfl (fun K9 hK => ?_)
      simp only [opWp, List.getElem?_toArray, List.getElem?_cons_succ, List.getElem?_cons_zero]
      go_simp
      go_at_call 13
      refine (decode_any 3 32 4 2 1 1 3 A3 (npg 32 4 1) c3 L3 wapxxx ok_first (by decide) LN.out).mono ?_
      rintro e wapxxxx ⟨r, hD, hA⟩
      rw [BY.out] at hD
      obtain rfl := xI_dec r hD
      obtain ⟨A4, c4, B4, d4, rfl, hI4, HB⟩ := hA
      have M4 := Lib.hid (show Row wapxxxx B4 1 (ints [4]) from xI_mp ▸ hI4.mp)
      have K := Lib.hid (K.out.up HB)
      have BX := Lib.hid (BX.out.below HB BX.out.lt)
      clear HB hD hI4 LN BY
      refine hK _ _ (fun _ => K.out.shp) ?_
      clear hK
      refine early_take (i := 8) 6 (.tuple #[.agg (ics xI.q xI.s xI.i A4 xI.gs.length c4 B4 xI.mp.length d4), .int .i64 0]) rfl rfl (by kernel_rfl) (by kernel_rfl) (by kernel_rfl) (by kernel_rfl) rfl (fun _ _ _ h => h) (fun w' hw' => by go_simp) K.out.shp ?_
      simp only [Act.put, List.setIfInBounds_toArray, List.set_cons_zero, List.set_cons_succ]
      refine early_take (i := 9) 15 (.agg (ics xI.q xI.s xI.i A4 xI.gs.length c4 B4 xI.mp.length d4)) rfl rfl (by kernel_rfl) (by kernel_rfl) (by kernel_rfl) (by kernel_rfl) rfl (fun _ _ _ h => h) (fun w' hw' => by go_simp) K.out.shp ?_
      simp only [Act.put, List.setIfInBounds_toArray, List.set_cons_zero, List.set_cons_succ]
      refine early_take (i := 10) 16 (.int .i64 0) rfl rfl (by kernel_rfl) (by kernel_rfl) (by kernel_rfl) (by kernel_rfl) rfl (fun _ _ _ h => h) (fun w' hw' => by go_simp) K.out.shp ?_
      simp only [Act.put, List.setIfInBounds_toArray, List.set_cons_zero, List.set_cons_succ]
      refine early_only (i := 12) (by kernel_rfl) rfl (fun K9 hK => ?_)
      simp only [opWp, List.getElem?_toArray, List.getElem?_cons_succ, List.getElem?_cons_zero]
      refine wp_store_part 37 (.tmp 2) (.tmp 15) rfl P 0 37 zcs (ics xI.q xI.s xI.i A4 xI.gs.length c4 B4 xI.mp.length d4) rfl rfl BX.out size37 (by simp) (ics_one _ _ _ _ _ _ _ _ _) ?_
      intro we hat hb
      have R := Lib.hid (show Awx w we P A4 xI.gs.length c4 B4 d4 from ⟨hat, M4.out.but hb (fun h0 x hx => row_notin M4.out BX.out x hx), K.out.bel.trans (hb.below (fun x e => by have := PB.out; omega) K.out.bel.size)⟩)
      have K := Lib.hid (K.out.shp.but hb NS.out)
      clear hat hb
      refine hK _ _ (fun _ => K.out) ?_
      clear hK
      refine early_take (i := 13) 3 (.int .i64 0) rfl rfl (by kernel_rfl) (by kernel_rfl) (by kernel_rfl) (by kernel_rfl) rfl (fun _ _ _ h => h) (fun w' hw' => by go_simp) K.out ?_
      simp only [Act.put, List.setIfInBounds_toArray, List.set_cons_zero, List.set_cons_succ]
      refine early_done (by kernel_rfl) ?_
      go_wp2_with fail
      go_meet
      exact ⟨P, A4, xI.gs.length, c4, B4, d4, rfl, rfl, R.out⟩
  case rest =>
    clear K
    obtain ⟨P, A, n, c, B, d, rfl, rfl, hX⟩ := hcut
    obtain ⟨bb, off, rfl⟩ := hX.mp.some_ (by omega)
    have X := Lib.hid hX
    have c0 : wc.cell? ⟨P, 0, none⟩ = some (.int .u64 7) := hX.box.cell 0
    have c4 := hX.box.cell 4
    have d0 : wc.cell? ⟨bb, off, none⟩ = some (.int .i64 3) := hX.mp.cell 0 (by omega)
    clear hX
    go_wp2_with fail
    refine (geomAwake_any _).mono ?_
    rintro e w2 ⟨rfl, hb2⟩
    have BB := Lib.hid (X.out.bel.trans (hb2.mono X.out.bel.size))
    clear hb2 c0 c4 d0
    go_wp2
    go_ret
    exact ⟨rfl, BB.out⟩
end Go.Proofs.Ytlmponcoghfghaa
