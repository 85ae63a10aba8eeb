/-
  THE WALK OF page.Decode: the image of pages, or what is wrong with them.
-/
import Derived.Test.YtlmponcoghfghaaParse
import Derived.Deep.CutRange
import Derived.Deep.CutBlock
import Derived.Deep.DeepCutAuto
namespace Go.Proofs.Ytlmponcoghfghaa
open Go.RowKit
set_option linter.unusedVariables false
set_option maxRecDepth 100000


/-- What Decode answers: this image, this error. -/
def Answer (w : World) (r : Im × Nat) (e : Ending) (w' : World) : Prop :=
  ∃ A c B d, e = .returned (.tuple #[.agg (ics r.1.q r.1.s r.1.i A r.1.gs.length c B r.1.mp.length d), .int .i64 (r.2 : Int)]) ∧ Img w' A r.1.gs.length B r.1.mp.length r.1 ∧ Below w.heap.size w w'
theorem zics : zcs = ics Im.zero.q Im.zero.s Im.zero.i none Im.zero.gs.length 0 none Im.zero.mp.length 0 := by simp [Im.zero]
theorem Answer.empty {w w' : World} {k : Nat} (hb : Below w.heap.size w w') : Answer w (Im.zero, k) (.returned (.tuple #[.agg zcs, .int .i64 (k : Int)])) w' :=
  ⟨none, 0, none, 0, by rw [zics], Img.zero _, hb⟩
set_option maxHeartbeats 400000 in
theorem decode_bad (m b g s n l : Int) (gen : Int) (A : Option Addr) (na c : Nat) (w : World) (h : ¬ Ok m b g s n l) :
    Calls Try.prog 13 #[sv m b g s n l, .int .u64 gen, .slice A na c] w fun e w' => e = .returned (.tuple #[.agg zcs, .int .i64 1]) ∧ Below w.heap.size w w' := by
  unfold sv
  have H := Lib.hid h
  clear h
  go_enter Try.func13, Try.ntmps13
  go_wp2_with fail
  refine (check_bad m b g s n l H.out _).mono ?_
  rintro e w1 ⟨rfl, hb⟩
  have BW := Lib.hid (show Below w.heap.size w w1 from (BB2 w _ _).trans (hb.mono (BB2 w _ _).size))
  have RS := Lib.hid (show At w1 (w.heap.size + 1) zcs 37 from (At.new _ _ (by simp)).below hb (by simp))
  clear hb
  go_wp2_with (refine wpList_store_part rfl 37 (.tmp 6) (.tmp 18) rfl (w.heap.size + 1) 0 37 zcs zcs rfl rfl RS.out size37 (by simp) (by simp [Value.oneCell']) ?_; intro w4 hat4 hb4; have R := Lib.hid (show At w4 (w.heap.size + 1) zcs 37 from hat4); have BB := Lib.hid hb4; clear hat4 hb4)
  refine bodyPost_ret (results_cell_slot (p := 6) (u := 7) (ty := 37) rfl _ _ (w.heap.size + 1) zcs _ rfl R.out Try.underlying37 size37) rfl ?_
  exact ⟨rfl, BW.out.trans (BB.out.below (fun k e => by omega) BW.out.size)⟩

/-- The shape's box, the answer's, a writer that holds M at block g. -/
structure Dcd (w0 w : World) (sc : Array Value) (g : Nat) (v : Value) (M : List (BitVec 8)) : Prop where
  shp : At w w0.heap.size sc 32
  res : At w (w0.heap.size + 1) zcs 37
  wr : Wr w g v M
  own : ∀ j, v.ownBlock = some j → w0.heap.size + 1 < j
  gl : w0.heap.size + 1 < g
  bel : Below w0.heap.size w0 w
section
variable {w0 w w' : World} {sc : Array Value} {g : Nat} {v : Value} {M M' : List (BitVec 8)}
theorem Dcd.up (h : Dcd w0 w sc g v M) (hb : Below w.heap.size w w') : Dcd w0 w' sc g v M :=
  ⟨h.shp.below hb h.shp.lt, h.res.below hb h.res.lt, h.wr.but (S := fun _ => False) (But.of_below hb) (fun h => h) (fun _ _ h => h), h.own, h.gl, h.bel.trans (hb.mono h.bel.size)⟩
theorem Dcd.put (h : Dcd w0 w sc g v M) (hW : Wrote w g v M' w') : ∃ v', Dcd w0 w' sc g v' M' := by
  obtain ⟨v', h1, h2, h3⟩ := hW
  have hl := h.gl
  have hr := h.res.lt
  have out : ∀ k, foot g v k → w0.heap.size + 1 < k := by
    rintro k (e | e)
    · omega
    · exact h.own k e
  refine ⟨v', h.shp.but h2 (fun e => by have := out _ e; omega), h.res.but h2 (fun e => by have := out _ e; omega), h1, fun j hj => ?_, hl, h.bel.trans (h2.below (fun k e => by have := out k e; omega) h.bel.size)⟩
  rcases h3 j hj with e | e
  · exact h.own j e
  · omega
end
theorem Answer.good {w w' : World} {x : Im} {A : Option Addr} {g c : Nat} {B : Option Addr} {l d : Nat} (h : Img w' A g B l x) (hb : Below w.heap.size w w') : Answer w (x, 0) (.returned (.tuple #[.agg (ics x.q x.s x.i A g c B l d), .int .i64 0])) w' := by
  have e1 := h.lg
  have e2 := h.lm
  subst e1 e2
  exact ⟨A, c, B, d, rfl, h, hb⟩

/-- And the image in block P, behind it the bytes that follow. -/
structure Dce (w0 w : World) (sc : Array Value) (P : Nat) (A : Option Addr) (c : Nat) (B : Option Addr) (d : Nat) (v : Value) (D : List (BitVec 8)) (g l : Nat) : Prop where
  shp : At w w0.heap.size sc 32
  res : At w (w0.heap.size + 1) zcs 37
  box : At w P (ics (fld D 0 8) (fld D 8 2) (fld D 10 2) A g c B l d) 37
  im : Img w A g B l (img D g l)
  own : w.ownsRow (w0.heap.size + 1 + 1) 5 1 v (D.length - (12 + 9 * g + 4 * l)) ((D.drop (12 + 9 * g + 4 * l)).map val)
  la : ∀ x, A = some x → w0.heap.size + 1 < x.block
  lb : ∀ x, B = some x → w0.heap.size + 1 < x.block
  bel : Below w0.heap.size w0 w
theorem Dce.up {w0 w w' : World} {sc : Array Value} {P : Nat} {A : Option Addr} {c : Nat} {B : Option Addr} {d : Nat} {v : Value} {D : List (BitVec 8)} {g l : Nat} (h : Dce w0 w sc P A c B d v D g l) (hb : Below w.heap.size w w') : Dce w0 w' sc P A c B d v D g l :=
  ⟨h.shp.below hb h.shp.lt, h.res.below hb h.res.lt, h.box.below hb h.box.lt, h.im.below hb, own_below h.own hb, h.la, h.lb, h.bel.trans (hb.mono h.bel.size)⟩
set_option maxHeartbeats 4000000 in
theorem decode_any (m b g s n l : Nat) (gen : Nat) (A : Option Addr) (na c : Nat) (L : List Sl) (w : World) (ok : OkN m b g s n l) (hna : na ≤ 1000000) (h : Lns w A na L) :
    Calls Try.prog 13 #[.agg #[.int .i64 (m : Int), .int .i64 (b : Int), .int .i64 (g : Int), .int .i64 (s : Int), .int .i64 (n : Int), .int .i64 (l : Int)], .int .u64 (gen : Int), .slice A na c] w fun e w' => ∃ r, Dec m b g s l (npg b g l) gen (byts L) r ∧ Answer w r e w' := by
  have OK := Lib.hid ok
  have BN := Lib.hid ok.bnd
  have hb := ok.bnd.b; have hg := ok.bnd.g; have hl := ok.bnd.l
  have hnp := npg_few ok.bnd
  have NG := Lib.hid (npg_ge ok.bnd)
  have NM := Lib.hid (npg_max ok.bnd)
  have HL := Lib.hid h
  have LL := Lib.hid h.len
  have LB := Lib.hid (show (byts L).length = na by rw [byts_len, h.len])
  obtain ⟨np, hnpe⟩ : ∃ y, y = npg b g l := ⟨_, rfl⟩
  rw [← hnpe] at hnp NG NM ⊢
  have NE := Lib.hid hnpe
  clear ok h hnpe
  go_enter Try.func13, Try.ntmps13
  go_wp2_with fail
  refine (check_ok m b g s n l OK.out _).mono ?_
  rintro e w1 ⟨rfl, hb1⟩
  have BW := Lib.hid (show Below w.heap.size w w1 from (BB2 w _ _).trans (hb1.mono (BB2 w _ _).size))
  have RS := Lib.hid (show At w1 (w.heap.size + 1) zcs 37 from (At.new _ _ (by simp)).below hb1 (by simp))
  have SH := Lib.hid (show At w1 w.heap.size #[.int .i64 (m : Int), .int .i64 (b : Int), .int .i64 (g : Int), .int .i64 (s : Int), .int .i64 (n : Int), .int .i64 (l : Int)] 32 from ((At.new _ _ rfl).alloc _).below hb1 (by simp; omega))
  clear hb1
  have k0 := SH.out.cell 0; have k1 := SH.out.cell 1; have k2 := SH.out.cell 2; have k3 := SH.out.cell 3; have k4 := SH.out.cell 4; have k5 := SH.out.cell 5
  go_wp2_with fail
  clear k0 k1 k2 k3 k4 k5
  refine (pages_nat BN.out _).mono ?_
  rintro e w2 ⟨rfl, hb2⟩
  rw [← NE.out]
  have BW := Lib.hid (BW.out.trans (hb2.mono BW.out.size))
  have RS := Lib.hid (RS.out.below hb2 RS.out.lt)
  have SH := Lib.hid (SH.out.below hb2 SH.out.lt)
  clear hb2
  by_cases hne : na = np
  · subst hne
    go_wp2
    have E := Lib.hid (show Dcd w (w2.alloc (.cells #[.slice none 0 0] 66)) #[.int .i64 (m : Int), .int .i64 (b : Int), .int .i64 (g : Int), .int .i64 (s : Int), .int .i64 (n : Int), .int .i64 (l : Int)] w2.heap.size (.slice none 0 0) [] from ⟨SH.out.alloc _, RS.out.alloc _, ⟨At.new _ _ rfl, World.ownsRow_nil _ _ _ _, by simp [Value.ownBlock]⟩, fun j hj => by simp [Value.ownBlock] at hj, RS.out.lt, BW.out.alloc BW.out.size _⟩)
    generalize w2.alloc (.cells #[.slice none 0 0] 66) = w3 at *
    generalize w2.heap.size = gg at *
    clear SH RS BW
    clear w2
    go_loopw [27] (fun i wr => ∃ (k : Nat) (v : Value), k ≤ na ∧ i = .int .i64 k ∧ Dcd w wr #[.int .i64 (m : Int), .int .i64 (b : Int), .int .i64 (g : Int), .int .i64 (s : Int), .int .i64 (n : Int), .int .i64 (l : Int)] gg v (inners b ((byts L).take k)) ∧ ∀ j (h : j < (byts L).length), j < k → wrong b gen j (byts L)[j] = 0) (fun i _ => na - (intOf i).toNat)
    case atStart => exact ⟨0, _, Nat.zero_le _, rfl, by simpa [inners] using E.out, fun j h hj => by omega⟩
    case round =>
      clear E
      obtain ⟨k, v, hk, rfl, hE, hall⟩ := hrel
      have E := Lib.hid hE
      have AL := Lib.hid hall
      have HH := Lib.hid (HL.out.below hE.bel)
      clear hE hall
      by_cases hlt : k < na
      · obtain ⟨hkl, bb, off, rfl, hc, hh, hx1, hx2, hx3⟩ := HH.out.one hlt
        have hkb : k < (byts L).length := by rw [LB.out]; exact hlt
        have EB := Lib.hid (byts_get L k hkl)
        have hkB : L[k].l = (byts L)[k] := EB.out.symm
        rw [hkB] at hh
        have IN := Lib.hid (inners_next b (byts L) k hkb)
        have IL := Lib.hid (show (inners b ((byts L).take k)).length ≤ 60000 from by
          have h9 := inners_len b ((byts L).take k) (fun B hB => by
            obtain ⟨j, hj, e⟩ := List.getElem_of_mem hB
            rw [List.length_take] at hj
            rw [List.getElem_take] at e
            rw [← e]
            exact right_len (AL.out j (by omega) (by omega)))
          rw [h9, List.length_take, Nat.min_eq_left (by omega)]
          exact Nat.le_trans (Nat.mul_le_mul_right _ (Nat.le_of_lt hlt)) NM.out)
        generalize inners b ((byts L).take k) = M at *
        obtain ⟨W, hW⟩ : ∃ y, y = wrong b gen k (byts L)[k] := ⟨_, rfl⟩
        generalize hsl : L[k] = x at hc hh hx1 hx2 hx3
        obtain ⟨xA, xn, xc, xl⟩ := x
        simp only at hc hh hx1 hx2 hx3
        have WW := Lib.hid hW
        have H := Lib.hid hh
        have X := Lib.hid (And.intro hx1 (And.intro hx2 hx3))
        clear hsl hkB hW hh hx1 hx2 hx3 EB
        have k1 := E.out.shp.cell 1
        go_wp2_with fail
        clear k1 hc
        refine (open_any xA xn xc b gen k (byts L)[k] wr X.out.2.1 X.out.2.2 (by omega) (by omega) (by omega) H.out).mono ?_
        rintro e w4 ⟨hb4, hO⟩
        have E := Lib.hid (E.out.up hb4)
        clear hb4
        rcases hO with ⟨hw0, v4, rfl, hown⟩ | ⟨hw0, rfl⟩
        · have W0 := Lib.hid hw0
          obtain ⟨A4, c4, rfl, _, _, hn4, hh4, _⟩ := own_slice hown
          have H4 := Lib.hid hh4
          have N4 := Lib.hid hn4
          clear hw0 hown hn4 hh4
          go_wp2_with fail
          refine (raw_any gg v M A4 (b - 15) c4 (inner b (byts L)[k]) w4 (by have := IL.out; omega) (by omega) E.out.wr H4.out N4.out).mono ?_
          rintro e w5 ⟨rfl, hWr⟩
          obtain ⟨v5, hE5⟩ := E.out.put hWr
          have E := Lib.hid hE5
          clear hWr hE5
          go_wp2_with fail
          have E2 := E.out
          rw [← IN.out] at E2
          refine ⟨⟨k + 1, _, by omega, by go_num, E2, fun j h hj => ?_⟩, by simp [intOf]; omega⟩
          rcases Nat.lt_or_ge j k with h2 | h2
          · exact AL.out j h h2
          · obtain rfl : j = k := by omega
            exact W0.out
        · have W0 := Lib.hid hw0
          rw [← WW.out] at hw0 ⊢
          have hWi : ((W : Int) != 0) = true := by simp; omega
          have WB := Lib.hid (show W ≤ 6 from by
            rw [WW.out]
            unfold wrong
            split <;> first | omega | (split <;> first | omega | (split <;> omega)))
          clear hw0
          go_wp2_with (refine wpList_store_part rfl 37 (.tmp 6) (.tmp 43) rfl (w.heap.size + 1) 0 37 zcs zcs rfl rfl E.out.res size37 (by simp) (by simp [Value.oneCell']) ?_; intro w5 hat5 hb5; have R := Lib.hid (show At w5 (w.heap.size + 1) zcs 37 from hat5); have BB := Lib.hid hb5; clear hat5 hb5)
          refine bodyPost_ret (results_cell_slot (p := 6) (u := 7) (ty := 37) rfl _ _ (w.heap.size + 1) zcs _ rfl R.out Try.underlying37 size37) rfl ?_
          refine ⟨(Im.zero, W), ?_, Answer.empty (E.out.bel.trans (BB.out.below (fun x e => by omega) E.out.bel.size))⟩
          rw [WW.out]
          exact Dec.page k hkb LB.out AL.out W0.out
      · obtain rfl : k = na := by omega
        have ALL := Lib.hid (show ∀ j (h : j < (byts L).length), wrong b gen j (byts L)[j] = 0 from fun j h => AL.out j h (by have := LB.out; omega))
        have DL := Lib.hid (show (inners b (byts L)).length = k * (b - 15) from by
          rw [inners_len b (byts L) (fun B hB => by
            obtain ⟨j, hj, e⟩ := List.getElem_of_mem hB
            rw [← e]
            exact right_len (ALL.out j hj)), LB.out])
        have E := Lib.hid (show Dcd w wr #[.int .i64 (m : Int), .int .i64 (b : Int), .int .i64 (g : Int), .int .i64 (s : Int), .int .i64 (n : Int), .int .i64 (l : Int)] gg v (inners b (byts L)) by have := E.out; rw [List.take_of_length_le (by rw [LB.out]; omega)] at this; exact this)
        have DG := Lib.hid (show ∀ x : Im × Nat, ((img (inners b (byts L)) g l).fine m g s → None0 ((inners b (byts L)).drop (12 + 9 * g + 4 * l)) → x = (img (inners b (byts L)) g l, 0)) → (¬ ((img (inners b (byts L)) g l).fine m g s ∧ None0 ((inners b (byts L)).drop (12 + 9 * g + 4 * l))) → x = (Im.zero, 4)) → Dec m b g s l k gen (byts L) x from fun x h1 h2 => by
          by_cases hf : (img (inners b (byts L)) g l).fine m g s ∧ None0 ((inners b (byts L)).drop (12 + 9 * g + 4 * l))
          · rw [h1 hf.1 hf.2]; exact Dec.good LB.out ALL.out hf.1 hf.2
          · rw [h2 hf]; exact Dec.form LB.out ALL.out hf)
        generalize inners b (byts L) = D at *
        clear AL ALL HH
        go_upto_region 14 with (fail)
        go_cut [13, 14] (fun s13 s14 wc => ∃ (P : Nat) (A1 : Option Addr) (c1 : Nat) (B1 : Option Addr) (d1 : Nat) (v2 : Value), s13 = .pointer (some ⟨P, 0, none⟩) ∧ s14 = v2 ∧ Dce w wc #[.int .i64 (m : Int), .int .i64 (b : Int), .int .i64 (g : Int), .int .i64 (s : Int), .int .i64 (n : Int), .int .i64 (l : Int)] P A1 c1 B1 d1 v2 D g l)
        case first =>
          refine wp_region_early (fun w' : World => At w' w.heap.size #[.int .i64 (m : Int), .int .i64 (b : Int), .int .i64 (g : Int), .int .i64 (s : Int), .int .i64 (n : Int), .int .i64 (l : Int)] 32) (fun _ => true) (by kernel_rfl) ?_
          change wpEarly _ _ _ _ _ _ 9 (Array.replicate 9 false) _ wr.drew
          have E := Lib.hid (E.out.up (below_drew (Below.refl _ _)))
          generalize wr.drew = wa at *
          refine early_take (i := 1) 50 (.agg #[.int .i64 (m : Int), .int .i64 (b : Int), .int .i64 (g : Int), .int .i64 (s : Int), .int .i64 (n : Int), .int .i64 (l : Int)]) rfl rfl (by kernel_rfl) (by kernel_rfl) (by kernel_rfl) (by kernel_rfl) rfl (fun _ _ _ h => h) (fun w' hw' => exec_load_whole rfl rfl hw' Try.underlying32 info32) E.out.shp ?_
          simp only [Act.put, List.setIfInBounds_toArray, List.set_cons_zero, List.set_cons_succ]
          refine early_two (i := 0) (j := 6) (by kernel_rfl) ⟨rfl, fun K hK => ?_⟩ ⟨rfl, fun K hK => ?_⟩
          · simp only [opWp, List.getElem?_toArray, List.getElem?_cons_zero]
            go_simp
            go_at_call 31
            refine (bytes_any gg v D 0 0 (k * (b - 15)) _ (by rw [DL.out]; have := NM.out; omega) (by omega) (by rw [DL.out]; omega) E.out.wr).mono ?_
            rintro e wb ⟨v9, rfl, hf9⟩
            rw [pad_self DL.out] at hf9
            obtain ⟨A9, c9, rfl, _, _, hn9, hh9, hx9⟩ := own_slice hf9.1
            have E := Lib.hid (E.out.up hf9.2)
            have H9 := Lib.hid hh9
            clear hf9 hn9 hh9 hx9
            refine hK _ _ (fun _ => E.out.shp) ?_
            clear hK
            refine early_two (i := 2) (j := 6) (by kernel_rfl) ⟨rfl, fun K hK => ?_⟩ ⟨rfl, fun K hK => ?_⟩
            · simp only [opWp, List.getElem?_toArray, List.getElem?_cons_succ, List.getElem?_cons_zero]
              go_simp
              go_at_call 34
              refine (parse_any m b g s n l A9 (k * (b - 15)) c9 D _ BN.out (by have := NM.out; omega) NG.out H9.out).mono ?_
              rintro e wd ⟨A1, c1, B1, d1, v2, rfl, hI, hA1, hB1, hO, hb⟩
              have RL := Lib.hid E.out.res.lt
              have E := Lib.hid (E.out.up hb)
              have IM := Lib.hid hI
              have IA := Lib.hid (show ∀ x, A1 = some x → w.heap.size + 1 < x.block from fun x hx => by have := hA1 x hx; have := RL.out; omega)
              have IB := Lib.hid (show ∀ x, B1 = some x → w.heap.size + 1 < x.block from fun x hx => by have := hB1 x hx; have := RL.out; omega)
              have OV := Lib.hid (show wd.ownsRow (w.heap.size + 1 + 1) 5 1 v2 (D.length - (12 + 9 * g + 4 * l)) ((D.drop (12 + 9 * g + 4 * l)).map val) from own_base hO (fun x hx => by have := (hO.lt x hx).1; have := RL.out; omega))
              clear hI hA1 hB1 hO hb RL
              refine hK _ _ (fun _ => E.out.shp) ?_
              clear hK
              refine early_take (i := 3) 48 (.tuple #[.agg (ics (fld D 0 8) (fld D 8 2) (fld D 10 2) A1 g c1 B1 l d1), v2]) rfl rfl (by kernel_rfl) (by kernel_rfl) (by kernel_rfl) (by kernel_rfl) rfl (fun _ _ _ h => h) (fun w' hw' => by go_simp) E.out.shp ?_
              simp only [Act.put, List.setIfInBounds_toArray, List.set_cons_zero, List.set_cons_succ]
              refine early_take (i := 4) 52 (.agg (ics (fld D 0 8) (fld D 8 2) (fld D 10 2) A1 g c1 B1 l d1)) rfl rfl (by kernel_rfl) (by kernel_rfl) (by kernel_rfl) (by kernel_rfl) rfl (fun _ _ _ h => h) (fun w' hw' => by go_simp) E.out.shp ?_
              simp only [Act.put, List.setIfInBounds_toArray, List.set_cons_zero, List.set_cons_succ]
              refine early_take (i := 5) 53 v2 rfl rfl (by kernel_rfl) (by kernel_rfl) (by kernel_rfl) (by kernel_rfl) rfl (fun _ _ _ h => h) (fun w' hw' => by go_simp) E.out.shp ?_
              simp only [Act.put, List.setIfInBounds_toArray, List.set_cons_zero, List.set_cons_succ]
              refine early_only (i := 6) (by kernel_rfl) rfl (fun K hK => ?_)
              simp only [opWp, List.getElem?_toArray, List.getElem?_cons_succ, List.getElem?_cons_zero]
              go_simp
              have BX := Lib.hid (At.new (w := wd) (g := wd.heap.size) zcs 37 rfl)
              have PB := Lib.hid (show w.heap.size + 1 < wd.heap.size from E.out.res.lt)
              have XA := Lib.hid (show ∀ x, A1 = some x → 0 < g → ¬ x.block = wd.heap.size from fun x hx h0 e => by obtain ⟨b', o', e1, hlt, _⟩ := IM.out.gs.2 h0; rw [hx] at e1; injection e1 with e1; subst e1; have e2 : b' = wd.heap.size := e; omega)
              have XB := Lib.hid (show ∀ x, B1 = some x → 0 < l → ¬ x.block = wd.heap.size from fun x hx h0 e => by obtain ⟨b', o', e1, hlt, _⟩ := IM.out.mp.2 h0; rw [hx] at e1; injection e1 with e1; subst e1; have e2 : b' = wd.heap.size := e; omega)
              have XV := Lib.hid (show ∀ x, v2.ownBlock = some x → ¬ x = wd.heap.size from fun x hx e => by have := (OV.out.lt x hx).2; omega)
              have IM := Lib.hid (IM.out.below (BB1 wd (.cells zcs 37)))
              have OV := Lib.hid (own_below OV.out (BB1 wd (.cells zcs 37)))
              have E := Lib.hid (E.out.up (BB1 wd (.cells zcs 37)))
              refine hK _ _ (fun _ => E.out.shp) ?_
              clear hK
              generalize wd.alloc (.cells zcs 37) = wd' at *
              generalize wd.heap.size = P at *
              refine early_only (i := 7) (by kernel_rfl) rfl (fun K hK => ?_)
              simp only [opWp, List.getElem?_toArray, List.getElem?_cons_succ, List.getElem?_cons_zero]
              refine wp_store_part 37 (.tmp 13) (.tmp 52) rfl P 0 37 zcs (ics (fld D 0 8) (fld D 8 2) (fld D 10 2) A1 g c1 B1 l d1) rfl rfl BX.out size37 (by simp) (ics_one _ _ _ _ _ _ _ _ _) ?_
              intro we hat hb
              have R := Lib.hid (show Dce w we #[.int .i64 (m : Int), .int .i64 (b : Int), .int .i64 (g : Int), .int .i64 (s : Int), .int .i64 (n : Int), .int .i64 (l : Int)] P A1 c1 B1 d1 v2 D g l from ⟨E.out.shp.but hb (by have := PB.out; omega), E.out.res.but hb (by have := PB.out; omega), hat, IM.out.but hb (fun h0 x hx => XA.out x hx h0) (fun h0 x hx => XB.out x hx h0), own_but OV.out hb (fun x hx => XV.out x hx), IA.out, IB.out, E.out.bel.trans (hb.below (fun x e => by have := PB.out; omega) E.out.bel.size)⟩)
              clear hat hb
              refine hK _ _ (fun _ => R.out.shp) ?_
              clear hK
              refine early_take (i := 8) 14 v2 rfl rfl (by kernel_rfl) (by kernel_rfl) (by kernel_rfl) (by kernel_rfl) rfl (fun _ _ _ h => h) (fun w' hw' => by go_simp) R.out.shp ?_
              simp only [Act.put, List.setIfInBounds_toArray, List.set_cons_zero, List.set_cons_succ]
              refine early_done (by kernel_rfl) ?_
              go_wp2_with fail
              go_meet
              exact ⟨P, A1, c1, B1, d1, v2, rfl, rfl, R.out⟩
            · simp only [opWp, List.getElem?_toArray, List.getElem?_cons_succ, List.getElem?_cons_zero]
              go_simp
              have BX := Lib.hid (At.new (w := wb) (g := wb.heap.size) zcs 37 rfl)
              have PB := Lib.hid (show w.heap.size + 1 < wb.heap.size from E.out.res.lt)
              have H9 := Lib.hid (H9.out.below (BB1 wb (.cells zcs 37)))
              have E := Lib.hid (E.out.up (BB1 wb (.cells zcs 37)))
              refine hK _ _ (fun _ => E.out.shp) ?_
              clear hK
              have PL := Lib.hid (show wb.heap.size < (wb.alloc (.cells zcs 37)).heap.size by simp)
              generalize wb.alloc (.cells zcs 37) = wb' at *
              generalize wb.heap.size = P at *
              refine early_only (i := 2) (by kernel_rfl) rfl (fun K hK => ?_)
              simp only [opWp, List.getElem?_toArray, List.getElem?_cons_succ, List.getElem?_cons_zero]
              have PL := Lib.hid (show P < wb'.heap.size from BX.out.lt)
              go_simp
              go_at_call 34
              refine (parse_any m b g s n l A9 (k * (b - 15)) c9 D _ BN.out (by have := NM.out; omega) NG.out H9.out).mono ?_
              rintro e wd ⟨A1, c1, B1, d1, v2, rfl, hI, hA1, hB1, hO, hb⟩
              have RL := Lib.hid E.out.res.lt
              have E := Lib.hid (E.out.up hb)
              have BX := Lib.hid (BX.out.below hb BX.out.lt)
              have IM := Lib.hid hI
              have IA := Lib.hid (show ∀ x, A1 = some x → w.heap.size + 1 < x.block from fun x hx => by have := hA1 x hx; have := RL.out; omega)
              have IB := Lib.hid (show ∀ x, B1 = some x → w.heap.size + 1 < x.block from fun x hx => by have := hB1 x hx; have := RL.out; omega)
              have OV := Lib.hid (show wd.ownsRow (w.heap.size + 1 + 1) 5 1 v2 (D.length - (12 + 9 * g + 4 * l)) ((D.drop (12 + 9 * g + 4 * l)).map val) from own_base hO (fun x hx => by have := (hO.lt x hx).1; have := RL.out; omega))
              have XA := Lib.hid (show ∀ x, A1 = some x → ¬ x.block = P from fun x hx e => by have := hA1 x hx; have := PL.out; omega)
              have XB := Lib.hid (show ∀ x, B1 = some x → ¬ x.block = P from fun x hx e => by have := hB1 x hx; have := PL.out; omega)
              have XV := Lib.hid (show ∀ x, v2.ownBlock = some x → ¬ x = P from fun x hx e => by have := (hO.lt x hx).1; have := PL.out; omega)
              clear hI hA1 hB1 hO hb RL
              refine hK _ _ (fun _ => E.out.shp) ?_
              clear hK
              refine early_take (i := 3) 48 (.tuple #[.agg (ics (fld D 0 8) (fld D 8 2) (fld D 10 2) A1 g c1 B1 l d1), v2]) rfl rfl (by kernel_rfl) (by kernel_rfl) (by kernel_rfl) (by kernel_rfl) rfl (fun _ _ _ h => h) (fun w' hw' => by go_simp) E.out.shp ?_
              simp only [Act.put, List.setIfInBounds_toArray, List.set_cons_zero, List.set_cons_succ]
              refine early_take (i := 4) 52 (.agg (ics (fld D 0 8) (fld D 8 2) (fld D 10 2) A1 g c1 B1 l d1)) rfl rfl (by kernel_rfl) (by kernel_rfl) (by kernel_rfl) (by kernel_rfl) rfl (fun _ _ _ h => h) (fun w' hw' => by go_simp) E.out.shp ?_
              simp only [Act.put, List.setIfInBounds_toArray, List.set_cons_zero, List.set_cons_succ]
              refine early_take (i := 5) 53 v2 rfl rfl (by kernel_rfl) (by kernel_rfl) (by kernel_rfl) (by kernel_rfl) rfl (fun _ _ _ h => h) (fun w' hw' => by go_simp) E.out.shp ?_
              simp only [Act.put, List.setIfInBounds_toArray, List.set_cons_zero, List.set_cons_succ]
              refine early_only (i := 7) (by kernel_rfl) rfl (fun K hK => ?_)
              simp only [opWp, List.getElem?_toArray, List.getElem?_cons_succ, List.getElem?_cons_zero]
              refine wp_store_part 37 (.tmp 13) (.tmp 52) rfl P 0 37 zcs (ics (fld D 0 8) (fld D 8 2) (fld D 10 2) A1 g c1 B1 l d1) rfl rfl BX.out size37 (by simp) (ics_one _ _ _ _ _ _ _ _ _) ?_
              intro we hat hb
              have R := Lib.hid (show Dce w we #[.int .i64 (m : Int), .int .i64 (b : Int), .int .i64 (g : Int), .int .i64 (s : Int), .int .i64 (n : Int), .int .i64 (l : Int)] P A1 c1 B1 d1 v2 D g l from ⟨E.out.shp.but hb (by have := PB.out; omega), E.out.res.but hb (by have := PB.out; omega), hat, IM.out.but hb (fun h0 x hx => XA.out x hx) (fun h0 x hx => XB.out x hx), own_but OV.out hb (fun x hx => XV.out x hx), IA.out, IB.out, E.out.bel.trans (hb.below (fun x e => by have := PB.out; omega) E.out.bel.size)⟩)
              clear hat hb
              refine hK _ _ (fun _ => R.out.shp) ?_
              clear hK
              refine early_take (i := 8) 14 v2 rfl rfl (by kernel_rfl) (by kernel_rfl) (by kernel_rfl) (by kernel_rfl) rfl (fun _ _ _ h => h) (fun w' hw' => by go_simp) R.out.shp ?_
              simp only [Act.put, List.setIfInBounds_toArray, List.set_cons_zero, List.set_cons_succ]
              refine early_done (by kernel_rfl) ?_
              go_wp2_with fail
              go_meet
              exact ⟨P, A1, c1, B1, d1, v2, rfl, rfl, R.out⟩
          · simp only [opWp, List.getElem?_toArray, List.getElem?_cons_succ, List.getElem?_cons_zero]
            go_simp
            have BX := Lib.hid (At.new (w := wa) (g := wa.heap.size) zcs 37 rfl)
            have PB := Lib.hid (show w.heap.size + 1 < wa.heap.size from E.out.res.lt)
            have E := Lib.hid (E.out.up (BB1 wa (.cells zcs 37)))
            refine hK _ _ (fun _ => E.out.shp) ?_
            clear hK
            have PL := Lib.hid (show wa.heap.size < (wa.alloc (.cells zcs 37)).heap.size by simp)
            generalize wa.alloc (.cells zcs 37) = wa' at *
            generalize wa.heap.size = P at *
            refine early_only (i := 0) (by kernel_rfl) rfl (fun K hK => ?_)
            simp only [opWp, List.getElem?_toArray, List.getElem?_cons_zero]
            go_simp
            go_at_call 31
            refine (bytes_any gg v D 0 0 (k * (b - 15)) _ (by rw [DL.out]; have := NM.out; omega) (by omega) (by rw [DL.out]; omega) E.out.wr).mono ?_
            rintro e wb ⟨v9, rfl, hf9⟩
            rw [pad_self DL.out] at hf9
            obtain ⟨A9, c9, rfl, _, _, hn9, hh9, hx9⟩ := own_slice hf9.1
            have E := Lib.hid (E.out.up hf9.2)
            have H9 := Lib.hid hh9
            have BX := Lib.hid (BX.out.below hf9.2 BX.out.lt)
            clear hf9 hn9 hh9 hx9
            refine hK _ _ (fun _ => E.out.shp) ?_
            clear hK
            refine early_only (i := 2) (by kernel_rfl) rfl (fun K hK => ?_)
            simp only [opWp, List.getElem?_toArray, List.getElem?_cons_succ, List.getElem?_cons_zero]
            have PL := Lib.hid (show P < wb.heap.size from BX.out.lt)
            go_simp
            go_at_call 34
            refine (parse_any m b g s n l A9 (k * (b - 15)) c9 D _ BN.out (by have := NM.out; omega) NG.out H9.out).mono ?_
            rintro e wd ⟨A1, c1, B1, d1, v2, rfl, hI, hA1, hB1, hO, hb⟩
            have RL := Lib.hid E.out.res.lt
            have E := Lib.hid (E.out.up hb)
            have BX := Lib.hid (BX.out.below hb BX.out.lt)
            have IM := Lib.hid hI
            have IA := Lib.hid (show ∀ x, A1 = some x → w.heap.size + 1 < x.block from fun x hx => by have := hA1 x hx; have := RL.out; omega)
            have IB := Lib.hid (show ∀ x, B1 = some x → w.heap.size + 1 < x.block from fun x hx => by have := hB1 x hx; have := RL.out; omega)
            have OV := Lib.hid (show wd.ownsRow (w.heap.size + 1 + 1) 5 1 v2 (D.length - (12 + 9 * g + 4 * l)) ((D.drop (12 + 9 * g + 4 * l)).map val) from own_base hO (fun x hx => by have := (hO.lt x hx).1; have := RL.out; omega))
            have XA := Lib.hid (show ∀ x, A1 = some x → ¬ x.block = P from fun x hx e => by have := hA1 x hx; have := PL.out; omega)
            have XB := Lib.hid (show ∀ x, B1 = some x → ¬ x.block = P from fun x hx e => by have := hB1 x hx; have := PL.out; omega)
            have XV := Lib.hid (show ∀ x, v2.ownBlock = some x → ¬ x = P from fun x hx e => by have := (hO.lt x hx).1; have := PL.out; omega)
            clear hI hA1 hB1 hO hb RL
            refine hK _ _ (fun _ => E.out.shp) ?_
            clear hK
            refine early_take (i := 3) 48 (.tuple #[.agg (ics (fld D 0 8) (fld D 8 2) (fld D 10 2) A1 g c1 B1 l d1), v2]) rfl rfl (by kernel_rfl) (by kernel_rfl) (by kernel_rfl) (by kernel_rfl) rfl (fun _ _ _ h => h) (fun w' hw' => by go_simp) E.out.shp ?_
            simp only [Act.put, List.setIfInBounds_toArray, List.set_cons_zero, List.set_cons_succ]
            refine early_take (i := 4) 52 (.agg (ics (fld D 0 8) (fld D 8 2) (fld D 10 2) A1 g c1 B1 l d1)) rfl rfl (by kernel_rfl) (by kernel_rfl) (by kernel_rfl) (by kernel_rfl) rfl (fun _ _ _ h => h) (fun w' hw' => by go_simp) E.out.shp ?_
            simp only [Act.put, List.setIfInBounds_toArray, List.set_cons_zero, List.set_cons_succ]
            refine early_take (i := 5) 53 v2 rfl rfl (by kernel_rfl) (by kernel_rfl) (by kernel_rfl) (by kernel_rfl) rfl (fun _ _ _ h => h) (fun w' hw' => by go_simp) E.out.shp ?_
            simp only [Act.put, List.setIfInBounds_toArray, List.set_cons_zero, List.set_cons_succ]
            refine early_only (i := 7) (by kernel_rfl) rfl (fun K hK => ?_)
            simp only [opWp, List.getElem?_toArray, List.getElem?_cons_succ, List.getElem?_cons_zero]
            refine wp_store_part 37 (.tmp 13) (.tmp 52) rfl P 0 37 zcs (ics (fld D 0 8) (fld D 8 2) (fld D 10 2) A1 g c1 B1 l d1) rfl rfl BX.out size37 (by simp) (ics_one _ _ _ _ _ _ _ _ _) ?_
            intro we hat hb
            have R := Lib.hid (show Dce w we #[.int .i64 (m : Int), .int .i64 (b : Int), .int .i64 (g : Int), .int .i64 (s : Int), .int .i64 (n : Int), .int .i64 (l : Int)] P A1 c1 B1 d1 v2 D g l from ⟨E.out.shp.but hb (by have := PB.out; omega), E.out.res.but hb (by have := PB.out; omega), hat, IM.out.but hb (fun h0 x hx => XA.out x hx) (fun h0 x hx => XB.out x hx), own_but OV.out hb (fun x hx => XV.out x hx), IA.out, IB.out, E.out.bel.trans (hb.below (fun x e => by have := PB.out; omega) E.out.bel.size)⟩)
            clear hat hb
            refine hK _ _ (fun _ => R.out.shp) ?_
            clear hK
            refine early_take (i := 8) 14 v2 rfl rfl (by kernel_rfl) (by kernel_rfl) (by kernel_rfl) (by kernel_rfl) rfl (fun _ _ _ h => h) (fun w' hw' => by go_simp) R.out.shp ?_
            simp only [Act.put, List.setIfInBounds_toArray, List.set_cons_zero, List.set_cons_succ]
            refine early_done (by kernel_rfl) ?_
            go_wp2_with fail
            go_meet
            exact ⟨P, A1, c1, B1, d1, v2, rfl, rfl, R.out⟩
        case rest =>
          clear E
          obtain ⟨P, A1, c1, B1, d1, v2, rfl, rfl, hE⟩ := hcut
          obtain ⟨A2, c2, rfl, _, _, _, hh2, hx2⟩ := own_slice hE.own
          have H2 := Lib.hid hh2
          have E := Lib.hid hE
          have IF := Lib.hid (img_fits D g l)
          have IMd := Lib.hid (show img D g l = ⟨fld D 0 8, fld D 8 2, fld D 10 2, sgUpto D g, mpUpto D (12 + 9 * g) l⟩ from rfl)
          have j0 := hE.box.cell 0; have j1 := hE.box.cell 1; have j2 := hE.box.cell 2; have j3 := hE.box.cell 3; have j4 := hE.box.cell 4
          have k0 := hE.shp.cell 0; have k1 := hE.shp.cell 1; have k2 := hE.shp.cell 2; have k3 := hE.shp.cell 3; have k4 := hE.shp.cell 4; have k5 := hE.shp.cell 5
          clear hE hh2 hx2
          have NL := Lib.hid (show D.length - (12 + 9 * g + 4 * l) ≤ 1000000 by rw [DL.out]; have := NM.out; omega)
          by_cases hf : (img D g l).fine m g s
          · have HF := Lib.hid hf
            clear hf
            go_wp2_with fail
            clear j0 j1 j2 j3 j4 k0 k1 k2 k3 k4 k5
            refine (fits_of m b g s n l (fld D 0 8) (fld D 8 2) (fld D 10 2) A1 g c1 B1 l d1 (sgUpto D g) (mpUpto D (12 + 9 * g) l) true _ BN.out (by omega) (by omega) IF.out E.out.im (Iff.intro (fun _ => HF.out) (fun _ => rfl))).mono ?_
            rintro e w5 ⟨rfl, hb5⟩
            have E := Lib.hid (E.out.up hb5)
            have H2 := Lib.hid (H2.out.below hb5)
            clear hb5
            by_cases hz : None0 (D.drop (12 + 9 * g + 4 * l))
            · have HZ := Lib.hid hz
              clear hz
              go_wp2_with fail
              refine (zeros_yes A2 _ c2 (D.drop (12 + 9 * g + 4 * l)) _ NL.out H2.out HZ.out).mono ?_
              rintro e w6 ⟨rfl, rfl⟩
              have j0 := E.out.box.cell 0; have j1 := E.out.box.cell 1; have j2 := E.out.box.cell 2; have j3 := E.out.box.cell 3; have j4 := E.out.box.cell 4
              go_wp2_with (refine wpList_store_part rfl 37 (.tmp 6) (.tmp 64) rfl (w.heap.size + 1) 0 37 zcs (ics (fld D 0 8) (fld D 8 2) (fld D 10 2) A1 g c1 B1 l d1) rfl rfl E.out.res size37 (by simp) (ics_one _ _ _ _ _ _ _ _ _) ?_; intro w7 hat7 hb7; have R := Lib.hid (show At w7 (w.heap.size + 1) (ics (fld D 0 8) (fld D 8 2) (fld D 10 2) A1 g c1 B1 l d1) 37 from hat7); have BB := Lib.hid hb7; clear hat7 hb7)
              refine bodyPost_ret (results_cell_slot (p := 6) (u := 7) (ty := 37) rfl _ _ (w.heap.size + 1) (ics (fld D 0 8) (fld D 8 2) (fld D 10 2) A1 g c1 B1 l d1) _ rfl R.out Try.underlying37 size37) rfl ?_
              exact ⟨(img D g l, 0), DG.out _ (fun _ _ => rfl) (fun h => (h ⟨HF.out, HZ.out⟩).elim), Answer.good (x := img D g l) (E.out.im.but BB.out (fun h0 x hx e => by have := E.out.la x hx; omega) (fun h0 x hx e => by have := E.out.lb x hx; omega)) (E.out.bel.trans (BB.out.below (fun x e => by omega) E.out.bel.size))⟩
            · have HZ := Lib.hid hz
              clear hz
              go_wp2_with fail
              refine (zeros_no A2 _ c2 (D.drop (12 + 9 * g + 4 * l)) _ NL.out H2.out HZ.out).mono ?_
              rintro e w6 ⟨rfl, rfl⟩
              go_wp2_with (refine wpList_store_part rfl 37 (.tmp 6) (.tmp 63) rfl (w.heap.size + 1) 0 37 zcs zcs rfl rfl E.out.res size37 (by simp) (by simp [Value.oneCell']) ?_; intro w6 hat6 hb6; have R := Lib.hid (show At w6 (w.heap.size + 1) zcs 37 from hat6); have BB := Lib.hid hb6; clear hat6 hb6)
              refine bodyPost_ret (results_cell_slot (p := 6) (u := 7) (ty := 37) rfl _ _ (w.heap.size + 1) zcs _ rfl R.out Try.underlying37 size37) rfl ?_
              exact ⟨(Im.zero, 4), DG.out _ (fun h1 h2 => (HZ.out h2).elim) (fun _ => rfl), Answer.empty (E.out.bel.trans (BB.out.below (fun x e => by omega) E.out.bel.size))⟩
          · have HF := Lib.hid hf
            clear hf
            go_wp2_with fail
            clear j0 j1 j2 j3 j4 k0 k1 k2 k3 k4 k5
            refine (fits_of m b g s n l (fld D 0 8) (fld D 8 2) (fld D 10 2) A1 g c1 B1 l d1 (sgUpto D g) (mpUpto D (12 + 9 * g) l) false _ BN.out (by omega) (by omega) IF.out E.out.im (Iff.intro (fun h => by cases h) (fun h => (HF.out h).elim))).mono ?_
            rintro e w5 ⟨rfl, hb5⟩
            have E := Lib.hid (E.out.up hb5)
            have H2 := Lib.hid (H2.out.below hb5)
            clear hb5
            go_wp2_with (refine wpList_store_part rfl 37 (.tmp 6) (.tmp 63) rfl (w.heap.size + 1) 0 37 zcs zcs rfl rfl E.out.res size37 (by simp) (by simp [Value.oneCell']) ?_; intro w6 hat6 hb6; have R := Lib.hid (show At w6 (w.heap.size + 1) zcs 37 from hat6); have BB := Lib.hid hb6; clear hat6 hb6)
            refine bodyPost_ret (results_cell_slot (p := 6) (u := 7) (ty := 37) rfl _ _ (w.heap.size + 1) zcs _ rfl R.out Try.underlying37 size37) rfl ?_
            exact ⟨(Im.zero, 4), DG.out _ (fun h1 h2 => (HF.out h1).elim) (fun _ => rfl), Answer.empty (E.out.bel.trans (BB.out.below (fun x e => by omega) E.out.bel.size))⟩

  · have hne2 : ((na : Int) != (np : Int)) = true := by simp; omega
    go_wp2_with (refine wpList_store_part rfl 37 (.tmp 6) (.tmp 24) rfl (w.heap.size + 1) 0 37 zcs zcs rfl rfl RS.out size37 (by simp) (by simp [Value.oneCell']) ?_; intro w4 hat4 hb4; have R := Lib.hid (show At w4 (w.heap.size + 1) zcs 37 from hat4); have BB := Lib.hid hb4; clear hat4 hb4)
    refine bodyPost_ret (results_cell_slot (p := 6) (u := 7) (ty := 37) rfl _ _ (w.heap.size + 1) zcs _ rfl R.out Try.underlying37 size37) rfl ?_
    exact ⟨(Im.zero, 6), Dec.size (by rw [LB.out]; exact hne), Answer.empty (BW.out.trans (BB.out.below (fun k e => by omega) BW.out.size))⟩
end Go.Proofs.Ytlmponcoghfghaa
