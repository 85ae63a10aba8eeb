/-
  THE WALK OF right.
-/
import Derived.Test.YtpijapnidnkknaaNums
import Derived.Deep.CutRange
namespace Go.Proofs.Ytpijapnidnkknaa
open Go.RowKit
set_option linter.unusedVariables false
set_option maxRecDepth 100000


theorem first_append (L : List Sg) (x : Sg) : first (L ++ [x]) = if first L < 0 then (if x.st = 0 then (L.length : Int) else -1) else first L := by
  unfold first
  rw [List.findIdx?_append]
  cases h : L.findIdx? (fun x => x.st == 0) with
  | none =>
    by_cases e : x.st = 0
    · simp [List.findIdx?_cons, e]
    · simp [List.findIdx?_cons, e]
  | some i =>
    simp
    intro h2
    omega
theorem first_next {T : List Sg} {k : Nat} (h : k < T.length) : first (T.take (k + 1)) = if first (T.take k) < 0 then (if T[k].st = 0 then (k : Int) else -1) else first (T.take k) := by
  rw [List.take_succ_eq_append_getElem h, first_append]
  rw [show (T.take k).length = k by rw [List.length_take]; omega]
theorem first_less {L : List Sg} (h : first L < 0) : first L = -1 := by have := first_ge L; omega
theorem first_keep {T : List Sg} {k : Nat} (h : k < T.length) (hn : ¬ (T[k].st = 0 ∧ first (T.take k) < 0)) : first (T.take (k + 1)) = first (T.take k) := by
  rw [first_next h]
  by_cases h1 : first (T.take k) < 0
  · rw [if_pos h1, if_neg (fun e => hn ⟨e, h1⟩), first_less h1]
  · rw [if_neg h1]
theorem first_here {T : List Sg} {k : Nat} (h : k < T.length) (e : T[k].st = 0) (h1 : first (T.take k) < 0) : first (T.take (k + 1)) = (k : Int) := by
  rw [first_next h, if_pos h1, if_pos e]

/-- What right keeps: the table, what the law has, how many of each, the dead ones. -/
structure Rt (w0 w : World) (g r h : Nat) (T : List Sg) (k : Nat) (A : Option Addr) (c : Nat) : Prop where
  tb : Tb w g r T
  hv : Rg w h T
  mn : At w w0.heap.size #[.int .i64 (many (T.take k) 0 : Int), .int .i64 (many (T.take k) 1 : Int), .int .i64 (many (T.take k) 2 : Int)] 51
  dd : w.ownsRow (w0.heap.size + 1) 3 1 (.slice A (deadTo T k).length c) (deadTo T k).length (ints (deadTo T k))
  bel : Below w0.heap.size w0 w
  low : g < w0.heap.size ∧ r < w0.heap.size ∧ h < w0.heap.size
theorem Rt.up {w0 w w' : World} {g r h : Nat} {T : List Sg} {k : Nat} {A : Option Addr} {c : Nat} (R : Rt w0 w g r h T k A c) (hb : Below w.heap.size w w') : Rt w0 w' g r h T k A c :=
  ⟨R.tb.below hb, R.hv.but (S := fun _ => False) (But.of_below hb) (fun h => h), R.mn.below hb R.mn.lt, own_below R.dd hb, R.bel.trans (hb.mono R.bel.size), R.low⟩
/-- One more was counted. -/
theorem Rt.count {w0 w w' : World} {g r h : Nat} {T : List Sg} {k : Nat} {A : Option Addr} {c : Nat} {a0 a1 a2 : Nat} (R : Rt w0 w g r h T k A c) (hb : But (fun k => k = w0.heap.size) w w')
    (hm : At w' w0.heap.size #[.int .i64 (a0 : Int), .int .i64 (a1 : Int), .int .i64 (a2 : Int)] 51) (h0 : many (T.take (k + 1)) 0 = a0) (h1 : many (T.take (k + 1)) 1 = a1) (h2 : many (T.take (k + 1)) 2 = a2) (hd : dies T k = false) : Rt w0 w' g r h T (k + 1) A c := by
  refine ⟨R.tb.but hb (by have := R.low; omega) (by have := R.low; omega), R.hv.but hb (by have := R.low; omega), ?_, ?_, R.bel.trans (hb.below (fun k e => Nat.le_of_eq e.symm) R.bel.size), R.low⟩
  · rw [h0, h1, h2]; exact hm
  · rw [deadTo_no hd]
    exact own_but R.dd hb (fun k hk e => by have := (R.dd.lt k hk).1; omega)

/-- One more was counted, and is dead. -/
theorem Rt.push {w0 w w1 w2 w3 : World} {g r h : Nat} {T : List Sg} {k n : Nat} {A A' : Option Addr} {c c' : Nat} {a0 a1 a2 : Nat} (R : Rt w0 w g r h T k A c) (hb : But (fun k => k = w0.heap.size) w w1)
    (hm : At w1 w0.heap.size #[.int .i64 (a0 : Int), .int .i64 (a1 : Int), .int .i64 (a2 : Int)] 51) (h0 : many (T.take (k + 1)) 0 = a0) (h1 : many (T.take (k + 1)) 1 = a1) (h2 : many (T.take (k + 1)) 2 = a2) (ha : Below w1.heap.size w1 w2)
    (hown : w3.ownsRow (w0.heap.size + 1) 3 1 (.slice A' n c') n (ints (deadTo T k ++ [(k : Int)]))) (hg : w2.grownBy w3 (Value.slice A (deadTo T k).length c).ownBlock) (hd : dies T k = true) : Rt w0 w3 g r h T (k + 1) A' c' := by
  have lo : ∀ i, (Value.slice A (deadTo T k).length c).ownBlock = some i → w0.heap.size + 1 ≤ i := fun i hi => (R.dd.lt i hi).1
  have bt : But (fun i => (Value.slice A (deadTo T k).length c).ownBlock = some i) w2 w3 := (But.refl _ _).grown hg (fun i hi _ => hi)
  have hl := R.low
  have ba : But (fun _ => False) w1 w2 := But.of_below ha
  have hn : n = (deadTo T (k + 1)).length := by rw [deadTo_yes hd]; have := hown.1; rw [ints_len] at this; omega
  refine ⟨((R.tb.but hb (by omega) (by omega)).below ha).but bt (fun e => by have := lo _ e; omega) (fun e => by have := lo _ e; omega), ((R.hv.but hb (by omega)).but ba (fun h => h)).but bt (fun e => by have := lo _ e; omega), ?_, ?_, ?_, hl⟩
  · rw [h0, h1, h2]
    exact (hm.but ba (fun h => h)).but bt (fun e => by have := lo _ e; omega)
  · rw [← hn, deadTo_yes hd]; exact hown
  · exact ((R.bel.trans (hb.below (fun k e => Nat.le_of_eq e.symm) R.bel.size)).trans (ha.mono (Nat.le_trans R.bel.size hb.size))).trans (bt.below (fun i e => by have := lo i e; omega) (Nat.le_trans (Nat.le_trans R.bel.size hb.size) ha.size))

set_option maxHeartbeats 6400000 in
theorem right_any {w : World} {g r h : Nat} {T : List Sg} (hT : Tb w g r T) (hh : Rg w h T) (ho : ∀ x ∈ T, x.ok) :
    Calls Try.prog 13 #[.pointer (some ⟨g, 0, none⟩), .slice (some ⟨h, 0, none⟩) T.length T.length] w fun e w' => e = .returned (.bool true) ∧ Below w.heap.size w w' := by
  have TT := Lib.hid hT
  have HH := Lib.hid hh
  have OK := Lib.hid ho
  have hl := hT.few
  have LO := Lib.hid (show g < w.heap.size ∧ r < w.heap.size ∧ h < w.heap.size from ⟨hT.lt.1, hT.lt.2, At.lt hh⟩)
  clear hT hh ho
  go_enter Try.func13, Try.ntmps13
  go_wp2_with fail
  have R0 := Lib.hid (show Rt w (w.alloc (.cells #[.int .i64 0, .int .i64 0, .int .i64 0] 51)) g r h T 0 none 0 from
    ⟨TT.out.below ((Below.refl _ _).alloc (Nat.le_refl _) _), At.alloc HH.out _, At.new _ 51 rfl, World.ownsRow_nil _ _ _ _, (Below.refl _ _).alloc (Nat.le_refl _) _, LO.out⟩)
  go_loopg [6, 7, 8, 9, 13] T.length (fun gg s6 s7 _ _ s13 wr => ∃ (k : Nat) (A : Option Addr) (c : Nat), k ≤ T.length ∧ T.length - k ≤ gg ∧ s13 = .int .i64 (k : Int) ∧ s6 = .int .i64 (first (T.take k)) ∧ s7 = .slice A (deadTo T k).length c ∧ Rt w wr g r h T k A c)
  case atStart => exact ⟨0, none, 0, Nat.zero_le _, by omega, rfl, rfl, rfl, R0.out⟩
  case round =>
    obtain ⟨k, A, c, hk0, hgg, rfl, rfl, rfl, hR⟩ := hrel
    have RR := Lib.hid hR
    clear hR
    by_cases hlt : k < T.length
    · have hrow := RR.out.hv.cell hlt
      have hok := OK.out _ (List.getElem_mem hlt)
      generalize hX : T[k] = x at hrow hok
      obtain ⟨xs, xl, xb⟩ := x
      have HC := Lib.hid hrow
      have HX := Lib.hid hX
      have FE := Lib.hid (first_ge (T.take k))
      have FL := Lib.hid (first_lt (T := T.take k) (by rw [List.length_take]; omega))
      clear hrow hX
      go_wp2_with (first
        | (refine wpList_load_part rfl 33 (.tmp 16) rfl h (k * 3) (Sg.ag ⟨xs, xl, xb⟩) _ rfl (fun j hj => HC.out j hj) Try.underlying33 rfl seg_size ?_)
        | (refine wpList_store_part rfl 33 (.tmp 9) (.tmp 17) rfl wr.heap.size 0 33 Sg.zero.ag (Sg.ag ⟨xs, xl, xb⟩) rfl rfl (At.new _ _ rfl) seg_size (by show 0 + 3 ≤ 3; omega) (ag_one _) ?_))
      intro w2 hat hb
      rw [part_whole] at hat
      have B2 := Lib.hid (show Below wr.heap.size wr w2 from (((But.refl (fun k => k = wr.heap.size) wr).alloc _).trans hb (fun _ h _ => h)).below (fun k e => Nat.le_of_eq e.symm) (Nat.le_refl _))
      have R2 := Lib.hid (RR.out.up B2.out)
      have X2 := Lib.hid hat
      have SE := Lib.hid (seg_in hlt)
      rw [HX.out] at SE
      have BX := Lib.hid (show w.heap.size < wr.heap.size from RR.out.mn.lt)
      clear hat hb B2 HC RR
      generalize wr.heap.size = bx at *
      go_wp2_with fail
      refine wp_region_early (fun w' => At w' bx (Sg.ag ⟨xs, xl, xb⟩) 33) (fun i => true) (by kernel_rfl) ?_
      simp only [List.size_toArray, List.length_cons, List.length_nil]
      have S0 : (fun w' => At w' bx (Sg.ag ⟨xs, xl, xb⟩) 33) w2.drew := X2.out
      have hneq := fun w => seg_neq_no xs xl xb w
      refine early_take (i := 0) 18 (.pointer (some ⟨g, 0, none⟩)) rfl rfl (by kernel_rfl) (by kernel_rfl) (by kernel_rfl) (by kernel_rfl) rfl (fun _ _ _ h => h) (fun w' hw' => by go_simp) S0 ?_
      simp only [Act.put, List.setIfInBounds_toArray, List.set_cons_zero, List.set_cons_succ]
      refine early_take (i := 1) 19 (.int .i64 (k : Int)) rfl rfl (by kernel_rfl) (by kernel_rfl) (by kernel_rfl) (by kernel_rfl) rfl (fun _ _ _ h => h) (fun w' hw' => by go_simp) S0 ?_
      simp only [Act.put, List.setIfInBounds_toArray, List.set_cons_zero, List.set_cons_succ]
      refine early_take (i := 3) 21 (.agg (Sg.ag ⟨xs, xl, xb⟩)) rfl rfl (by kernel_rfl) (by kernel_rfl) (by kernel_rfl) (by kernel_rfl) rfl (fun _ _ _ h => h) (fun w' hw' => exec_load_whole (x := .tmp 9) rfl rfl hw' Try.underlying33 seg_size) S0 ?_
      simp only [Act.put, List.setIfInBounds_toArray, List.set_cons_zero, List.set_cons_succ]
      refine early_only (i := 2) (by kernel_rfl) rfl (fun K hK => ?_)
      simp only [opWp, List.getElem?_toArray, List.getElem?_cons_succ, List.getElem?_cons_zero]
      go_simp
      go_at_call 14
      refine (at_any (k : Int) (R2.out.up (below_drewN (Below.refl _ _) 1)).tb).mono ?_
      rintro e w5 ⟨rfl, hb5⟩
      rw [SE.out]
      have R5 := Lib.hid ((R2.out.up (below_drewN (Below.refl _ _) 1)).up hb5)
      have X5 := Lib.hid (At.below (show At w2.drew bx (Sg.ag ⟨xs, xl, xb⟩) 33 from X2.out) hb5 (At.lt X2.out))
      have S5 : (fun w' => At w' bx (Sg.ag ⟨xs, xl, xb⟩) 33) w5 := X5.out
      clear hb5
      refine hK _ _ (fun _ => S5) ?_
      refine early_take (i := 4) 22 (.bool false) rfl rfl (by kernel_rfl) (by kernel_rfl) (by kernel_rfl) (by kernel_rfl) rfl (fun _ _ _ h => h) (fun w' hw' => by go_simp) S5 ?_
      simp only [Act.put, List.setIfInBounds_toArray, List.set_cons_zero, List.set_cons_succ]
      refine early_done (by kernel_rfl) ?_
      clear S0 S5 hneq hK
      have e0 : w5.cell? ⟨bx, 0, none⟩ = some (.int .i64 xs) := X5.out.cell 0
      have e1 : w5.cell? ⟨bx, 1, none⟩ = some (.int .i64 xl) := X5.out.cell 1
      have m0 : w5.cell? ⟨w.heap.size, 0, none⟩ = some (.int .i64 (many (T.take k) 0 : Int)) := R5.out.mn.cell 0
      have m1 : w5.cell? ⟨w.heap.size, 1, none⟩ = some (.int .i64 (many (T.take k) 1 : Int)) := R5.out.mn.cell 1
      have m2 : w5.cell? ⟨w.heap.size, 2, none⟩ = some (.int .i64 (many (T.take k) 2 : Int)) := R5.out.mn.cell 2
      have f0 := R5.out.mn.frozen 0
      have f1 := R5.out.mn.frozen 1
      have f2 := R5.out.mn.frozen 2
      have h0 := many_few hl 0 k
      have h1 := many_few hl 1 k
      have h2 := many_few hl 2 k
      have N0 := Lib.hid (many_next T 0 hlt)
      have N1 := Lib.hid (many_next T 1 hlt)
      have N2 := Lib.hid (many_next T 2 hlt)
      have DD := Lib.hid (dies_at hlt HX.out)
      have BN := Lib.hid (show ¬ bx = w.heap.size by have := BX.out; omega)
      rw [HX.out] at N0 N1 N2
      have FK := Lib.hid (fun hn => first_keep (T := T) (k := k) hlt hn)
      have FH := Lib.hid (fun hn hf => first_here (T := T) (k := k) hlt hn hf)
      rw [HX.out] at FK FH
      by_cases hx0 : xs = 0
      · subst hx0
        have W6 := Lib.hid (X5.out.other (p := ⟨w.heap.size, 0, none⟩) (fun e => BN.out e.symm) (.int .i64 ((many (T.take k) 0 : Int) + 1)))
        have BS := Lib.hid ((But.refl (fun k => k = w.heap.size) w5).setCell (p := ⟨w.heap.size, 0, none⟩) (fun _ => rfl) (.int .i64 ((many (T.take k) 0 : Int) + 1)))
        have M6 := Lib.hid (R5.out.mn.set 0 (.int .i64 ((many (T.take k) 0 : Int) + 1)))
        have e0' := W6.out.cell 0
        have e1' := W6.out.cell 1
        have R6 := Lib.hid (R5.out.count (a0 := many (T.take k) 0 + 1) BS.out M6.out (by rw [N0.out]; rfl) (by rw [N1.out]; rfl) (by rw [N2.out]; rfl) (by rw [DD.out]; rfl))
        have DN := Lib.hid (deadTo_no (T := T) (k := k) (by rw [DD.out]; rfl))
        by_cases hf : first (T.take k) < 0
        · have FF := Lib.hid (FH.out rfl hf)
          go_wp2
          go_roundg (T.length - (k + 1))
          case measure => omega
          case rel => exact ⟨k + 1, A, c, by omega, Nat.le_refl _, by go_num, by rw [FF.out], by rw [DN.out], R6.out⟩
        · have FF := Lib.hid (FK.out (fun h => hf h.2))
          go_wp2
          go_roundg (T.length - (k + 1))
          case measure => omega
          case rel => exact ⟨k + 1, A, c, by omega, Nat.le_refl _, by go_num, by rw [FF.out], by rw [DN.out], R6.out⟩
      · have FF := Lib.hid (FK.out (fun h => hx0 h.1))
        by_cases hx1 : xs = 1
        · subst hx1
          have W6 := Lib.hid (X5.out.other (p := ⟨w.heap.size, 1, none⟩) (fun e => BN.out e.symm) (.int .i64 ((many (T.take k) 1 : Int) + 1)))
          have BS := Lib.hid ((But.refl (fun k => k = w.heap.size) w5).setCell (p := ⟨w.heap.size, 1, none⟩) (fun _ => rfl) (.int .i64 ((many (T.take k) 1 : Int) + 1)))
          have M6 := Lib.hid (R5.out.mn.set 1 (.int .i64 ((many (T.take k) 1 : Int) + 1)))
          have e0' := W6.out.cell 0
          have e1' := W6.out.cell 1
          have R6 := Lib.hid (R5.out.count (a1 := many (T.take k) 1 + 1) BS.out M6.out (by rw [N0.out]; rfl) (by rw [N1.out]; rfl) (by rw [N2.out]; rfl) (by rw [DD.out]; rfl))
          have DN := Lib.hid (deadTo_no (T := T) (k := k) (by rw [DD.out]; rfl))
          go_wp2
          go_roundg (T.length - (k + 1))
          case measure => omega
          case rel => exact ⟨k + 1, A, c, by omega, Nat.le_refl _, by go_num, by rw [FF.out], by rw [DN.out], R6.out⟩
        · obtain rfl : xs = 2 := by rcases hok with e | e | e; exact (hx0 e).elim; exact (hx1 e).elim; exact e
          clear hx0 hx1
          have W6 := Lib.hid (X5.out.other (p := ⟨w.heap.size, 2, none⟩) (fun e => BN.out e.symm) (.int .i64 ((many (T.take k) 2 : Int) + 1)))
          have BS := Lib.hid ((But.refl (fun k => k = w.heap.size) w5).setCell (p := ⟨w.heap.size, 2, none⟩) (fun _ => rfl) (.int .i64 ((many (T.take k) 2 : Int) + 1)))
          have M6 := Lib.hid (R5.out.mn.set 2 (.int .i64 ((many (T.take k) 2 : Int) + 1)))
          have e0' := W6.out.cell 0
          have e1' := W6.out.cell 1
          by_cases hv : xl = 0
          · subst hv
            have DY := Lib.hid (deadTo_yes (T := T) (k := k) (by rw [DD.out]; rfl))
            have DT := Lib.hid (show dies T k = true by rw [DD.out]; rfl)
            have DL := Lib.hid (deadTo_len T k)
            have D6 := Lib.hid (show (w5.setCell ⟨w.heap.size, 2, none⟩ (.int .i64 ((many (T.take k) 2 : Int) + 1))).ownsRow (w.heap.size + 1) 3 1 (.slice A (deadTo T k).length c) (deadTo T k).length (ints (deadTo T k)) from own_but R5.out.dd BS.out (fun k hk e => by have := (R5.out.dd.lt k hk).1; omega))
            have B7 := Lib.hid ((Below.refl (w5.setCell ⟨w.heap.size, 2, none⟩ (.int .i64 ((many (T.take k) 2 : Int) + 1))).heap.size (w5.setCell ⟨w.heap.size, 2, none⟩ (.int .i64 ((many (T.take k) 2 : Int) + 1)))).alloc (Nat.le_refl _) (.cells #[.int .i64 (k : Int)] 3))
            have SZ := Lib.hid (show w.heap.size + 1 ≤ (w5.setCell ⟨w.heap.size, 2, none⟩ (.int .i64 ((many (T.take k) 2 : Int) + 1))).heap.size from (M6.out.lt))
            go_wp2_with (at_builtin; refine wpList_append_int rfl (.tmp 53) (.tmp 55) rfl (w.heap.size + 1) (.slice A (deadTo T k).length c) (deadTo T k).length (deadTo T k) rfl (own_below D6.out B7.out) _ 1 1 [(k : Int)] rfl rfl (int_src (At.new _ 3 (by simp [World.setCell]))) (by have := DL.out; omega) (Nat.le_trans SZ.out B7.out.size) ?_; intro A9 c9 w9 hown9 hg9 hf9; have R9 := Lib.hid (R5.out.push (a2 := many (T.take k) 2 + 1) BS.out M6.out (by rw [N0.out]; rfl) (by rw [N1.out]; rfl) (by rw [N2.out]; rfl) B7.out hown9 hg9 DT.out); clear hown9 hg9 hf9)
            go_roundg (T.length - (k + 1))
            case measure => omega
            case rel => exact ⟨k + 1, A9, c9, by omega, Nat.le_refl _, by go_num, by rw [FF.out], by rw [DY.out, List.length_append]; rfl, R9.out⟩
          · have DF := Lib.hid (show dies T k = false by rw [DD.out]; simpa using hv)
            have R6 := Lib.hid (R5.out.count (a2 := many (T.take k) 2 + 1) BS.out M6.out (by rw [N0.out]; rfl) (by rw [N1.out]; rfl) (by rw [N2.out]; rfl) (DF.out))
            have DN := Lib.hid (deadTo_no (T := T) (k := k) (DF.out))
            go_wp2
            go_roundg (T.length - (k + 1))
            case measure => omega
            case rel => exact ⟨k + 1, A, c, by omega, Nat.le_refl _, by go_num, by rw [FF.out], by rw [DN.out], R6.out⟩
    · obtain rfl : k = T.length := by omega
      have RR2 := RR.out
      have hdl : deadTo T T.length = dead T := rfl
      rw [List.take_of_length_le (Nat.le_refl _), hdl]
      have MN := Lib.hid (show At wr w.heap.size #[.int .i64 (many T 0 : Int), .int .i64 (many T 1 : Int), .int .i64 (many T 2 : Int)] 51 by have := RR2.mn; rwa [List.take_of_length_le (Nat.le_refl _)] at this)
      have DX := Lib.hid (show wr.ownsRow (w.heap.size + 1) 3 1 (.slice A (dead T).length c) (dead T).length (ints (dead T)) from RR2.dd)
      have TT2 := Lib.hid RR2.tb
      have HV := Lib.hid RR2.hv
      have BB := Lib.hid RR2.bel
      have DLe := Lib.hid (Nat.le_trans (dead_le T) (many_le T 2))
      clear RR2 hdl RR R0
      generalize hb5 : w.heap.size = b5 at MN
      have B5 := Lib.hid hb5
      go_wp2_with fail
      clear hb5
      refine wp_region_early (fun w' => w'.cell? ⟨b5, 0, none⟩ = some (.int .i64 (many T 0 : Int)) ∧ w'.cell? ⟨b5, 1, none⟩ = some (.int .i64 (many T 1 : Int)) ∧ w'.cell? ⟨b5, 2, none⟩ = some (.int .i64 (many T 2 : Int))) (fun i => true) (by kernel_rfl) ?_
      change wpEarly _ _ _ _ _ _ 38 (Array.replicate 38 false) _ wr.drew
      have S0 : (fun w' => w'.cell? ⟨b5, 0, none⟩ = some (.int .i64 (many T 0 : Int)) ∧ w'.cell? ⟨b5, 1, none⟩ = some (.int .i64 (many T 1 : Int)) ∧ w'.cell? ⟨b5, 2, none⟩ = some (.int .i64 (many T 2 : Int))) wr.drew := ⟨MN.out.cell 0, MN.out.cell 1, MN.out.cell 2⟩
      have TT2 := Lib.hid (show Tb wr.drew g r T from TT2.out.below (below_drewN (Below.refl _ _) 1))
      have HV := Lib.hid (show Rg wr.drew h T from HV.out)
      have MN := Lib.hid (show At wr.drew b5 #[.int .i64 (many T 0 : Int), .int .i64 (many T 1 : Int), .int .i64 (many T 2 : Int)] 51 from MN.out)
      have DX := Lib.hid (show wr.drew.ownsRow (w.heap.size + 1) 3 1 (.slice A (dead T).length c) (dead T).length (ints (dead T)) from own_below DX.out (below_drewN (Below.refl _ _) 1))
      have BB := Lib.hid (show Below w.heap.size w wr.drew from below_drewN BB.out 1)
      generalize wr.drew = v0 at *
      refine early_take (i := 0) 58 (.pointer (some ⟨g, 0, none⟩)) rfl rfl (by kernel_rfl) (by kernel_rfl) (by kernel_rfl) (by kernel_rfl) rfl (fun _ _ _ h => h) (fun w' hw' => by go_simp) S0 ?_
      simp only [Act.put, List.setIfInBounds_toArray, List.set_cons_zero, List.set_cons_succ]
      refine early_take (i := 2) 60 (.slice (some ⟨h, 0, none⟩) T.length T.length) rfl rfl (by kernel_rfl) (by kernel_rfl) (by kernel_rfl) (by kernel_rfl) rfl (fun _ _ _ h => h) (fun w' hw' => by go_simp) S0 ?_
      simp only [Act.put, List.setIfInBounds_toArray, List.set_cons_zero, List.set_cons_succ]
      refine early_only (i := 1) (by kernel_rfl) rfl (fun K hK => ?_)
      simp only [opWp, List.getElem?_toArray, List.getElem?_cons_succ, List.getElem?_cons_zero]
      go_simp
      go_at_call 16
      refine (all_any TT2.out).mono ?_
      rintro e v1 ⟨A3, c3, rfl, ho, hb⟩
      have TT2 := Lib.hid (TT2.out.below hb)
      have HV := Lib.hid (HV.out.but (S := fun _ => False) (But.of_below hb) (fun h => h))
      have MN := Lib.hid (MN.out.below hb MN.out.lt)
      have DX := Lib.hid (own_below DX.out hb)
      have BB := Lib.hid (BB.out.trans (hb.mono BB.out.size))
      have S1 : (fun w' => w'.cell? ⟨b5, 0, none⟩ = some (.int .i64 (many T 0 : Int)) ∧ w'.cell? ⟨b5, 1, none⟩ = some (.int .i64 (many T 1 : Int)) ∧ w'.cell? ⟨b5, 2, none⟩ = some (.int .i64 (many T 2 : Int))) v1 := ⟨MN.out.cell 0, MN.out.cell 1, MN.out.cell 2⟩
      obtain ⟨A4, c4, e4, hs, _⟩ := Sgs.of_own ho
      injection e4 with e5 e6 e7
      subst e5 e7
      have SG := Lib.hid hs
      clear hs ho hb
      refine hK _ _ (fun _ => S1) ?_
      refine early_only (i := 3) (by kernel_rfl) rfl (fun K hK => ?_)
      simp only [opWp, List.getElem?_toArray, List.getElem?_cons_succ, List.getElem?_cons_zero]
      go_simp
      go_at_call 21
      refine (equalS_yes A3 (some ⟨h, 0, none⟩) T.length c3 T.length T v1 (by omega) SG.out (Sgs.of_rg HV.out)).mono ?_
      rintro e v2 ⟨rfl, m2, hw⟩
      have hb : Below v1.heap.size v1 v2 := by rw [hw]; exact below_drewN (Below.refl _ _) m2
      have TT2 := Lib.hid (TT2.out.below hb)
      have HV := Lib.hid (HV.out.but (S := fun _ => False) (But.of_below hb) (fun h => h))
      have MN := Lib.hid (MN.out.below hb MN.out.lt)
      have DX := Lib.hid (own_below DX.out hb)
      have BB := Lib.hid (BB.out.trans (hb.mono BB.out.size))
      have S2 : (fun w' => w'.cell? ⟨b5, 0, none⟩ = some (.int .i64 (many T 0 : Int)) ∧ w'.cell? ⟨b5, 1, none⟩ = some (.int .i64 (many T 1 : Int)) ∧ w'.cell? ⟨b5, 2, none⟩ = some (.int .i64 (many T 2 : Int))) v2 := ⟨MN.out.cell 0, MN.out.cell 1, MN.out.cell 2⟩
      clear hb hw SG
      refine hK _ _ (fun _ => S2) ?_
      refine early_take (i := 4) 62 (.bool true) rfl rfl (by kernel_rfl) (by kernel_rfl) (by kernel_rfl) (by kernel_rfl) rfl (fun _ _ _ h => h) (fun w' hw' => by go_simp) S2 ?_
      simp only [Act.put, List.setIfInBounds_toArray, List.set_cons_zero, List.set_cons_succ]
      refine early_take (i := 5) 63 (.pointer (some ⟨g, 0, none⟩)) rfl rfl (by kernel_rfl) (by kernel_rfl) (by kernel_rfl) (by kernel_rfl) rfl (fun _ _ _ h => h) (fun w' hw' => by go_simp) S2 ?_
      simp only [Act.put, List.setIfInBounds_toArray, List.set_cons_zero, List.set_cons_succ]
      refine early_take (i := 7) 65 (.pointer (some ⟨b5, 0, none⟩)) rfl rfl (by kernel_rfl) (by kernel_rfl) (by kernel_rfl) (by kernel_rfl) rfl (fun _ _ _ h => h) (fun w' hw' => by go_simp) S2 ?_
      simp only [Act.put, List.setIfInBounds_toArray, List.set_cons_zero, List.set_cons_succ]
      refine early_take (i := 8) 66 (.int .i64 (many T 0 : Int)) rfl rfl (by kernel_rfl) (by kernel_rfl) (by kernel_rfl) (by kernel_rfl) rfl (fun _ _ _ h => h) (fun w' hw' => by obtain ⟨k1, k2, k3⟩ := hw'; go_simp) S2 ?_
      simp only [Act.put, List.setIfInBounds_toArray, List.set_cons_zero, List.set_cons_succ]
      refine early_only (i := 6) (by kernel_rfl) rfl (fun K hK => ?_)
      simp only [opWp, List.getElem?_toArray, List.getElem?_cons_succ, List.getElem?_cons_zero]
      go_simp
      go_at_call 17
      refine (many_any 0 TT2.out).mono ?_
      rintro e v3 ⟨rfl, hb⟩
      have TT2 := Lib.hid (TT2.out.below hb)
      have HV := Lib.hid (HV.out.but (S := fun _ => False) (But.of_below hb) (fun h => h))
      have MN := Lib.hid (MN.out.below hb MN.out.lt)
      have DX := Lib.hid (own_below DX.out hb)
      have BB := Lib.hid (BB.out.trans (hb.mono BB.out.size))
      have S3 : (fun w' => w'.cell? ⟨b5, 0, none⟩ = some (.int .i64 (many T 0 : Int)) ∧ w'.cell? ⟨b5, 1, none⟩ = some (.int .i64 (many T 1 : Int)) ∧ w'.cell? ⟨b5, 2, none⟩ = some (.int .i64 (many T 2 : Int))) v3 := ⟨MN.out.cell 0, MN.out.cell 1, MN.out.cell 2⟩
      clear hb
      refine hK _ _ (fun _ => S3) ?_
      refine early_take (i := 9) 67 (.bool true) rfl rfl (by kernel_rfl) (by kernel_rfl) (by kernel_rfl) (by kernel_rfl) rfl (fun _ _ _ h => h) (fun w' hw' => by go_simp) S3 ?_
      simp only [Act.put, List.setIfInBounds_toArray, List.set_cons_zero, List.set_cons_succ]
      refine early_take (i := 10) 68 (.bool true) rfl rfl (by kernel_rfl) (by kernel_rfl) (by kernel_rfl) (by kernel_rfl) rfl (fun _ _ _ h => h) (fun w' hw' => by go_simp) S3 ?_
      simp only [Act.put, List.setIfInBounds_toArray, List.set_cons_zero, List.set_cons_succ]
      refine early_take (i := 11) 69 (.bool true) rfl rfl (by kernel_rfl) (by kernel_rfl) (by kernel_rfl) (by kernel_rfl) rfl (fun _ _ _ h => h) (fun w' hw' => by go_simp) S3 ?_
      simp only [Act.put, List.setIfInBounds_toArray, List.set_cons_zero, List.set_cons_succ]
      refine early_take (i := 12) 70 (.pointer (some ⟨g, 0, none⟩)) rfl rfl (by kernel_rfl) (by kernel_rfl) (by kernel_rfl) (by kernel_rfl) rfl (fun _ _ _ h => h) (fun w' hw' => by go_simp) S3 ?_
      simp only [Act.put, List.setIfInBounds_toArray, List.set_cons_zero, List.set_cons_succ]
      refine early_take (i := 14) 72 (.pointer (some ⟨b5, 1, none⟩)) rfl rfl (by kernel_rfl) (by kernel_rfl) (by kernel_rfl) (by kernel_rfl) rfl (fun _ _ _ h => h) (fun w' hw' => by go_simp) S3 ?_
      simp only [Act.put, List.setIfInBounds_toArray, List.set_cons_zero, List.set_cons_succ]
      refine early_take (i := 15) 73 (.int .i64 (many T 1 : Int)) rfl rfl (by kernel_rfl) (by kernel_rfl) (by kernel_rfl) (by kernel_rfl) rfl (fun _ _ _ h => h) (fun w' hw' => by obtain ⟨k1, k2, k3⟩ := hw'; go_simp) S3 ?_
      simp only [Act.put, List.setIfInBounds_toArray, List.set_cons_zero, List.set_cons_succ]
      refine early_only (i := 13) (by kernel_rfl) rfl (fun K hK => ?_)
      simp only [opWp, List.getElem?_toArray, List.getElem?_cons_succ, List.getElem?_cons_zero]
      go_simp
      go_at_call 17
      refine (many_any 1 TT2.out).mono ?_
      rintro e v4 ⟨rfl, hb⟩
      have TT2 := Lib.hid (TT2.out.below hb)
      have HV := Lib.hid (HV.out.but (S := fun _ => False) (But.of_below hb) (fun h => h))
      have MN := Lib.hid (MN.out.below hb MN.out.lt)
      have DX := Lib.hid (own_below DX.out hb)
      have BB := Lib.hid (BB.out.trans (hb.mono BB.out.size))
      have S4 : (fun w' => w'.cell? ⟨b5, 0, none⟩ = some (.int .i64 (many T 0 : Int)) ∧ w'.cell? ⟨b5, 1, none⟩ = some (.int .i64 (many T 1 : Int)) ∧ w'.cell? ⟨b5, 2, none⟩ = some (.int .i64 (many T 2 : Int))) v4 := ⟨MN.out.cell 0, MN.out.cell 1, MN.out.cell 2⟩
      clear hb
      refine hK _ _ (fun _ => S4) ?_
      refine early_take (i := 16) 74 (.bool true) rfl rfl (by kernel_rfl) (by kernel_rfl) (by kernel_rfl) (by kernel_rfl) rfl (fun _ _ _ h => h) (fun w' hw' => by go_simp) S4 ?_
      simp only [Act.put, List.setIfInBounds_toArray, List.set_cons_zero, List.set_cons_succ]
      refine early_take (i := 17) 75 (.bool true) rfl rfl (by kernel_rfl) (by kernel_rfl) (by kernel_rfl) (by kernel_rfl) rfl (fun _ _ _ h => h) (fun w' hw' => by go_simp) S4 ?_
      simp only [Act.put, List.setIfInBounds_toArray, List.set_cons_zero, List.set_cons_succ]
      refine early_take (i := 18) 76 (.bool true) rfl rfl (by kernel_rfl) (by kernel_rfl) (by kernel_rfl) (by kernel_rfl) rfl (fun _ _ _ h => h) (fun w' hw' => by go_simp) S4 ?_
      simp only [Act.put, List.setIfInBounds_toArray, List.set_cons_zero, List.set_cons_succ]
      refine early_take (i := 19) 77 (.pointer (some ⟨g, 0, none⟩)) rfl rfl (by kernel_rfl) (by kernel_rfl) (by kernel_rfl) (by kernel_rfl) rfl (fun _ _ _ h => h) (fun w' hw' => by go_simp) S4 ?_
      simp only [Act.put, List.setIfInBounds_toArray, List.set_cons_zero, List.set_cons_succ]
      refine early_take (i := 21) 79 (.pointer (some ⟨b5, 2, none⟩)) rfl rfl (by kernel_rfl) (by kernel_rfl) (by kernel_rfl) (by kernel_rfl) rfl (fun _ _ _ h => h) (fun w' hw' => by go_simp) S4 ?_
      simp only [Act.put, List.setIfInBounds_toArray, List.set_cons_zero, List.set_cons_succ]
      refine early_take (i := 22) 80 (.int .i64 (many T 2 : Int)) rfl rfl (by kernel_rfl) (by kernel_rfl) (by kernel_rfl) (by kernel_rfl) rfl (fun _ _ _ h => h) (fun w' hw' => by obtain ⟨k1, k2, k3⟩ := hw'; go_simp) S4 ?_
      simp only [Act.put, List.setIfInBounds_toArray, List.set_cons_zero, List.set_cons_succ]
      refine early_only (i := 20) (by kernel_rfl) rfl (fun K hK => ?_)
      simp only [opWp, List.getElem?_toArray, List.getElem?_cons_succ, List.getElem?_cons_zero]
      go_simp
      go_at_call 17
      refine (many_any 2 TT2.out).mono ?_
      rintro e v5 ⟨rfl, hb⟩
      have TT2 := Lib.hid (TT2.out.below hb)
      have HV := Lib.hid (HV.out.but (S := fun _ => False) (But.of_below hb) (fun h => h))
      have MN := Lib.hid (MN.out.below hb MN.out.lt)
      have DX := Lib.hid (own_below DX.out hb)
      have BB := Lib.hid (BB.out.trans (hb.mono BB.out.size))
      have S5 : (fun w' => w'.cell? ⟨b5, 0, none⟩ = some (.int .i64 (many T 0 : Int)) ∧ w'.cell? ⟨b5, 1, none⟩ = some (.int .i64 (many T 1 : Int)) ∧ w'.cell? ⟨b5, 2, none⟩ = some (.int .i64 (many T 2 : Int))) v5 := ⟨MN.out.cell 0, MN.out.cell 1, MN.out.cell 2⟩
      clear hb
      refine hK _ _ (fun _ => S5) ?_
      refine early_take (i := 23) 81 (.bool true) rfl rfl (by kernel_rfl) (by kernel_rfl) (by kernel_rfl) (by kernel_rfl) rfl (fun _ _ _ h => h) (fun w' hw' => by go_simp) S5 ?_
      simp only [Act.put, List.setIfInBounds_toArray, List.set_cons_zero, List.set_cons_succ]
      refine early_take (i := 24) 82 (.bool true) rfl rfl (by kernel_rfl) (by kernel_rfl) (by kernel_rfl) (by kernel_rfl) rfl (fun _ _ _ h => h) (fun w' hw' => by go_simp) S5 ?_
      simp only [Act.put, List.setIfInBounds_toArray, List.set_cons_zero, List.set_cons_succ]
      refine early_take (i := 25) 83 (.bool true) rfl rfl (by kernel_rfl) (by kernel_rfl) (by kernel_rfl) (by kernel_rfl) rfl (fun _ _ _ h => h) (fun w' hw' => by go_simp) S5 ?_
      simp only [Act.put, List.setIfInBounds_toArray, List.set_cons_zero, List.set_cons_succ]
      refine early_take (i := 26) 84 (.pointer (some ⟨g, 0, none⟩)) rfl rfl (by kernel_rfl) (by kernel_rfl) (by kernel_rfl) (by kernel_rfl) rfl (fun _ _ _ h => h) (fun w' hw' => by go_simp) S5 ?_
      simp only [Act.put, List.setIfInBounds_toArray, List.set_cons_zero, List.set_cons_succ]
      refine early_take (i := 28) 86 (.int .i64 (first T)) rfl rfl (by kernel_rfl) (by kernel_rfl) (by kernel_rfl) (by kernel_rfl) rfl (fun _ _ _ h => h) (fun w' hw' => by go_simp) S5 ?_
      simp only [Act.put, List.setIfInBounds_toArray, List.set_cons_zero, List.set_cons_succ]
      refine early_only (i := 27) (by kernel_rfl) rfl (fun K hK => ?_)
      simp only [opWp, List.getElem?_toArray, List.getElem?_cons_succ, List.getElem?_cons_zero]
      go_simp
      go_at_call 19
      refine (first_any TT2.out).mono ?_
      rintro e v6 ⟨rfl, hb⟩
      have TT2 := Lib.hid (TT2.out.below hb)
      have HV := Lib.hid (HV.out.but (S := fun _ => False) (But.of_below hb) (fun h => h))
      have MN := Lib.hid (MN.out.below hb MN.out.lt)
      have DX := Lib.hid (own_below DX.out hb)
      have BB := Lib.hid (BB.out.trans (hb.mono BB.out.size))
      have S6 : (fun w' => w'.cell? ⟨b5, 0, none⟩ = some (.int .i64 (many T 0 : Int)) ∧ w'.cell? ⟨b5, 1, none⟩ = some (.int .i64 (many T 1 : Int)) ∧ w'.cell? ⟨b5, 2, none⟩ = some (.int .i64 (many T 2 : Int))) v6 := ⟨MN.out.cell 0, MN.out.cell 1, MN.out.cell 2⟩
      clear hb
      refine hK _ _ (fun _ => S6) ?_
      refine early_take (i := 29) 87 (.bool true) rfl rfl (by kernel_rfl) (by kernel_rfl) (by kernel_rfl) (by kernel_rfl) rfl (fun _ _ _ h => h) (fun w' hw' => by go_simp) S6 ?_
      simp only [Act.put, List.setIfInBounds_toArray, List.set_cons_zero, List.set_cons_succ]
      refine early_take (i := 30) 88 (.bool true) rfl rfl (by kernel_rfl) (by kernel_rfl) (by kernel_rfl) (by kernel_rfl) rfl (fun _ _ _ h => h) (fun w' hw' => by go_simp) S6 ?_
      simp only [Act.put, List.setIfInBounds_toArray, List.set_cons_zero, List.set_cons_succ]
      refine early_take (i := 31) 89 (.bool true) rfl rfl (by kernel_rfl) (by kernel_rfl) (by kernel_rfl) (by kernel_rfl) rfl (fun _ _ _ h => h) (fun w' hw' => by go_simp) S6 ?_
      simp only [Act.put, List.setIfInBounds_toArray, List.set_cons_zero, List.set_cons_succ]
      refine early_take (i := 32) 90 (.pointer (some ⟨g, 0, none⟩)) rfl rfl (by kernel_rfl) (by kernel_rfl) (by kernel_rfl) (by kernel_rfl) rfl (fun _ _ _ h => h) (fun w' hw' => by go_simp) S6 ?_
      simp only [Act.put, List.setIfInBounds_toArray, List.set_cons_zero, List.set_cons_succ]
      refine early_take (i := 34) 92 (.slice A (dead T).length c) rfl rfl (by kernel_rfl) (by kernel_rfl) (by kernel_rfl) (by kernel_rfl) rfl (fun _ _ _ h => h) (fun w' hw' => by go_simp) S6 ?_
      simp only [Act.put, List.setIfInBounds_toArray, List.set_cons_zero, List.set_cons_succ]
      refine early_only (i := 33) (by kernel_rfl) rfl (fun K hK => ?_)
      simp only [opWp, List.getElem?_toArray, List.getElem?_cons_succ, List.getElem?_cons_zero]
      go_simp
      go_at_call 18
      refine (dead_any TT2.out).mono ?_
      rintro e v7 ⟨A5, c5, rfl, ho, hb⟩
      have TT2 := Lib.hid (TT2.out.below hb)
      have HV := Lib.hid (HV.out.but (S := fun _ => False) (But.of_below hb) (fun h => h))
      have MN := Lib.hid (MN.out.below hb MN.out.lt)
      have DX := Lib.hid (own_below DX.out hb)
      have BB := Lib.hid (BB.out.trans (hb.mono BB.out.size))
      have S7 : (fun w' => w'.cell? ⟨b5, 0, none⟩ = some (.int .i64 (many T 0 : Int)) ∧ w'.cell? ⟨b5, 1, none⟩ = some (.int .i64 (many T 1 : Int)) ∧ w'.cell? ⟨b5, 2, none⟩ = some (.int .i64 (many T 2 : Int))) v7 := ⟨MN.out.cell 0, MN.out.cell 1, MN.out.cell 2⟩
      obtain ⟨A6, c6, e4, hi, _⟩ := HasI.of_own ho
      injection e4 with e5 e6 e7
      subst e5 e7
      have SG := Lib.hid hi
      obtain ⟨A7, c7, e4, hi2, _⟩ := HasI.of_own DX.out
      injection e4 with e5 e6 e7
      subst e5 e7
      have SH := Lib.hid hi2
      clear hi hi2 ho hb
      refine hK _ _ (fun _ => S7) ?_
      refine early_only (i := 35) (by kernel_rfl) rfl (fun K hK => ?_)
      simp only [opWp, List.getElem?_toArray, List.getElem?_cons_succ, List.getElem?_cons_zero]
      go_simp
      go_at_call 22
      refine (equalI_yes A5 A (dead T).length c5 c (dead T) v7 (by have := DLe.out; omega) SG.out SH.out).mono ?_
      rintro e v8 ⟨rfl, m8, hw⟩
      have hb : Below v7.heap.size v7 v8 := by rw [hw]; exact below_drewN (Below.refl _ _) m8
      have TT2 := Lib.hid (TT2.out.below hb)
      have HV := Lib.hid (HV.out.but (S := fun _ => False) (But.of_below hb) (fun h => h))
      have MN := Lib.hid (MN.out.below hb MN.out.lt)
      have DX := Lib.hid (own_below DX.out hb)
      have BB := Lib.hid (BB.out.trans (hb.mono BB.out.size))
      have S8 : (fun w' => w'.cell? ⟨b5, 0, none⟩ = some (.int .i64 (many T 0 : Int)) ∧ w'.cell? ⟨b5, 1, none⟩ = some (.int .i64 (many T 1 : Int)) ∧ w'.cell? ⟨b5, 2, none⟩ = some (.int .i64 (many T 2 : Int))) v8 := ⟨MN.out.cell 0, MN.out.cell 1, MN.out.cell 2⟩
      clear hb hw SG SH
      refine hK _ _ (fun _ => S8) ?_
      refine early_take (i := 36) 94 (.bool true) rfl rfl (by kernel_rfl) (by kernel_rfl) (by kernel_rfl) (by kernel_rfl) rfl (fun _ _ _ h => h) (fun w' hw' => by go_simp) S8 ?_
      simp only [Act.put, List.setIfInBounds_toArray, List.set_cons_zero, List.set_cons_succ]
      refine early_take (i := 37) 4 (.bool true) rfl rfl (by kernel_rfl) (by kernel_rfl) (by kernel_rfl) (by kernel_rfl) rfl (fun _ _ _ h => h) (fun w' hw' => by go_simp) S8 ?_
      simp only [Act.put, List.setIfInBounds_toArray, List.set_cons_zero, List.set_cons_succ]
      refine early_done (by kernel_rfl) ?_
      clear S0 S1 S2 S3 S4 S5 S6 S7 S8
      go_wp2
      go_ret
      exact ⟨rfl, BB.out⟩
end Go.Proofs.Ytpijapnidnkknaa
