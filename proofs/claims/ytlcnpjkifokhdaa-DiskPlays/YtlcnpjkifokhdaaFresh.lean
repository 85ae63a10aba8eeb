/-
  A WHOLE STRUCT LOADED AND STORED; THE WALK OF fresh.
-/
import Derived.Test.YtlcnpjkifokhdaaBook
import Derived.Deep.WholeRow
import Derived.Deep.MidRow
import Derived.Laws.ResultCell
namespace Go.Proofs.Ytlcnpjkifokhdaa
open Go.RowKit Go.Maps Go.Shelf
set_option linter.unusedVariables false
set_option maxRecDepth 100000

theorem info32 : (Try.prog.info? 32).map (·.size) = some 21 := by kernel_rfl
theorem setRow_but (w : World) (g : Nat) (c : Array Value) : But (fun k => k = g) w (w.setRow g c) := by
  have hb : Below g w w := Below.refl _ _
  refine ⟨rfl, rfl, rfl, by simp [World.setRow], fun k hk hn => ?_⟩
  simp only [World.setRow]
  rw [Array.getElem?_modify]
  rw [if_neg (fun e => hn e.symm)]
theorem wpList_store_whole {w : World} {ops : Array Oper} {rest : List Oper} {op : Oper} {a : Act} {Q : Exit → Act → World → Prop} (hgd : op.guard = none) (x y : Operand) (ho : op.op = .store 32 x y) (g : Nat) (c cells : Array Value)
    (hx : a.eval x = .pointer (some ⟨g, 0, none⟩)) (hy : a.eval y = .agg cells) (hat : At w g c 32) (hc : c.size = 21) (hs : cells.size = 21) (h1 : cells.all (·.oneCell') = true)
    (h : ∀ w', At w' g cells 32 → But (fun k => k = g) w w' → wpList Try.prog ops Q rest (a.put op.dst undef) w') : wpList Try.prog ops Q (op :: rest) a w := by
  refine wpList_plain hgd fun K hK => ?_
  have hrun := run_storeVar_row (P := Try.prog) w g 32 32 c cells hat (by rw [hs]; exact info32) (by rw [hc, hs]) h1
  unfold Oper.wp execOp
  simp only [ho, hx, hy, Instr.storeAt, Instr.sureAddr, Sem.run_bind, Sem.run_pure, Result.andThen_ok, hrun]
  exact hK _ _ (h _ (setRow_heap w g _ _ 32 _ hat) (setRow_but w g cells))
theorem wpList_load_whole {w : World} {ops : Array Oper} {rest : List Oper} {op : Oper} {a : Act} {Q : Exit → Act → World → Prop} (hgd : op.guard = none) (x : Operand) (ho : op.op = .load 32 x) (g : Nat) (c : Array Value)
    (hx : a.eval x = .pointer (some ⟨g, 0, none⟩)) (hat : At w g c 32) (hc : c.size = 21)
    (h : wpList Try.prog ops Q rest (a.put op.dst (.agg c)) w) : wpList Try.prog ops Q (op :: rest) a w := by
  refine wpList_plain hgd fun K hK => ?_
  have hrun := run_loadVar_row (P := Try.prog) w g 32 32 c (0, 0) _ hat Try.underlying32 rfl (by rw [hc]; exact info32)
  unfold Oper.wp execOp
  simp only [ho, hx, Instr.loadAt, Instr.sureAddr, Sem.run_bind, Sem.run_pure, Result.andThen_ok, hrun]
  exact hK _ _ h

abbrev nils : Nat → Value := fun _ => .slice none 0 0
abbrev noughts : Nat → Int := fun _ => 0
theorem bc_size (on wt : Nat → Value) (wr : Nat → Int) (dead : Bool) (fb u : Int) : (bcells on wt wr dead fb u).size = 21 := rfl
/-- What fresh has made: three noughts a row. -/
def Made (w w' : World) (on : Nat → Value) (i : Nat) : Prop := ∃ r, on i = .slice (some ⟨r, 0, none⟩) 3 3 ∧ Has w' (some ⟨r, 0, none⟩) 3 zeros ∧ w.heap.size ≤ r ∧ r < w'.heap.size
def OneCells (on : Nat → Value) : Prop := ∀ i, i < 6 → (on i).oneCell' = true
theorem bc_one {on wt : Nat → Value} (wr : Nat → Int) (dead : Bool) (fb u : Int) (h1 : OneCells on) (h2 : OneCells wt) : (bcells on wt wr dead fb u).all (·.oneCell') = true := by
  have a0 := h1 0 (by omega); have a1 := h1 1 (by omega); have a2 := h1 2 (by omega); have a3 := h1 3 (by omega); have a4 := h1 4 (by omega); have a5 := h1 5 (by omega)
  have b0 := h2 0 (by omega); have b1 := h2 1 (by omega); have b2 := h2 2 (by omega); have b3 := h2 3 (by omega); have b4 := h2 4 (by omega); have b5 := h2 5 (by omega)
  unfold bcells
  simp [a0, a1, a2, a3, a4, a5, b0, b1, b2, b3, b4, b5]
  exact ⟨rfl, rfl, rfl, rfl, rfl, rfl, rfl, rfl, rfl⟩

/-- A row of three noughts, no part of the two structs at g. -/
def Rw (wr : World) (g : Nat) (on : Nat → Value) (k : Nat) : Prop := ∃ r, on k = .slice (some ⟨r, 0, none⟩) 3 3 ∧ Has wr (some ⟨r, 0, none⟩) 3 zeros ∧ g + 2 ≤ r ∧ r < wr.heap.size
theorem Rw.but {w w' : World} {S : Nat → Prop} {g : Nat} {on : Nat → Value} {k : Nat} (h : Rw w g on k) (hb : But S w w') (hS : ∀ r, g + 2 ≤ r → r < w.heap.size → ¬ S r) : Rw w' g on k := by
  obtain ⟨r, h1, h2, h3, h4⟩ := h
  exact ⟨r, h1, h2.but hb (fun y hy => by injection hy with hy; subst hy; exact hS r h3 h4), h3, Nat.lt_of_lt_of_le h4 hb.size⟩
theorem rw_new {wr w2 : World} {g j : Nat} {on : Nat → Value} (hb : Below wr.heap.size wr w2) (hr : w2.heap[wr.heap.size]? = some (.cells (List.replicate 3 (Value.int .u8 0)).toArray 5 (0, 0))) (h2 : g + 1 < wr.heap.size) (h : ∀ k, k < j → Rw wr g on k) :
    ∀ k, k < j + 1 → Rw (w2.setCell ⟨g + 1, j, none⟩ (.slice (some ⟨wr.heap.size, 0, none⟩) 3 3)) g (setN on j (.slice (some ⟨wr.heap.size, 0, none⟩) 3 3)) k := by
  intro k hk
  have hbc := But.own w2 (g + 1) j (.slice (some ⟨wr.heap.size, 0, none⟩) 3 3)
  by_cases e : k = j
  · subst e
    have hlt : wr.heap.size < w2.heap.size := (Array.getElem?_eq_some_iff.1 hr).1
    refine ⟨wr.heap.size, by simp [setN], ?_, by omega, Nat.lt_of_lt_of_le hlt hbc.size⟩
    refine Has.but (S := fun k => k = g + 1) ?_ hbc (fun y hy => by injection hy with hy; subst hy; show ¬ wr.heap.size = g + 1; omega)
    exact Has.of_block hr rfl (fun i hi => by
      have : i = 0 ∨ i = 1 ∨ i = 2 := by simp at hi; omega
      rcases this with rfl | rfl | rfl <;> rfl)
  · have h1 := ((h k (by omega)).but (But.of_below (S := fun _ => False) hb) (fun _ _ _ h => h)).but hbc (fun r hr _ e => by omega)
    obtain ⟨r, k1, k2⟩ := h1
    exact ⟨r, by simp [setN, e, k1], k2⟩

set_option maxHeartbeats 3200000 in
theorem fresh_any (w : World) : Calls Try.prog 11 #[] w fun e w' => ∃ on, e = .returned (.agg (bcells on nils noughts false (-1) 0)) ∧ OneCells on ∧ (∀ i, i < 6 → Made w w' on i) ∧ Below w.heap.size w w' := by
  obtain ⟨i0, hi0, hz0, hz1, hz2⟩ := info_parts byte_info
  go_enter Try.func11, Try.ntmps11
  go_wp2_with (refine wpList_store_whole rfl (.tmp 1) (.tmp 3) rfl (w.heap.size + 1) (bcells nils nils noughts false 0 0) (bcells nils nils noughts false (-1) 0) ?_ ?_ ?_ ?_ ?_ ?_ ?_)
  · rfl
  · rfl
  · exact At.new _ 32 (by simp)
  · rfl
  · rfl
  · exact bc_one _ _ _ _ (fun _ _ => rfl) (fun _ _ => rfl)
  intro w1 hat1 hb1
  have hr0 : At w1 w.heap.size (bcells nils nils noughts false 0 0) 32 := ((At.new (w := w) _ 32 rfl).alloc _).but hb1 (by omega)
  have hbel : Below w.heap.size w w1 := (((Below.refl _ w).alloc (Nat.le_refl _) _).alloc (by simp) _).trans (hb1.below (by omega) (by simp; omega))
  have R0 := Lib.hid hr0
  have A1 := Lib.hid hat1
  have B1 := Lib.hid hbel
  clear hr0 hat1 hbel hb1
  generalize hg : w.heap.size = g at *
  have EG := Lib.hid hg
  clear hg
  go_wp2
  go_loopw [4] (fun i wr => ∃ (j : Nat) (on : Nat → Value), j ≤ 6 ∧ i = .int .i64 j ∧ OneCells on ∧ At wr g (bcells nils nils noughts false 0 0) 32 ∧ At wr (g + 1) (bcells on nils noughts false (-1) 0) 32 ∧ (∀ k, k < j → Rw wr g on k) ∧ Below g w wr) (fun i _ => 6 - (intOf i).toNat)
  case atStart => exact ⟨0, nils, by omega, rfl, fun _ _ => rfl, R0.out, A1.out, fun k hk => absurd hk (by omega), B1.out⟩
  case round =>
    obtain ⟨j, on, hj, rfl, h1, h2, h3, h4, h5⟩ := hrel
    have H1 := Lib.hid h1
    have H2 := Lib.hid h2
    have H3 := Lib.hid h3
    have H4 := Lib.hid h4
    have H5 := Lib.hid h5
    by_cases h6 : j < 6
    · have hgl := h3.lt
      clear h1 h2 h3 h4 h5
      go_wp2_with (first
        | (at_make; refine wpList_make_full _ rfl (.const (.int .i64 3)) (.const (.int .i64 3)) 28 rfl wr.heap.size 5 i0 (.int .u8 0) 1 Try.underlying28 hi0 hz0 hz1 .i64 .i64 3 3 3 rfl rfl rfl rfl (by rw [hz2]; omega) (by unfold maxLen; omega) (Nat.le_refl _) ?_; intro w2 hown2 hg2; have hb2 : Below wr.heap.size wr w2 := (Below.refl _ _).grown hg2 (Nat.le_refl _) (by simp); have a2 := H3.out.below hb2 hgl; have hc2 : w2.cell? ⟨g + 1, j, none⟩ = some (on j) := (a2.cell j).trans (bc_on h6); have hf2 := a2.frozen j; have RW := Lib.hid (made_row hown2); have B2 := Lib.hid hb2; have A2 := Lib.hid a2; clear hown2 hg2 hb2 a2))
      go_roundw
      case rel =>
        refine ⟨j + 1, setN on j (.slice (some ⟨wr.heap.size, 0, none⟩) 3 3), by omega, by go_num, ?_, ?_, ?_, rw_new B2.out RW.out hgl H4.out, ?_⟩
        · intro k hk
          unfold setN
          split
          · rfl
          · exact H1.out k hk
        · exact ((H2.out.below B2.out (by omega)).other (by show ¬ g + 1 = g; omega) _)
        · have := A2.out.set j (.slice (some ⟨wr.heap.size, 0, none⟩) 3 3)
          rw [bs_on h6] at this
          exact this
        · exact (H5.out.trans (B2.out.mono (by omega))).trans ((But.own _ _ _ _).below (by omega) (by have := B2.out.size; omega))
      case measure => simp [intOf]; omega
    · have e0 : j = 6 := by omega
      subst e0
      clear h1 h2 h3 h4 h5
      go_wp2_with (first
        | (refine wpList_load_whole rfl (.tmp 1) rfl (g + 1) (bcells on nils noughts false (-1) 0) ?_ ?_ ?_ ?_)
        | (refine wpList_store_whole rfl (.tmp 0) (.tmp 12) rfl g (bcells nils nils noughts false 0 0) (bcells on nils noughts false (-1) 0) ?_ ?_ ?_ ?_ ?_ ?_ ?_))
      any_goals first | exact H3.out | exact H2.out | exact bc_one _ _ _ _ H1.out (fun _ _ => rfl) | (apply bc_size) | rfl
      intro w3 hat3 hb3
      have A3 := Lib.hid hat3
      have BB3 := Lib.hid hb3
      clear hat3 hb3
      go_wp2
      refine bodyPost_ret (results_cell_row (p := 0) (ty := 32) rfl _ w3 g 32 (bcells on nils noughts false (-1) 0) (0, 0) _ rfl A3.out Try.underlying32 rfl info32) rfl ?_
      refine ⟨on, rfl, H1.out, fun i hi => ?_, ?_⟩
      · obtain ⟨r, h1, h2, h3, h4⟩ := (H4.out i hi).but BB3.out (fun r hr _ e => by omega)
        exact ⟨r, h1, h2, by rw [EG.out]; omega, h4⟩
      · rw [EG.out]
        exact H5.out.trans (BB3.out.below (by omega) (by have := H2.out.lt; omega))

end Go.Proofs.Ytlcnpjkifokhdaa
