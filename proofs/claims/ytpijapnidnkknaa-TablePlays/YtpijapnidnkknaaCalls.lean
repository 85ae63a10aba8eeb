/-
  THE WALKS OF THE TABLE'S CALLS: New, At, Set, Live, Open, Seal, Clear.
-/
import Derived.Test.YtpijapnidnkknaaTab
import Derived.Test.YtpijapnidnkknaaEarly
import Derived.Deep.CutRange
namespace Go.Proofs.Ytpijapnidnkknaa
open Go.RowKit
set_option linter.unusedVariables false
set_option maxRecDepth 100000

theorem wp_store_part {w : World} {op : Oper} {a : Act} {K : Act → World → Prop} {Q : Exit → Act → World → Prop} (ty : TypeId) (x y : Operand) (ho : op.op = .store ty x y) (g o : Nat) (t : TypeId) (c cells : Array Value)
    (hx : a.eval x = .pointer (some ⟨g, o, none⟩)) (hy : a.eval y = .agg cells) (hat : At w g c t) (hi : (Try.prog.info? ty).map (·.size) = some cells.size) (hfit : o + cells.size ≤ c.size) (h1 : cells.all (·.oneCell') = true)
    (h : ∀ w', At w' g (part c o cells) t → But (fun k => k = g) w w' → K (a.put op.dst undef) w') : op.wp Try.prog a w K Q := by
  have hst := run_storeCells_at Try.prog g o t cells.toList 0 c w hat (by simpa using hfit) (fun v hv => (Array.all_eq_true_iff_forall_mem.1 h1) v (by simpa using hv))
  have hrun : (storeVar ty ⟨g, o, none⟩ (.agg cells)).run Try.prog w = .ok () (w.setRow g (part c o cells)) := by
    cases hq : Try.prog.info? ty with
    | none => simp [hq] at hi
    | some i =>
      have hs : cells.size = i.size := by simp [hq] at hi; omega
      simp only [Nat.add_zero, Array.length_toList] at hst
      simp [storeVar, sizeOf, typeInfo, hq, Value.cells, hs, hst, part]
  unfold Oper.wp execOp
  simp only [ho, hx, hy, Instr.storeAt, Instr.sureAddr, Sem.run_bind, Sem.run_pure, Result.andThen_ok, hrun]
  exact h _ (setRow_heap w g _ _ t _ hat) (setRow_but w g _)

/-- A block that is made full of zero segments. -/
theorem made_segs {w w1 : World} {n : Nat} (h : w1.ownsRow w.heap.size 33 3 (.slice (some ⟨w.heap.size, 0, none⟩) n n) n (madeCells (Value.agg Sg.zero.ag).cells (n * 3)).toList) : Rg w1 w.heap.size (List.replicate n Sg.zero) := by
  rcases h.2 with ⟨e, _⟩ | ⟨g, cap, cur, e, _, hh, _, _, hs, ht⟩
  · cases e
  · injection e with e1 _ e2
    injection e1 with e1
    injection e1 with e1
    subst e1 e2
    unfold Rg At
    rw [hh]
    congr 2
    apply Array.ext'
    rw [List.take_of_length_le (by simp [hs])] at ht
    rw [ht, flat_zero]

/-- What a call makes of the segment i. -/
def put (T : List Sg) (i : Int) (f : Sg → Sg) : List Sg := if h : 0 ≤ i ∧ i < (T.length : Int) then T.set i.toNat (f (T[i.toNat]'(by omega))) else T
theorem put_in {T : List Sg} {k : Nat} (h : k < T.length) (f : Sg → Sg) : put T (k : Int) f = T.set k (f T[k]) := by
  unfold put
  rw [dif_pos ⟨by omega, by omega⟩]
  simp
theorem put_off {T : List Sg} {i : Int} (h : ¬ (0 ≤ i ∧ i < (T.length : Int))) (f : Sg → Sg) : put T i f = T := by
  unfold put
  rw [dif_neg h]
theorem put_len (T : List Sg) (i : Int) (f : Sg → Sg) : (put T i f).length = T.length := by
  unfold put
  split <;> simp
/-- The segment i, or a zero one. -/
def seg (T : List Sg) (i : Int) : Sg := if h : 0 ≤ i ∧ i < (T.length : Int) then T[i.toNat]'(by omega) else Sg.zero
theorem seg_in {T : List Sg} {k : Nat} (h : k < T.length) : seg T (k : Int) = T[k] := by
  unfold seg
  rw [dif_pos ⟨by omega, by omega⟩]
  simp
theorem seg_off {T : List Sg} {i : Int} (h : ¬ (0 ≤ i ∧ i < (T.length : Int))) : seg T i = Sg.zero := by
  unfold seg
  rw [dif_neg h]
/-- Behind a call that turned the segments alone. -/
def Turned (w : World) (g r : Nat) (T : List Sg) (e : Ending) (w' : World) : Prop := e = .returned (.tuple #[]) ∧ Tb w' g r T ∧ But (fun k => k = r) w w'

set_option maxHeartbeats 400000 in
theorem new_any (n : Nat) (w : World) (hn : n ≤ 65536) : Calls Try.prog 7 #[.int .i64 (n : Int)] w fun e w' => ∃ g r, e = .returned (.pointer (some ⟨g, 0, none⟩)) ∧ Tb w' g r (List.replicate n Sg.zero) ∧ w.heap.size ≤ g ∧ w.heap.size ≤ r ∧ Below w.heap.size w w' := by
  obtain ⟨i0, hi, hz0, hz1, hz2⟩ := info_parts seg_info
  go_enter Try.func7, Try.ntmps7
  go_wp2_with (at_make; refine wpList_make_full _ rfl (.tmp 5) (.tmp 5) 26 rfl w.heap.size 33 i0 (.agg Sg.zero.ag) 3 Try.underlying26 hi hz0 hz1 .i64 .i64 n n n rfl rfl rfl rfl (by rw [hz2]; omega) (by unfold maxLen; omega) (Nat.le_refl _) ?_; intro w1 hown1 hg1)
  have R := made_segs hown1
  have B := (Below.refl w.heap.size w).grown hg1 (Nat.le_refl _) (by simp)
  go_ret
  refine ⟨w1.heap.size, w.heap.size, rfl, ⟨?_, At.alloc R _, by simpa using hn⟩, B.size, Nat.le_refl _, B.alloc B.size _⟩
  rw [List.length_replicate]
  exact At.new _ _ rfl

set_option maxHeartbeats 400000 in
theorem open_any {w : World} {g r : Nat} {T : List Sg} (i : Int) (h : Tb w g r T) : Calls Try.prog 10 #[.pointer (some ⟨g, 0, none⟩), .int .i64 i] w (Turned w g r (put T i fun x => ⟨1, x.lv, x.bo⟩)) := by
  have H := Lib.hid h
  have c0 := h.box.cell 0
  have hl := h.few
  clear h
  go_enter Try.func10, Try.ntmps10
  go_wp2_with fail
  refine (has_any i H.out).mono ?_
  rintro e w1 ⟨rfl, hw1⟩
  subst hw1
  by_cases hi : 0 ≤ i ∧ i < (T.length : Int)
  · have hd : decide (0 ≤ i ∧ i < (T.length : Int)) = true := by simpa using hi
    rw [hd]
    obtain ⟨k, rfl⟩ : ∃ k : Nat, i = (k : Int) := ⟨i.toNat, by omega⟩
    have hk : k < T.length := by omega
    obtain ⟨d0, d1, d2⟩ := H.out.row.cells hk
    have F := At.frozen H.out.row
    have PI := Lib.hid (put_in hk fun x => ⟨1, x.lv, x.bo⟩)
    have f0 := F (k * 3 + 0)
    try simp only [Nat.add_zero] at f0
    clear hi hd F
    go_wp2
    go_end0
    rw [PI.out]
    have b1 := (But.refl (fun k => k = r) w1).setCell (p := ⟨r, k * 3 + 0, none⟩) (fun _ => rfl) (.int .i64 (1))
    exact ⟨rfl, H.out.turn b1 (H.out.row.put hk 0 (.int .i64 (1)) _ (by omega) rfl) (by simp), b1⟩
  · have hd : decide (0 ≤ i ∧ i < (T.length : Int)) = false := by simpa using hi
    have PO := Lib.hid (put_off hi fun x => ⟨1, x.lv, x.bo⟩)
    rw [hd]
    clear hi hd
    go_wp2
    go_end0
    rw [PO.out]
    exact ⟨rfl, H.out, But.refl _ _⟩

set_option maxHeartbeats 400000 in
theorem live_any {w : World} {g r : Nat} {T : List Sg} (i : Int) (m : Int) (hm : ∀ k, (h : k < T.length) → -9000000000000000000 ≤ T[k].lv + m ∧ T[k].lv + m ≤ 9000000000000000000) (h : Tb w g r T) : Calls Try.prog 9 #[.pointer (some ⟨g, 0, none⟩), .int .i64 i, .int .i64 m] w (Turned w g r (put T i fun x => ⟨x.st, x.lv + m, x.bo⟩)) := by
  have H := Lib.hid h
  have c0 := h.box.cell 0
  have hl := h.few
  clear h
  go_enter Try.func9, Try.ntmps9
  go_wp2_with fail
  refine (has_any i H.out).mono ?_
  rintro e w1 ⟨rfl, hw1⟩
  subst hw1
  by_cases hi : 0 ≤ i ∧ i < (T.length : Int)
  · have hd : decide (0 ≤ i ∧ i < (T.length : Int)) = true := by simpa using hi
    rw [hd]
    obtain ⟨k, rfl⟩ : ∃ k : Nat, i = (k : Int) := ⟨i.toNat, by omega⟩
    have hk : k < T.length := by omega
    obtain ⟨d0, d1, d2⟩ := H.out.row.cells hk
    have F := At.frozen H.out.row
    have PI := Lib.hid (put_in hk fun x => ⟨x.st, x.lv + m, x.bo⟩)
    have hm2 := hm k hk
    have e1 : T[k].cs.set 1 (.int .i64 (T[k].lv + m)) = Sg.cs ⟨T[k].st, T[k].lv + m, T[k].bo⟩ := rfl
    generalize hL : T[k].lv = L at d1 hm2 e1 PI
    have f0 := F (k * 3 + 1)
    try simp only [Nat.add_zero] at f0
    clear hi hd F
    clear hm
    go_wp2
    go_end0
    rw [PI.out]
    have b1 := (But.refl (fun k => k = r) w1).setCell (p := ⟨r, k * 3 + 1, none⟩) (fun _ => rfl) (.int .i64 (L + m))
    exact ⟨rfl, H.out.turn b1 (H.out.row.put hk 1 (.int .i64 (L + m)) _ (by omega) e1) (by simp), b1⟩
  · have hd : decide (0 ≤ i ∧ i < (T.length : Int)) = false := by simpa using hi
    have PO := Lib.hid (put_off hi fun x => ⟨x.st, x.lv + m, x.bo⟩)
    rw [hd]
    clear hi hd
    go_wp2
    go_end0
    rw [PO.out]
    exact ⟨rfl, H.out, But.refl _ _⟩

set_option maxHeartbeats 400000 in
theorem seal_any {w : World} {g r : Nat} {T : List Sg} (i : Int) (b : Int) (h : Tb w g r T) : Calls Try.prog 11 #[.pointer (some ⟨g, 0, none⟩), .int .i64 i, .int .u64 b] w (Turned w g r (put T i fun x => ⟨2, x.lv, b⟩)) := by
  have H := Lib.hid h
  have c0 := h.box.cell 0
  have hl := h.few
  clear h
  go_enter Try.func11, Try.ntmps11
  go_wp2_with fail
  refine (has_any i H.out).mono ?_
  rintro e w1 ⟨rfl, hw1⟩
  subst hw1
  by_cases hi : 0 ≤ i ∧ i < (T.length : Int)
  · have hd : decide (0 ≤ i ∧ i < (T.length : Int)) = true := by simpa using hi
    rw [hd]
    obtain ⟨k, rfl⟩ : ∃ k : Nat, i = (k : Int) := ⟨i.toNat, by omega⟩
    have hk : k < T.length := by omega
    obtain ⟨d0, d1, d2⟩ := H.out.row.cells hk
    have F := At.frozen H.out.row
    have PI := Lib.hid (put_in hk fun x => ⟨2, x.lv, b⟩)
    have f0 := F (k * 3)
    have f2 := F (k * 3 + 2)
    have c0' := (At.other H.out.box (p := ⟨r, k * 3, none⟩) (fun e => H.out.ne e.symm) (.int .i64 2)).cell 0
    clear hi hd F
    go_wp2
    go_end0
    rw [PI.out]
    have b1 := ((But.refl (fun k => k = r) w1).setCell (p := ⟨r, k * 3, none⟩) (fun _ => rfl) (.int .i64 2)).setCell (p := ⟨r, k * 3 + 2, none⟩) (fun _ => rfl) (.int .u64 b)
    have r1 := H.out.row.put hk 0 (.int .i64 2) ⟨2, T[k].lv, T[k].bo⟩ (by omega) rfl
    have r2 := r1.put (i := k) (by simpa using hk) 2 (.int .u64 b) ⟨2, T[k].lv, b⟩ (by omega) (by rw [List.getElem_set_self]; rfl)
    rw [List.set_set] at r2
    exact ⟨rfl, H.out.turn b1 r2 (by simp), b1⟩
  · have hd : decide (0 ≤ i ∧ i < (T.length : Int)) = false := by simpa using hi
    have PO := Lib.hid (put_off hi fun x => ⟨2, x.lv, b⟩)
    rw [hd]
    clear hi hd
    go_wp2
    go_end0
    rw [PO.out]
    exact ⟨rfl, H.out, But.refl _ _⟩

set_option maxHeartbeats 800000 in
theorem set_any {w : World} {g r : Nat} {T : List Sg} (i : Int) (x : Sg) (h : Tb w g r T) : Calls Try.prog 8 #[.pointer (some ⟨g, 0, none⟩), .int .i64 i, .agg x.ag] w (Turned w g r (put T i fun _ => x)) := by
  obtain ⟨xs, xl, xb⟩ := x
  have lt := h.lt
  have H := Lib.hid (show Tb (w.alloc (.cells (Sg.ag ⟨xs, xl, xb⟩) 33)) g r T from h.below ((Below.refl _ _).alloc (Nat.le_refl _) _))
  have X := Lib.hid (At.new (w := w) (Sg.ag ⟨xs, xl, xb⟩) 33 rfl)
  have B0 := Lib.hid ((But.refl (fun k => k = r) w).alloc (.cells (Sg.ag ⟨xs, xl, xb⟩) 33))
  have hl := h.few
  have NR := Lib.hid (show ¬ w.heap.size = r by omega)
  clear h
  go_enter Try.func8, Try.ntmps8
  go_wp2_with fail
  refine (has_any i H.out).mono ?_
  rintro e w1 ⟨rfl, hw1⟩
  rw [← hw1] at H X B0
  clear hw1
  have c0 := H.out.box.cell 0
  by_cases hi : 0 ≤ i ∧ i < (T.length : Int)
  · have hd : decide (0 ≤ i ∧ i < (T.length : Int)) = true := by simpa using hi
    rw [hd]
    obtain ⟨k, rfl⟩ : ∃ k : Nat, i = (k : Int) := ⟨i.toNat, by omega⟩
    have hk : k < T.length := by omega
    have PI := Lib.hid (put_in hk fun _ => (⟨xs, xl, xb⟩ : Sg))
    clear hi hd
    go_wp2_with fail
    refine wp_region_early (fun w' => At w' w.heap.size (Sg.ag ⟨xs, xl, xb⟩) 33 ∧ w'.cell? ⟨g, 0, none⟩ = some (.slice (some ⟨r, 0, none⟩) T.length T.length)) (fun i => i != 7) rfl ?_
    simp only [List.size_toArray, List.length_cons, List.length_nil]
    have S0 : (fun w' => At w' w.heap.size (Sg.ag ⟨xs, xl, xb⟩) 33 ∧ w'.cell? ⟨g, 0, none⟩ = some (.slice (some ⟨r, 0, none⟩) T.length T.length)) w1 := ⟨X.out, c0⟩
    refine early_take (i := 0) 9 (.pointer (some ⟨g, 0, none⟩)) rfl rfl (by kernel_rfl) (by kernel_rfl) (by kernel_rfl) (by kernel_rfl) rfl (fun _ _ _ h => h) (fun w' hw' => by go_simp) S0 ?_
    simp only [Act.put, List.setIfInBounds_toArray, List.set_cons_zero, List.set_cons_succ]
    refine early_take (i := 1) 10 (.pointer (some ⟨g, 0, none⟩)) rfl rfl (by kernel_rfl) (by kernel_rfl) (by kernel_rfl) (by kernel_rfl) rfl (fun _ _ _ h => h) (fun w' hw' => by go_simp) S0 ?_
    simp only [Act.put, List.setIfInBounds_toArray, List.set_cons_zero, List.set_cons_succ]
    refine early_take (i := 2) 11 (.pointer (some ⟨g, 0, none⟩)) rfl rfl (by kernel_rfl) (by kernel_rfl) (by kernel_rfl) (by kernel_rfl) rfl (fun _ _ _ h => h) (fun w' hw' => by go_simp) S0 ?_
    simp only [Act.put, List.setIfInBounds_toArray, List.set_cons_zero, List.set_cons_succ]
    refine early_take (i := 3) 12 (.slice (some ⟨r, 0, none⟩) T.length T.length) rfl rfl (by kernel_rfl) (by kernel_rfl) (by kernel_rfl) (by kernel_rfl) rfl (fun _ _ _ h => h) (fun w' hw' => by obtain ⟨k1, k2⟩ := hw'; go_simp) S0 ?_
    simp only [Act.put, List.setIfInBounds_toArray, List.set_cons_zero, List.set_cons_succ]
    refine early_take (i := 4) 13 (.int .i64 (k : Int)) rfl rfl (by kernel_rfl) (by kernel_rfl) (by kernel_rfl) (by kernel_rfl) rfl (fun _ _ _ h => h) (fun w' hw' => by go_simp) S0 ?_
    simp only [Act.put, List.setIfInBounds_toArray, List.set_cons_zero, List.set_cons_succ]
    refine early_take (i := 5) 14 (.agg (Sg.ag ⟨xs, xl, xb⟩)) rfl rfl (by kernel_rfl) (by kernel_rfl) (by kernel_rfl) (by kernel_rfl) rfl (fun _ _ _ h => h) (fun w' hw' => exec_load_whole (x := .tmp 5) rfl rfl hw'.1 Try.underlying33 seg_size) S0 ?_
    simp only [Act.put, List.setIfInBounds_toArray, List.set_cons_zero, List.set_cons_succ]
    refine early_take (i := 6) 15 (.pointer (some ⟨r, k * 3, none⟩)) rfl rfl (by kernel_rfl) (by kernel_rfl) (by kernel_rfl) (by kernel_rfl) rfl (fun _ _ _ h => h) (fun w' hw' => by go_simp) S0 ?_
    simp only [Act.put, List.setIfInBounds_toArray, List.set_cons_zero, List.set_cons_succ]
    refine early_only (i := 7) (by kernel_rfl) rfl (fun K hK => ?_)
    simp only [opWp, List.getElem?_toArray, List.getElem?_cons_succ, List.getElem?_cons_zero]
    refine wp_store_part 33 (.tmp 15) (.tmp 14) rfl r (k * 3) 33 (flat T).toArray (Sg.ag ⟨xs, xl, xb⟩) rfl rfl H.out.row seg_size ?_ (ag_one _) ?_
    · rw [show (flat T).toArray.size = T.length * 3 by rw [List.size_toArray, flat_len]]
      show k * 3 + 3 ≤ _
      omega
    intro w2 hat hb
    rw [flat_part T k hk] at hat
    refine hK _ _ (fun h => by simp at h) ?_
    refine early_done (by kernel_rfl) ?_
    have b2 : But (fun k => k = r) w1 w2 := ⟨hb.os, hb.tape, hb.output, hb.size, hb.block⟩
    clear hK S0 c0
    go_wp2
    go_end0
    rw [PI.out]
    exact ⟨rfl, H.out.turn b2 hat (by simp), B0.out.trans b2 (fun _ h _ => h)⟩
  · have hd : decide (0 ≤ i ∧ i < (T.length : Int)) = false := by simpa using hi
    have PO := Lib.hid (put_off hi fun _ => (⟨xs, xl, xb⟩ : Sg))
    rw [hd]
    clear hi hd
    go_wp2
    go_end0
    rw [PO.out]
    exact ⟨rfl, H.out, B0.out⟩

set_option maxHeartbeats 800000 in
theorem at_any {w : World} {g r : Nat} {T : List Sg} (i : Int) (h : Tb w g r T) : Calls Try.prog 14 #[.pointer (some ⟨g, 0, none⟩), .int .i64 i] w fun e w' => e = .returned (.agg (seg T i).ag) ∧ Below w.heap.size w w' := by
  have lt := h.lt
  have H := Lib.hid (show Tb (w.alloc (.cells Sg.zero.ag 33)) g r T from h.below ((Below.refl _ _).alloc (Nat.le_refl _) _))
  have X := Lib.hid (At.new (w := w) Sg.zero.ag 33 rfl)
  have B0 := Lib.hid ((Below.refl w.heap.size w).alloc (Nat.le_refl _) (.cells Sg.zero.ag 33))
  have hl := h.few
  clear h
  go_enter Try.func14, Try.ntmps14
  go_wp2_with fail
  refine (has_any i H.out).mono ?_
  rintro e w1 ⟨rfl, hw1⟩
  rw [← hw1] at H X B0
  clear hw1
  have c0 := H.out.box.cell 0
  by_cases hi : 0 ≤ i ∧ i < (T.length : Int)
  · have hd : decide (0 ≤ i ∧ i < (T.length : Int)) = true := by simpa using hi
    rw [hd]
    obtain ⟨k, rfl⟩ : ∃ k : Nat, i = (k : Int) := ⟨i.toNat, by omega⟩
    have hk : k < T.length := by omega
    have SE := Lib.hid (seg_in hk)
    have hc := H.out.row.cell hk
    generalize T[k] = x at hc SE
    obtain ⟨xs, xl, xb⟩ := x
    have HC := Lib.hid hc
    clear hi hd hc
    go_wp2_with (first
      | (refine wpList_load_part rfl 33 (.tmp 15) rfl r (k * 3) (Sg.ag ⟨xs, xl, xb⟩) _ rfl HC.out Try.underlying33 rfl seg_size ?_)
      | (refine wpList_store_part rfl 33 (.tmp 4) (.tmp 16) rfl w.heap.size 0 33 Sg.zero.ag (Sg.ag ⟨xs, xl, xb⟩) rfl rfl X.out seg_size (by show 0 + 3 ≤ 3; omega) (ag_one _) ?_; intro w2 hat hb))
    rw [part_whole] at hat
    refine bodyPost_ret (results_cell_row (p := 4) (ty := 33) rfl _ _ w.heap.size 33 (Sg.ag ⟨xs, xl, xb⟩) (0, 0) _ rfl hat Try.underlying33 rfl seg_size) rfl ?_
    rw [SE.out]
    exact ⟨rfl, B0.out.trans (hb.below (fun k e => by omega) B0.out.size)⟩
  · have hd : decide (0 ≤ i ∧ i < (T.length : Int)) = false := by simpa using hi
    have SE := Lib.hid (seg_off hi)
    rw [hd]
    clear hi hd
    go_wp2_with (refine wpList_store_part rfl 33 (.tmp 4) (.tmp 9) rfl w.heap.size 0 33 Sg.zero.ag Sg.zero.ag rfl rfl X.out seg_size (by show 0 + 3 ≤ 3; omega) (ag_one _) ?_; intro w2 hat hb)
    rw [part_whole] at hat
    refine bodyPost_ret (results_cell_row (p := 4) (ty := 33) rfl _ _ w.heap.size 33 Sg.zero.ag (0, 0) _ rfl hat Try.underlying33 rfl seg_size) rfl ?_
    rw [SE.out]
    exact ⟨rfl, B0.out.trans (hb.below (fun k e => by omega) B0.out.size)⟩
end Go.Proofs.Ytpijapnidnkknaa
