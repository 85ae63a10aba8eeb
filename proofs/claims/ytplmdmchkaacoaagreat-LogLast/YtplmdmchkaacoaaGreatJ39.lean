/-
  TEXTS JOINED: LgA.
-/
import Derived.Test.YtplmdmchkaacoaaGreatJ38

/-
  THE WALKS OF has, Stripe, Last, Usable, Room, next, live.
-/
namespace Go.Proofs.YtplmdmchkaacoaaGreat
open Go.RowKit
open L7 (Rr Rc)
open L12 (Sg)
open L13 (setN)
set_option linter.unusedVariables false
set_option maxRecDepth 100000

theorem lhas_any (i n : Int) (w : World) : Calls Tryz.prog 58 #[.int .i64 i, .int .i64 n] w fun e w' => e = .returned (.bool (decide (0 ≤ i ∧ i < n))) ∧ w' = w := by
  by_cases h0 : 0 ≤ i
  · by_cases h1 : i < n
    · rw [decide_eq_true (show 0 ≤ i ∧ i < n from ⟨h0, h1⟩)]
      go_enter Tryz.func58, Tryz.ntmps58
      go_wp2
      go_ret
      exact ⟨rfl, rfl⟩
    · rw [decide_eq_false (show ¬ (0 ≤ i ∧ i < n) from fun h => h1 h.2)]
      go_enter Tryz.func58, Tryz.ntmps58
      go_wp2
      go_ret
      exact ⟨rfl, rfl⟩
  · rw [decide_eq_false (show ¬ (0 ≤ i ∧ i < n) from fun h => h0 h.1)]
    go_enter Tryz.func58, Tryz.ntmps58
    go_wp2
    go_ret
    exact ⟨rfl, rfl⟩

/-- The log's own block alone. -/
def LB (w : World) (P : Pl) (q : Ql) (x : LS) : Prop := At w q.b (lcells P q x.a (x.seg : Int) (x.idx : Int)) 46
section
variable {w w' : World} {P : Pl} {q : Ql} {O : Nat → Prop} {x : LS} {l : Int}
theorem LG.lb (h : LG w P q O x l) : LB w P q x := h.zoomB.1
theorem LB.c3 (h : LB w P q x) : w.cell? ⟨q.b, 3, none⟩ = some (.int .i64 x.a.s) := At.cell h 3
theorem LB.c1 (h : LB w P q x) : w.cell? ⟨q.b, 1, none⟩ = some (.int .i64 x.a.b) := At.cell h 1
theorem LB.c2 (h : LB w P q x) : w.cell? ⟨q.b, 2, none⟩ = some (.int .i64 x.a.g) := At.cell h 2
theorem LB.c5 (h : LB w P q x) : w.cell? ⟨q.b, 5, none⟩ = some (.int .i64 x.a.l) := At.cell h 5
theorem LB.c6 (h : LB w P q x) : w.cell? ⟨q.b, 6, none⟩ = some (.pointer (some ⟨P.a, 0, none⟩)) := At.cell h 6
theorem LB.c7 (h : LB w P q x) : w.cell? ⟨q.b, 7, none⟩ = some (.pointer (some ⟨P.n, 0, none⟩)) := At.cell h 7
theorem LB.c8 (h : LB w P q x) : w.cell? ⟨q.b, 8, none⟩ = some (.pointer (some ⟨q.m, 0, none⟩)) := At.cell h 8
theorem LB.c9 (h : LB w P q x) : w.cell? ⟨q.b, 9, none⟩ = some (.pointer (some ⟨q.t, 0, none⟩)) := At.cell h 9
theorem LB.c10 (h : LB w P q x) : w.cell? ⟨q.b, 10, none⟩ = some (.int .i64 (x.seg : Int)) := At.cell h 10
theorem LB.c11 (h : LB w P q x) : w.cell? ⟨q.b, 11, none⟩ = some (.int .i64 (x.idx : Int)) := At.cell h 11
theorem LB.range (h : LB w P q x) : w.rangeAt q.b 0 x.a.sh := by
  intro j v hv
  rw [Nat.zero_add]
  have hj : j < 6 := by have := (List.getElem?_eq_some_iff.1 hv).1; simpa [AS.sh] using this
  rw [At.cell h]
  match j, hj, hv with
  | 0, _, hv => exact hv
  | 1, _, hv => exact hv
  | 2, _, hv => exact hv
  | 3, _, hv => exact hv
  | 4, _, hv => exact hv
  | 5, _, hv => exact hv
theorem Dg.lb {w0 : World} {x2 : LS} (h : Dg w0 P q O x2 l w) (ha : x2.a = x.a) (h1 : x2.seg = x.seg) (h2 : x2.idx = x.idx) : LB w P q x := by
  obtain ⟨O', g, _⟩ := h
  have := g.lb
  unfold LB at this ⊢
  rw [ha, h1, h2] at this
  exact this
end
theorem field_spot (a b : Value) (w : World) : (Instr.field 123 (.agg #[a, b]) 0).run Tryz.prog w = .ok a w := by kernel_rfl
theorem below_drew {w w1 : World} (h : Below w.drew.heap.size w.drew w1) : Below w.heap.size w w1 := ⟨h.os, h.tape, h.output, h.size, h.block⟩
section
variable {w w' : World} {P : Pl} {q : Ql} {O : Nat → Prop} {x : LS} {l : Int}
theorem stripe_any (h : LG w P q O x l) (hw : x.Wf) : Calls Tryz.prog 42 #[.pointer (some ⟨q.b, 0, none⟩)] w fun e w' => e = .returned (.int .i64 x.stripe) ∧ ∃ n, w' = w.drewN n := by
  have hs := h.wf.small.hs
  have hg := h.wf.small.hg
  have c3 := h.c3
  have c10 := h.c10
  have c11 := h.c11
  have h1 := hw.sg
  have h2 := hw.ix
  have h3 : 0 ≤ (x.seg : Int) * x.a.s ∧ (x.seg : Int) * x.a.s ≤ 1000 := ⟨Int.mul_nonneg (by omega) (by omega), Int.le_trans (Int.mul_le_mul (show (x.seg : Int) ≤ 10 by omega) (show x.a.s ≤ 3 by omega) (by omega) (by omega)) (by omega)⟩
  have e1 : IntKind.i64.wrap ((x.seg : Int) * x.a.s) = (x.seg : Int) * x.a.s := wrap_of (by omega) (by omega)
  have e2 : IntKind.i64.wrap ((x.seg : Int) * x.a.s + (x.idx : Int)) = (x.seg : Int) * x.a.s + (x.idx : Int) := wrap_of (by omega) (by omega)
  clear h hw
  unfold LS.stripe
  go_enter Tryz.func42, Tryz.ntmps42
  go_wp2
  go_quiet (fail)
  go_wp2
  go_ret
  exact ⟨rfl, _, rfl⟩
theorem last_call (h : LG w P q O x l) (hw : x.Wf) : Calls Tryz.prog 48 #[.pointer (some ⟨q.b, 0, none⟩)] w fun e w' => e = .returned (.bool x.last) ∧ ∃ n, w' = w.drewN n := by
  have hs := h.wf.small.hs
  have c3 := h.c3
  have c11 := h.c11
  have h2 := hw.ix
  have e1 : IntKind.i64.wrap (x.a.s - 1) = x.a.s - 1 := wrap_of (by omega) (by omega)
  clear h hw
  unfold LS.last
  go_enter Tryz.func48, Tryz.ntmps48
  go_wp2
  go_quiet (fail)
  go_wp2
  go_ret
  refine ⟨?_, _, rfl⟩
  rfl
theorem usable_any (h : LG w P q O x l) (hw : x.Wf) : Calls Tryz.prog 34 #[.pointer (some ⟨q.b, 0, none⟩)] w fun e w' => e = .returned (.int .i64 x.usable) ∧ Below w.heap.size w w' := by
  have hs := h.wf.small.hs
  have hg := h.wf.small.hg
  have h2 := hw.ix
  have hf : (x.free : Int) ≤ 6 := by have := L12.many_le x.T 0; have := hw.T; unfold LS.free; omega
  have h3 : 0 ≤ x.a.s * (x.free : Int) ∧ x.a.s * (x.free : Int) ≤ 18 := ⟨Int.mul_nonneg (by omega) (by omega), Int.le_trans (Int.mul_le_mul (show x.a.s ≤ 3 by omega) hf (by omega) (by omega)) (by omega)⟩
  have e0 : IntKind.i64.wrap (x.a.s - (x.idx : Int)) = x.a.s - (x.idx : Int) := wrap_of (by omega) (by omega)
  have e1 : IntKind.i64.wrap (x.a.s * (x.free : Int)) = x.a.s * (x.free : Int) := wrap_of (by omega) (by omega)
  have e2 : IntKind.i64.wrap (x.a.s - (x.idx : Int) + x.a.s * (x.free : Int)) = x.a.s - (x.idx : Int) + x.a.s * (x.free : Int) := wrap_of (by omega) (by omega)
  have e3 : IntKind.i64.wrap (x.a.s - (x.idx : Int) + x.a.s * (x.free : Int) - 1) = x.usable := wrap_of (by omega) (by omega)
  have S0 : (fun w' : World => LG w' P q O x l) w.drew := h.drew
  clear h hw
  go_enter Tryz.func34, Tryz.ntmps34
  go_wp2_with fail
  refine wp_region_early (fun w' : World => LG w' P q O x l) (fun _ => true) (by kernel_rfl) ?_
  change wpEarly _ _ _ _ _ _ 24 (Array.replicate 24 false) _ _
  refine early_take (i := 0) 3 (.pointer (some ⟨q.b, 0, none⟩)) rfl rfl (by kernel_rfl) (by kernel_rfl) (by kernel_rfl) (by kernel_rfl) rfl (fun _ _ _ h => h) (fun w' hw' => by go_simp) S0 ?_
  simp only [Act.put, List.setIfInBounds_toArray, List.set_cons_zero, List.set_cons_succ]
  refine early_take (i := 1) 4 (.pointer (some ⟨q.b, 0, none⟩)) rfl rfl (by kernel_rfl) (by kernel_rfl) (by kernel_rfl) (by kernel_rfl) rfl (fun _ _ _ h => h) (fun w' hw' => by go_simp) S0 ?_
  simp only [Act.put, List.setIfInBounds_toArray, List.set_cons_zero, List.set_cons_succ]
  refine early_take (i := 2) 5 (.pointer (some ⟨q.b, 0, none⟩)) rfl rfl (by kernel_rfl) (by kernel_rfl) (by kernel_rfl) (by kernel_rfl) rfl (fun _ _ _ h => h) (fun w' hw' => by go_simp) S0 ?_
  simp only [Act.put, List.setIfInBounds_toArray, List.set_cons_zero, List.set_cons_succ]
  refine early_take (i := 3) 6 (.pointer (some ⟨q.b, 3, none⟩)) rfl rfl (by kernel_rfl) (by kernel_rfl) (by kernel_rfl) (by kernel_rfl) rfl (fun _ _ _ h => h) (fun w' hw' => by go_simp) S0 ?_
  simp only [Act.put, List.setIfInBounds_toArray, List.set_cons_zero, List.set_cons_succ]
  refine early_take (i := 4) 7 (.int .i64 x.a.s) rfl rfl (by kernel_rfl) (by kernel_rfl) (by kernel_rfl) (by kernel_rfl) rfl (fun _ _ _ h => h) (fun w' hw' => by have k := hw'.c3; go_simp) S0 ?_
  simp only [Act.put, List.setIfInBounds_toArray, List.set_cons_zero, List.set_cons_succ]
  refine early_take (i := 5) 8 (.pointer (some ⟨q.b, 0, none⟩)) rfl rfl (by kernel_rfl) (by kernel_rfl) (by kernel_rfl) (by kernel_rfl) rfl (fun _ _ _ h => h) (fun w' hw' => by go_simp) S0 ?_
  simp only [Act.put, List.setIfInBounds_toArray, List.set_cons_zero, List.set_cons_succ]
  refine early_take (i := 6) 9 (.pointer (some ⟨q.b, 0, none⟩)) rfl rfl (by kernel_rfl) (by kernel_rfl) (by kernel_rfl) (by kernel_rfl) rfl (fun _ _ _ h => h) (fun w' hw' => by go_simp) S0 ?_
  simp only [Act.put, List.setIfInBounds_toArray, List.set_cons_zero, List.set_cons_succ]
  refine early_take (i := 7) 10 (.pointer (some ⟨q.b, 11, none⟩)) rfl rfl (by kernel_rfl) (by kernel_rfl) (by kernel_rfl) (by kernel_rfl) rfl (fun _ _ _ h => h) (fun w' hw' => by go_simp) S0 ?_
  simp only [Act.put, List.setIfInBounds_toArray, List.set_cons_zero, List.set_cons_succ]
  refine early_take (i := 8) 11 (.int .i64 (x.idx : Int)) rfl rfl (by kernel_rfl) (by kernel_rfl) (by kernel_rfl) (by kernel_rfl) rfl (fun _ _ _ h => h) (fun w' hw' => by have k := hw'.c11; go_simp) S0 ?_
  simp only [Act.put, List.setIfInBounds_toArray, List.set_cons_zero, List.set_cons_succ]
  refine early_take (i := 9) 12 (.int .i64 (x.a.s - (x.idx : Int))) rfl rfl (by kernel_rfl) (by kernel_rfl) (by kernel_rfl) (by kernel_rfl) rfl (fun _ _ _ h => h) (fun w' hw' => by go_simp) S0 ?_
  simp only [Act.put, List.setIfInBounds_toArray, List.set_cons_zero, List.set_cons_succ]
  refine early_take (i := 10) 13 (.pointer (some ⟨q.b, 0, none⟩)) rfl rfl (by kernel_rfl) (by kernel_rfl) (by kernel_rfl) (by kernel_rfl) rfl (fun _ _ _ h => h) (fun w' hw' => by go_simp) S0 ?_
  simp only [Act.put, List.setIfInBounds_toArray, List.set_cons_zero, List.set_cons_succ]
  refine early_take (i := 11) 14 (.pointer (some ⟨q.b, 0, none⟩)) rfl rfl (by kernel_rfl) (by kernel_rfl) (by kernel_rfl) (by kernel_rfl) rfl (fun _ _ _ h => h) (fun w' hw' => by go_simp) S0 ?_
  simp only [Act.put, List.setIfInBounds_toArray, List.set_cons_zero, List.set_cons_succ]
  refine early_take (i := 12) 15 (.pointer (some ⟨q.b, 0, none⟩)) rfl rfl (by kernel_rfl) (by kernel_rfl) (by kernel_rfl) (by kernel_rfl) rfl (fun _ _ _ h => h) (fun w' hw' => by go_simp) S0 ?_
  simp only [Act.put, List.setIfInBounds_toArray, List.set_cons_zero, List.set_cons_succ]
  refine early_take (i := 13) 16 (.pointer (some ⟨q.b, 3, none⟩)) rfl rfl (by kernel_rfl) (by kernel_rfl) (by kernel_rfl) (by kernel_rfl) rfl (fun _ _ _ h => h) (fun w' hw' => by go_simp) S0 ?_
  simp only [Act.put, List.setIfInBounds_toArray, List.set_cons_zero, List.set_cons_succ]
  refine early_take (i := 14) 17 (.int .i64 x.a.s) rfl rfl (by kernel_rfl) (by kernel_rfl) (by kernel_rfl) (by kernel_rfl) rfl (fun _ _ _ h => h) (fun w' hw' => by have k := hw'.c3; go_simp) S0 ?_
  simp only [Act.put, List.setIfInBounds_toArray, List.set_cons_zero, List.set_cons_succ]
  refine early_take (i := 15) 18 (.pointer (some ⟨q.b, 0, none⟩)) rfl rfl (by kernel_rfl) (by kernel_rfl) (by kernel_rfl) (by kernel_rfl) rfl (fun _ _ _ h => h) (fun w' hw' => by go_simp) S0 ?_
  simp only [Act.put, List.setIfInBounds_toArray, List.set_cons_zero, List.set_cons_succ]
  refine early_take (i := 16) 19 (.pointer (some ⟨q.b, 0, none⟩)) rfl rfl (by kernel_rfl) (by kernel_rfl) (by kernel_rfl) (by kernel_rfl) rfl (fun _ _ _ h => h) (fun w' hw' => by go_simp) S0 ?_
  simp only [Act.put, List.setIfInBounds_toArray, List.set_cons_zero, List.set_cons_succ]
  refine early_take (i := 17) 20 (.pointer (some ⟨q.b, 9, none⟩)) rfl rfl (by kernel_rfl) (by kernel_rfl) (by kernel_rfl) (by kernel_rfl) rfl (fun _ _ _ h => h) (fun w' hw' => by go_simp) S0 ?_
  simp only [Act.put, List.setIfInBounds_toArray, List.set_cons_zero, List.set_cons_succ]
  refine early_take (i := 18) 21 (.pointer (some ⟨q.t, 0, none⟩)) rfl rfl (by kernel_rfl) (by kernel_rfl) (by kernel_rfl) (by kernel_rfl) rfl (fun _ _ _ h => h) (fun w' hw' => by have k := hw'.c9; go_simp) S0 ?_
  simp only [Act.put, List.setIfInBounds_toArray, List.set_cons_zero, List.set_cons_succ]
  refine early_only (i := 19) (by kernel_rfl) rfl (fun K hK => ?_)
  simp only [opWp, List.getElem?_toArray, List.getElem?_cons_succ, List.getElem?_cons_zero]
  go_simp
  go_at_call 88
  refine (L12.many_any 0 S0.zoomT.1).mono ?_
  rintro e w1 ⟨rfl, hb⟩
  rw [show L12.many x.T 0 = x.free from rfl]
  have S1 : (fun w' : World => LG w' P q O x l) w1 := S0.up hb
  have B1 := Lib.hid (below_drew hb)
  clear hb
  refine hK _ _ (fun _ => S1) ?_
  refine early_take (i := 20) 23 (.int .i64 (x.a.s * (x.free : Int))) rfl rfl (by kernel_rfl) (by kernel_rfl) (by kernel_rfl) (by kernel_rfl) rfl (fun _ _ _ h => h) (fun w' hw' => by go_simp) S1 ?_
  simp only [Act.put, List.setIfInBounds_toArray, List.set_cons_zero, List.set_cons_succ]
  refine early_take (i := 21) 24 (.int .i64 (x.a.s - (x.idx : Int) + x.a.s * (x.free : Int))) rfl rfl (by kernel_rfl) (by kernel_rfl) (by kernel_rfl) (by kernel_rfl) rfl (fun _ _ _ h => h) (fun w' hw' => by go_simp) S1 ?_
  simp only [Act.put, List.setIfInBounds_toArray, List.set_cons_zero, List.set_cons_succ]
  refine early_take (i := 22) 25 (.int .i64 x.usable) rfl rfl (by kernel_rfl) (by kernel_rfl) (by kernel_rfl) (by kernel_rfl) rfl (fun _ _ _ h => h) (fun w' hw' => by go_simp) S1 ?_
  simp only [Act.put, List.setIfInBounds_toArray, List.set_cons_zero, List.set_cons_succ]
  refine early_take (i := 23) 2 (.int .i64 x.usable) rfl rfl (by kernel_rfl) (by kernel_rfl) (by kernel_rfl) (by kernel_rfl) rfl (fun _ _ _ h => h) (fun w' hw' => by go_simp) S1 ?_
  simp only [Act.put, List.setIfInBounds_toArray, List.set_cons_zero, List.set_cons_succ]
  refine early_done (by kernel_rfl) ?_
  go_wp2
  go_ret
  exact ⟨rfl, B1.out⟩
end
end Go.Proofs.YtplmdmchkaacoaaGreat
