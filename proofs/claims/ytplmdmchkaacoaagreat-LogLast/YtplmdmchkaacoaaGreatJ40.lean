/-
  TEXTS JOINED: LgB.
-/
import Derived.Test.YtplmdmchkaacoaaGreatJ39

/-
  THE WALKS OF Room, next, live, remap, enter.
-/
namespace Go.Proofs.YtplmdmchkaacoaaGreat
open Go.RowKit
open L7 (Rr Rc)
open L12 (Sg)
open L13 (setN)
set_option linter.unusedVariables false
set_option maxRecDepth 100000

section
variable {w w' : World} {P : Pl} {q : Ql} {O : Nat → Prop} {x : LS} {l : Int}
def LS.room (x : LS) : Bool := decide (((x.recs.length : Int) + ((x.a.M : Int) - 2)) / ((x.a.M : Int) - 2) ≤ x.usable - x.a.s)
theorem room_any (h : LG w P q O x l) (hw : x.Wf) : Calls Tryz.prog 19 #[.pointer (some ⟨q.b, 0, none⟩)] w fun e w' => e = .returned (.bool x.room) ∧ Below w.heap.size w w' := by
  have SM := Lib.hid h.wf.small.hm
  have HW := Lib.hid hw
  have hs := h.wf.small.hs
  have hm := h.wf.small.hm
  have hfew : (x.recs.length : Int) ≤ 1000 := by have := hw.few; have := h.wf.small.ok.2.2.1.2; have : x.a.s * ((x.a.M : Int) - 2) ≤ 9 := Int.le_trans (Int.mul_le_mul (show x.a.s ≤ 3 by omega) (show (x.a.M : Int) - 2 ≤ 3 by omega) (by omega) (by omega)) (by omega); omega
  have hu : -100 ≤ x.usable ∧ x.usable ≤ 100 := by
    have h2 := hw.ix
    have hg := h.wf.small.hg
    have hf : (x.free : Int) ≤ 6 := by have := L12.many_le x.T 0; have := hw.T; unfold LS.free; omega
    have h3 : 0 ≤ x.a.s * (x.free : Int) ∧ x.a.s * (x.free : Int) ≤ 18 := ⟨Int.mul_nonneg (by omega) (by omega), Int.le_trans (Int.mul_le_mul (show x.a.s ≤ 3 by omega) hf (by omega) (by omega)) (by omega)⟩
    unfold LS.usable
    omega
  have e0 : IntKind.i64.wrap (x.usable - x.a.s) = x.usable - x.a.s := wrap_of (by omega) (by omega)
  have e1 : IntKind.i64.wrap ((x.recs.length : Int) + ((x.a.M : Int) - 2)) = (x.recs.length : Int) + ((x.a.M : Int) - 2) := wrap_of (by omega) (by omega)
  have e5 : ((x.recs.length : Int) + ((x.a.M : Int) - 2)).tdiv ((x.a.M : Int) - 2) = ((x.recs.length : Int) + ((x.a.M : Int) - 2)) / ((x.a.M : Int) - 2) := Int.tdiv_eq_ediv_of_nonneg (by omega)
  have e4 : 0 ≤ ((x.recs.length : Int) + ((x.a.M : Int) - 2)) / ((x.a.M : Int) - 2) ∧ ((x.recs.length : Int) + ((x.a.M : Int) - 2)) / ((x.a.M : Int) - 2) ≤ 2000 := ⟨Int.ediv_nonneg (by omega) (by omega), Int.le_trans (Int.ediv_le_self _ (by omega)) (by omega)⟩
  have e2 : IntKind.i64.wrap (((x.recs.length : Int) + ((x.a.M : Int) - 2)) / ((x.a.M : Int) - 2)) = ((x.recs.length : Int) + ((x.a.M : Int) - 2)) / ((x.a.M : Int) - 2) := wrap_of (by omega) (by omega)
  have e3 : ¬ (x.a.M : Int) - 2 = 0 := by omega
  have S0 : (fun w' : World => LG w' P q O x l) w.drew := h.drew
  clear h hw
  go_enter Tryz.func19, Tryz.ntmps19
  go_wp2_with fail
  refine wp_region_early (fun w' : World => LG w' P q O x l) (fun _ => true) (by kernel_rfl) ?_
  change wpEarly _ _ _ _ _ _ 27 (Array.replicate 27 false) _ _
  refine early_take (i := 0) 3 (.pointer (some ⟨q.b, 0, none⟩)) rfl rfl (by kernel_rfl) (by kernel_rfl) (by kernel_rfl) (by kernel_rfl) rfl (fun _ _ _ h => h) (fun w' hw' => by go_simp) S0 ?_
  simp only [Act.put, List.setIfInBounds_toArray, List.set_cons_zero, List.set_cons_succ]
  refine early_take (i := 2) 5 (.pointer (some ⟨q.b, 0, none⟩)) rfl rfl (by kernel_rfl) (by kernel_rfl) (by kernel_rfl) (by kernel_rfl) rfl (fun _ _ _ h => h) (fun w' hw' => by go_simp) S0 ?_
  simp only [Act.put, List.setIfInBounds_toArray, List.set_cons_zero, List.set_cons_succ]
  refine early_take (i := 3) 6 (.pointer (some ⟨q.b, 0, none⟩)) rfl rfl (by kernel_rfl) (by kernel_rfl) (by kernel_rfl) (by kernel_rfl) rfl (fun _ _ _ h => h) (fun w' hw' => by go_simp) S0 ?_
  simp only [Act.put, List.setIfInBounds_toArray, List.set_cons_zero, List.set_cons_succ]
  refine early_take (i := 4) 7 (.pointer (some ⟨q.b, 0, none⟩)) rfl rfl (by kernel_rfl) (by kernel_rfl) (by kernel_rfl) (by kernel_rfl) rfl (fun _ _ _ h => h) (fun w' hw' => by go_simp) S0 ?_
  simp only [Act.put, List.setIfInBounds_toArray, List.set_cons_zero, List.set_cons_succ]
  refine early_take (i := 5) 8 (.pointer (some ⟨q.b, 3, none⟩)) rfl rfl (by kernel_rfl) (by kernel_rfl) (by kernel_rfl) (by kernel_rfl) rfl (fun _ _ _ h => h) (fun w' hw' => by go_simp) S0 ?_
  simp only [Act.put, List.setIfInBounds_toArray, List.set_cons_zero, List.set_cons_succ]
  refine early_take (i := 6) 9 (.int .i64 x.a.s) rfl rfl (by kernel_rfl) (by kernel_rfl) (by kernel_rfl) (by kernel_rfl) rfl (fun _ _ _ h => h) (fun w' hw' => by have k := hw'.c3; go_simp) S0 ?_
  simp only [Act.put, List.setIfInBounds_toArray, List.set_cons_zero, List.set_cons_succ]
  refine early_take (i := 8) 11 (.pointer (some ⟨q.b, 0, none⟩)) rfl rfl (by kernel_rfl) (by kernel_rfl) (by kernel_rfl) (by kernel_rfl) rfl (fun _ _ _ h => h) (fun w' hw' => by go_simp) S0 ?_
  simp only [Act.put, List.setIfInBounds_toArray, List.set_cons_zero, List.set_cons_succ]
  refine early_take (i := 9) 12 (.pointer (some ⟨q.b, 0, none⟩)) rfl rfl (by kernel_rfl) (by kernel_rfl) (by kernel_rfl) (by kernel_rfl) rfl (fun _ _ _ h => h) (fun w' hw' => by go_simp) S0 ?_
  simp only [Act.put, List.setIfInBounds_toArray, List.set_cons_zero, List.set_cons_succ]
  refine early_take (i := 10) 13 (.pointer (some ⟨q.b, 7, none⟩)) rfl rfl (by kernel_rfl) (by kernel_rfl) (by kernel_rfl) (by kernel_rfl) rfl (fun _ _ _ h => h) (fun w' hw' => by go_simp) S0 ?_
  simp only [Act.put, List.setIfInBounds_toArray, List.set_cons_zero, List.set_cons_succ]
  refine early_take (i := 11) 14 (.pointer (some ⟨P.n, 0, none⟩)) rfl rfl (by kernel_rfl) (by kernel_rfl) (by kernel_rfl) (by kernel_rfl) rfl (fun _ _ _ h => h) (fun w' hw' => by have k := hw'.c7; go_simp) S0 ?_
  simp only [Act.put, List.setIfInBounds_toArray, List.set_cons_zero, List.set_cons_succ]
  refine early_take (i := 13) 16 (.pointer (some ⟨q.b, 0, none⟩)) rfl rfl (by kernel_rfl) (by kernel_rfl) (by kernel_rfl) (by kernel_rfl) rfl (fun _ _ _ h => h) (fun w' hw' => by go_simp) S0 ?_
  simp only [Act.put, List.setIfInBounds_toArray, List.set_cons_zero, List.set_cons_succ]
  refine early_take (i := 14) 17 (.pointer (some ⟨q.b, 0, none⟩)) rfl rfl (by kernel_rfl) (by kernel_rfl) (by kernel_rfl) (by kernel_rfl) rfl (fun _ _ _ h => h) (fun w' hw' => by go_simp) S0 ?_
  simp only [Act.put, List.setIfInBounds_toArray, List.set_cons_zero, List.set_cons_succ]
  refine early_take (i := 15) 18 (.pointer (some ⟨q.b, 0, none⟩)) rfl rfl (by kernel_rfl) (by kernel_rfl) (by kernel_rfl) (by kernel_rfl) rfl (fun _ _ _ h => h) (fun w' hw' => by go_simp) S0 ?_
  simp only [Act.put, List.setIfInBounds_toArray, List.set_cons_zero, List.set_cons_succ]
  refine early_take (i := 16) 19 (sv (x.a.M : Int) x.a.b x.a.g x.a.s x.a.n x.a.l) rfl rfl (by kernel_rfl) (by kernel_rfl) (by kernel_rfl) (by kernel_rfl) rfl (fun _ _ _ h => h) (fun w' hw' => exec_shape (x := .tmp 18) rfl rfl hw'.range) S0 ?_
  simp only [Act.put, List.setIfInBounds_toArray, List.set_cons_zero, List.set_cons_succ]
  refine early_take (i := 19) 22 (.pointer (some ⟨q.b, 0, none⟩)) rfl rfl (by kernel_rfl) (by kernel_rfl) (by kernel_rfl) (by kernel_rfl) rfl (fun _ _ _ h => h) (fun w' hw' => by go_simp) S0 ?_
  simp only [Act.put, List.setIfInBounds_toArray, List.set_cons_zero, List.set_cons_succ]
  refine early_take (i := 20) 23 (.pointer (some ⟨q.b, 0, none⟩)) rfl rfl (by kernel_rfl) (by kernel_rfl) (by kernel_rfl) (by kernel_rfl) rfl (fun _ _ _ h => h) (fun w' hw' => by go_simp) S0 ?_
  simp only [Act.put, List.setIfInBounds_toArray, List.set_cons_zero, List.set_cons_succ]
  refine early_take (i := 21) 24 (.pointer (some ⟨q.b, 0, none⟩)) rfl rfl (by kernel_rfl) (by kernel_rfl) (by kernel_rfl) (by kernel_rfl) rfl (fun _ _ _ h => h) (fun w' hw' => by go_simp) S0 ?_
  simp only [Act.put, List.setIfInBounds_toArray, List.set_cons_zero, List.set_cons_succ]
  refine early_take (i := 22) 25 (sv (x.a.M : Int) x.a.b x.a.g x.a.s x.a.n x.a.l) rfl rfl (by kernel_rfl) (by kernel_rfl) (by kernel_rfl) (by kernel_rfl) rfl (fun _ _ _ h => h) (fun w' hw' => exec_shape (x := .tmp 24) rfl rfl hw'.range) S0 ?_
  simp only [Act.put, List.setIfInBounds_toArray, List.set_cons_zero, List.set_cons_succ]
  refine early_only (i := 1) (by kernel_rfl) rfl (fun K hK => ?_)
  simp only [opWp, List.getElem?_toArray, List.getElem?_cons_succ, List.getElem?_cons_zero]
  go_simp
  go_at_call 34
  refine (usable_any S0 HW.out).mono ?_
  rintro e w1 ⟨rfl, hb⟩
  have S1 : (fun w' : World => LG w' P q O x l) w1 := S0.up hb
  have B1 := Lib.hid (below_drew hb)
  clear hb
  refine hK _ _ (fun _ => S1) ?_
  refine early_take (i := 7) 10 (.int .i64 (x.usable - x.a.s)) rfl rfl (by kernel_rfl) (by kernel_rfl) (by kernel_rfl) (by kernel_rfl) rfl (fun _ _ _ h => h) (fun w' hw' => by go_simp) S1 ?_
  simp only [Act.put, List.setIfInBounds_toArray, List.set_cons_zero, List.set_cons_succ]
  refine early_only (i := 12) (by kernel_rfl) rfl (fun K hK => ?_)
  simp only [opWp, List.getElem?_toArray, List.getElem?_cons_succ, List.getElem?_cons_zero]
  go_simp
  go_at_call 33
  obtain ⟨T, hn, _⟩ := S1.zoomN
  refine (L7.len_any hn).mono ?_
  rintro e w2 ⟨rfl, hw2⟩
  subst hw2
  clear hn
  refine hK _ _ (fun _ => S1) ?_
  refine early_only (i := 17) (by kernel_rfl) rfl (fun K hK => ?_)
  simp only [opWp, List.getElem?_toArray, List.getElem?_cons_succ, List.getElem?_cons_zero]
  go_simp
  go_at_call 56
  refine (slots_any (x.a.M : Int) x.a.b x.a.g x.a.s x.a.n x.a.l ⟨by have := SM.out; omega, by have := SM.out; omega⟩ _).mono ?_
  rintro e w2 ⟨rfl, hb⟩
  have S2 : (fun w' : World => LG w' P q O x l) w2 := S1.up hb
  have B2 := Lib.hid (B1.out.trans (hb.mono B1.out.size))
  clear hb
  refine hK _ _ (fun _ => S2) ?_
  refine early_take (i := 18) 21 (.int .i64 ((x.recs.length : Int) + ((x.a.M : Int) - 2))) rfl rfl (by kernel_rfl) (by kernel_rfl) (by kernel_rfl) (by kernel_rfl) rfl (fun _ _ _ h => h) (fun w' hw' => by go_simp) S2 ?_
  simp only [Act.put, List.setIfInBounds_toArray, List.set_cons_zero, List.set_cons_succ]
  refine early_only (i := 23) (by kernel_rfl) rfl (fun K hK => ?_)
  simp only [opWp, List.getElem?_toArray, List.getElem?_cons_succ, List.getElem?_cons_zero]
  go_simp
  go_at_call 56
  refine (slots_any (x.a.M : Int) x.a.b x.a.g x.a.s x.a.n x.a.l ⟨by have := SM.out; omega, by have := SM.out; omega⟩ _).mono ?_
  rintro e w3 ⟨rfl, hb⟩
  have S3 : (fun w' : World => LG w' P q O x l) w3 := S2.up hb
  have B3 := Lib.hid (B2.out.trans (hb.mono B2.out.size))
  clear hb
  refine hK _ _ (fun _ => S3) ?_
  refine early_take (i := 24) 27 (.int .i64 (((x.recs.length : Int) + ((x.a.M : Int) - 2)) / ((x.a.M : Int) - 2))) rfl rfl (by kernel_rfl) (by kernel_rfl) (by kernel_rfl) (by kernel_rfl) rfl (fun _ _ _ h => h) (fun w' hw' => by go_simp) S3 ?_
  simp only [Act.put, List.setIfInBounds_toArray, List.set_cons_zero, List.set_cons_succ]
  refine early_take (i := 25) 28 (.bool x.room) rfl rfl (by kernel_rfl) (by kernel_rfl) (by kernel_rfl) (by kernel_rfl) rfl (fun _ _ _ h => h) (fun w' hw' => by go_simp; rfl) S3 ?_
  simp only [Act.put, List.setIfInBounds_toArray, List.set_cons_zero, List.set_cons_succ]
  refine early_take (i := 26) 2 (.bool x.room) rfl rfl (by kernel_rfl) (by kernel_rfl) (by kernel_rfl) (by kernel_rfl) rfl (fun _ _ _ h => h) (fun w' hw' => by go_simp) S3 ?_
  simp only [Act.put, List.setIfInBounds_toArray, List.set_cons_zero, List.set_cons_succ]
  refine early_done (by kernel_rfl) ?_
  go_wp2
  go_ret
  exact ⟨rfl, B3.out⟩
def LS.nxv (x : LS) : Value := if x.none_ then .tuple #[.int .i64 0, .int .i64 2] else .tuple #[.int .i64 x.nx, .int .i64 0]
theorem next_any (h : LG w P q O x l) (hw : x.Wf) : Calls Tryz.prog 82 #[.pointer (some ⟨q.b, 0, none⟩)] w fun e w' => e = .returned x.nxv ∧ Below w.heap.size w w' := by
  have H := Lib.hid h
  have HW := Lib.hid hw
  clear h hw
  go_enter Tryz.func82, Tryz.ntmps82
  go_wp2_with fail
  refine (last_call H.out HW.out).mono ?_
  rintro e w1 ⟨rfl, n, rfl⟩
  cases hl : x.last with
  | false =>
    go_wp2
    go_ret2
    exact ⟨by unfold LS.nxv LS.none_ LS.nx; simp [hl], ⟨rfl, rfl, rfl, Nat.le_refl _, fun _ _ => rfl⟩⟩
  | true =>
    have k9 := (H.out.drewN n).c9
    go_wp2_with fail
    refine (L12.first_any (H.out.drewN n).zoomT.1).mono ?_
    rintro e w2 ⟨rfl, hb⟩
    have B2 := Lib.hid (show Below w.heap.size w w2 from ⟨hb.os, hb.tape, hb.output, hb.size, hb.block⟩)
    clear hb k9
    by_cases hf : L12.first x.T < 0
    · go_wp2
      go_ret2
      exact ⟨by unfold LS.nxv LS.none_ LS.nx; simp [hl, hf], B2.out⟩
    · go_wp2
      go_ret2
      exact ⟨by unfold LS.nxv LS.none_ LS.nx; simp [hl, hf], B2.out⟩
theorem live_any (h : LG w P q O x l) (p m : Int) (hp : -1 ≤ p ∧ p < x.a.N * ((x.a.M : Int) - 2)) (hm : -1 ≤ m ∧ m ≤ 1) (hT : ∀ k (h : k < x.T.length), -1000 ≤ x.T[k].lv ∧ x.T[k].lv ≤ 1000) :
    Calls Tryz.prog 143 #[.pointer (some ⟨q.b, 0, none⟩), .int .i64 p, .int .i64 m] w fun e w' => e = .returned (.tuple #[]) ∧ Dg w P q O { x with T := liv x.a x.T p m } l w' := by
  have SM := Lib.hid h.wf.small.hm
  have SS := Lib.hid h.wf.small.hs
  have HN := Lib.hid (show x.a.N * ((x.a.M : Int) - 2) ≤ 54 from Int.le_trans (Int.mul_le_mul (show x.a.N ≤ 18 from h.wf.n.2) (show (x.a.M : Int) - 2 ≤ 3 by have := SM.out; omega) (by have := SM.out; omega) (by omega)) (by omega))
  have H := Lib.hid h
  unfold liv
  by_cases e : p = -1
  · subst e
    clear h
    go_enter Tryz.func143, Tryz.ntmps143
    go_wp2
    go_end0
    exact ⟨rfl, Dg.refl H.out⟩
  · rw [if_neg e]
    have HP := Lib.hid (show 0 ≤ p ∧ p < x.a.N * ((x.a.M : Int) - 2) by omega)
    have HQ := Lib.hid (show 0 ≤ p / ((x.a.M : Int) - 2) ∧ p / ((x.a.M : Int) - 2) ≤ 1000000 from ⟨Int.ediv_nonneg (by have := HP.out; omega) (by have := SM.out; omega), Int.le_trans (Int.ediv_le_self _ (by have := HP.out; omega)) (by have := HP.out; have := HN.out; omega)⟩)
    have HT := Lib.hid (show ∀ k, (h : k < x.T.length) → -9000000000000000000 ≤ x.T[k].lv + m ∧ x.T[k].lv + m ≤ 9000000000000000000 from fun k hk => by have := hT k hk; omega)
    have G0 := Lib.hid h.drew
    have S0 : (fun w' : World => LB w' P q x) w.drew := G0.out.lb
    clear h hT hp
    go_enter Tryz.func143, Tryz.ntmps143
    go_wp2_with fail
    refine wp_region_early (fun w' : World => LB w' P q x) (fun _ => true) (by kernel_rfl) ?_
    change wpEarly _ _ _ _ _ _ 18 (Array.replicate 18 false) _ _
    refine early_take (i := 0) 8 (.pointer (some ⟨q.b, 0, none⟩)) rfl rfl (by kernel_rfl) (by kernel_rfl) (by kernel_rfl) (by kernel_rfl) rfl (fun _ _ _ h => h) (fun w' hw' => by go_simp) S0 ?_
    simp only [Act.put, List.setIfInBounds_toArray, List.set_cons_zero, List.set_cons_succ]
    refine early_take (i := 1) 9 (.pointer (some ⟨q.b, 0, none⟩)) rfl rfl (by kernel_rfl) (by kernel_rfl) (by kernel_rfl) (by kernel_rfl) rfl (fun _ _ _ h => h) (fun w' hw' => by go_simp) S0 ?_
    simp only [Act.put, List.setIfInBounds_toArray, List.set_cons_zero, List.set_cons_succ]
    refine early_take (i := 2) 10 (.pointer (some ⟨q.b, 9, none⟩)) rfl rfl (by kernel_rfl) (by kernel_rfl) (by kernel_rfl) (by kernel_rfl) rfl (fun _ _ _ h => h) (fun w' hw' => by go_simp) S0 ?_
    simp only [Act.put, List.setIfInBounds_toArray, List.set_cons_zero, List.set_cons_succ]
    refine early_take (i := 3) 11 (.pointer (some ⟨q.t, 0, none⟩)) rfl rfl (by kernel_rfl) (by kernel_rfl) (by kernel_rfl) (by kernel_rfl) rfl (fun _ _ _ h => h) (fun w' hw' => by have k := hw'.c9; go_simp) S0 ?_
    simp only [Act.put, List.setIfInBounds_toArray, List.set_cons_zero, List.set_cons_succ]
    refine early_take (i := 4) 12 (.pointer (some ⟨q.b, 0, none⟩)) rfl rfl (by kernel_rfl) (by kernel_rfl) (by kernel_rfl) (by kernel_rfl) rfl (fun _ _ _ h => h) (fun w' hw' => by go_simp) S0 ?_
    simp only [Act.put, List.setIfInBounds_toArray, List.set_cons_zero, List.set_cons_succ]
    refine early_take (i := 5) 13 (.pointer (some ⟨q.b, 0, none⟩)) rfl rfl (by kernel_rfl) (by kernel_rfl) (by kernel_rfl) (by kernel_rfl) rfl (fun _ _ _ h => h) (fun w' hw' => by go_simp) S0 ?_
    simp only [Act.put, List.setIfInBounds_toArray, List.set_cons_zero, List.set_cons_succ]
    refine early_take (i := 6) 14 (.pointer (some ⟨q.b, 0, none⟩)) rfl rfl (by kernel_rfl) (by kernel_rfl) (by kernel_rfl) (by kernel_rfl) rfl (fun _ _ _ h => h) (fun w' hw' => by go_simp) S0 ?_
    simp only [Act.put, List.setIfInBounds_toArray, List.set_cons_zero, List.set_cons_succ]
    refine early_take (i := 7) 15 (sv (x.a.M : Int) x.a.b x.a.g x.a.s x.a.n x.a.l) rfl rfl (by kernel_rfl) (by kernel_rfl) (by kernel_rfl) (by kernel_rfl) rfl (fun _ _ _ h => h) (fun w' hw' => exec_shape (x := .tmp 14) rfl rfl hw'.range) S0 ?_
    simp only [Act.put, List.setIfInBounds_toArray, List.set_cons_zero, List.set_cons_succ]
    refine early_take (i := 8) 16 (.pointer (some ⟨q.b, 0, none⟩)) rfl rfl (by kernel_rfl) (by kernel_rfl) (by kernel_rfl) (by kernel_rfl) rfl (fun _ _ _ h => h) (fun w' hw' => by go_simp) S0 ?_
    simp only [Act.put, List.setIfInBounds_toArray, List.set_cons_zero, List.set_cons_succ]
    refine early_take (i := 9) 17 (.pointer (some ⟨q.b, 0, none⟩)) rfl rfl (by kernel_rfl) (by kernel_rfl) (by kernel_rfl) (by kernel_rfl) rfl (fun _ _ _ h => h) (fun w' hw' => by go_simp) S0 ?_
    simp only [Act.put, List.setIfInBounds_toArray, List.set_cons_zero, List.set_cons_succ]
    refine early_take (i := 10) 18 (.pointer (some ⟨q.b, 0, none⟩)) rfl rfl (by kernel_rfl) (by kernel_rfl) (by kernel_rfl) (by kernel_rfl) rfl (fun _ _ _ h => h) (fun w' hw' => by go_simp) S0 ?_
    simp only [Act.put, List.setIfInBounds_toArray, List.set_cons_zero, List.set_cons_succ]
    refine early_take (i := 11) 19 (sv (x.a.M : Int) x.a.b x.a.g x.a.s x.a.n x.a.l) rfl rfl (by kernel_rfl) (by kernel_rfl) (by kernel_rfl) (by kernel_rfl) rfl (fun _ _ _ h => h) (fun w' hw' => exec_shape (x := .tmp 18) rfl rfl hw'.range) S0 ?_
    simp only [Act.put, List.setIfInBounds_toArray, List.set_cons_zero, List.set_cons_succ]
    refine early_take (i := 12) 20 (.int .i64 p) rfl rfl (by kernel_rfl) (by kernel_rfl) (by kernel_rfl) (by kernel_rfl) rfl (fun _ _ _ h => h) (fun w' hw' => by go_simp) S0 ?_
    simp only [Act.put, List.setIfInBounds_toArray, List.set_cons_zero, List.set_cons_succ]
    refine early_take (i := 16) 24 (.int .i64 m) rfl rfl (by kernel_rfl) (by kernel_rfl) (by kernel_rfl) (by kernel_rfl) rfl (fun _ _ _ h => h) (fun w' hw' => by go_simp) S0 ?_
    simp only [Act.put, List.setIfInBounds_toArray, List.set_cons_zero, List.set_cons_succ]
    refine early_only (i := 13) (by kernel_rfl) rfl (fun K hK => ?_)
    simp only [opWp, List.getElem?_toArray, List.getElem?_cons_succ, List.getElem?_cons_zero]
    go_simp
    go_at_call 63
    refine (L5.spot_any (x.a.M : Int) x.a.b x.a.g x.a.s x.a.n x.a.l p ⟨by have := HP.out; omega, by have := HP.out; have := HN.out; omega⟩ ⟨by have := SM.out; omega, by have := SM.out; omega⟩ _).mono ?_
    rintro e w1 ⟨rfl, hb⟩
    have G1 := Lib.hid (G0.out.up hb)
    have S1 : (fun w' : World => LB w' P q x) w1 := G1.out.lb
    have B1 := Lib.hid (below_drew hb)
    clear hb
    refine hK _ _ (fun _ => S1) ?_
    refine early_take (i := 14) 22 (.int .i64 (p / ((x.a.M : Int) - 2))) rfl rfl (by kernel_rfl) (by kernel_rfl) (by kernel_rfl) (by kernel_rfl) rfl (fun _ _ _ h => h) (fun w' hw' => by have f := field_spot (.int .i64 (p / ((x.a.M : Int) - 2))) (.int .i64 (1 + p % ((x.a.M : Int) - 2))) w'; go_simp) S1 ?_
    simp only [Act.put, List.setIfInBounds_toArray, List.set_cons_zero, List.set_cons_succ]
    refine early_only (i := 15) (by kernel_rfl) rfl (fun K hK => ?_)
    simp only [opWp, List.getElem?_toArray, List.getElem?_cons_succ, List.getElem?_cons_zero]
    go_simp
    go_at_call 157
    refine (L5.segment_any (x.a.M : Int) x.a.b x.a.g x.a.s x.a.n x.a.l (p / ((x.a.M : Int) - 2)) HQ.out ⟨by have := SS.out; omega, by have := SS.out; omega⟩ _).mono ?_
    rintro e w2 ⟨rfl, hb⟩
    have G2 := Lib.hid (G1.out.up hb)
    have S2 : (fun w' : World => LB w' P q x) w2 := G2.out.lb
    have B2 := Lib.hid (B1.out.trans (hb.mono B1.out.size))
    clear hb
    refine hK _ _ (fun _ => S2) ?_
    refine early_only (i := 17) (by kernel_rfl) rfl (fun K hK => ?_)
    simp only [opWp, List.getElem?_toArray, List.getElem?_cons_succ, List.getElem?_cons_zero]
    go_simp
    go_at_call 156
    refine (L12.live_any (p / ((x.a.M : Int) - 2) / x.a.s) m HT.out G2.out.zoomT.1).mono ?_
    rintro e w3 ⟨rfl, k1, k2⟩
    have D3 := Lib.hid (G2.out.zoomT.2.2.2 w3 _ k1 k2)
    clear k1 k2
    have S3 : (fun w' : World => LB w' P q x) w3 := D3.out.lb rfl rfl rfl
    refine hK _ _ (fun _ => S3) ?_
    refine early_done (by kernel_rfl) ?_
    go_wp2
    go_end0
    exact ⟨rfl, Dg.trans (fun _ h => .inl h) (But.of_below B2.out) D3.out⟩
theorem lv_wide {t : Int} (h : -1 ≤ t ∧ t ≤ 19) : -1000 ≤ t ∧ t ≤ 1000 := by omega
theorem lv_near {t : Int} (h : -1 ≤ t ∧ t ≤ 19) (c : Prop) [Decidable c] : -1000 ≤ t + (if c then (-1 : Int) else 0) ∧ t + (if c then (-1 : Int) else 0) ≤ 1000 := by
  split <;> omega
theorem lv_small (h : x.a.Wf) (hw : x.Wf) : ∀ k (h : k < x.T.length), -1 ≤ x.T[k].lv ∧ x.T[k].lv ≤ 19 := by
  intro k hk
  have h1 := hw.lv k hk
  have h2 := lives_le x.V x.a.sl x.a.k x.a.lb k
  have h3 := small_nats h
  have h4 := h.small.hl
  omega
theorem remap_any (h : LG w P q O x l) (hw : x.Wf) (b p : Int) (hp : -1 ≤ p ∧ p < x.a.N * ((x.a.M : Int) - 2)) :
    Calls Tryz.prog 120 #[.pointer (some ⟨q.b, 0, none⟩), .int .i64 b, .int .i64 p] w fun e w' => e = .returned (.tuple #[]) ∧ Dg w P q O (x.remap b p) l w' := by
  have H := Lib.hid h
  have HW := Lib.hid hw
  have HP := Lib.hid hp
  have NN := Lib.hid (small_nats h.wf)
  have HN := Lib.hid (show x.a.N * ((x.a.M : Int) - 2) ≤ 54 from Int.le_trans (Int.mul_le_mul (show x.a.N ≤ 18 from h.wf.n.2) (show (x.a.M : Int) - 2 ≤ 3 by have := h.wf.small.hm; omega) (by have := h.wf.small.hm; omega) (by omega)) (by omega))
  have k8 := h.c8
  obtain ⟨T0, A0, m0, m1, m2⟩ := h.zoomM
  have M0 := Lib.hid m0
  have M2 := Lib.hid m2
  have LVS := Lib.hid (lv_small h.wf hw)
  clear h hw hp m0 m1 m2
  go_enter Tryz.func120, Tryz.ntmps120
  go_wp2_with fail
  refine (L13.leng_any M0.out).mono ?_
  rintro e w1 ⟨rfl, hw1⟩
  subst hw1
  go_wp2_with fail
  refine (lhas_any b (x.a.lb : Int) _).mono ?_
  rintro e w2 ⟨rfl, hw2⟩
  subst hw2
  rw [NN.out.2.2.1]
  by_cases hb : 0 ≤ b ∧ b < x.a.l
  · obtain ⟨k, rfl⟩ := Int.eq_ofNat_of_zero_le hb.1
    have hk : k < x.a.lb := by have := NN.out.2.2.1; omega
    rw [decide_eq_true hb]
    go_wp2_with fail
    refine (L13.set_any (k : Int) p ⟨by have := HP.out; omega, by have := HP.out; have := HN.out; omega⟩ M0.out).mono ?_
    rintro e w3 ⟨rfl, T1, t1, t2, t3⟩
    rw [L13.lies_in _ hk]
    rw [L13.setI_in _ _ hk, Int.max_eq_left HP.out.1] at t2
    obtain ⟨O1, g1, g2, g3⟩ := M2.out w3 T1 _ _ t2 t1 t3
    have G1 := Lib.hid g1
    have S1 := Lib.hid g2
    have B1 := Lib.hid g3
    clear t1 t2 t3 g1 g2 g3 k8
    go_wp2_with fail
    refine (live_any G1.out (x.V k) (-1) (HW.out.V k) (by omega) (fun j hj => lv_wide (LVS.out j hj))).mono ?_
    rintro e w4 ⟨rfl, hD⟩
    obtain ⟨O2, g1, g2, g3⟩ := Dg.trans S1.out B1.out hD
    have G2 := Lib.hid g1
    have S2 := Lib.hid g2
    have B2 := Lib.hid g3
    clear g1 g2 g3 hD
    go_wp2_with fail
    refine (live_any G2.out p 1 HP.out (by omega) (fun j hj => by
      have hj1 : j < x.T.length := by have hj : j < (liv x.a x.T (x.V k) (-1)).length := hj; rw [liv_len] at hj; exact hj
      have e := liv_get x.a x.T (x.V k) (-1) j hj1
      have := LVS.out j hj1
      show -1000 ≤ ((liv x.a x.T (x.V k) (-1))[j]'(by rw [liv_len]; exact hj1)).lv ∧ ((liv x.a x.T (x.V k) (-1))[j]'(by rw [liv_len]; exact hj1)).lv ≤ 1000
      rw [e]
      exact lv_near this _)).mono ?_
    rintro e w5 ⟨rfl, hD⟩
    have D5 := Lib.hid (Dg.trans S2.out B2.out hD)
    clear hD
    go_wp2
    go_end0
    exact ⟨rfl, by rw [remap_in hb.2]; exact D5.out⟩
  · rw [decide_eq_false hb]
    go_wp2
    refine bodyPost_ret (results_none rfl _ _ _) rfl ?_
    exact ⟨rfl, by rw [remap_off hb]; exact Dg.refl H.out⟩
theorem enterI_any (h : LG w P q O x l) (hw : x.Wf) (k b p : Int) (hp : -1 ≤ p ∧ p < x.a.N * ((x.a.M : Int) - 2)) :
    Calls Tryz.prog 77 #[.pointer (some ⟨q.b, 0, none⟩), .agg #[.int .i64 k, .int .i64 b], .int .i64 p] w fun r w' => r = .returned (.tuple #[]) ∧ Dg w P q O (if k = 1 ∨ k = 3 then x.remap b p else if k = 2 then x.remap b (-1) else x) l w' := by
  have HW := Lib.hid hw
  have HP := Lib.hid hp
  have H0 := Lib.hid h
  clear h hw hp
  by_cases h1 : k = 1
  · subst h1
    have HI := Lib.hid (show (if (1 : Int) = 1 ∨ (1 : Int) = 3 then x.remap b p else if (1 : Int) = 2 then x.remap b (-1) else x) = x.remap b p by simp)
    rw [HI.out]
    clear HI
    have H := Lib.hid (H0.out.alloc (.cells #[.int .i64 1, .int .i64 b] 73))
    have B0 := Lib.hid (But.of_below (S := O) ((Below.refl w.heap.size w).alloc (Nat.le_refl _) (.cells #[.int .i64 1, .int .i64 b] 73)))
    have k0 := (At.new (w := w) (g := w.heap.size) #[.int .i64 1, .int .i64 b] 73 rfl).cell 0
    have k1 := (At.new (w := w) (g := w.heap.size) #[.int .i64 1, .int .i64 b] 73 rfl).cell 1
    go_enter Tryz.func77, Tryz.ntmps77
    go_wp2_with fail
    refine (remap_any H.out HW.out b p HP.out).mono ?_
    rintro r w2 ⟨rfl, hD⟩
    have D2 := Lib.hid (Dg.trans (fun _ h => .inl h) B0.out hD)
    clear hD
    go_wp2
    go_end0
    exact ⟨rfl, D2.out⟩
  by_cases h3 : k = 3
  · subst h3
    have HI := Lib.hid (show (if (3 : Int) = 1 ∨ (3 : Int) = 3 then x.remap b p else if (3 : Int) = 2 then x.remap b (-1) else x) = x.remap b p by simp)
    rw [HI.out]
    clear HI
    have H := Lib.hid (H0.out.alloc (.cells #[.int .i64 3, .int .i64 b] 73))
    have B0 := Lib.hid (But.of_below (S := O) ((Below.refl w.heap.size w).alloc (Nat.le_refl _) (.cells #[.int .i64 3, .int .i64 b] 73)))
    have k0 := (At.new (w := w) (g := w.heap.size) #[.int .i64 3, .int .i64 b] 73 rfl).cell 0
    have k1 := (At.new (w := w) (g := w.heap.size) #[.int .i64 3, .int .i64 b] 73 rfl).cell 1
    go_enter Tryz.func77, Tryz.ntmps77
    go_wp2_with fail
    refine (remap_any H.out HW.out b p HP.out).mono ?_
    rintro r w2 ⟨rfl, hD⟩
    have D2 := Lib.hid (Dg.trans (fun _ h => .inl h) B0.out hD)
    clear hD
    go_wp2
    go_end0
    exact ⟨rfl, D2.out⟩
  by_cases h2 : k = 2
  · subst h2
    have HI := Lib.hid (show (if (2 : Int) = 1 ∨ (2 : Int) = 3 then x.remap b p else if (2 : Int) = 2 then x.remap b (-1) else x) = x.remap b (-1) by simp)
    rw [HI.out]
    clear HI
    have H := Lib.hid (H0.out.alloc (.cells #[.int .i64 2, .int .i64 b] 73))
    have B0 := Lib.hid (But.of_below (S := O) ((Below.refl w.heap.size w).alloc (Nat.le_refl _) (.cells #[.int .i64 2, .int .i64 b] 73)))
    have k0 := (At.new (w := w) (g := w.heap.size) #[.int .i64 2, .int .i64 b] 73 rfl).cell 0
    have k1 := (At.new (w := w) (g := w.heap.size) #[.int .i64 2, .int .i64 b] 73 rfl).cell 1
    go_enter Tryz.func77, Tryz.ntmps77
    go_wp2_with fail
    refine (remap_any H.out HW.out b (-1) ⟨by omega, by have := HP.out; omega⟩).mono ?_
    rintro r w2 ⟨rfl, hD⟩
    have D2 := Lib.hid (Dg.trans (fun _ h => .inl h) B0.out hD)
    clear hD
    go_wp2
    go_end0
    exact ⟨rfl, D2.out⟩
  have HI := Lib.hid (show (if k = 1 ∨ k = 3 then x.remap b p else if k = 2 then x.remap b (-1) else x) = x by rw [if_neg (by omega), if_neg h2])
  rw [HI.out]
  clear HI
  have H := Lib.hid (H0.out.alloc (.cells #[.int .i64 k, .int .i64 b] 73))
  have B0 := Lib.hid (But.of_below (S := O) ((Below.refl w.heap.size w).alloc (Nat.le_refl _) (.cells #[.int .i64 k, .int .i64 b] 73)))
  have k0 := (At.new (w := w) (g := w.heap.size) #[.int .i64 k, .int .i64 b] 73 rfl).cell 0
  go_enter Tryz.func77, Tryz.ntmps77
  go_wp2
  go_end0
  exact ⟨rfl, O, H.out, fun k hk => .inl hk, B0.out⟩
theorem enter_any (h : LG w P q O x l) (hw : x.Wf) (e : L9.En) (p : Int) (hp : -1 ≤ p ∧ p < x.a.N * ((x.a.M : Int) - 2)) :
    Calls Tryz.prog 77 #[.pointer (some ⟨q.b, 0, none⟩), .agg #[.int .i64 (e.k : Int), .int .i64 (e.b : Int)], .int .i64 p] w fun r w' => r = .returned (.tuple #[]) ∧ Dg w P q O (x.enter e p) l w' := by
  refine (enterI_any h hw (e.k : Int) (e.b : Int) p hp).mono ?_
  rintro r w' ⟨rfl, hD⟩
  refine ⟨rfl, ?_⟩
  have : (if (e.k : Int) = 1 ∨ (e.k : Int) = 3 then x.remap (e.b : Int) p else if (e.k : Int) = 2 then x.remap (e.b : Int) (-1) else x) = x.enter e p := by
    unfold LS.enter
    by_cases h1 : e.k = 1 ∨ e.k = 3
    · rw [if_pos h1, if_pos (by omega)]
    · rw [if_neg h1, if_neg (by omega)]
      by_cases h2 : e.k = 2
      · rw [if_pos h2, if_pos (by omega)]
      · rw [if_neg h2, if_neg (by omega)]
  rw [this] at hD
  exact hD
end
end Go.Proofs.YtplmdmchkaacoaaGreat
