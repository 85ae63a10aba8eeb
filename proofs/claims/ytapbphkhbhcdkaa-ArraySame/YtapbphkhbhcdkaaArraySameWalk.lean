/-
  THE WALK OF ArraySame.
-/
import Derived.Test.YtapbphkhbhcdkaaIn
import Derived.Test.YtapbphkhbhcdkaaSameW
namespace Go.Proofs.Ytapbphkhbhcdkaa
open Go.RowKit Go.Maps
set_option linter.unusedVariables false
set_option maxRecDepth 100000

set_option maxHeartbeats 3200000 in
theorem same_walk (x0 x1 x2 x3 x4 x5 i : Int) (f : BitVec 8) (F m : Int) (hF : F = (f.toNat : Int)) (h0 : 0 ≤ x0 ∧ x0 ≤ 255) (h1 : 0 ≤ x1 ∧ x1 ≤ 255) (h2 : 0 ≤ x2 ∧ x2 ≤ 255) (h3 : 0 ≤ x3 ∧ x3 ≤ 255) (h4 : 0 ≤ x4 ∧ x4 ≤ 255) (h5 : 0 ≤ x5 ∧ x5 ≤ 255) (hi : 0 ≤ i ∧ i ≤ 255) (hm0 : 0 ≤ m ∧ m ≤ 255) (w : World) :
    Calls Try.prog 8 #[.agg #[.int .u8 x0, .int .u8 x1, .int .u8 x2, .int .u8 x3, .int .u8 x4, .int .u8 x5], .int .u8 i, .int .u8 F, .int .u8 m] w fun e w' => e = .returned (.bool true) ∧ Below w.heap.size w w' := by
  subst hF
  obtain ⟨M0, b, g, sg, n0, l0, hsm, hshape⟩ := shape_small x0 x1 x2 x3 x4 x5 h0 h1 h2 h3 h4 h5
  obtain ⟨M, rfl⟩ : ∃ M : Nat, M0 = (M : Int) := ⟨M0.toNat, by have := hsm.hm; omega⟩
  have SM := Lib.hid hsm
  have SH := Lib.hid hshape
  clear hsm hshape
  go_enter Try.func8, Try.ntmps8
  go_wp2_with fail
  have A0 := Lib.hid (show At (w.alloc (.cells #[.int .u8 x0, .int .u8 x1, .int .u8 x2, .int .u8 x3, .int .u8 x4, .int .u8 x5] 23)) w.heap.size #[.int .u8 x0, .int .u8 x1, .int .u8 x2, .int .u8 x3, .int .u8 x4, .int .u8 x5] 23 from At.new _ 23 rfl)
  have B0 := Lib.hid ((Below.refl w.heap.size w).alloc (Nat.le_refl _) (.cells #[.int .u8 x0, .int .u8 x1, .int .u8 x2, .int .u8 x3, .int .u8 x4, .int .u8 x5] 23))
  refine (awake_any _).mono ?_
  rintro e w1 ⟨rfl, hbl⟩
  have A1 := Lib.hid (A0.out.below hbl A0.out.lt)
  have B1 := Lib.hid (B0.out.trans (hbl.mono B0.out.size))
  clear hbl A0 B0
  have c0 : w1.cell? ⟨w.heap.size, 0, none⟩ = some (.int .u8 x0) := A1.out.cell 0
  have c1 : w1.cell? ⟨w.heap.size, 1, none⟩ = some (.int .u8 x1) := A1.out.cell 1
  have c2 : w1.cell? ⟨w.heap.size, 2, none⟩ = some (.int .u8 x2) := A1.out.cell 2
  have c3 : w1.cell? ⟨w.heap.size, 3, none⟩ = some (.int .u8 x3) := A1.out.cell 3
  have c4 : w1.cell? ⟨w.heap.size, 4, none⟩ = some (.int .u8 x4) := A1.out.cell 4
  have c5 : w1.cell? ⟨w.heap.size, 5, none⟩ = some (.int .u8 x5) := A1.out.cell 5
  go_wp2_with fail
  refine (SH.out w1).mono ?_
  rintro e w2 ⟨rfl, hbl⟩
  have B2 := Lib.hid (B1.out.trans (hbl.mono B1.out.size))
  clear hbl A1 c0 c1 c2 c3 c4 c5 SH
  go_wp2_with fail
  refine (New_any M b g sg n0 l0 SM.out w2).mono ?_
  rintro e w3 ⟨R, q, cap, P, O, S0, z, rfl, hsys, hS, hz⟩
  obtain ⟨s, hy, hcalm, hu, rfl, rfl, rfl, rfl, rfl, rfl, hd⟩ := init_facts hsys hz
  have HY := Lib.hid hy
  have CM := Lib.hid hcalm
  have HU := Lib.hid hu
  have HD := Lib.hid hd
  have B3 := Lib.hid (B2.out.trans (hy.below.mono B2.out.size))
  have hMs := hy.rg.arr.many
  obtain ⟨r0, r1, r2, r3, r4, r5⟩ := hy.shape
  clear hsys hS hz hy hcalm hu hd SM B1
  go_wp2_with fail
  refine (sectors_call HY.out.rg.arr.wf w3).mono ?_
  rintro e w4 ⟨rfl, hbl⟩
  have Y4 := Lib.hid (HY.out.up hbl)
  have B4 := Lib.hid (B3.out.trans (hbl.mono B3.out.size))
  have SP := Lib.hid (show 0 < (s.S : Int) by have h1 := Y4.out.rg.arr.wf.sect; have h2 := Y4.out.rg.arr.wf.some_; have h3 := Y4.out.rg.arr.wf.n; unfold AS.N at h3; omega)
  obtain ⟨at_, hat⟩ : ∃ a, i % (s.S : Int) = a := ⟨_, rfl⟩
  have AT := Lib.hid (show 0 ≤ at_ ∧ at_ < (s.S : Int) by have := SP.out; rw [← hat]; exact ⟨Int.emod_nonneg _ (by omega), Int.emod_lt_of_pos _ this⟩)
  have e0 : IntKind.i64.wrap i = i := wrap_of (by omega) (by omega)
  have e1 : i.tmod (s.S : Int) = at_ := by rw [Int.tmod_eq_emod_of_nonneg hi.1]; exact hat
  have e2 : ¬ (s.S : Int) = 0 := by have := SP.out; omega
  clear hbl hat r0 r1 r2 r3 r4 r5 B3
  go_wp2_with fail
  clear e0 e1 e2
  have nb1 : (s.b.toNat : Int) = s.b := by have := Y4.out.rg.arr.wf.small.hb; omega
  have NB := Lib.hid nb1
  have b48 := Lib.hid Y4.out.rg.arr.wf.small.hb
  clear nb1
  have S0 : (fun w' : World => w'.cell? ⟨R, 9, none⟩ = some (ptr P.a) ∧ w'.rangeAt R 0 s.sh) w4.drew := ⟨Y4.out.rg.rig.cell 9, Y4.out.range⟩
  refine wp_region_early (fun w' : World => w'.cell? ⟨R, 9, none⟩ = some (ptr P.a) ∧ w'.rangeAt R 0 s.sh) (fun _ => true) (by kernel_rfl) ?_
  change wpEarly _ _ _ _ _ _ 13 (Array.replicate 13 false) _ w4.drew
  refine early_take (i := 0) 33 (ptr R) rfl rfl (by kernel_rfl) (by kernel_rfl) (by kernel_rfl) (by kernel_rfl) rfl (fun _ _ _ h => h) (fun w' hw' => by go_simp) S0 ?_
  simp only [Act.put, List.setIfInBounds_toArray, List.set_cons_zero, List.set_cons_succ]
  refine early_take (i := 1) 34 (ptr R) rfl rfl (by kernel_rfl) (by kernel_rfl) (by kernel_rfl) (by kernel_rfl) rfl (fun _ _ _ h => h) (fun w' hw' => by go_simp) S0 ?_
  simp only [Act.put, List.setIfInBounds_toArray, List.set_cons_zero, List.set_cons_succ]
  refine early_take (i := 2) 35 (.pointer (some ⟨R, 9, none⟩)) rfl rfl (by kernel_rfl) (by kernel_rfl) (by kernel_rfl) (by kernel_rfl) rfl (fun _ _ _ h => h) (fun w' hw' => by go_simp) S0 ?_
  simp only [Act.put, List.setIfInBounds_toArray, List.set_cons_zero, List.set_cons_succ]
  refine early_take (i := 3) 36 (ptr P.a) rfl rfl (by kernel_rfl) (by kernel_rfl) (by kernel_rfl) (by kernel_rfl) rfl (fun _ _ _ h => h) (fun w' hw' => by obtain ⟨k1, k2⟩ := hw'; go_simp) S0 ?_
  simp only [Act.put, List.setIfInBounds_toArray, List.set_cons_zero, List.set_cons_succ]
  refine early_take (i := 4) 37 (.int .i64 at_) rfl rfl (by kernel_rfl) (by kernel_rfl) (by kernel_rfl) (by kernel_rfl) rfl (fun _ _ _ h => h) (fun w' hw' => by go_simp) S0 ?_
  simp only [Act.put, List.setIfInBounds_toArray, List.set_cons_zero, List.set_cons_succ]
  refine early_take (i := 5) 38 (ptr R) rfl rfl (by kernel_rfl) (by kernel_rfl) (by kernel_rfl) (by kernel_rfl) rfl (fun _ _ _ h => h) (fun w' hw' => by go_simp) S0 ?_
  simp only [Act.put, List.setIfInBounds_toArray, List.set_cons_zero, List.set_cons_succ]
  refine early_take (i := 6) 39 (ptr R) rfl rfl (by kernel_rfl) (by kernel_rfl) (by kernel_rfl) (by kernel_rfl) rfl (fun _ _ _ h => h) (fun w' hw' => by go_simp) S0 ?_
  simp only [Act.put, List.setIfInBounds_toArray, List.set_cons_zero, List.set_cons_succ]
  refine early_take (i := 7) 40 (ptr R) rfl rfl (by kernel_rfl) (by kernel_rfl) (by kernel_rfl) (by kernel_rfl) rfl (fun _ _ _ h => h) (fun w' hw' => by go_simp) S0 ?_
  simp only [Act.put, List.setIfInBounds_toArray, List.set_cons_zero, List.set_cons_succ]
  refine early_take (i := 8) 41 (sv (s.M : Int) s.b s.g s.s s.n s.l) rfl rfl (by kernel_rfl) (by kernel_rfl) (by kernel_rfl) (by kernel_rfl) rfl (fun _ _ _ h => h) (fun w' hw' => exec_shape (s := s) (x := .tmp 40) rfl rfl hw'.2) S0 ?_
  simp only [Act.put, List.setIfInBounds_toArray, List.set_cons_zero, List.set_cons_succ]
  refine early_take (i := 9) 42 (.int .u8 (f.toNat : Int)) rfl rfl (by kernel_rfl) (by kernel_rfl) (by kernel_rfl) (by kernel_rfl) rfl (fun _ _ _ h => h) (fun w' hw' => by go_simp) S0 ?_
  simp only [Act.put, List.setIfInBounds_toArray, List.set_cons_zero, List.set_cons_succ]
  refine early_only (i := 10) (by kernel_rfl) rfl (fun K hK => ?_)
  simp only [opWp, List.getElem?_toArray, List.getElem?_cons_succ, List.getElem?_cons_zero]
  go_simp
  go_at_call 28
  refine (Block_any s.M s.b s.g s.s s.n s.l s.b.toNat NB.out.symm (by have := b48.out; omega) f _ rfl w4.drew).mono ?_
  rintro e w5 ⟨Bk, rfl, hown, hbl⟩
  have Y5 := Lib.hid ((Y4.out.drewN 1).up hbl)
  have B5 := Lib.hid ((show Below w.heap.size w w4.drew from ⟨B4.out.os, B4.out.tape, B4.out.output, B4.out.size, B4.out.block⟩).trans (hbl.mono B4.out.size))
  have H5 := Lib.hid (own_slice hown)
  have S1 : (fun w' : World => w'.cell? ⟨R, 9, none⟩ = some (ptr P.a) ∧ w'.rangeAt R 0 s.sh) w5 := ⟨Y5.out.rg.rig.cell 9, Y5.out.range⟩
  clear hbl hown
  refine hK _ _ (fun _ => S1) ?_
  refine early_only (i := 11) (by kernel_rfl) rfl (fun K hK => ?_)
  simp only [opWp, List.getElem?_toArray, List.getElem?_cons_succ, List.getElem?_cons_zero]
  go_simp
  go_at_call 27
  refine (PutSame_any at_ AT.out (some ⟨Bk, 0, none⟩) s.b.toNat s.b.toNat _ NB.out H5.out.1 (fun x hx => (Y4.out.new _ (H5.out.2.2 x hx).1).1) Y5.out.rg.arr (by have := HU.out; omega)).mono ?_
  rintro e w6 ⟨er, s1, rfl, hD, hP⟩
  obtain ⟨hr6, rfl⟩ : Rel (fun _ d d' => ∃ u, d' = d.put u at_ (List.replicate s.b.toNat f)) 10 s s1 ∧ er = 0 := by
    cases hP with
    | done hr ht => exact ⟨hr, rfl⟩
    | gone hg => exact absurd (CM.out 0) (hg.unsound 0)
  have CM6 := Lib.hid (CM.out.rel hr6)
  have RB := Lib.hid (show ∀ k, k < s1.M → (s1.d k).read at_ = List.replicate s.b.toNat f from fun k hk => by
    have hl := (CM6.out.live hk).1
    rw [hr6.same.M] at hk
    obtain ⟨u, e⟩ := hr6.disk k hk
    rw [e, (put_turns _ _ _ _).read (by rw [← e]; exact hl)]
    unfold with1
    rw [if_pos rfl])
  have sm6 := hr6.same
  have SM6 := Lib.hid sm6
  have U6 := Lib.hid (show s1.u ≤ 100 by have := hr6.u.2; have := HU.out; omega)
  obtain ⟨O6, k1, k2, k3⟩ := Y5.out.did sm6 hD
  have Y6 := Lib.hid k1
  have B6 := Lib.hid (B5.out.trans (k3.below (fun k hk => by have := Y5.out.own k hk; have := B2.out.size; omega) B5.out.size))
  have S2 : (fun w' : World => w'.cell? ⟨R, 9, none⟩ = some (ptr P.a) ∧ w'.rangeAt R 0 s.sh) w6 := ⟨Y6.out.rg.rig.cell 9, by have := k1.range; have h2 := SM6.out; unfold Same at h2; rw [h2] at this; exact this⟩
  clear hD hP k1 k2 k3 hr6 sm6
  refine hK _ _ (fun _ => S2) ?_
  refine early_take (i := 12) 45 (.bool false) rfl rfl (by kernel_rfl) (by kernel_rfl) (by kernel_rfl) (by kernel_rfl) rfl (fun _ _ _ h => h) (fun w' hw' => by go_simp) S2 ?_
  simp only [Act.put, List.setIfInBounds_toArray, List.set_cons_zero, List.set_cons_succ]
  refine early_done (by kernel_rfl) ?_
  clear S0 S1 S2
  go_wp2_with fail
  have hMs1 := Y6.out.rg.arr.many
  obtain ⟨k, hk⟩ : ∃ k : Nat, m % (s1.M : Int) = (k : Int) := ⟨(m % (s1.M : Int)).toNat, by have := Int.emod_nonneg m (show (s1.M : Int) ≠ 0 by omega); omega⟩
  have HM := Lib.hid hk
  have ML := Lib.hid (show k < s1.M by have := Int.emod_lt_of_pos m (show 0 < (s1.M : Int) by omega); omega)
  have AT1 := Lib.hid (show 0 ≤ at_ ∧ at_ < (s1.S : Int) by rw [SM6.out.S]; exact AT.out)
  have BE := Lib.hid (show s1.b = s.b from SM6.out.b)
  clear hk
  have S0 : (fun w' : World => w'.cell? ⟨R, 7, none⟩ = some (.slice (some ⟨q, 0, none⟩) s1.M cap) ∧ w'.cell? ⟨R, 0, none⟩ = some (.int .i64 (s1.M : Int)) ∧ ∀ i, i < s1.M → w'.cell? ⟨q, i, none⟩ = some (ptr (P.g i))) w6.drew := ⟨Y6.out.rg.rig.cell 7, Y6.out.rg.rig.cell 0, Y6.out.rg.row.2⟩
  refine wp_region_early (fun w' : World => w'.cell? ⟨R, 7, none⟩ = some (.slice (some ⟨q, 0, none⟩) s1.M cap) ∧ w'.cell? ⟨R, 0, none⟩ = some (.int .i64 (s1.M : Int)) ∧ ∀ i, i < s1.M → w'.cell? ⟨q, i, none⟩ = some (ptr (P.g i))) (fun _ => true) (by kernel_rfl) ?_
  change wpEarly _ _ _ _ _ _ 15 (Array.replicate 15 false) _ w6.drew
  refine early_take (i := 0) 46 (ptr R) rfl rfl (by kernel_rfl) (by kernel_rfl) (by kernel_rfl) (by kernel_rfl) rfl (fun _ _ _ h => h) (fun w' hw' => by go_simp) S0 ?_
  simp only [Act.put, List.setIfInBounds_toArray, List.set_cons_zero, List.set_cons_succ]
  refine early_take (i := 1) 47 (ptr R) rfl rfl (by kernel_rfl) (by kernel_rfl) (by kernel_rfl) (by kernel_rfl) rfl (fun _ _ _ h => h) (fun w' hw' => by go_simp) S0 ?_
  simp only [Act.put, List.setIfInBounds_toArray, List.set_cons_zero, List.set_cons_succ]
  refine early_take (i := 2) 48 (.pointer (some ⟨R, 7, none⟩)) rfl rfl (by kernel_rfl) (by kernel_rfl) (by kernel_rfl) (by kernel_rfl) rfl (fun _ _ _ h => h) (fun w' hw' => by go_simp) S0 ?_
  simp only [Act.put, List.setIfInBounds_toArray, List.set_cons_zero, List.set_cons_succ]
  refine early_take (i := 3) 49 (.slice (some ⟨q, 0, none⟩) s1.M cap) rfl rfl (by kernel_rfl) (by kernel_rfl) (by kernel_rfl) (by kernel_rfl) rfl (fun _ _ _ h => h) (fun w' hw' => by obtain ⟨k1, k2, k3⟩ := hw'; go_simp) S0 ?_
  simp only [Act.put, List.setIfInBounds_toArray, List.set_cons_zero, List.set_cons_succ]
  refine early_take (i := 4) 50 (.int .u8 m) rfl rfl (by kernel_rfl) (by kernel_rfl) (by kernel_rfl) (by kernel_rfl) rfl (fun _ _ _ h => h) (fun w' hw' => by go_simp) S0 ?_
  simp only [Act.put, List.setIfInBounds_toArray, List.set_cons_zero, List.set_cons_succ]
  refine early_take (i := 5) 51 (.int .i64 m) rfl rfl (by kernel_rfl) (by kernel_rfl) (by kernel_rfl) (by kernel_rfl) rfl (fun _ _ _ h => h) (fun w' hw' => by have e1 : IntKind.i64.wrap m = m := wrap_of (by omega) (by omega); go_simp) S0 ?_
  simp only [Act.put, List.setIfInBounds_toArray, List.set_cons_zero, List.set_cons_succ]
  refine early_take (i := 6) 52 (ptr R) rfl rfl (by kernel_rfl) (by kernel_rfl) (by kernel_rfl) (by kernel_rfl) rfl (fun _ _ _ h => h) (fun w' hw' => by go_simp) S0 ?_
  simp only [Act.put, List.setIfInBounds_toArray, List.set_cons_zero, List.set_cons_succ]
  refine early_take (i := 7) 53 (ptr R) rfl rfl (by kernel_rfl) (by kernel_rfl) (by kernel_rfl) (by kernel_rfl) rfl (fun _ _ _ h => h) (fun w' hw' => by go_simp) S0 ?_
  simp only [Act.put, List.setIfInBounds_toArray, List.set_cons_zero, List.set_cons_succ]
  refine early_take (i := 8) 54 (ptr R) rfl rfl (by kernel_rfl) (by kernel_rfl) (by kernel_rfl) (by kernel_rfl) rfl (fun _ _ _ h => h) (fun w' hw' => by go_simp) S0 ?_
  simp only [Act.put, List.setIfInBounds_toArray, List.set_cons_zero, List.set_cons_succ]
  refine early_take (i := 9) 55 (ptr R) rfl rfl (by kernel_rfl) (by kernel_rfl) (by kernel_rfl) (by kernel_rfl) rfl (fun _ _ _ h => h) (fun w' hw' => by go_simp) S0 ?_
  simp only [Act.put, List.setIfInBounds_toArray, List.set_cons_zero, List.set_cons_succ]
  refine early_take (i := 10) 56 (.int .i64 (s1.M : Int)) rfl rfl (by kernel_rfl) (by kernel_rfl) (by kernel_rfl) (by kernel_rfl) rfl (fun _ _ _ h => h) (fun w' hw' => by obtain ⟨k1, k2, k3⟩ := hw'; go_simp) S0 ?_
  simp only [Act.put, List.setIfInBounds_toArray, List.set_cons_zero, List.set_cons_succ]
  refine early_take (i := 11) 57 (.int .i64 (k : Int)) rfl rfl (by kernel_rfl) (by kernel_rfl) (by kernel_rfl) (by kernel_rfl) rfl (fun _ _ _ h => h) (fun w' hw' => by have e1 : m.tmod (s1.M : Int) = (k : Int) := (by rw [Int.tmod_eq_emod_of_nonneg hm0.1]; exact HM.out); have e2 : ¬ s1.M = 0 := (by omega); go_simp) S0 ?_
  simp only [Act.put, List.setIfInBounds_toArray, List.set_cons_zero, List.set_cons_succ]
  refine early_take (i := 12) 58 (.pointer (some ⟨q, k, none⟩)) rfl rfl (by kernel_rfl) (by kernel_rfl) (by kernel_rfl) (by kernel_rfl) rfl (fun _ _ _ h => h) (fun w' hw' => by have m1 := ML.out; have m2 : (k : Int) < (s1.M : Int) := (by omega); go_simp) S0 ?_
  simp only [Act.put, List.setIfInBounds_toArray, List.set_cons_zero, List.set_cons_succ]
  refine early_take (i := 13) 59 (ptr (P.g k)) rfl rfl (by kernel_rfl) (by kernel_rfl) (by kernel_rfl) (by kernel_rfl) rfl (fun _ _ _ h => h) (fun w' hw' => by obtain ⟨k1, k2, k3⟩ := hw'; have k4 := k3 k ML.out; go_simp) S0 ?_
  simp only [Act.put, List.setIfInBounds_toArray, List.set_cons_zero, List.set_cons_succ]
  refine early_only (i := 14) (by kernel_rfl) rfl (fun K hK => ?_)
  simp only [opWp, List.getElem?_toArray, List.getElem?_cons_succ, List.getElem?_cons_zero]
  go_simp
  go_at_call 33
  refine (fail_sys ML.out (Y6.out.drewN 1)).mono ?_
  rintro e w7 ⟨rfl, k1, k2, k3⟩
  have D7 := Lib.hid ((CM6.out k).hurt { s1.d k with dead := true })
  have dead7 := Lib.hid (show ((s1.hurt k { s1.d k with dead := true }).d k).dead = true by show (if k = k then ({ s1.d k with dead := true } : DS) else s1.d k).dead = true; rw [if_pos rfl])
  have RB7 := Lib.hid (show ∀ j, j < (s1.hurt k { s1.d k with dead := true }).M → ((s1.hurt k { s1.d k with dead := true }).d j).read at_ = List.replicate s.b.toNat f from fun j hj => by
    show (if j = k then ({ s1.d k with dead := true } : DS) else s1.d j).read at_ = _
    by_cases e : j = k
    · rw [if_pos e]; exact RB.out k ML.out
    · rw [if_neg e]; exact RB.out j hj)
  have B7 := Lib.hid ((show Below w.heap.size w w6.drew from ⟨B6.out.os, B6.out.tape, B6.out.output, B6.out.size, B6.out.block⟩).trans (k3.below (fun k hk => by have := Y6.out.own k hk; have := B2.out.size; omega) B6.out.size))
  have ST7 := Lib.hid (show (s1.hurt k { s1.d k with dead := true }).stale = -1 from CM6.out.stale)
  have U7 := Lib.hid (show (s1.hurt k { s1.d k with dead := true }).u ≤ 100 from U6.out)
  have HM7 := Lib.hid (show m % ((s1.hurt k { s1.d k with dead := true }).M : Int) = (k : Int) from HM.out)
  have ML7 := Lib.hid (show k < (s1.hurt k { s1.d k with dead := true }).M from ML.out)
  have AT7 := Lib.hid (show 0 ≤ at_ ∧ at_ < ((s1.hurt k { s1.d k with dead := true }).S : Int) from AT1.out)
  have BE7 := Lib.hid (show (s1.hurt k { s1.d k with dead := true }).b = s.b from BE.out)
  have S1 : (fun w' : World => w'.cell? ⟨R, 7, none⟩ = some (.slice (some ⟨q, 0, none⟩) s1.M cap) ∧ w'.cell? ⟨R, 0, none⟩ = some (.int .i64 (s1.M : Int)) ∧ ∀ i, i < s1.M → w'.cell? ⟨q, i, none⟩ = some (ptr (P.g i))) w7 := ⟨k2.rg.rig.cell 7, k2.rg.rig.cell 0, k2.rg.row.2⟩
  have Y7 := Lib.hid k2
  clear k1 k2 k3
  refine hK _ _ (fun _ => S1) ?_
  clear S0
  refine early_done (by kernel_rfl) ?_
  clear S1 Y6 Y5 Y4 HY CM CM6 RB HM ML AT1 AT BE SM6 U6 B6 B5 B4 HU HD hMs hMs1 SP H5
  generalize s1.hurt k { s1.d k with dead := true } = s2 at *
  have r9 : w7.cell? ⟨R, 9, none⟩ = some (ptr P.a) := Y7.out.rg.rig.cell 9
  go_wp2_with fail
  refine (Same_any at_ AT7.out Y7.out.rg.arr (by have := U7.out; omega)).mono ?_
  rintro e w8 ⟨v, er, s3, rfl, k1, k2, k3⟩
  have er0 : er = 0 := by
    cases k3 with
    | got _ _ _ _ _ _ => rfl
    | gone hg => exact absurd D7.out (hg.unsound k)
  subst er0
  obtain ⟨hs8, hv8, ht8⟩ : Same s2 s3 ∧ NewRow w7 w8 v (List.replicate s.b.toNat f) ∧ s3.stale = if k = 0 then 0 else -1 := by
    have hM3 := Y7.out.rg.arr.many
    generalize hz : (0 : Int) = zz at k3
    cases k3 with
    | got v j hj hr hv hl =>
      clear hz
      have hj2 : j < s2.M := by rcases hj with ⟨e, _⟩ | ⟨e, _⟩ <;> omega
      rw [RB7.out j hj2] at hv
      refine ⟨hr.same, hv, ?_⟩
      rcases hj with ⟨e, e2, e3⟩ | ⟨e, e2⟩
      · have kz : k ≠ 0 := by
          intro e4
          have := (hr.disk k ML7.out).dies dead7.out
          rw [e4, ← e, hl] at this
          cases this
        rw [if_neg kz, e2]
        exact ST7.out
      · have kz : k = 0 := by
          rcases (hr.sound k D7.out).stale with e4 | e4
          · omega
          · omega
        rw [if_pos kz]
        exact e2
    | gone hg => cases hz
  have Y8 := Lib.hid (Y7.out.keep hs8 k1 k2)
  have ST8 := Lib.hid ht8
  have NR8 := Lib.hid hv8
  have B8 := Lib.hid (B7.out.trans (k2.below (fun k hk => by have := Y7.out.own k hk; have := B2.out.size; omega) B7.out.size))
  have HM8 := Lib.hid (show m % (s3.M : Int) = (k : Int) by rw [hs8.M]; exact HM7.out)
  have BE8 := Lib.hid (show s3.b = s.b by rw [hs8.b]; exact BE7.out)
  obtain ⟨A9, c9, rfl, h9, _, lt9⟩ := own_form NR8.out
  rw [List.length_replicate] at h9
  have H9 := Lib.hid h9
  have LT9 := Lib.hid lt9
  rw [List.length_replicate]
  clear k1 k2 k3 hs8 hv8 ht8 r9 h9 lt9 Y7 B7 RB7 D7 dead7 U7 HM7 ML7 AT7 BE7 ST7 NR8
  obtain ⟨r0, r1, r2, r3, r4, r5⟩ := Y8.out.shape
  go_wp2_with fail
  refine (Block_any s3.M s3.b s3.g s3.s s3.n s3.l s.b.toNat (by rw [BE8.out]; exact NB.out.symm) (by have := b48.out; omega) f _ rfl w8).mono ?_
  rintro e w9 ⟨Bj, rfl, hown, hbl⟩
  have Y9 := Lib.hid (Y8.out.up hbl)
  have B9 := Lib.hid (B8.out.trans (hbl.mono B8.out.size))
  have H10 := Lib.hid (own_slice hown).1
  have H11 := Lib.hid (show Has w9 A9 s.b.toNat (List.replicate s.b.toNat f) from Has.below (w := w8) H9.out hbl)
  clear hown hbl r0 r1 r2 r3 r4 r5
  go_wp2_with fail
  refine (equal_any A9 (some ⟨Bj, 0, none⟩) s.b.toNat s.b.toNat c9 s.b.toNat _ _ w9 (by have := b48.out; omega) (by have := b48.out; omega) H11.out H10.out).mono ?_
  rintro e w10 ⟨rfl, m10, rfl⟩
  have Y10 := Lib.hid (Y9.out.drewN m10)
  rw [decide_eq_true (show List.replicate s.b.toNat f = List.replicate s.b.toNat f from rfl)]
  have r0 : (w9.drewN m10).cell? ⟨R, 0, none⟩ = some (.int .i64 (s3.M : Int)) := Y10.out.rg.rig.cell 0
  have r9 : (w9.drewN m10).cell? ⟨R, 9, none⟩ = some (ptr P.a) := Y10.out.rg.rig.cell 9
  have hM4 := Y10.out.rg.arr.many
  have e0 : IntKind.i64.wrap m = m := wrap_of (by omega) (by omega)
  have e1 : m.tmod (s3.M : Int) = (k : Int) := by rw [Int.tmod_eq_emod_of_nonneg hm0.1]; exact HM8.out
  have e2 : ¬ (s3.M : Int) = 0 := by omega
  have B10 := Lib.hid (show Below w.heap.size w (w9.drewN m10) from ⟨B9.out.os, B9.out.tape, B9.out.output, B9.out.size, B9.out.block⟩)
  by_cases kz : k = 0
  · have ST := Lib.hid (show s3.stale = 0 by rw [ST8.out, if_pos kz])
    subst kz
    have e3 : ((0 : Nat) : Int) = 0 := rfl
    go_wp2_with fail
    refine (stale_any Y10.out.rg.arr).mono ?_
    rintro e w11 ⟨rfl, hbl⟩
    have B11 := Lib.hid (B10.out.trans (hbl.mono B10.out.size))
    rw [ST.out]
    clear hbl
    go_wp2
    go_ret
    exact ⟨rfl, B11.out⟩
  · have kz2 : ¬ (k : Int) = 0 := by omega
    go_wp2_with fail
    refine (stale_any Y10.out.rg.arr).mono ?_
    rintro e w11 ⟨rfl, hbl⟩
    have B11 := Lib.hid (B10.out.trans (hbl.mono B10.out.size))
    rw [ST8.out, if_neg kz]
    clear hbl
    go_wp2
    go_ret
    exact ⟨rfl, B11.out⟩
end Go.Proofs.Ytapbphkhbhcdkaa
