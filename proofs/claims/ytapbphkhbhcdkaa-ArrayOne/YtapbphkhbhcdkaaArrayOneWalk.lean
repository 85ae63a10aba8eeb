/-
  THE WALK OF ArrayOne.
-/
import Derived.Test.YtapbphkhbhcdkaaBegin
namespace Go.Proofs.Ytapbphkhbhcdkaa
open Go.RowKit Go.Maps
set_option linter.unusedVariables false
set_option maxRecDepth 100000

set_option maxHeartbeats 3200000 in
theorem one_walk (x0 x1 x2 x3 x4 x5 : Int) (A : Option Addr) (n c : Nat) (xs : List (BitVec 8 × BitVec 8)) {w : World} (hst : St w A n xs) (A' : Option Addr) (n' c' : Nat) (xs' : List (BitVec 8 × BitVec 8)) (hst' : St w A' n' xs') (m ops : Int) (h0 : 0 ≤ x0 ∧ x0 ≤ 255) (h1 : 0 ≤ x1 ∧ x1 ≤ 255) (h2 : 0 ≤ x2 ∧ x2 ≤ 255) (h3 : 0 ≤ x3 ∧ x3 ≤ 255) (h4 : 0 ≤ x4 ∧ x4 ≤ 255) (h5 : 0 ≤ x5 ∧ x5 ≤ 255) (hm0 : 0 ≤ m ∧ m ≤ 255) (ho : 0 ≤ ops ∧ ops ≤ 255) :
    Calls Try.prog 3 #[.agg #[.int .u8 x0, .int .u8 x1, .int .u8 x2, .int .u8 x3, .int .u8 x4, .int .u8 x5], .slice A n c, .slice A' n' c', .int .u8 m, .int .u8 ops] w fun e w' => e = .returned (.bool true) ∧ Below w.heap.size w w' := by
  have ST := Lib.hid hst
  have ST' := Lib.hid hst'
  clear hst hst'
  obtain ⟨M0, b, g, sg, n0, l0, hsm, hshape⟩ := shape_small x0 x1 x2 x3 x4 x5 h0 h1 h2 h3 h4 h5
  obtain ⟨M, rfl⟩ : ∃ M : Nat, M0 = (M : Int) := ⟨M0.toNat, by have := hsm.hm; omega⟩
  have SM := Lib.hid hsm
  have SH := Lib.hid hshape
  clear hsm hshape
  go_enter Try.func3, Try.ntmps3
  go_wp2_with fail
  have A0 := Lib.hid (show At (w.alloc (.cells #[.int .u8 x0, .int .u8 x1, .int .u8 x2, .int .u8 x3, .int .u8 x4, .int .u8 x5] 23)) w.heap.size #[.int .u8 x0, .int .u8 x1, .int .u8 x2, .int .u8 x3, .int .u8 x4, .int .u8 x5] 23 from At.new _ 23 rfl)
  have B0 := Lib.hid ((Below.refl w.heap.size w).alloc (Nat.le_refl _) (.cells #[.int .u8 x0, .int .u8 x1, .int .u8 x2, .int .u8 x3, .int .u8 x4, .int .u8 x5] 23))
  refine (awake_any _).mono ?_
  rintro e w1 ⟨rfl, hbl⟩
  have A1 := Lib.hid (A0.out.below hbl A0.out.lt)
  have B1 := Lib.hid (B0.out.trans (hbl.mono B0.out.size))
  clear hbl A0 B0
  have c0 : w1.cell? ⟨w.heap.size, 0, none⟩ = some (.int .u8 x0) := A1.out.cell 0
  have c1 : w1.cell? ⟨w.heap.size, 1, none⟩ = some (.int .u8 x1) := A1.out.cell 1
  have c2 : w1.cell? ⟨w.heap.size, 2, none⟩ = some (.int .u8 x2) := A1.out.cell 2
  have c3 : w1.cell? ⟨w.heap.size, 3, none⟩ = some (.int .u8 x3) := A1.out.cell 3
  have c4 : w1.cell? ⟨w.heap.size, 4, none⟩ = some (.int .u8 x4) := A1.out.cell 4
  have c5 : w1.cell? ⟨w.heap.size, 5, none⟩ = some (.int .u8 x5) := A1.out.cell 5
  by_cases hn0 : 10 < n
  · have hn0' : (10 : Int) < (n : Int) := by omega
    clear c0 c1 c2 c3 c4 c5
    go_wp2
    go_ret
    exact ⟨rfl, B1.out⟩
  by_cases hn1 : 10 < n'
  · have hn1' : (10 : Int) < (n' : Int) := by omega
    clear c0 c1 c2 c3 c4 c5
    go_wp2
    go_ret
    exact ⟨rfl, B1.out⟩
  go_wp2_with fail
  refine (SH.out w1).mono ?_
  rintro e w2 ⟨rfl, hbl⟩
  have B2 := Lib.hid (B1.out.trans (hbl.mono B1.out.size))
  clear hbl A1 c0 c1 c2 c3 c4 c5 SH
  go_wp2_with fail
  refine (New_any M b g sg n0 l0 SM.out w2).mono ?_
  rintro e w3 ⟨R, q, cap, P, O, S0, z, rfl, hsys, hS, hz⟩
  obtain ⟨s, hy, hcalm, hu, rfl, rfl, rfl, rfl, rfl, rfl, hd⟩ := init_facts hsys hz
  have HY := Lib.hid hy
  have CM := Lib.hid hcalm
  have HU := Lib.hid hu
  have HD := Lib.hid hd
  have B3 := Lib.hid (B2.out.trans (hy.below.mono B2.out.size))
  have hMs := hy.rg.arr.many
  obtain ⟨r0, r1, r2, r3, r4, r5⟩ := hy.shape
  clear hsys hS hz hy hcalm hu hd SM B1
  have ST2 := Lib.hid (ST.out.below B2.out)
  have ST2' := Lib.hid (ST'.out.below B2.out)
  have hmk : ∀ w : World, (Instr.makeMap 38 none).run Try.prog w = .ok (.map (some w.heap.size)) (w.alloc (.map #[] 0)) := fun w => by kernel_rfl
  obtain ⟨k, hk⟩ : ∃ k : Nat, m % (s.M : Int) = (k : Int) := ⟨(m % (s.M : Int)).toNat, by have := Int.emod_nonneg m (show (s.M : Int) ≠ 0 by omega); omega⟩
  have ML := Lib.hid (show k < s.M by have := Int.emod_lt_of_pos m (show 0 < (s.M : Int) by omega); omega)
  have e0 : IntKind.i64.wrap m = m := wrap_of (by omega) (by omega)
  have e1 : m.tmod (s.M : Int) = (k : Int) := by rw [Int.tmod_eq_emod_of_nonneg hm0.1]; exact hk
  have e2 : ¬ s.M = 0 := by omega
  clear r1 r2 r3 r4 r5 hk
  go_wp2_with fail
  clear hmk e0 e1 e2 r0
  have L4 := Lib.hid HY.out.begin_
  obtain ⟨hb, hhb⟩ : ∃ hb, hb = w3.heap.size := ⟨_, rfl⟩
  rw [← hhb] at L4 ⊢
  generalize w3.alloc (.map #[] 0) = w4 at *
  clear hhb B3 HY
  have UE := Lib.hid (show IntKind.i64.wrap (s.u + ops) = s.u + ops from wrap_of (by have := HU.out; omega) (by have := HU.out; omega))
  have S0 : (fun w' : World => w'.cell? ⟨R, 7, none⟩ = some (.slice (some ⟨q, 0, none⟩) s.M cap) ∧ w'.cell? ⟨R, 6, none⟩ = some (ptr P.p) ∧ ∀ i, i < s.M → w'.cell? ⟨q, i, none⟩ = some (ptr (P.g i))) w4.drew := ⟨L4.out.cells.2.2.1, L4.out.cells.2.1, L4.out.sys.rg.row.2⟩
  refine wp_region_early (fun w' : World => w'.cell? ⟨R, 7, none⟩ = some (.slice (some ⟨q, 0, none⟩) s.M cap) ∧ w'.cell? ⟨R, 6, none⟩ = some (ptr P.p) ∧ ∀ i, i < s.M → w'.cell? ⟨q, i, none⟩ = some (ptr (P.g i))) (fun _ => true) (by kernel_rfl) ?_
  change wpEarly _ _ _ _ _ _ 16 (Array.replicate 16 false) _ w4.drew
  refine early_take (i := 0) 42 (ptr R) rfl rfl (by kernel_rfl) (by kernel_rfl) (by kernel_rfl) (by kernel_rfl) rfl (fun _ _ _ h => h) (fun w' hw' => by go_simp) S0 ?_
  simp only [Act.put, List.setIfInBounds_toArray, List.set_cons_zero, List.set_cons_succ]
  refine early_take (i := 1) 43 (ptr R) rfl rfl (by kernel_rfl) (by kernel_rfl) (by kernel_rfl) (by kernel_rfl) rfl (fun _ _ _ h => h) (fun w' hw' => by go_simp) S0 ?_
  simp only [Act.put, List.setIfInBounds_toArray, List.set_cons_zero, List.set_cons_succ]
  refine early_take (i := 2) 44 (.pointer (some ⟨R, 7, none⟩)) rfl rfl (by kernel_rfl) (by kernel_rfl) (by kernel_rfl) (by kernel_rfl) rfl (fun _ _ _ h => h) (fun w' hw' => by go_simp) S0 ?_
  simp only [Act.put, List.setIfInBounds_toArray, List.set_cons_zero, List.set_cons_succ]
  refine early_take (i := 3) 45 (.slice (some ⟨q, 0, none⟩) s.M cap) rfl rfl (by kernel_rfl) (by kernel_rfl) (by kernel_rfl) (by kernel_rfl) rfl (fun _ _ _ h => h) (fun w' hw' => by obtain ⟨k1, k2, k3⟩ := hw'; go_simp) S0 ?_
  simp only [Act.put, List.setIfInBounds_toArray, List.set_cons_zero, List.set_cons_succ]
  refine early_take (i := 4) 46 (.int .i64 (k : Int)) rfl rfl (by kernel_rfl) (by kernel_rfl) (by kernel_rfl) (by kernel_rfl) rfl (fun _ _ _ h => h) (fun w' hw' => by go_simp) S0 ?_
  simp only [Act.put, List.setIfInBounds_toArray, List.set_cons_zero, List.set_cons_succ]
  refine early_take (i := 5) 47 (.pointer (some ⟨q, k, none⟩)) rfl rfl (by kernel_rfl) (by kernel_rfl) (by kernel_rfl) (by kernel_rfl) rfl (fun _ _ _ h => h) (fun w' hw' => by have m1 := ML.out; have m2 : (k : Int) < (s.M : Int) := (by omega); go_simp) S0 ?_
  simp only [Act.put, List.setIfInBounds_toArray, List.set_cons_zero, List.set_cons_succ]
  refine early_take (i := 6) 48 (ptr (P.g k)) rfl rfl (by kernel_rfl) (by kernel_rfl) (by kernel_rfl) (by kernel_rfl) rfl (fun _ _ _ h => h) (fun w' hw' => by obtain ⟨k1, k2, k3⟩ := hw'; have k4 := k3 k ML.out; go_simp) S0 ?_
  simp only [Act.put, List.setIfInBounds_toArray, List.set_cons_zero, List.set_cons_succ]
  refine early_take (i := 7) 49 (ptr R) rfl rfl (by kernel_rfl) (by kernel_rfl) (by kernel_rfl) (by kernel_rfl) rfl (fun _ _ _ h => h) (fun w' hw' => by go_simp) S0 ?_
  simp only [Act.put, List.setIfInBounds_toArray, List.set_cons_zero, List.set_cons_succ]
  refine early_take (i := 8) 50 (ptr R) rfl rfl (by kernel_rfl) (by kernel_rfl) (by kernel_rfl) (by kernel_rfl) rfl (fun _ _ _ h => h) (fun w' hw' => by go_simp) S0 ?_
  simp only [Act.put, List.setIfInBounds_toArray, List.set_cons_zero, List.set_cons_succ]
  refine early_take (i := 9) 51 (.pointer (some ⟨R, 6, none⟩)) rfl rfl (by kernel_rfl) (by kernel_rfl) (by kernel_rfl) (by kernel_rfl) rfl (fun _ _ _ h => h) (fun w' hw' => by go_simp) S0 ?_
  simp only [Act.put, List.setIfInBounds_toArray, List.set_cons_zero, List.set_cons_succ]
  refine early_take (i := 10) 52 (ptr P.p) rfl rfl (by kernel_rfl) (by kernel_rfl) (by kernel_rfl) (by kernel_rfl) rfl (fun _ _ _ h => h) (fun w' hw' => by obtain ⟨k1, k2, k3⟩ := hw'; go_simp) S0 ?_
  simp only [Act.put, List.setIfInBounds_toArray, List.set_cons_zero, List.set_cons_succ]
  refine early_take (i := 12) 54 (.int .u8 ops) rfl rfl (by kernel_rfl) (by kernel_rfl) (by kernel_rfl) (by kernel_rfl) rfl (fun _ _ _ h => h) (fun w' hw' => by go_simp) S0 ?_
  simp only [Act.put, List.setIfInBounds_toArray, List.set_cons_zero, List.set_cons_succ]
  refine early_take (i := 13) 55 (.int .i64 ops) rfl rfl (by kernel_rfl) (by kernel_rfl) (by kernel_rfl) (by kernel_rfl) rfl (fun _ _ _ h => h) (fun w' hw' => by have e1 : IntKind.i64.wrap ops = ops := wrap_of (by omega) (by omega); go_simp) S0 ?_
  simp only [Act.put, List.setIfInBounds_toArray, List.set_cons_zero, List.set_cons_succ]
  refine early_only (i := 11) (by kernel_rfl) rfl (fun K hK => ?_)
  simp only [opWp, List.getElem?_toArray, List.getElem?_cons_succ, List.getElem?_cons_zero]
  go_simp
  go_at_call 15
  refine (used_sys L4.out.drew.sys).mono ?_
  rintro e w5 ⟨rfl, rfl⟩
  refine hK _ _ (fun _ => S0) ?_
  refine early_take (i := 14) 56 (.int .i64 (s.u + ops)) rfl rfl (by kernel_rfl) (by kernel_rfl) (by kernel_rfl) (by kernel_rfl) rfl (fun _ _ _ h => h) (fun w' hw' => by have ue := UE.out; go_simp) S0 ?_
  simp only [Act.put, List.setIfInBounds_toArray, List.set_cons_zero, List.set_cons_succ]
  refine early_only (i := 15) (by kernel_rfl) rfl (fun K hK => ?_)
  simp only [opWp, List.getElem?_toArray, List.getElem?_cons_succ, List.getElem?_cons_zero]
  go_simp
  go_at_call 14
  refine (failAt_sys (s.u + ops) ML.out L4.out.drew.sys).mono ?_
  rintro e w6 ⟨rfl, k1, k2, k3⟩
  have Q6 := Lib.hid (show Kept1 k (s.hurt k { s.d k with failAt := s.u + ops }) (fun _ => none) from ⟨(CM.out k).hurt _, inv_none _, ML.out, fun hd => by
    have : (if k = k then ({ s.d k with failAt := s.u + ops } : DS) else s.d k).dead = true := hd
    rw [if_pos rfl] at this
    have h2 := (CM.out.live ML.out).1
    rw [show (s.d k).dead = true from this] at h2
    cases h2⟩)
  have L6 := Lib.hid (L4.out.drew.keep (Same.hurt s k { s.d k with failAt := s.u + ops }) k1 k3)
  have U6 := Lib.hid (show (s.hurt k { s.d k with failAt := s.u + ops }).u ≤ 100 by show s.u ≤ 100; have := HU.out; omega)
  have S1 : (fun w' : World => w'.cell? ⟨R, 7, none⟩ = some (.slice (some ⟨q, 0, none⟩) s.M cap) ∧ w'.cell? ⟨R, 6, none⟩ = some (ptr P.p) ∧ ∀ i, i < s.M → w'.cell? ⟨q, i, none⟩ = some (ptr (P.g i))) w6 := ⟨L6.out.cells.2.2.1, L6.out.cells.2.1, L6.out.sys.rg.row.2⟩
  clear k1 k2 k3
  refine hK _ _ (fun _ => S1) ?_
  clear S0
  refine early_done (by kernel_rfl) ?_
  clear S1 L4 UE CM HD ML hMs HU
  generalize s.hurt k { s.d k with failAt := s.u + ops } = s6 at *
  go_wp2_with fail
  refine (put_any false (Kept1 k) put_one A n c xs (by omega) ST2.out rfl L6.out Q6.out (by have := U6.out; omega)).mono ?_
  rintro e w7 ⟨rfl, O7, s7, H7, k1, k2, k3, k4, k5, k6⟩
  have L7 := Lib.hid k1
  have Q7 := Lib.hid k3
  have U7 := Lib.hid (show s7.u ≤ 400 by have := U6.out; omega)
  clear k1 k2 k3 k4 k5 k6 L6 Q6 U6
  go_wp2_with fail
  refine (holds_any false (Kept1 k) read_one L7.out Q7.out (by have := U7.out; omega)).mono ?_
  rintro e w8 ⟨rfl, s8, k1, k2, k3, k4, k5⟩
  have L8 := Lib.hid k1
  have Q8 := Lib.hid k3
  have U8 := Lib.hid (show s8.u ≤ 2000 by have := U7.out; omega)
  clear k1 k2 k3 k4 k5 L7 Q7 U7
  go_wp2_with fail
  refine (put_any false (Kept1 k) put_one A' n' c' xs' (by omega) ST2'.out rfl L8.out Q8.out (by have := U8.out; omega)).mono ?_
  rintro e w9 ⟨rfl, O9, s9, H9, k1, k2, k3, k4, k5, k6⟩
  have L9 := Lib.hid k1
  have Q9 := Lib.hid k3
  have U9 := Lib.hid (show s9.u ≤ 3000 by have := U8.out; omega)
  clear k1 k2 k3 k4 k5 k6 L8 Q8 U8
  go_wp2_with fail
  refine (holds_any false (Kept1 k) read_one L9.out Q9.out (by have := U9.out; omega)).mono ?_
  rintro e w10 ⟨rfl, s10, k1, k2, k3, k4, k5⟩
  have L10 := Lib.hid k1
  have Q10 := Lib.hid k3
  have B10 := Lib.hid (B2.out.trans (k1.sys.below.mono B2.out.size))
  clear k1 k2 k3 k4 k5 L9 Q9 U9
  have r9 := L10.out.cells.2.2.2.2
  have r7 := L10.out.cells.2.2.1
  have K10 := Lib.hid Q10.out.2.2.1
  have hd10 := L10.out.sys.rg.row.2 k K10.out
  have m2 : (k : Int) < (s10.M : Int) := by have := K10.out; omega
  have WH := Lib.hid Q10.out.1.whole
  rcases Int.decEq s10.stale (k : Int) with hsk | hsk
  · have dk := Lib.hid (show (s10.d k).dead = false by
      cases hd : (s10.d k).dead with
      | false => rfl
      | true => exact absurd (Q10.out.2.2.2 hd) hsk)
    have st : s10.stale = -1 := Q10.out.1.stale.resolve_right hsk
    have SK := Lib.hid st
    have hk1 : ¬ (-1 : Int) = (k : Int) := by omega
    clear hsk st
    go_wp2_with fail
    refine (stale_any L10.out.sys.rg.arr).mono ?_
    rintro e w11 ⟨rfl, hbl⟩
    have L11 := Lib.hid (L10.out.up hbl)
    have B11 := Lib.hid (B10.out.trans (hbl.mono B10.out.size))
    clear hbl r9 r7 hd10
    have r9 := L11.out.cells.2.2.2.2
    rw [SK.out]
    go_wp2_with fail
    refine (stale_any L11.out.sys.rg.arr).mono ?_
    rintro e w12 ⟨rfl, hbl⟩
    have L12 := Lib.hid (L11.out.up hbl)
    have B12 := Lib.hid (B11.out.trans (hbl.mono B11.out.size))
    clear hbl r9
    have r9 := L12.out.cells.2.2.2.2
    have r7 := L12.out.cells.2.2.1
    have hd12 := L12.out.sys.rg.row.2 k K10.out
    rw [SK.out]
    go_wp2_with fail
    refine (dead_sys K10.out L12.out.sys).mono ?_
    rintro e w13 ⟨rfl, rfl⟩
    rw [dk.out]
    go_wp2_with fail
    refine (broken_any L12.out.sys.rg.arr).mono ?_
    rintro e w13 ⟨rfl, rfl⟩
    rw [WH.out]
    go_wp2
    go_ret
    exact ⟨rfl, B12.out⟩
  · have SK := Lib.hid hsk
    clear hsk r7 hd10 m2
    go_wp2_with fail
    refine (stale_any L10.out.sys.rg.arr).mono ?_
    rintro e w11 ⟨rfl, hbl⟩
    have L11 := Lib.hid (L10.out.up hbl)
    have B11 := Lib.hid (B10.out.trans (hbl.mono B10.out.size))
    clear hbl r9
    have r9 := L11.out.cells.2.2.2.2
    rw [SK.out]
    go_wp2_with fail
    refine (broken_any L11.out.sys.rg.arr).mono ?_
    rintro e w13 ⟨rfl, rfl⟩
    rw [WH.out]
    go_wp2
    go_ret
    exact ⟨rfl, B11.out⟩
end Go.Proofs.Ytapbphkhbhcdkaa
