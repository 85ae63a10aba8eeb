/-
  THE WALK OF ArrayDead.
-/
import Derived.Test.YtapbphkhbhcdkaaFinD
namespace Go.Proofs.Ytapbphkhbhcdkaa
open Go.RowKit Go.Maps
set_option linter.unusedVariables false
set_option maxRecDepth 100000

set_option maxHeartbeats 6400000 in
theorem dead_walk (x0 x1 x2 x3 x4 x5 : Int) (A : Option Addr) (n c : Nat) (xs : List (BitVec 8 × BitVec 8)) {w : World} (hst : St w A n xs) (m : Int) (h0 : 0 ≤ x0 ∧ x0 ≤ 255) (h1 : 0 ≤ x1 ∧ x1 ≤ 255) (h2 : 0 ≤ x2 ∧ x2 ≤ 255) (h3 : 0 ≤ x3 ∧ x3 ≤ 255) (h4 : 0 ≤ x4 ∧ x4 ≤ 255) (h5 : 0 ≤ x5 ∧ x5 ≤ 255) (hm0 : 0 ≤ m ∧ m ≤ 255) :
    Calls Try.prog 10 #[.agg #[.int .u8 x0, .int .u8 x1, .int .u8 x2, .int .u8 x3, .int .u8 x4, .int .u8 x5], .slice A n c, .int .u8 m] w fun e w' => e = .returned (.bool true) ∧ Below w.heap.size w w' := by
  have ST := Lib.hid hst
  clear hst
  obtain ⟨M0, b, g, sg, n0, l0, hsm, hshape⟩ := shape_small x0 x1 x2 x3 x4 x5 h0 h1 h2 h3 h4 h5
  obtain ⟨M, rfl⟩ : ∃ M : Nat, M0 = (M : Int) := ⟨M0.toNat, by have := hsm.hm; omega⟩
  have SM := Lib.hid hsm
  have SH := Lib.hid hshape
  clear hsm hshape
  go_enter Try.func10, Try.ntmps10
  go_wp2_with fail
  have A0 := Lib.hid (show At (w.alloc (.cells #[.int .u8 x0, .int .u8 x1, .int .u8 x2, .int .u8 x3, .int .u8 x4, .int .u8 x5] 23)) w.heap.size #[.int .u8 x0, .int .u8 x1, .int .u8 x2, .int .u8 x3, .int .u8 x4, .int .u8 x5] 23 from At.new _ 23 rfl)
  have B0 := Lib.hid ((Below.refl w.heap.size w).alloc (Nat.le_refl _) (.cells #[.int .u8 x0, .int .u8 x1, .int .u8 x2, .int .u8 x3, .int .u8 x4, .int .u8 x5] 23))
  refine (awake_any _).mono ?_
  rintro e w1 ⟨rfl, hbl⟩
  have A1 := Lib.hid (A0.out.below hbl A0.out.lt)
  have B1 := Lib.hid (B0.out.trans (hbl.mono B0.out.size))
  clear hbl A0 B0
  have c0 : w1.cell? ⟨w.heap.size, 0, none⟩ = some (.int .u8 x0) := A1.out.cell 0
  have c1 : w1.cell? ⟨w.heap.size, 1, none⟩ = some (.int .u8 x1) := A1.out.cell 1
  have c2 : w1.cell? ⟨w.heap.size, 2, none⟩ = some (.int .u8 x2) := A1.out.cell 2
  have c3 : w1.cell? ⟨w.heap.size, 3, none⟩ = some (.int .u8 x3) := A1.out.cell 3
  have c4 : w1.cell? ⟨w.heap.size, 4, none⟩ = some (.int .u8 x4) := A1.out.cell 4
  have c5 : w1.cell? ⟨w.heap.size, 5, none⟩ = some (.int .u8 x5) := A1.out.cell 5
  by_cases hn0 : 10 < n
  · have hn0' : (10 : Int) < (n : Int) := by omega
    clear c0 c1 c2 c3 c4 c5
    go_wp2
    go_ret
    exact ⟨rfl, B1.out⟩
  go_wp2_with fail
  refine (SH.out w1).mono ?_
  rintro e w2 ⟨rfl, hbl⟩
  have B2 := Lib.hid (B1.out.trans (hbl.mono B1.out.size))
  clear hbl A1 c0 c1 c2 c3 c4 c5 SH
  go_wp2_with fail
  refine (New_any M b g sg n0 l0 SM.out w2).mono ?_
  rintro e w3 ⟨R, q, cap, P, O, S0, z, rfl, hsys, hS, hz⟩
  obtain ⟨s, hy, hcalm, hu, rfl, rfl, rfl, rfl, rfl, rfl, hd⟩ := init_facts hsys hz
  have HY := Lib.hid hy
  have CM := Lib.hid hcalm
  have HU := Lib.hid hu
  have HD := Lib.hid hd
  have B3 := Lib.hid (B2.out.trans (hy.below.mono B2.out.size))
  have hMs := hy.rg.arr.many
  obtain ⟨r0, r1, r2, r3, r4, r5⟩ := hy.shape
  clear hsys hS hz hy hcalm hu hd SM B1
  clear r0 r1 r2 r3 r4 r5
  have ST2 := Lib.hid (ST.out.below B2.out)
  have hmk : ∀ w : World, (Instr.makeMap 38 none).run Try.prog w = .ok (.map (some w.heap.size)) (w.alloc (.map #[] 0)) := fun w => by kernel_rfl
  go_wp2_with fail
  have L4 := Lib.hid HY.out.begin_
  obtain ⟨hb, hhb⟩ : ∃ hb, hb = w3.heap.size := ⟨_, rfl⟩
  clear hmk
  rw [← hhb] at L4 ⊢
  refine (put_any false Kept put_calm A n c xs (by omega) ST2.out rfl L4.out ⟨CM.out, inv_none s⟩ (by have := HU.out; omega)).mono ?_
  rintro e w5 ⟨rfl, O5, s5, H5, k1, k2, k3, k4, k5, k6⟩
  have L5 := Lib.hid k1
  have Q5 := Lib.hid k3
  have U5 := Lib.hid (show s5.u ≤ 300 by have := HU.out; omega)
  clear k1 k2 k3 k4 k5 k6 L4 HY ST2 hhb HD HU CM hMs B3 ST
  have hMs := L5.out.sys.rg.arr.many
  obtain ⟨k, hk⟩ : ∃ k : Nat, m % (s5.M : Int) = (k : Int) := ⟨(m % (s5.M : Int)).toNat, by have := Int.emod_nonneg m (show (s5.M : Int) ≠ 0 by omega); omega⟩
  have ML := Lib.hid (show k < s5.M by have := Int.emod_lt_of_pos m (show 0 < (s5.M : Int) by omega); omega)
  have e0 : IntKind.i64.wrap m = m := wrap_of (by omega) (by omega)
  have e1 : m.tmod (s5.M : Int) = (k : Int) := by rw [Int.tmod_eq_emod_of_nonneg hm0.1]; exact hk
  have e2 : ¬ s5.M = 0 := by omega
  have r0 : w5.cell? ⟨R, 0, none⟩ = some (.int .i64 (s5.M : Int)) := L5.out.cells.1
  have r7 : w5.cell? ⟨R, 7, none⟩ = some (.slice (some ⟨q, 0, none⟩) s5.M cap) := L5.out.cells.2.2.1
  have hd5 := L5.out.sys.rg.row.2 k ML.out
  have m2 : (k : Int) < (s5.M : Int) := by have := ML.out; omega
  clear hk
  go_wp2_with fail
  clear e0 e1 e2 r0 r7 hd5 m2
  refine (fail_sys ML.out L5.out.sys).mono ?_
  rintro e w7 ⟨rfl, k1, k2, k3⟩
  have L7 := Lib.hid (L5.out.keep (Same.hurt s5 k { s5.d k with dead := true }) k1 k3)
  have SD7 := Lib.hid ((Q5.out.1 k).hurt { s5.d k with dead := true })
  have I7 := Lib.hid (inv_hurt (m := k) (d := { s5.d k with dead := true }) Q5.out.2 rfl)
  have ST7 := Lib.hid (show (s5.hurt k { s5.d k with dead := true }).stale = -1 from Q5.out.1.stale)
  have D7 := Lib.hid (show ((s5.hurt k { s5.d k with dead := true }).d k).dead = true by show (if k = k then ({ s5.d k with dead := true } : DS) else s5.d k).dead = true; rw [if_pos rfl])
  have U7 := Lib.hid (show (s5.hurt k { s5.d k with dead := true }).u ≤ 300 from U5.out)
  have K7 := Lib.hid (show k < (s5.hurt k { s5.d k with dead := true }).M from ML.out)
  clear k1 k2 k3 L5 Q5 U5 ML hMs
  generalize s5.hurt k { s5.d k with dead := true } = s8 at *
  go_wp2_with fail
  have S0 : (fun w' : World => w'.cell? ⟨R, 9, none⟩ = some (ptr P.a) ∧ w'.rangeAt R 0 s8.sh) w7.drew := ⟨L7.out.sys.rg.rig.cell 9, L7.out.sys.range⟩
  refine wp_region_early (fun w' : World => w'.cell? ⟨R, 9, none⟩ = some (ptr P.a) ∧ w'.rangeAt R 0 s8.sh) (fun _ => true) (by kernel_rfl) ?_
  change wpEarly _ _ _ _ _ _ 46 (Array.replicate 46 false) _ w7.drew
  refine early_take (i := 0) 48 (ptr R) rfl rfl (by kernel_rfl) (by kernel_rfl) (by kernel_rfl) (by kernel_rfl) rfl (fun _ _ _ h => h) (fun w' hw' => by go_simp) S0 ?_
  simp only [Act.put, List.setIfInBounds_toArray, List.set_cons_zero, List.set_cons_succ]
  refine early_take (i := 1) 49 (ptr R) rfl rfl (by kernel_rfl) (by kernel_rfl) (by kernel_rfl) (by kernel_rfl) rfl (fun _ _ _ h => h) (fun w' hw' => by go_simp) S0 ?_
  simp only [Act.put, List.setIfInBounds_toArray, List.set_cons_zero, List.set_cons_succ]
  refine early_take (i := 2) 50 (.pointer (some ⟨R, 9, none⟩)) rfl rfl (by kernel_rfl) (by kernel_rfl) (by kernel_rfl) (by kernel_rfl) rfl (fun _ _ _ h => h) (fun w' hw' => by go_simp) S0 ?_
  simp only [Act.put, List.setIfInBounds_toArray, List.set_cons_zero, List.set_cons_succ]
  refine early_take (i := 3) 51 (ptr P.a) rfl rfl (by kernel_rfl) (by kernel_rfl) (by kernel_rfl) (by kernel_rfl) rfl (fun _ _ _ h => h) (fun w' hw' => by obtain ⟨k1, k2⟩ := hw'; go_simp) S0 ?_
  simp only [Act.put, List.setIfInBounds_toArray, List.set_cons_zero, List.set_cons_succ]
  refine early_take (i := 4) 52 (.int .i64 (k : Int)) rfl rfl (by kernel_rfl) (by kernel_rfl) (by kernel_rfl) (by kernel_rfl) rfl (fun _ _ _ h => h) (fun w' hw' => by go_simp) S0 ?_
  simp only [Act.put, List.setIfInBounds_toArray, List.set_cons_zero, List.set_cons_succ]
  refine early_only (i := 5) (by kernel_rfl) rfl (fun K hK => ?_)
  simp only [opWp, List.getElem?_toArray, List.getElem?_cons_succ, List.getElem?_cons_zero]
  go_simp
  go_at_call 26
  refine (Lose_any k K7.out L7.out.drew.sys.rg.arr (by have := U7.out; omega)).mono ?_
  rintro e w9 hl
  obtain ⟨e1, e2⟩ := lose_first k ST7.out
  rw [e1, e2] at hl
  obtain ⟨rfl, k1, k2⟩ : e = .returned (.int .i64 0) ∧ Arr w9 P O5 { s8 with stale := (k : Int), u := s8.u + 1 } ∧ But O5 w7.drew w9 := by
    rcases hl with ⟨e3, _⟩ | ⟨_, e3, e4, e5⟩
    · rw [SD7.out.whole] at e3; cases e3
    · exact ⟨e3, e4, e5⟩
  have SM9 := Lib.hid (show Same s8 { s8 with stale := (k : Int), u := s8.u + 1 } from rfl)
  have L9 := Lib.hid (L7.out.drew.keep SM9.out k1 k2)
  have Q9 := Lib.hid (show KD k { s8 with stale := (k : Int), u := s8.u + 1 } H5 from ⟨⟨SD7.out.whole, .inr rfl, SD7.out.live⟩, fun j hj hne t f h0 h1 hf => I7.out j hj (by rw [ST7.out]; omega) t f h0 h1 hf, rfl, K7.out⟩)
  have D9 := Lib.hid (show (({ s8 with stale := (k : Int), u := s8.u + 1 } : AS).d k).dead = true from D7.out)
  have U9 := Lib.hid (show ({ s8 with stale := (k : Int), u := s8.u + 1 } : AS).u ≤ 400 by show s8.u + 1 ≤ 400; have := U7.out; omega)
  clear hl e1 e2 k1 k2 SD7 I7 ST7 D7 U7 K7 L7
  generalize ({ s8 with stale := (k : Int), u := s8.u + 1 } : AS) = s9 at *
  have S1 : (fun w' : World => w'.cell? ⟨R, 9, none⟩ = some (ptr P.a) ∧ w'.rangeAt R 0 s8.sh) w9 := ⟨L9.out.sys.rg.rig.cell 9, by have h1 := L9.out.sys.range; have h2 := SM9.out; unfold Same at h2; rw [h2] at h1; exact h1⟩
  refine hK _ _ (fun _ => S1) ?_
  clear S0
  refine early_take (i := 6) 54 (.bool false) rfl rfl (by kernel_rfl) (by kernel_rfl) (by kernel_rfl) (by kernel_rfl) rfl (fun _ _ _ h => h) (fun w' hw' => by go_simp) S1 ?_
  simp only [Act.put, List.setIfInBounds_toArray, List.set_cons_zero, List.set_cons_succ]
  refine early_take (i := 7) 55 (.bool false) rfl rfl (by kernel_rfl) (by kernel_rfl) (by kernel_rfl) (by kernel_rfl) rfl (fun _ _ _ h => h) (fun w' hw' => by go_simp) S1 ?_
  simp only [Act.put, List.setIfInBounds_toArray, List.set_cons_zero, List.set_cons_succ]
  refine early_take (i := 8) 56 (ptr R) rfl rfl (by kernel_rfl) (by kernel_rfl) (by kernel_rfl) (by kernel_rfl) rfl (fun _ _ _ h => h) (fun w' hw' => by go_simp) S1 ?_
  simp only [Act.put, List.setIfInBounds_toArray, List.set_cons_zero, List.set_cons_succ]
  refine early_take (i := 9) 57 (ptr R) rfl rfl (by kernel_rfl) (by kernel_rfl) (by kernel_rfl) (by kernel_rfl) rfl (fun _ _ _ h => h) (fun w' hw' => by go_simp) S1 ?_
  simp only [Act.put, List.setIfInBounds_toArray, List.set_cons_zero, List.set_cons_succ]
  refine early_take (i := 10) 58 (.pointer (some ⟨R, 9, none⟩)) rfl rfl (by kernel_rfl) (by kernel_rfl) (by kernel_rfl) (by kernel_rfl) rfl (fun _ _ _ h => h) (fun w' hw' => by go_simp) S1 ?_
  simp only [Act.put, List.setIfInBounds_toArray, List.set_cons_zero, List.set_cons_succ]
  refine early_take (i := 11) 59 (ptr P.a) rfl rfl (by kernel_rfl) (by kernel_rfl) (by kernel_rfl) (by kernel_rfl) rfl (fun _ _ _ h => h) (fun w' hw' => by obtain ⟨k1, k2⟩ := hw'; go_simp) S1 ?_
  simp only [Act.put, List.setIfInBounds_toArray, List.set_cons_zero, List.set_cons_succ]
  refine early_take (i := 12) 60 (.int .i64 (k : Int)) rfl rfl (by kernel_rfl) (by kernel_rfl) (by kernel_rfl) (by kernel_rfl) rfl (fun _ _ _ h => h) (fun w' hw' => by go_simp) S1 ?_
  simp only [Act.put, List.setIfInBounds_toArray, List.set_cons_zero, List.set_cons_succ]
  refine early_only (i := 13) (by kernel_rfl) rfl (fun K hK => ?_)
  simp only [opWp, List.getElem?_toArray, List.getElem?_cons_succ, List.getElem?_cons_zero]
  go_simp
  go_at_call 26
  refine (Lose_any k Q9.out.lt L9.out.sys.rg.arr (by have := U9.out; omega)).mono ?_
  rintro e w10 hl
  obtain ⟨e1, e2⟩ := lose_again Q9.out.stale
  rw [e1, e2] at hl
  obtain ⟨rfl, k1, k2⟩ : e = .returned (.int .i64 0) ∧ Arr w10 P O5 s9 ∧ But O5 w9 w10 := by
    rcases hl with ⟨e3, _⟩ | ⟨_, e3, e4, e5⟩
    · rw [Q9.out.sound.whole] at e3; cases e3
    · exact ⟨e3, e4, e5⟩
  have L10 := Lib.hid (L9.out.keep (Same.refl s9) k1 k2)
  have S2 : (fun w' : World => w'.cell? ⟨R, 9, none⟩ = some (ptr P.a) ∧ w'.rangeAt R 0 s8.sh) w10 := ⟨L10.out.sys.rg.rig.cell 9, by have h1 := L10.out.sys.range; have h2 := SM9.out; unfold Same at h2; rw [h2] at h1; exact h1⟩
  clear hl e1 e2 k1 k2 L9
  refine hK _ _ (fun _ => S2) ?_
  clear S1
  refine early_take (i := 14) 62 (.bool false) rfl rfl (by kernel_rfl) (by kernel_rfl) (by kernel_rfl) (by kernel_rfl) rfl (fun _ _ _ h => h) (fun w' hw' => by go_simp) S2 ?_
  simp only [Act.put, List.setIfInBounds_toArray, List.set_cons_zero, List.set_cons_succ]
  refine early_take (i := 15) 63 (.bool false) rfl rfl (by kernel_rfl) (by kernel_rfl) (by kernel_rfl) (by kernel_rfl) rfl (fun _ _ _ h => h) (fun w' hw' => by go_simp) S2 ?_
  simp only [Act.put, List.setIfInBounds_toArray, List.set_cons_zero, List.set_cons_succ]
  refine early_take (i := 16) 64 (.bool false) rfl rfl (by kernel_rfl) (by kernel_rfl) (by kernel_rfl) (by kernel_rfl) rfl (fun _ _ _ h => h) (fun w' hw' => by go_simp) S2 ?_
  simp only [Act.put, List.setIfInBounds_toArray, List.set_cons_zero, List.set_cons_succ]
  refine early_take (i := 17) 65 (ptr R) rfl rfl (by kernel_rfl) (by kernel_rfl) (by kernel_rfl) (by kernel_rfl) rfl (fun _ _ _ h => h) (fun w' hw' => by go_simp) S2 ?_
  simp only [Act.put, List.setIfInBounds_toArray, List.set_cons_zero, List.set_cons_succ]
  refine early_take (i := 18) 66 (ptr R) rfl rfl (by kernel_rfl) (by kernel_rfl) (by kernel_rfl) (by kernel_rfl) rfl (fun _ _ _ h => h) (fun w' hw' => by go_simp) S2 ?_
  simp only [Act.put, List.setIfInBounds_toArray, List.set_cons_zero, List.set_cons_succ]
  refine early_take (i := 19) 67 (.pointer (some ⟨R, 9, none⟩)) rfl rfl (by kernel_rfl) (by kernel_rfl) (by kernel_rfl) (by kernel_rfl) rfl (fun _ _ _ h => h) (fun w' hw' => by go_simp) S2 ?_
  simp only [Act.put, List.setIfInBounds_toArray, List.set_cons_zero, List.set_cons_succ]
  refine early_take (i := 20) 68 (ptr P.a) rfl rfl (by kernel_rfl) (by kernel_rfl) (by kernel_rfl) (by kernel_rfl) rfl (fun _ _ _ h => h) (fun w' hw' => by obtain ⟨k1, k2⟩ := hw'; go_simp) S2 ?_
  simp only [Act.put, List.setIfInBounds_toArray, List.set_cons_zero, List.set_cons_succ]
  refine early_only (i := 21) (by kernel_rfl) rfl (fun K hK => ?_)
  simp only [opWp, List.getElem?_toArray, List.getElem?_cons_succ, List.getElem?_cons_zero]
  have HN := Lib.hid L10.out.sys.rg.arr.wf.n
  go_simp
  go_at_call 24
  refine (Mend_any 0 k (by have := HN.out; omega) Q9.out.lt Q9.out.stale Q9.out.sound.whole L10.out.sys.rg.arr L10.out.sys.rg.arr.wf.less.1 (by have := U9.out; omega)).mono ?_
  rintro e w11 ⟨er, s11, rfl, hD, hX⟩
  obtain ⟨q1, q2, q3, q4, _⟩ := kd_mend Q9.out hX
  obtain ⟨rfl, q5⟩ := q4 D9.out
  obtain ⟨O11, k1, k2, k3⟩ := L10.out.did q2 hD
  have L11 := Lib.hid k1
  have Q11 := Lib.hid q1
  have D11 := Lib.hid q5
  have SM11 := Lib.hid (SM9.out.trans q2)
  have U11 := Lib.hid (show s11.u ≤ 500 by have := U9.out; omega)
  have S3 : (fun w' : World => w'.cell? ⟨R, 9, none⟩ = some (ptr P.a) ∧ w'.rangeAt R 0 s8.sh) w11 := ⟨L11.out.sys.rg.rig.cell 9, by have h1 := L11.out.sys.range; have h2 := SM11.out; unfold Same at h2; rw [h2] at h1; exact h1⟩
  clear k1 k2 k3 hD hX q1 q2 q3 q4 q5 L10 Q9 D9 U9 SM9 HN
  refine hK _ _ (fun _ => S3) ?_
  clear S2
  refine early_take (i := 22) 70 (.bool false) rfl rfl (by kernel_rfl) (by kernel_rfl) (by kernel_rfl) (by kernel_rfl) rfl (fun _ _ _ h => h) (fun w' hw' => by go_simp) S3 ?_
  simp only [Act.put, List.setIfInBounds_toArray, List.set_cons_zero, List.set_cons_succ]
  refine early_take (i := 23) 71 (.bool false) rfl rfl (by kernel_rfl) (by kernel_rfl) (by kernel_rfl) (by kernel_rfl) rfl (fun _ _ _ h => h) (fun w' hw' => by go_simp) S3 ?_
  simp only [Act.put, List.setIfInBounds_toArray, List.set_cons_zero, List.set_cons_succ]
  refine early_take (i := 24) 72 (.bool false) rfl rfl (by kernel_rfl) (by kernel_rfl) (by kernel_rfl) (by kernel_rfl) rfl (fun _ _ _ h => h) (fun w' hw' => by go_simp) S3 ?_
  simp only [Act.put, List.setIfInBounds_toArray, List.set_cons_zero, List.set_cons_succ]
  refine early_take (i := 25) 73 (ptr R) rfl rfl (by kernel_rfl) (by kernel_rfl) (by kernel_rfl) (by kernel_rfl) rfl (fun _ _ _ h => h) (fun w' hw' => by go_simp) S3 ?_
  simp only [Act.put, List.setIfInBounds_toArray, List.set_cons_zero, List.set_cons_succ]
  refine early_take (i := 26) 74 (ptr R) rfl rfl (by kernel_rfl) (by kernel_rfl) (by kernel_rfl) (by kernel_rfl) rfl (fun _ _ _ h => h) (fun w' hw' => by go_simp) S3 ?_
  simp only [Act.put, List.setIfInBounds_toArray, List.set_cons_zero, List.set_cons_succ]
  refine early_take (i := 27) 75 (.pointer (some ⟨R, 9, none⟩)) rfl rfl (by kernel_rfl) (by kernel_rfl) (by kernel_rfl) (by kernel_rfl) rfl (fun _ _ _ h => h) (fun w' hw' => by go_simp) S3 ?_
  simp only [Act.put, List.setIfInBounds_toArray, List.set_cons_zero, List.set_cons_succ]
  refine early_take (i := 28) 76 (ptr P.a) rfl rfl (by kernel_rfl) (by kernel_rfl) (by kernel_rfl) (by kernel_rfl) rfl (fun _ _ _ h => h) (fun w' hw' => by obtain ⟨k1, k2⟩ := hw'; go_simp) S3 ?_
  simp only [Act.put, List.setIfInBounds_toArray, List.set_cons_zero, List.set_cons_succ]
  refine early_take (i := 29) 77 (ptr R) rfl rfl (by kernel_rfl) (by kernel_rfl) (by kernel_rfl) (by kernel_rfl) rfl (fun _ _ _ h => h) (fun w' hw' => by go_simp) S3 ?_
  simp only [Act.put, List.setIfInBounds_toArray, List.set_cons_zero, List.set_cons_succ]
  refine early_take (i := 30) 78 (ptr R) rfl rfl (by kernel_rfl) (by kernel_rfl) (by kernel_rfl) (by kernel_rfl) rfl (fun _ _ _ h => h) (fun w' hw' => by go_simp) S3 ?_
  simp only [Act.put, List.setIfInBounds_toArray, List.set_cons_zero, List.set_cons_succ]
  refine early_take (i := 31) 79 (ptr R) rfl rfl (by kernel_rfl) (by kernel_rfl) (by kernel_rfl) (by kernel_rfl) rfl (fun _ _ _ h => h) (fun w' hw' => by go_simp) S3 ?_
  simp only [Act.put, List.setIfInBounds_toArray, List.set_cons_zero, List.set_cons_succ]
  refine early_take (i := 32) 80 (sv (s8.M : Int) s8.b s8.g s8.s s8.n s8.l) rfl rfl (by kernel_rfl) (by kernel_rfl) (by kernel_rfl) (by kernel_rfl) rfl (fun _ _ _ h => h) (fun w' hw' => exec_shape (s := s8) (x := .tmp 79) rfl rfl hw'.2) S3 ?_
  simp only [Act.put, List.setIfInBounds_toArray, List.set_cons_zero, List.set_cons_succ]
  refine early_only (i := 33) (by kernel_rfl) rfl (fun K hK => ?_)
  simp only [opWp, List.getElem?_toArray, List.getElem?_cons_succ, List.getElem?_cons_zero]
  have NB := Lib.hid (show (s8.b.toNat : Int) = s11.b by rw [SM11.out.b]; have := L11.out.sys.rg.arr.wf.small.hb; rw [SM11.out.b] at this; omega)
  have b48 := Lib.hid (show 32 ≤ s8.b ∧ s8.b ≤ 48 by have := L11.out.sys.rg.arr.wf.small.hb; rw [SM11.out.b] at this; exact this)
  go_simp
  go_at_call 28
  refine (Block_any s8.M s8.b s8.g s8.s s8.n s8.l s8.b.toNat (by have := b48.out; omega) (by have := b48.out; omega) 1#8 _ rfl _).mono ?_
  rintro e w12 ⟨Bk, rfl, hown, hbl⟩
  have L12 := Lib.hid (L11.out.up hbl)
  have H12 := Lib.hid (own_slice hown)
  have NO := Lib.hid (show ∀ x, some (⟨Bk, 0, none⟩ : Addr) = some x → ¬ O11 x.block from fun x hx => (L11.out.sys.new _ (H12.out.2.2 x hx).1).1)
  have S4 : (fun w' : World => w'.cell? ⟨R, 9, none⟩ = some (ptr P.a) ∧ w'.rangeAt R 0 s8.sh) w12 := ⟨L12.out.sys.rg.rig.cell 9, by have h1 := L12.out.sys.range; have h2 := SM11.out; unfold Same at h2; rw [h2] at h1; exact h1⟩
  clear hown hbl L11
  refine hK _ _ (fun _ => S4) ?_
  refine early_only (i := 34) (by kernel_rfl) rfl (fun K hK => ?_)
  simp only [opWp, List.getElem?_toArray, List.getElem?_cons_succ, List.getElem?_cons_zero]
  go_simp
  go_at_call 29
  refine (Finish_any k Q11.out.lt Q11.out.stale Q11.out.sound.whole (some ⟨Bk, 0, none⟩) s8.b.toNat s8.b.toNat _ NB.out H12.out.1 NO.out L12.out.sys.rg.arr (by have := U11.out; omega)).mono ?_
  rintro e w13 ⟨er, s13, rfl, hD, hX⟩
  obtain ⟨rfl, q1, q2, q3, _⟩ := kd_fin Q11.out hX D11.out
  obtain ⟨O13, k1, k2, k3⟩ := L12.out.did q2 hD
  have L13 := Lib.hid k1
  have Q13 := Lib.hid q1
  have SM13 := Lib.hid (SM11.out.trans q2)
  have U13 := Lib.hid (show s13.u ≤ 3000 by have := U11.out; omega)
  have S5 : (fun w' : World => w'.cell? ⟨R, 9, none⟩ = some (ptr P.a) ∧ w'.rangeAt R 0 s8.sh) w13 := ⟨L13.out.sys.rg.rig.cell 9, by have h1 := L13.out.sys.range; have h2 := SM13.out; unfold Same at h2; rw [h2] at h1; exact h1⟩
  clear k1 k2 k3 hD hX q1 q2 q3 L12 Q11 D11 U11 SM11 NB b48 H12 NO
  refine hK _ _ (fun _ => S5) ?_
  clear S3 S4
  refine early_take (i := 35) 83 (.bool false) rfl rfl (by kernel_rfl) (by kernel_rfl) (by kernel_rfl) (by kernel_rfl) rfl (fun _ _ _ h => h) (fun w' hw' => by go_simp) S5 ?_
  simp only [Act.put, List.setIfInBounds_toArray, List.set_cons_zero, List.set_cons_succ]
  refine early_take (i := 36) 84 (.bool false) rfl rfl (by kernel_rfl) (by kernel_rfl) (by kernel_rfl) (by kernel_rfl) rfl (fun _ _ _ h => h) (fun w' hw' => by go_simp) S5 ?_
  simp only [Act.put, List.setIfInBounds_toArray, List.set_cons_zero, List.set_cons_succ]
  refine early_take (i := 37) 85 (.bool false) rfl rfl (by kernel_rfl) (by kernel_rfl) (by kernel_rfl) (by kernel_rfl) rfl (fun _ _ _ h => h) (fun w' hw' => by go_simp) S5 ?_
  simp only [Act.put, List.setIfInBounds_toArray, List.set_cons_zero, List.set_cons_succ]
  refine early_take (i := 38) 86 (ptr R) rfl rfl (by kernel_rfl) (by kernel_rfl) (by kernel_rfl) (by kernel_rfl) rfl (fun _ _ _ h => h) (fun w' hw' => by go_simp) S5 ?_
  simp only [Act.put, List.setIfInBounds_toArray, List.set_cons_zero, List.set_cons_succ]
  refine early_take (i := 39) 87 (ptr R) rfl rfl (by kernel_rfl) (by kernel_rfl) (by kernel_rfl) (by kernel_rfl) rfl (fun _ _ _ h => h) (fun w' hw' => by go_simp) S5 ?_
  simp only [Act.put, List.setIfInBounds_toArray, List.set_cons_zero, List.set_cons_succ]
  refine early_take (i := 40) 88 (.pointer (some ⟨R, 9, none⟩)) rfl rfl (by kernel_rfl) (by kernel_rfl) (by kernel_rfl) (by kernel_rfl) rfl (fun _ _ _ h => h) (fun w' hw' => by go_simp) S5 ?_
  simp only [Act.put, List.setIfInBounds_toArray, List.set_cons_zero, List.set_cons_succ]
  refine early_take (i := 41) 89 (ptr P.a) rfl rfl (by kernel_rfl) (by kernel_rfl) (by kernel_rfl) (by kernel_rfl) rfl (fun _ _ _ h => h) (fun w' hw' => by obtain ⟨k1, k2⟩ := hw'; go_simp) S5 ?_
  simp only [Act.put, List.setIfInBounds_toArray, List.set_cons_zero, List.set_cons_succ]
  refine early_take (i := 43) 91 (.int .i64 (k : Int)) rfl rfl (by kernel_rfl) (by kernel_rfl) (by kernel_rfl) (by kernel_rfl) rfl (fun _ _ _ h => h) (fun w' hw' => by go_simp) S5 ?_
  simp only [Act.put, List.setIfInBounds_toArray, List.set_cons_zero, List.set_cons_succ]
  refine early_only (i := 42) (by kernel_rfl) rfl (fun K hK => ?_)
  simp only [opWp, List.getElem?_toArray, List.getElem?_cons_succ, List.getElem?_cons_zero]
  go_simp
  go_at_call 18
  refine (stale_any L13.out.sys.rg.arr).mono ?_
  rintro e w14 ⟨rfl, hbl⟩
  have L14 := Lib.hid (L13.out.up hbl)
  have S6 : (fun w' : World => w'.cell? ⟨R, 9, none⟩ = some (ptr P.a) ∧ w'.rangeAt R 0 s8.sh) w14 := ⟨L14.out.sys.rg.rig.cell 9, by have h1 := L14.out.sys.range; have h2 := SM13.out; unfold Same at h2; rw [h2] at h1; exact h1⟩
  rw [Q13.out.stale]
  clear hbl L13
  refine hK _ _ (fun _ => S6) ?_
  clear S5
  refine early_take (i := 44) 92 (.bool false) rfl rfl (by kernel_rfl) (by kernel_rfl) (by kernel_rfl) (by kernel_rfl) rfl (fun _ _ _ h => h) (fun w' hw' => by go_simp) S6 ?_
  simp only [Act.put, List.setIfInBounds_toArray, List.set_cons_zero, List.set_cons_succ]
  refine early_take (i := 45) 93 (.bool false) rfl rfl (by kernel_rfl) (by kernel_rfl) (by kernel_rfl) (by kernel_rfl) rfl (fun _ _ _ h => h) (fun w' hw' => by go_simp) S6 ?_
  simp only [Act.put, List.setIfInBounds_toArray, List.set_cons_zero, List.set_cons_succ]
  refine early_done (by kernel_rfl) ?_
  clear S6 SM13
  go_wp2_with fail
  refine (holds_any false (KD k) read_dead L14.out Q13.out (by have := U13.out; omega)).mono ?_
  rintro e w15 ⟨rfl, s15, k1, k2, k3, k4, k5⟩
  have L15 := Lib.hid k1
  have Q15 := Lib.hid k3
  have U15 := Lib.hid (show s15.u ≤ 5000 by have := U13.out; omega)
  clear k1 k2 k3 k4 k5 L14 Q13 U13
  have r9 := L15.out.cells.2.2.2.2
  go_wp2_with fail
  refine (Replace_any k Q15.out.lt Q15.out.stale Q15.out.sound.whole L15.out.sys.rg.arr).mono ?_
  rintro e w16 ⟨rfl, k1, k2⟩
  have L16 := Lib.hid (L15.out.keep (Same.hurt s15 k (blank (s15.d k).sectors (s15.d k).size)) k1 k2)
  have Q16 := Lib.hid (show KD k (s15.hurt k (blank (s15.d k).sectors (s15.d k).size)) H5 from Q15.out.only (Same.hurt s15 k _) rfl rfl (fun j hj => by show (if j = k then _ else s15.d j) = _; rw [if_neg hj]))
  have V16 := Lib.hid (show Live ((s15.hurt k (blank (s15.d k).sectors (s15.d k).size)).d k) by show Live (if k = k then blank (s15.d k).sectors (s15.d k).size else s15.d k); rw [if_pos rfl]; exact ⟨rfl, by show (-1 : Int) < 0; decide⟩)
  have U16 := Lib.hid (show (s15.hurt k (blank (s15.d k).sectors (s15.d k).size)).u ≤ 5000 from U15.out)
  clear k1 k2 r9 L15 Q15 U15
  generalize s15.hurt k (blank (s15.d k).sectors (s15.d k).size) = s16 at *
  have r9 := L16.out.cells.2.2.2.2
  have HN := Lib.hid L16.out.sys.rg.arr.wf.n
  go_wp2_with fail
  refine (Mend_any 0 k (by have := HN.out; omega) Q16.out.lt Q16.out.stale Q16.out.sound.whole L16.out.sys.rg.arr L16.out.sys.rg.arr.wf.less.1 (by have := U16.out; omega)).mono ?_
  rintro e w17 ⟨er, s17, rfl, hD, hX⟩
  obtain ⟨q1, q2, q3, _, q4⟩ := kd_mend Q16.out hX
  obtain ⟨rfl, _⟩ := q4 V16.out
  obtain ⟨O17, k1, k2, k3⟩ := L16.out.did q2 hD
  have L17 := Lib.hid k1
  have Q17 := Lib.hid q1
  have U17 := Lib.hid (show s17.u ≤ 6000 by have := U16.out; omega)
  clear k1 k2 k3 hD hX q1 q2 q3 q4 L16 Q16 V16 U16 HN r9
  go_wp2_with fail
  refine (holds_any false (KD k) read_dead L17.out Q17.out (by have := U17.out; omega)).mono ?_
  rintro e w18 ⟨rfl, s18, k1, k2, k3, k4, k5⟩
  have B18 := Lib.hid (B2.out.trans (k1.sys.below.mono B2.out.size))
  clear k1 k2 k3 k4 k5
  go_wp2
  go_ret
  exact ⟨rfl, B18.out⟩
end Go.Proofs.Ytapbphkhbhcdkaa
