/-
  THE WALK OF ArrayAgain.
-/
import Derived.Test.YtapbphkhbhcdkaaBegin
namespace Go.Proofs.Ytapbphkhbhcdkaa
open Go.RowKit Go.Maps
set_option linter.unusedVariables false
set_option maxRecDepth 100000

set_option maxHeartbeats 3200000 in
theorem again_walk (x0 x1 x2 x3 x4 x5 : Int) (f : BitVec 8) (F : Int) (hF : F = (f.toNat : Int)) (A : Option Addr) (n c : Nat) (xs : List (BitVec 8 × BitVec 8)) {w : World} (hst : St w A n xs) (h0 : 0 ≤ x0 ∧ x0 ≤ 255) (h1 : 0 ≤ x1 ∧ x1 ≤ 255) (h2 : 0 ≤ x2 ∧ x2 ≤ 255) (h3 : 0 ≤ x3 ∧ x3 ≤ 255) (h4 : 0 ≤ x4 ∧ x4 ≤ 255) (h5 : 0 ≤ x5 ∧ x5 ≤ 255) :
    Calls Try.prog 9 #[.agg #[.int .u8 x0, .int .u8 x1, .int .u8 x2, .int .u8 x3, .int .u8 x4, .int .u8 x5], .slice A n c, .int .u8 F] w fun e w' => e = .returned (.bool true) ∧ Below w.heap.size w w' := by
  subst hF
  have ST := Lib.hid hst
  clear hst
  obtain ⟨M0, b, g, sg, n0, l0, hsm, hshape⟩ := shape_small x0 x1 x2 x3 x4 x5 h0 h1 h2 h3 h4 h5
  obtain ⟨M, rfl⟩ : ∃ M : Nat, M0 = (M : Int) := ⟨M0.toNat, by have := hsm.hm; omega⟩
  have SM := Lib.hid hsm
  have SH := Lib.hid hshape
  clear hsm hshape
  go_enter Try.func9, Try.ntmps9
  go_wp2_with fail
  have A0 := Lib.hid (show At (w.alloc (.cells #[.int .u8 x0, .int .u8 x1, .int .u8 x2, .int .u8 x3, .int .u8 x4, .int .u8 x5] 23)) w.heap.size #[.int .u8 x0, .int .u8 x1, .int .u8 x2, .int .u8 x3, .int .u8 x4, .int .u8 x5] 23 from At.new _ 23 rfl)
  have B0 := Lib.hid ((Below.refl w.heap.size w).alloc (Nat.le_refl _) (.cells #[.int .u8 x0, .int .u8 x1, .int .u8 x2, .int .u8 x3, .int .u8 x4, .int .u8 x5] 23))
  refine (awake_any _).mono ?_
  rintro e w1 ⟨rfl, hbl⟩
  have A1 := Lib.hid (A0.out.below hbl A0.out.lt)
  have B1 := Lib.hid (B0.out.trans (hbl.mono B0.out.size))
  clear hbl A0 B0
  have c0 : w1.cell? ⟨w.heap.size, 0, none⟩ = some (.int .u8 x0) := A1.out.cell 0
  have c1 : w1.cell? ⟨w.heap.size, 1, none⟩ = some (.int .u8 x1) := A1.out.cell 1
  have c2 : w1.cell? ⟨w.heap.size, 2, none⟩ = some (.int .u8 x2) := A1.out.cell 2
  have c3 : w1.cell? ⟨w.heap.size, 3, none⟩ = some (.int .u8 x3) := A1.out.cell 3
  have c4 : w1.cell? ⟨w.heap.size, 4, none⟩ = some (.int .u8 x4) := A1.out.cell 4
  have c5 : w1.cell? ⟨w.heap.size, 5, none⟩ = some (.int .u8 x5) := A1.out.cell 5
  by_cases hn0 : 12 < n
  · have hn0' : (12 : Int) < (n : Int) := by omega
    clear c0 c1 c2 c3 c4 c5
    go_wp2
    go_ret
    exact ⟨rfl, B1.out⟩
  go_wp2_with fail
  refine (SH.out w1).mono ?_
  rintro e w2 ⟨rfl, hbl⟩
  have B2 := Lib.hid (B1.out.trans (hbl.mono B1.out.size))
  clear hbl A1 c0 c1 c2 c3 c4 c5 SH
  go_wp2_with fail
  refine (New_any M b g sg n0 l0 SM.out w2).mono ?_
  rintro e w3 ⟨R, q, cap, P, O, S0, z, rfl, hsys, hS, hz⟩
  obtain ⟨s, hy, hcalm, hu, rfl, rfl, rfl, rfl, rfl, rfl, hd⟩ := init_facts hsys hz
  have HY := Lib.hid hy
  have CM := Lib.hid hcalm
  have HU := Lib.hid hu
  have HD := Lib.hid hd
  have B3 := Lib.hid (B2.out.trans (hy.below.mono B2.out.size))
  have hMs := hy.rg.arr.many
  obtain ⟨r0, r1, r2, r3, r4, r5⟩ := hy.shape
  clear hsys hS hz hy hcalm hu hd SM B1
  clear r0 r1 r2 r3 r4 r5
  have ST2 := Lib.hid (ST.out.below B2.out)
  have hmk : ∀ w : World, (Instr.makeMap 38 none).run Try.prog w = .ok (.map (some w.heap.size)) (w.alloc (.map #[] 0)) := fun w => by kernel_rfl
  go_wp2_with fail
  have L4 := Lib.hid HY.out.begin_
  obtain ⟨hb, hhb⟩ : ∃ hb, hb = w3.heap.size := ⟨_, rfl⟩
  clear hmk
  rw [← hhb] at L4 ⊢
  refine (put_any false Kept put_calm A n c xs (by omega) ST2.out rfl L4.out ⟨CM.out, inv_none s⟩ (by have := HU.out; omega)).mono ?_
  rintro e w5 ⟨rfl, O5, s5, H5, k1, k2, k3, k4, k5, k6⟩
  have L5 := Lib.hid k1
  have Q5 := Lib.hid k3
  have U5 := Lib.hid (show s5.u ≤ 300 by have := HU.out; omega)
  clear k1 k2 k3 k4 k5 k6 L4 HY ST2 hhb
  obtain ⟨r0, r1, r2, r3, r4, r5⟩ := L5.out.sys.shape
  go_wp2_with fail
  refine (all_call L5.out.sys.rg.arr.wf w5).mono ?_
  rintro e w6 ⟨rfl, hbl⟩
  have L6 := Lib.hid (L5.out.up hbl)
  have HN := Lib.hid L6.out.sys.rg.arr.wf.n
  clear hbl r0 r1 r2 r3 r4 r5 L5
  go_wp2_with fail
  obtain ⟨N, hN⟩ : ∃ N : Nat, s5.N = (N : Int) := ⟨s5.N.toNat, by have := HN.out; omega⟩
  have EN := Lib.hid hN
  have n18 : N ≤ 18 := by have := HN.out; omega
  rw [hN]
  clear hN
  go_loopw [39] (fun i wr => ∃ j : Nat, j ≤ N ∧ i = .int .i64 (j : Int) ∧ wr = w6) (fun i _ => N - (RowKit.intOf i).toNat)
  case atStart => exact ⟨0, Nat.zero_le _, rfl, rfl⟩
  case round =>
    obtain ⟨j, hj, rfl, rfl⟩ := hrel
    by_cases hlt : j < N
    · have i64 : In64 (j : Int) := by unfold In64; omega
      cases hf : H5 (j : Int) with
      | none =>
        have hl := L6.out.map.look_ok Try.underlying38 (zero5 wr) i64 (u := .int .u8 0) (by unfold Hv.vals; rw [hf]; rfl) (ok := false) (by unfold Hv.vals; rw [hf]; rfl)
        clear i64 hf
        go_wp2
        go_roundw
        case rel => exact ⟨j + 1, by omega, by go_num, trivial⟩
        case measure => simp [RowKit.intOf]; omega
      | some g =>
      have hl := L6.out.map.look_ok Try.underlying38 (zero5 wr) i64 (u := .int .u8 (g.toNat : Int)) (by unfold Hv.vals; rw [hf]; rfl) (ok := true) (by unfold Hv.vals; rw [hf]; rfl)
      have NB := Lib.hid (show (s5.b.toNat : Int) = s5.b by have := L6.out.sys.rg.arr.wf.small.hb; omega)
      have b48 := Lib.hid L6.out.sys.rg.arr.wf.small.hb
      have hM5 := L6.out.sys.rg.arr.many
      have TN := Lib.hid (show 0 ≤ (j : Int) ∧ (j : Int) < s5.N by rw [EN.out]; omega)
      clear i64 hf
      go_wp2_with fail
      have S0 : (fun w' : World => w'.cell? ⟨R, 9, none⟩ = some (ptr P.a) ∧ w'.rangeAt R 0 s5.sh) wr.drew := ⟨L6.out.cells.2.2.2.2, L6.out.sys.range⟩
      refine wp_region_early (fun w' : World => w'.cell? ⟨R, 9, none⟩ = some (ptr P.a) ∧ w'.rangeAt R 0 s5.sh) (fun _ => true) (by kernel_rfl) ?_
      change wpEarly _ _ _ _ _ _ 13 (Array.replicate 13 false) _ wr.drew
      refine early_take (i := 0) 49 (ptr R) rfl rfl (by kernel_rfl) (by kernel_rfl) (by kernel_rfl) (by kernel_rfl) rfl (fun _ _ _ h => h) (fun w' hw' => by go_simp) S0 ?_
      simp only [Act.put, List.setIfInBounds_toArray, List.set_cons_zero, List.set_cons_succ]
      refine early_take (i := 1) 50 (ptr R) rfl rfl (by kernel_rfl) (by kernel_rfl) (by kernel_rfl) (by kernel_rfl) rfl (fun _ _ _ h => h) (fun w' hw' => by go_simp) S0 ?_
      simp only [Act.put, List.setIfInBounds_toArray, List.set_cons_zero, List.set_cons_succ]
      refine early_take (i := 2) 51 (.pointer (some ⟨R, 9, none⟩)) rfl rfl (by kernel_rfl) (by kernel_rfl) (by kernel_rfl) (by kernel_rfl) rfl (fun _ _ _ h => h) (fun w' hw' => by go_simp) S0 ?_
      simp only [Act.put, List.setIfInBounds_toArray, List.set_cons_zero, List.set_cons_succ]
      refine early_take (i := 3) 52 (ptr P.a) rfl rfl (by kernel_rfl) (by kernel_rfl) (by kernel_rfl) (by kernel_rfl) rfl (fun _ _ _ h => h) (fun w' hw' => by obtain ⟨k1, k2⟩ := hw'; go_simp) S0 ?_
      simp only [Act.put, List.setIfInBounds_toArray, List.set_cons_zero, List.set_cons_succ]
      refine early_take (i := 4) 53 (.int .i64 (j : Int)) rfl rfl (by kernel_rfl) (by kernel_rfl) (by kernel_rfl) (by kernel_rfl) rfl (fun _ _ _ h => h) (fun w' hw' => by go_simp) S0 ?_
      simp only [Act.put, List.setIfInBounds_toArray, List.set_cons_zero, List.set_cons_succ]
      refine early_take (i := 5) 54 (ptr R) rfl rfl (by kernel_rfl) (by kernel_rfl) (by kernel_rfl) (by kernel_rfl) rfl (fun _ _ _ h => h) (fun w' hw' => by go_simp) S0 ?_
      simp only [Act.put, List.setIfInBounds_toArray, List.set_cons_zero, List.set_cons_succ]
      refine early_take (i := 6) 55 (ptr R) rfl rfl (by kernel_rfl) (by kernel_rfl) (by kernel_rfl) (by kernel_rfl) rfl (fun _ _ _ h => h) (fun w' hw' => by go_simp) S0 ?_
      simp only [Act.put, List.setIfInBounds_toArray, List.set_cons_zero, List.set_cons_succ]
      refine early_take (i := 7) 56 (ptr R) rfl rfl (by kernel_rfl) (by kernel_rfl) (by kernel_rfl) (by kernel_rfl) rfl (fun _ _ _ h => h) (fun w' hw' => by go_simp) S0 ?_
      simp only [Act.put, List.setIfInBounds_toArray, List.set_cons_zero, List.set_cons_succ]
      refine early_take (i := 8) 57 (sv (s5.M : Int) s5.b s5.g s5.s s5.n s5.l) rfl rfl (by kernel_rfl) (by kernel_rfl) (by kernel_rfl) (by kernel_rfl) rfl (fun _ _ _ h => h) (fun w' hw' => exec_shape (s := s5) (x := .tmp 56) rfl rfl hw'.2) S0 ?_
      simp only [Act.put, List.setIfInBounds_toArray, List.set_cons_zero, List.set_cons_succ]
      refine early_take (i := 9) 58 (.int .u8 (f.toNat : Int)) rfl rfl (by kernel_rfl) (by kernel_rfl) (by kernel_rfl) (by kernel_rfl) rfl (fun _ _ _ h => h) (fun w' hw' => by go_simp) S0 ?_
      simp only [Act.put, List.setIfInBounds_toArray, List.set_cons_zero, List.set_cons_succ]
      refine early_only (i := 10) (by kernel_rfl) rfl (fun K hK => ?_)
      simp only [opWp, List.getElem?_toArray, List.getElem?_cons_succ, List.getElem?_cons_zero]
      go_simp
      go_at_call 35
      refine (Chunks_any s5.M s5.b s5.g s5.s s5.n s5.l s5.b.toNat NB.out.symm (by have := b48.out; omega) (by omega) f _ rfl wr.drew).mono ?_
      rintro e w7 ⟨v, L, rfl, hcl, hll, hlm, hln, hbl⟩
      have L7 := Lib.hid (L6.out.drew.up hbl)
      have CL := Lib.hid hcl
      have LL := Lib.hid hll
      have LM := Lib.hid hlm
      have LN := Lib.hid hln
      have S1 : (fun w' : World => w'.cell? ⟨R, 9, none⟩ = some (ptr P.a) ∧ w'.rangeAt R 0 s5.sh) w7 := ⟨L7.out.cells.2.2.2.2, L7.out.sys.range⟩
      clear hcl hll hlm hln hbl
      refine hK _ _ (fun _ => S1) ?_
      refine early_only (i := 11) (by kernel_rfl) rfl (fun K hK => ?_)
      simp only [opWp, List.getElem?_toArray, List.getElem?_cons_succ, List.getElem?_cons_zero]
      obtain ⟨A7, c7, rfl, hln5⟩ := CL.out.ln (by have := LL.out; omega)
      have no1 : ∀ k, wr.heap.size ≤ k → ¬ O5 k := fun k hk => (L6.out.sys.new k hk).1
      go_simp
      go_at_call 37
      refine (Put_any (j : Int) TN.out A7 L.length c7 L (by have := LL.out; omega) hln5 (fun y hy => by rw [LN.out y hy]; exact NB.out) (CL.out.off2 no1) L7.out.sys.rg.arr (by have := U5.out; omega)).mono ?_
      rintro e w8 ⟨er, s8, rfl, hD, hP⟩
      rw [spread_same LL.out LM.out] at hP
      obtain ⟨hr8, ht8, rfl⟩ : Rel (fun j' d d' => ∃ u1 u2, d' = (d.put u1 (s5.at_ (j : Int)) (partF s5.M s5.b.toNat (j : Int) f j')).fl u2) 20 s5 s8 ∧ (∀ j' : Nat, j' < s5.M → (s8.d j').dead = true → s8.stale = (j' : Int)) ∧ er = 0 := by
        cases hP with
        | done hr ht => exact ⟨hr, ht, rfl⟩
        | gone hg => exact absurd (Q5.out.1 0) (hg.unsound 0)
      have Q8 := Lib.hid (put_calm.step s5 s8 H5 (j : Int) f Q5.out L7.out.sys.rg.arr.wf TN.out.1 TN.out.2 hr8 ht8)
      have sm8 := hr8.same
      have SM8 := Lib.hid sm8
      have U8 := Lib.hid (show s8.u ≤ 400 by have := hr8.u.2; have := U5.out; omega)
      obtain ⟨O8, k1, k2, k3⟩ := L7.out.did sm8 hD
      have L8 := Lib.hid k1
      have S2 : (fun w' : World => w'.cell? ⟨R, 9, none⟩ = some (ptr P.a) ∧ w'.rangeAt R 0 s5.sh) w8 := ⟨k1.cells.2.2.2.2, by have := k1.sys.range; have h2 := SM8.out; unfold Same at h2; rw [h2] at this; exact this⟩
      clear hD hP k1 k2 k3 hr8 ht8 sm8 no1 hln5
      refine hK _ _ (fun _ => S2) ?_
      refine early_take (i := 12) 61 (.bool false) rfl rfl (by kernel_rfl) (by kernel_rfl) (by kernel_rfl) (by kernel_rfl) rfl (fun _ _ _ h => h) (fun w' hw' => by go_simp) S2 ?_
      simp only [Act.put, List.setIfInBounds_toArray, List.set_cons_zero, List.set_cons_succ]
      refine early_done (by kernel_rfl) ?_
      clear S0 S1 S2
      have i64 : In64 (j : Int) := by unfold In64; omega
      obtain ⟨w9, hrun, hm9, hb9⟩ := L8.out.map.store Try.underlying38 L8.out.under (by unfold maxLen; omega) i64 (val f)
      rw [← vals_set] at hm9
      have L9 := Lib.hid (L8.out.turn hm9 hb9 (fun u hu => by
        unfold Hv.set at hu
        by_cases e : u = (j : Int)
        · rw [e, SM8.out.N]; exact TN.out
        · rw [if_neg e] at hu; exact L8.out.dom u hu))
      clear hm9 hb9 i64
      have hr1 : (Instr.mapUpdate 38 (.map (some hb)) (.int .i64 (j : Int)) (.int .u8 (f.toNat : Int))).run Try.prog w8 = _ := hrun
      clear hrun
      go_wp2_with fail
      clear hr1
      refine (holds_any false Kept read_calm L9.out Q8.out (by have := U8.out; omega)).mono ?_
      rintro e w9 ⟨rfl, s9, k1, k2, k3, k4, k5⟩
      have B9 := Lib.hid (B2.out.trans (k1.sys.below.mono B2.out.size))
      clear k1 k2 k3 k4 k5
      go_wp2
      go_ret
      exact ⟨rfl, B9.out⟩
    · obtain rfl : j = N := by omega
      go_wp2_with fail
      refine (holds_any false Kept read_calm L6.out Q5.out (by have := U5.out; omega)).mono ?_
      rintro e w9 ⟨rfl, s9, k1, k2, k3, k4, k5⟩
      have B9 := Lib.hid (B2.out.trans (k1.sys.below.mono B2.out.size))
      clear k1 k2 k3 k4 k5
      go_wp2
      go_ret
      exact ⟨rfl, B9.out⟩
end Go.Proofs.Ytapbphkhbhcdkaa
